/- The three tests of a part, as visits. -/
import Derived.Test.YtajghalljkphiaaGreatMLVPg
import Derived.Test.YtajghalljkphiaaGreatMLName
namespace Go.Proofs.YtajghalljkphiaaGreat
open Go.RowKit

def stC (_ : Unit) (p : Pt) : Except Int Unit := if okC p = true then .ok () else .error 1404
def stT (_ : Unit) (p : Pt) : Except Int Unit := if okT p = true then .ok () else .error 1403
def stN (_ : Unit) (p : Pt) : Except Int Unit := if okN p = true then .ok () else .error 1402
def idle (N0 : Nat) (_ : Unit) (w : World) : Prop := N0 ≤ w.heap.size
def none_ (_ : World) (_ : Nat) : Prop := False
theorem idle_fb {w w' : World} (h : Below w.heap.size w w') : Fb none_ w w' := ⟨h.os, h.tape, h.output, h.size, fun k hk _ => h.block k hk, fun _ o => o.elim⟩

theorem enters_C (args : Array Value) (w : World) : (callFunc 45 args).run Tryz.prog w = .ok (.enter 45 args) w := by
  kernel_rfl
set_option maxHeartbeats 1000000 in
set_option maxRecDepth 20000 in
theorem chkC_any (N0 : Nat) (p : Pt) (w : World) (h : N0 ≤ w.heap.size) : Calls Tryz.prog 45 #[ptV p] w (FdP none_ (idle N0) w (stC () p)) := by
  have hb : Below w.heap.size w (w.alloc (.cells #[.int .i64 p.kd, .int .i64 p.nu, .int .i64 p.mo, .string p.nm] 109)) := (Below.refl _ _).alloc (Nat.le_refl _) _
  have hI : N0 ≤ (w.alloc (.cells #[.int .i64 p.kd, .int .i64 p.nu, .int .i64 p.mo, .string p.nm] 109)).heap.size := by simp; omega
  unfold ptV
  by_cases h1 : p.kd = 2
  · have h1b : (p.kd == 2) = true := by simp [h1]
    by_cases h2 : p.mo < p.nu
    · have HE : Hid (stC () p = .error 1404) := by show _ = _; unfold stC okC; simp [h1, h2]
      clear h1
      go_enter Tryz.func45, Tryz.ntmps45
      go_wp2_with (go_at_call 36; refine (throw_any _ _ _).mono ?_; rintro e w8 ⟨rfl, hw⟩; replace hw := hw.symm; subst hw)
      exact ⟨rfl, FdP.err HE.out (idle_fb hb)⟩
    · have HE : Hid (stC () p = .ok ()) := by show _ = _; unfold stC okC; simp [h2]
      clear h1
      go_enter Tryz.func45, Tryz.ntmps45
      go_wp2
      go_end0
      exact FdP.ok HE.out (idle_fb hb) hI
  · have h1b : (p.kd == 2) = false := by simp [h1]
    have HE : Hid (stC () p = .ok ()) := by show _ = _; unfold stC okC; simp [h1b]
    go_enter Tryz.func45, Tryz.ntmps45
    go_wp2
    go_end0
    exact FdP.ok HE.out (idle_fb hb) hI

theorem enters_T (args : Array Value) (w : World) : (callFunc 47 args).run Tryz.prog w = .ok (.enter 47 args) w := by
  kernel_rfl
set_option maxHeartbeats 1000000 in
set_option maxRecDepth 20000 in
theorem chkT_any (N0 : Nat) (p : Pt) (w : World) (h : N0 ≤ w.heap.size) : Calls Tryz.prog 47 #[ptV p] w (FdP none_ (idle N0) w (stT () p)) := by
  have hb : Below w.heap.size w (w.alloc (.cells #[.int .i64 p.kd, .int .i64 p.nu, .int .i64 p.mo, .string p.nm] 109)) := (Below.refl _ _).alloc (Nat.le_refl _) _
  have hI : N0 ≤ (w.alloc (.cells #[.int .i64 p.kd, .int .i64 p.nu, .int .i64 p.mo, .string p.nm] 109)).heap.size := by simp; omega
  unfold ptV
  by_cases h1 : p.kd = 1
  · have h1b : (p.kd == 1) = true := by simp [h1]
    by_cases h2 : isNm p.nm = true
    · have HE : Hid (stT () p = .ok ()) := by show _ = _; unfold stT okT; simp [h2]
      clear h1
      go_enter Tryz.func47, Tryz.ntmps47
      go_wp2_with (go_at_call 71; refine (isName_any _ _).mono ?_; rintro e w1 ⟨rfl, hw⟩; replace hw := hw.symm; subst hw)
      go_end0
      exact FdP.ok HE.out (idle_fb hb) hI
    · have h2' : isNm p.nm = false := by simpa using h2
      have HE : Hid (stT () p = .error 1403) := by show _ = _; unfold stT okT; simp [h1, h2']
      clear h1 h2
      go_enter Tryz.func47, Tryz.ntmps47
      go_wp2_with (first | (go_at_call 36; refine (throw_any _ _ _).mono ?_; rintro e w8 ⟨rfl, hw⟩; replace hw := hw.symm; subst hw) | (go_at_call 71; refine (isName_any _ _).mono ?_; rintro e w1 ⟨rfl, hw⟩; replace hw := hw.symm; subst hw))
      exact ⟨rfl, FdP.err HE.out (idle_fb hb)⟩
  · have h1b : (p.kd == 1) = false := by simp [h1]
    have HE : Hid (stT () p = .ok ()) := by show _ = _; unfold stT okT; simp [h1b]
    go_enter Tryz.func47, Tryz.ntmps47
    go_wp2
    go_end0
    exact FdP.ok HE.out (idle_fb hb) hI

theorem enters_N (args : Array Value) (w : World) : (callFunc 48 args).run Tryz.prog w = .ok (.enter 48 args) w := by
  kernel_rfl
theorem putB_empty (x : Int) : (putB x).toList.isEmpty = !inR x := by
  rw [ByteArray.toList_eq]
  cases h : inR x
  · rw [putB_no h]; rfl
  · rw [putB_yes h]
    show (parts (zig x)).toArray.toList.isEmpty = false
    have := parts_pos (zig x)
    cases hp : parts (zig x) with
    | nil => rw [hp] at this; simp at this
    | cons a l => rfl
set_option maxHeartbeats 1000000 in
set_option maxRecDepth 20000 in
theorem chkN_put (N0 : Nat) (p : Pt) (w : World) (h : N0 ≤ w.heap.size) (hm : (p.kd == 3) = false ∨ ((p.kd == 3) = true ∧ ¬ p.nu < 0 ∧ ¬ p.mo < p.nu)) (b : Bool) (hq : inR p.nu = b) : Calls Tryz.prog 48 #[ptV p] w (FdP none_ (idle N0) w (if b = true then .ok () else .error 1402)) := by
  have hb : Below w.heap.size w (w.alloc (.cells #[.int .i64 p.kd, .int .i64 p.nu, .int .i64 p.mo, .string p.nm] 109)) := (Below.refl _ _).alloc (Nat.le_refl _) _
  have hz : (w.alloc (.cells #[.int .i64 p.kd, .int .i64 p.nu, .int .i64 p.mo, .string p.nm] 109)).heap.size = w.heap.size + 1 := by simp
  have HB : Hid (∀ w1, Below (w.alloc (.cells #[.int .i64 p.kd, .int .i64 p.nu, .int .i64 p.mo, .string p.nm] 109)).heap.size (w.alloc (.cells #[.int .i64 p.kd, .int .i64 p.nu, .int .i64 p.mo, .string p.nm] 109)) w1 → Fb none_ w w1 ∧ N0 ≤ w1.heap.size) := fun w1 h1 => ⟨idle_fb (hb.trans (h1.mono (by omega))), by have := h1.size; omega⟩
  have hP := putnum_any p.nu (w.alloc (.cells #[.int .i64 p.kd, .int .i64 p.nu, .int .i64 p.mo, .string p.nm] 109))
  have he := putB_empty p.nu
  rw [hq] at he
  clear hb hz hq
  unfold ptV
  rcases hm with h1 | ⟨h1, h2, h3⟩ <;> cases b
  · go_enter Tryz.func48, Tryz.ntmps48
    go_wp2_with (first | (go_at_call 36; refine (throw_any _ _ _).mono ?_; rintro e w8 ⟨rfl, hw⟩; replace hw := hw.symm; subst hw) | (go_at_call 72; refine hP.mono ?_; rintro e w1 ⟨rfl, hb1⟩; have HQ : Hid (Fb none_ w w1 ∧ N0 ≤ w1.heap.size) := HB.out w1 hb1; clear hP hb1))
    exact ⟨rfl, FdP.err rfl HQ.out.1⟩
  · go_enter Tryz.func48, Tryz.ntmps48
    go_wp2_with (go_at_call 72; refine hP.mono ?_; rintro e w1 ⟨rfl, hb1⟩; have HQ : Hid (Fb none_ w w1 ∧ N0 ≤ w1.heap.size) := HB.out w1 hb1; clear hP hb1)
    go_end0
    exact FdP.ok rfl HQ.out.1 HQ.out.2
  · have h2' : ¬ p.nu < 0 := h2
    have d3 : decide (p.mo < p.nu) = false := by simp; omega
    go_enter Tryz.func48, Tryz.ntmps48
    go_wp2_with (first | (go_at_call 36; refine (throw_any _ _ _).mono ?_; rintro e w8 ⟨rfl, hw⟩; replace hw := hw.symm; subst hw) | (go_at_call 72; refine hP.mono ?_; rintro e w1 ⟨rfl, hb1⟩; have HQ : Hid (Fb none_ w w1 ∧ N0 ≤ w1.heap.size) := HB.out w1 hb1; clear hP hb1))
    exact ⟨rfl, FdP.err rfl HQ.out.1⟩
  · have h2' : ¬ p.nu < 0 := h2
    have d3 : decide (p.mo < p.nu) = false := by simp; omega
    go_enter Tryz.func48, Tryz.ntmps48
    go_wp2_with (go_at_call 72; refine hP.mono ?_; rintro e w1 ⟨rfl, hb1⟩; have HQ : Hid (Fb none_ w w1 ∧ N0 ≤ w1.heap.size) := HB.out w1 hb1; clear hP hb1)
    go_end0
    exact FdP.ok rfl HQ.out.1 HQ.out.2
end Go.Proofs.YtajghalljkphiaaGreat
