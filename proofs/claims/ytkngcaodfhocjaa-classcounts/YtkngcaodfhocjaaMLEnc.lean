/- encode: a program's bytes, or the fault that is thrown. -/
import Derived.Test.YtkngcaodfhocjaaMLBld
import Derived.Test.YtkngcaodfhocjaaMGL0
namespace Go.Proofs.Ytkngcaodfhocjaa
open Go.RowKit

theorem app_nil (p : Pt) : (#[ptV p] ++ #[] : Array Value) = #[ptV p] := by simp
theorem visC (N0 : Nat) : Vis (fun _ => True) N0 29 #[] stC (idle N0) none_ where
  keep := fun h hb => ⟨Nat.le_trans h hb.size, fun _ o => o.elim⟩
  fresh := fun _ _ o => o
  lt := fun _ o => o.elim
  low := fun h => h
  enters := enters_C
  call := fun _ w p h _ => by rw [app_nil]; exact chkC_any N0 p w h
theorem visT (N0 : Nat) : Vis (fun _ => True) N0 31 #[] stT (idle N0) none_ where
  keep := fun h hb => ⟨Nat.le_trans h hb.size, fun _ o => o.elim⟩
  fresh := fun _ _ o => o
  lt := fun _ o => o.elim
  low := fun h => h
  enters := enters_T
  call := fun _ w p h _ => by rw [app_nil]; exact chkT_any N0 p w h

set_option maxHeartbeats 1000000 in
set_option maxRecDepth 20000 in
theorem chkN_no (N0 : Nat) (p : Pt) (w : World) (h1 : (p.kd == 3) = true) (hm : p.nu < 0 ∨ p.mo < p.nu) : Calls Try.prog 32 #[ptV p] w (FdP none_ (idle N0) w (.error 1402)) := by
  have hb : Below w.heap.size w (w.alloc (.cells #[.int .i64 p.kd, .int .i64 p.nu, .int .i64 p.mo, .string p.nm] 84)) := (Below.refl _ _).alloc (Nat.le_refl _) _
  unfold ptV
  rcases hm with h2 | h2
  · go_enter Try.func32, Try.ntmps32
    go_wp2_with (go_at_call 25; refine (throw_any _ _ _).mono ?_; rintro e w8 ⟨rfl, hw⟩; replace hw := hw.symm; subst hw)
    exact ⟨rfl, FdP.err rfl (idle_fb hb)⟩
  · by_cases h3 : p.nu < 0
    · go_enter Try.func32, Try.ntmps32
      go_wp2_with (go_at_call 25; refine (throw_any _ _ _).mono ?_; rintro e w8 ⟨rfl, hw⟩; replace hw := hw.symm; subst hw)
      exact ⟨rfl, FdP.err rfl (idle_fb hb)⟩
    · go_enter Try.func32, Try.ntmps32
      go_wp2_with (go_at_call 25; refine (throw_any _ _ _).mono ?_; rintro e w8 ⟨rfl, hw⟩; replace hw := hw.symm; subst hw)
      exact ⟨rfl, FdP.err rfl (idle_fb hb)⟩
theorem chkN_any (N0 : Nat) (p : Pt) (w : World) (h : N0 ≤ w.heap.size) : Calls Try.prog 32 #[ptV p] w (FdP none_ (idle N0) w (stN () p)) := by
  by_cases h1 : p.kd = 3
  · have h1b : (p.kd == 3) = true := by simp [h1]
    by_cases h2 : p.nu < 0 ∨ p.mo < p.nu
    · have : stN () p = .error 1402 := by
        unfold stN okN
        rcases h2 with h2 | h2 <;> simp [h1, h2]
      rw [this]; exact chkN_no N0 p w h1b h2
    · have h3 : ¬ p.nu < 0 := fun q => h2 (.inl q)
      have h4 : ¬ p.mo < p.nu := fun q => h2 (.inr q)
      have : stN () p = if inR p.nu = true then .ok () else .error 1402 := by
        unfold stN okN; simp [h3, h4]
      rw [this]; exact chkN_put N0 p w h (.inr ⟨h1b, h3, h4⟩) _ rfl
  · have h1b : (p.kd == 3) = false := by simp [h1]
    have : stN () p = if inR p.nu = true then .ok () else .error 1402 := by
      unfold stN okN; simp [h1b]
    rw [this]; exact chkN_put N0 p w h (.inl h1b) _ rfl
theorem visN (N0 : Nat) : Vis (fun _ => True) N0 32 #[] stN (idle N0) none_ where
  keep := fun h hb => ⟨Nat.le_trans h hb.size, fun _ o => o.elim⟩
  fresh := fun _ _ o => o
  lt := fun _ o => o.elim
  low := fun h => h
  enters := enters_N
  call := fun _ w p h _ => by rw [app_nil]; exact chkN_any N0 p w h

theorem feed_chk (ok : Pt → Bool) (c : Int) (st : Unit → Pt → Except Int Unit) (hst : ∀ x p, st x p = if ok p = true then .ok () else .error c) : ∀ (l : List Pt), feed st l () = if l.all ok = true then .ok () else .error c
  | [] => rfl
  | p :: l => by
    show fbnd (st () p) (feed st l) = _
    rw [hst, List.all_cons]
    cases h : ok p
    · rfl
    · show feed st l () = _
      rw [feed_chk ok c st hst l]; simp

/-- The bytes so far, and one part more. -/
def stB (l : List UInt8) (p : Pt) : Except Int (List UInt8) := if 32768 < (l ++ bts p).length then .error 1406 else .ok (l ++ bts p)
theorem feed_B : ∀ (ps : List Pt) (l : List UInt8), l.length ≤ 32768 → feed stB ps l = if 32768 < (l ++ byts ps).length then .error 1406 else .ok (l ++ byts ps)
  | [], l, h => by
    rw [byts_nil, List.append_nil, if_neg (by omega)]; rfl
  | p :: ps, l, h => by
    show fbnd (stB l p) (feed stB ps) = _
    rw [byts_cons, ← List.append_assoc]
    unfold stB
    by_cases c : 32768 < (l ++ bts p).length
    · rw [if_pos c, if_pos (by simp at c ⊢; omega)]; rfl
    · rw [if_neg c]
      exact feed_B ps (l ++ bts p) (by omega)
def IB (B hb : Nat) (l : List UInt8) (w : World) : Prop := Lib.IsBuilder 78 5 B hb (Lib.byteCells l) w ∧ B ≤ w.heap.size ∧ l.length ≤ 32768
theorem isB_below {B hb : Nat} {bs : List Value} {w w' : World} (h : Lib.IsBuilder 78 5 B hb bs w) (hb' : Below w.heap.size w w') : Lib.IsBuilder 78 5 B hb bs w' := by
  have key : ∀ p, Lib.BuilderAt 78 5 B hb p bs w → Lib.BuilderAt 78 5 B hb p bs w' := fun p ⟨h1, v, h2, h3, h4⟩ =>
    ⟨h1, v, by rw [hb'.block _ (Array.getElem?_eq_some_iff.1 h2).1]; exact h2, World.ownsRow.kept h3 (row := none) ⟨hb'.os, hb'.tape, hb'.output, hb'.size, fun i hi _ => hb'.block i hi⟩ (by cases h : v.ownBlock <;> simp), h4⟩
  exact h.imp (key _) (key _)
theorem own_keep {B hb : Nat} {w w' : World} (hb' : Below w.heap.size w w') (k : Nat) (o : ownB B hb w' k) : ownB B hb w k ∨ w.heap.size ≤ k := by
  by_cases hk : k < w.heap.size
  · left
    obtain ⟨h1, _, h3⟩ := o
    exact ⟨h1, hk, h3.imp_right fun ⟨c, fz, e⟩ => ⟨c, fz, by rw [← hb'.block k hk]; exact e⟩⟩
  · right; omega
theorem fb_below {B hb : Nat} {w w' : World} (h : Below w.heap.size w w') : Fb (ownB B hb) w w' := ⟨h.os, h.tape, h.output, h.size, fun k hk _ => h.block k hk, own_keep h⟩
theorem isB_lt {B hb : Nat} {bs : List Value} {w : World} (h : Lib.IsBuilder 78 5 B hb bs w) : B ≤ hb ∧ hb < w.heap.size := by
  rcases h with ⟨h1, v, h2, _⟩ | ⟨h1, v, h2, _⟩ <;> exact ⟨h1, (Array.getElem?_eq_some_iff.1 h2).1⟩

theorem bts_eq1 {p : Pt} (h : p.kd = 1) : (⟨(bts p).toArray⟩ : ByteArray) = txtB p.nm := by
  unfold bts; rw [if_pos h]
theorem bts_eq0 {p : Pt} (h : p.kd ≠ 1) : (⟨(bts p).toArray⟩ : ByteArray) = putB p.nu := by
  unfold bts; rw [if_neg h]
set_option maxHeartbeats 1000000 in
set_option maxRecDepth 20000 in
theorem bytesOf_any (p : Pt) (w : World) (hs : p.nm.size ≤ maxLen) : Calls Try.prog 35 #[ptV p] w fun e w' => e = .returned (.string ⟨(bts p).toArray⟩) ∧ Below w.heap.size w w' := by
  have hb : Below w.heap.size w (w.alloc (.cells #[.int .i64 p.kd, .int .i64 p.nu, .int .i64 p.mo, .string p.nm] 84)) := (Below.refl _ _).alloc (Nat.le_refl _) _
  have hz : (w.alloc (.cells #[.int .i64 p.kd, .int .i64 p.nu, .int .i64 p.mo, .string p.nm] 84)).heap.size = w.heap.size + 1 := by simp
  unfold ptV
  by_cases h1 : p.kd = 1
  · have h1b : (p.kd == 1) = true := by simp [h1]
    have hP := puttext_any (w0 := w) p.nm (w.alloc (.cells #[.int .i64 p.kd, .int .i64 p.nu, .int .i64 p.mo, .string p.nm] 84)) hs hb
    rw [bts_eq1 h1]
    clear h1 hb
    go_enter Try.func35, Try.ntmps35
    go_wp2_with (go_at_call 48; refine hP.mono ?_; rintro e w1 ⟨rfl, hb1⟩)
    go_ret
    exact ⟨rfl, hb1⟩
  · have h1b : (p.kd == 1) = false := by simp [h1]
    have hP := putnum_any p.nu (w.alloc (.cells #[.int .i64 p.kd, .int .i64 p.nu, .int .i64 p.mo, .string p.nm] 84))
    rw [bts_eq0 h1]
    have HB : Hid (∀ w1, Below (w.alloc (.cells #[.int .i64 p.kd, .int .i64 p.nu, .int .i64 p.mo, .string p.nm] 84)).heap.size (w.alloc (.cells #[.int .i64 p.kd, .int .i64 p.nu, .int .i64 p.mo, .string p.nm] 84)) w1 → Below w.heap.size w w1) := fun w1 h => hb.trans (h.mono (by omega))
    clear h1 hb hz
    go_enter Try.func35, Try.ntmps35
    go_wp2_with (go_at_call 46; refine hP.mono ?_; rintro e w1 ⟨rfl, hb1⟩)
    go_ret
    exact ⟨rfl, HB.out _ hb1⟩
end Go.Proofs.Ytkngcaodfhocjaa
