/- A table of monitors: Enter, Leave, Owner, State. -/
import Derived.Test.YtdkbdmlodngneaaMNWho
namespace Go.Proofs.Ytdkbdmlodngneaa
open Go.RowKit

section
variable {B : Nat} {w w' : World} {s bs mo mb : Nat} {wv : Value} {M : Mt} {c : Nat}
/-- A table in memory, its places hidden. -/
def Mn (B : Nat) (w : World) (s : Nat) (M : Mt) (c : Nat) : Prop := ∃ bs mo mb wv, MnC B w s bs mo mb wv M c
/-- What a call leaves. -/
def MnP (B : Nat) (w : World) (s : Nat) (M : Mt) (c : Nat) (v : Value) (e : Ending) (w' : World) : Prop := e = .returned v ∧ Mn B w' s M c ∧ Below B w w'
theorem Mn.below (h : Mn B w s M c) (b : Below w.heap.size w w') : Mn B w' s M c := let ⟨_, _, _, _, h⟩ := h; ⟨_, _, _, _, h.below b⟩
theorem Mn.mono (h : Mn B w s M c) {c' : Nat} (h1 : c ≤ c') (h2 : c' ≤ 1000000) : Mn B w s M c' := let ⟨_, _, _, _, h⟩ := h; ⟨_, _, _, _, h.mono h1 h2⟩
theorem Mn.Bw (h : Mn B w s M c) : B ≤ w.heap.size := let ⟨_, _, _, _, h⟩ := h; h.Bw
set_option maxRecDepth 20000 in
set_option maxHeartbeats 1000000 in
theorem nenter_free (hm : Mn B w s M c) {t : Nat} (ht : t < M.N) (hs : M.st t ≠ 2) {obj : Int} (hk : okI obj) (ho : M.ow obj = none) (hc : c < 1000000) :
    Calls Try.prog 7 #[.pointer (some ⟨s, 0, none⟩), .int .i64 t, .int .i64 obj] w (MnP B w s (M.taken t obj 1) (c + 1) (.tuple #[.bool true, .int .i64 0])) := by
  obtain ⟨bs, mo, mb, wv, h⟩ := hm
  have hA := nacts_ok h ht hs
  obtain ⟨-, c1, -, -⟩ := h.cells
  have hl := h.ho.look (x := obj) hk
  change (Instr.lookup 40 (.map (some mo)) (.int .i64 obj) true).run Try.prog w = .ok (.tuple #[.agg #[.int .i64 ((M.ow obj).getD (0, 0)).1, .int .i64 ((M.ow obj).getD (0, 0)).2], .bool (M.ow obj).isSome]) w at hl
  rw [ho] at hl
  simp only [Option.getD_none, Option.isSome_none] at hl
  have b1 : Below w.heap.size w (w.alloc (.cells #[.int .i64 0, .int .i64 0] 49)) := (Below.refl _ w).alloc (Nat.le_refl _) _
  have hT := ntake_ok (h.below b1) ht (d := 1) hk hc
  have B1 : Hid (Below B w (w.alloc (.cells #[.int .i64 0, .int .i64 0] 49))) := b1.mono h.Bw
  clear h hs hk ht ho b1
  go_enter Try.func7, Try.ntmps7
  go_wp2_with (first
    | (go_at_call 15; refine hA.mono ?_; rintro e w9 ⟨rfl, hw9⟩; replace hw9 := hw9.symm; subst hw9)
    | (go_at_call 16; refine hT.mono ?_; rintro e w9 ⟨rfl, hM, hb⟩; have HM : Hid _ := (⟨hM, B1.out.trans hb⟩ : _ ∧ Below B w w9); clear hM hb hT))
  go_ret2
  exact ⟨rfl, ⟨_, _, _, _, HM.out.1⟩, HM.out.2⟩
set_option maxRecDepth 20000 in
set_option maxHeartbeats 1000000 in
theorem nenter_own (hm : Mn B w s M c) {t : Nat} (ht : t < M.N) (hs : M.st t ≠ 2) {obj d : Int} (hk : okI obj) (ho : M.ow obj = some ((t : Int), d)) (hd : 0 ≤ d ∧ d < 1000) (hc : c < 1000000) :
    Calls Try.prog 7 #[.pointer (some ⟨s, 0, none⟩), .int .i64 t, .int .i64 obj] w (MnP B w s (M.taken t obj (d + 1)) (c + 1) (.tuple #[.bool true, .int .i64 0])) := by
  obtain ⟨bs, mo, mb, wv, h⟩ := hm
  have hA := nacts_ok h ht hs
  obtain ⟨-, c1, -, -⟩ := h.cells
  have hl := h.ho.look (x := obj) hk
  change (Instr.lookup 40 (.map (some mo)) (.int .i64 obj) true).run Try.prog w = .ok (.tuple #[.agg #[.int .i64 ((M.ow obj).getD (0, 0)).1, .int .i64 ((M.ow obj).getD (0, 0)).2], .bool (M.ow obj).isSome]) w at hl
  rw [ho] at hl
  simp only [Option.getD_some, Option.isSome_some] at hl
  have b1 : Below w.heap.size w (w.alloc (.cells #[.int .i64 t, .int .i64 d] 49)) := (Below.refl _ w).alloc (Nat.le_refl _) _
  have hT := ntake_ok (h.below b1) ht (d := d + 1) hk hc
  have B1 : Hid (Below B w (w.alloc (.cells #[.int .i64 t, .int .i64 d] 49))) := b1.mono h.Bw
  have e1 : (d == 1000) = false := by simp; omega
  have hw : wrap64 (d + 1) = d + 1 := by unfold wrap64; omega
  clear h hs hk ht ho b1 hd
  go_enter Try.func7, Try.ntmps7
  go_wp2_with (first
    | (go_at_call 15; refine hA.mono ?_; rintro e w9 ⟨rfl, hw9⟩; replace hw9 := hw9.symm; subst hw9)
    | (go_at_call 16; refine hT.mono ?_; rintro e w9 ⟨rfl, hM, hb⟩; have HM : Hid _ := (⟨hM, B1.out.trans hb⟩ : _ ∧ Below B w w9); clear hM hb hT))
  go_ret2
  exact ⟨rfl, ⟨_, _, _, _, HM.out.1⟩, HM.out.2⟩
set_option maxRecDepth 20000 in
set_option maxHeartbeats 1000000 in
theorem nenter_else (hm : Mn B w s M c) {t : Nat} (ht : t < M.N) (hs : M.st t ≠ 2) {obj u d : Int} (hk : okI obj) (ho : M.ow obj = some (u, d)) (hu : u ≠ t) :
    Calls Try.prog 7 #[.pointer (some ⟨s, 0, none⟩), .int .i64 t, .int .i64 obj] w (MnP B w s { M with st := fun i => if i = t then 1 else M.st i } c (.tuple #[.bool false, .int .i64 0])) := by
  obtain ⟨bs, mo, mb, wv, h⟩ := hm
  have hA := nacts_ok h ht hs
  obtain ⟨c0, c1, -, -⟩ := h.cells
  have hl := h.ho.look (x := obj) hk
  change (Instr.lookup 40 (.map (some mo)) (.int .i64 obj) true).run Try.prog w = .ok (.tuple #[.agg #[.int .i64 ((M.ow obj).getD (0, 0)).1, .int .i64 ((M.ow obj).getD (0, 0)).2], .bool (M.ow obj).isSome]) w at hl
  rw [ho] at hl
  simp only [Option.getD_some, Option.isSome_some] at hl
  obtain ⟨U, hU⟩ : ∃ U, U = w.alloc (.cells #[.int .i64 u, .int .i64 d] 49) := ⟨_, rfl⟩
  have b1 : Below w.heap.size w U := by rw [hU]; exact (Below.refl _ w).alloc (Nat.le_refl _) _
  have h1 := h.below b1
  have hbU : U.heap[w.heap.size]? = some (.cells #[.int .i64 u, .int .i64 d] 49 (0, 0)) := by rw [hU]; exact Array.getElem?_push_size
  have x0 : U.cell? ⟨w.heap.size, 0, none⟩ = some (.int .i64 u) := by simp [World.cell?, hbU]
  obtain ⟨k0, -, -, -⟩ := h1.cells
  have kc := h1.hst.cell ht
  have kf : U.frozen? ⟨bs, t, none⟩ = false := h1.hst.frozen _
  have HM : Hid (Mn B (U.setCell ⟨bs, t, none⟩ (.int .i64 1)) s { M with st := fun i => if i = t then 1 else M.st i } c ∧ Below B w (U.setCell ⟨bs, t, none⟩ (.int .i64 1))) := ⟨⟨_, _, _, _, h1.set t 1⟩, below_set (b1.mono h.Bw) h.hB.2.1⟩
  have e1 : (u != (t : Int)) = true := by simp [hu]
  have ht1 : (t : Int) < (M.N : Int) := by omega
  have ht0 : (0 : Int) ≤ (t : Int) := by omega
  have hN := h.hN
  clear h h1 hs hk ho b1 hbU hu
  go_enter Try.func7, Try.ntmps7
  go_upto_region 5 with (go_at_call 15; refine hA.mono ?_; rintro e w9 ⟨rfl, hw9⟩; replace hw9 := hw9.symm; subst hw9)
  rw [← hU]
  clear hU
  go_wp2
  go_ret2
  exact ⟨rfl, HM.out⟩
set_option maxRecDepth 20000 in
theorem nowner_ok (hm : Mn B w s M c) {obj : Int} (hk : okI obj) :
    Calls Try.prog 12 #[.pointer (some ⟨s, 0, none⟩), .int .i64 obj] w (MnP B w s M c (.tuple #[.int .i64 ((M.ow obj).getD (-1, 0)).1, .int .i64 ((M.ow obj).getD (-1, 0)).2])) := by
  obtain ⟨bs, mo, mb, wv, h⟩ := hm
  obtain ⟨-, c1, -, -⟩ := h.cells
  have hl := h.ho.look (x := obj) hk
  change (Instr.lookup 40 (.map (some mo)) (.int .i64 obj) true).run Try.prog w = .ok (.tuple #[.agg #[.int .i64 ((M.ow obj).getD (0, 0)).1, .int .i64 ((M.ow obj).getD (0, 0)).2], .bool (M.ow obj).isSome]) w at hl
  rcases ho : M.ow obj with _ | ⟨u, d⟩
  · rw [ho] at hl
    simp only [Option.getD_none, Option.isSome_none] at hl ⊢
    have b1 : Below w.heap.size w (w.alloc (.cells #[.int .i64 0, .int .i64 0] 49)) := (Below.refl _ w).alloc (Nat.le_refl _) _
    have HM : Hid (Mn B (w.alloc (.cells #[.int .i64 0, .int .i64 0] 49)) s M c ∧ Below B w (w.alloc (.cells #[.int .i64 0, .int .i64 0] 49))) := ⟨⟨_, _, _, _, h.below b1⟩, b1.mono h.Bw⟩
    clear h b1
    go_enter Try.func12, Try.ntmps12
    go_wp2
    go_ret2
    exact ⟨rfl, HM.out⟩
  · rw [ho] at hl
    simp only [Option.getD_some, Option.isSome_some] at hl ⊢
    obtain ⟨U, hU⟩ : ∃ U, U = w.alloc (.cells #[.int .i64 u, .int .i64 d] 49) := ⟨_, rfl⟩
    have b1 : Below w.heap.size w U := by rw [hU]; exact (Below.refl _ w).alloc (Nat.le_refl _) _
    have hbU : U.heap[w.heap.size]? = some (.cells #[.int .i64 u, .int .i64 d] 49 (0, 0)) := by rw [hU]; exact Array.getElem?_push_size
    have x0 : U.cell? ⟨w.heap.size, 0, none⟩ = some (.int .i64 u) := by simp [World.cell?, hbU]
    have x1 : U.cell? ⟨w.heap.size, 1, none⟩ = some (.int .i64 d) := by simp [World.cell?, hbU]
    have HM : Hid (∀ n, Mn B (U.drewN n) s M c ∧ Below B w (U.drewN n)) := fun n => ⟨⟨_, _, _, _, (h.below b1).of_blocks rfl rfl rfl rfl (fun _ _ => rfl)⟩, (b1.mono h.Bw).trans (below_drewN U n B)⟩
    clear h b1 hbU
    go_enter Try.func12, Try.ntmps12
    go_upto_region 4 with fail
    rw [← hU]
    clear hU
    go_wp2
    go_quiet (fail)
    go_wp2
    go_ret2
    exact ⟨rfl, HM.out _⟩
set_option maxRecDepth 20000 in
theorem nstate_ok (hm : Mn B w s M c) {t : Nat} (ht : t < M.N) :
    Calls Try.prog 13 #[.pointer (some ⟨s, 0, none⟩), .int .i64 t] w fun e w' => e = .returned (.int .i64 (M.st t)) ∧ w' = w := by
  obtain ⟨bs, mo, mb, wv, h⟩ := hm
  have hH := nhas_ok h ht
  obtain ⟨c0, -, -, -⟩ := h.cells
  have cst := h.hst.cell ht
  have h1 : (t : Int) < (M.N : Int) := by omega
  have h0 : (0 : Int) ≤ (t : Int) := by omega
  clear h
  generalize M.st t = x at *
  generalize M.N = N at *
  go_enter Try.func13, Try.ntmps13
  go_wp2_with (go_at_call 21; refine hH.mono ?_; rintro e w9 ⟨rfl, hw9⟩; replace hw9 := hw9.symm; subst hw9)
  go_ret
  exact ⟨rfl, rfl⟩
end
end Go.Proofs.Ytdkbdmlodngneaa
