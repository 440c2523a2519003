/- A store of objects: find, Load, Put, and what they refuse. -/
import Derived.Test.YtojblddfggoecaaGreatOSto
namespace Go.Proofs.YtojblddfggoecaaGreat
open Go.RowKit
theorem trio_eq {a b c d e f : Int} (h1 : a = d) (h2 : b = e) (h3 : c = f) : Ending.returned (.tuple #[.int .i64 a, .int .i64 b, .int .i64 c]) = .returned (.tuple #[.int .i64 d, .int .i64 e, .int .i64 f]) := by subst h1 h2 h3; rfl
section
variable {w : World} {P : Nat → Prop} {so mb p b W base N G : Nat} {cs : Nat → Int} {T : Int} {xs : List Int} {ws : Nat → Int} {nn : Nat} {D : DataW Unit} {O : List Ob}
/-- The agent, or the object, is none. -/
def Bad (G : Nat) (O : List Ob) (A ref : Int) : Prop := ¬ ((0 ≤ A ∧ A < G) ∧ ∃ o ∈ O, o.ref = ref)
theorem Sto.bad (h : Sto w P so mb p b W base N G cs T xs ws nn D O) {A ref : Int} (hb : Bad G O A ref) : ¬ ((0 ≤ A ∧ A < G) ∧ ∃ n, D.atKey (.int .i64 ref) (.lit (.int .i64 0)) = .lit (.int .i64 n) ∧ Maps.has D (.int .i64 ref) = true) := by
  rintro ⟨hA, n, _, hh⟩
  exact hb ⟨hA, (h.mp.has _).1 hh⟩
theorem find_no (h : Sto w P so mb p b W base N G cs T xs ws nn D O) (A ref i : Int) (hw : (Lit.int .i64 ref).wf = true) (hb : Bad G O A ref) :
    Calls Tryz.prog 36 #[.pointer (some ⟨so, 0, none⟩), .int .i64 A, .int .i64 ref, .int .i64 i] w fun e w' => e = .returned (.tuple #[.int .i64 0, .int .i64 0, .int .i64 803]) ∧ w' = w := by
  have ha := access_no h.raw A ref hw (h.bad hb)
  clear h hb
  go_enter Tryz.func36, Tryz.ntmps36
  go_wp2_with (go_at_call 26; refine ha.mono ?_; rintro e w9 ⟨rfl, hw9⟩; replace hw9 := hw9.symm; subst hw9)
  refine bodyPost_ret (results_tmp3 rfl _ _ _) rfl ⟨rfl, rfl⟩
theorem Sto.access (h : Sto w P so mb p b W base N G cs T xs ws nn D O) {o : Ob} (ho : o ∈ O) (g : Nat) (hg : g < G) :
    Calls Tryz.prog 26 #[.pointer (some ⟨so, 0, none⟩), .int .i64 g, .int .i64 o.ref] w fun e w' => e = .returned (.tuple #[.int .i64 o.n, .int .i64 0]) ∧ w' = w :=
  access_yes h.raw g o.ref (by omega) (h.wf ho).1 o.n (h.mp.at_ o ho) (h.yes ho)
theorem find_bounds (h : Sto w P so mb p b W base N G cs T xs ws nn D O) {o : Ob} (ho : o ∈ O) (g : Nat) (hg : g < G) (i : Int) (hi : ¬ (0 ≤ i ∧ i < o.n)) :
    Calls Tryz.prog 36 #[.pointer (some ⟨so, 0, none⟩), .int .i64 g, .int .i64 o.ref, .int .i64 i] w fun e w' => e = .returned (.tuple #[.int .i64 0, .int .i64 0, .int .i64 802]) ∧ w' = w := by
  have ha := h.access ho g hg
  clear h
  generalize o.ref = ref at ha ⊢
  by_cases i0 : i < 0
  · clear hi
    go_enter Tryz.func36, Tryz.ntmps36
    go_wp2_with (go_at_call 26; refine ha.mono ?_; rintro e w9 ⟨rfl, hw9⟩; replace hw9 := hw9.symm; subst hw9)
    refine bodyPost_ret (results_tmp3 rfl _ _ _) rfl ⟨rfl, rfl⟩
  · have i1 : decide (i < 0) = false := by simp; omega
    have i2 : (o.n : Int) ≤ i := by omega
    clear hi i0
    go_enter Tryz.func36, Tryz.ntmps36
    go_wp2_with (go_at_call 26; refine ha.mono ?_; rintro e w9 ⟨rfl, hw9⟩; replace hw9 := hw9.symm; subst hw9)
    refine bodyPost_ret (results_tmp3 rfl _ _ _) rfl ⟨rfl, rfl⟩
set_option maxRecDepth 20000 in
set_option maxHeartbeats 1000000 in
theorem find_ok (h : Sto w P so mb p b W base N G cs T xs ws nn D O) {o : Ob} (ho : o ∈ O) (g i : Nat) (hg : g < G) (hi : i < o.n) :
    Calls Tryz.prog 36 #[.pointer (some ⟨so, 0, none⟩), .int .i64 g, .int .i64 o.ref, .int .i64 i] w fun e w' => e = .returned (.tuple #[.int .i64 (o.c (hop i o.n) : Nat), .int .i64 (wrd i o.n : Nat), .int .i64 0]) ∧
      ∃ cs', Tks cs cs' g (hop i o.n) ∧ RawT w P so mb p b W base N G cs' T xs ws nn D w' := by
  have ha := h.access ho g hg
  have hs := h.inv.size o ho
  have hp := placeOf_ok i o.n hi hs
  have hc0 := (h.wf ho).2.2
  have hf : ∀ u, Calls Tryz.prog 49 #[.int .i64 o.ref] u fun e w' => e = .returned (.int .i64 (o.c 0 : Nat)) ∧ w' = u := fun u => firstOf_ok (o.c 0) (by omega) u
  have Hl : Hid (∀ k, k < hop i o.n → ws (base + 8 * o.c k + 0) = (o.c (k + 1) : Nat)) := fun k hk => h.inv.link o ho k (by have := hop_lt i o.n; omega)
  have Hu : Hid (∀ k, k < hop i o.n → o.c k < N ∧ ws (base + 8 * N + o.c k) ≠ 0) := fun k hk => h.inv.used o ho k (by have := hop_lt i o.n; omega)
  have HR : Hid (Raw w P so mb p b W base N G cs T xs ws nn D) := h.raw
  have hh9 : hop i o.n ≤ 9 := by have := hop_lt i o.n; have := frg_nine hs; omega
  have i1 : decide ((i : Int) < 0) = false := by simp
  have i2 : decide (o.n ≤ i) = false := by simp; omega
  generalize o.ref = ref at ha hf ⊢
  generalize hop i o.n = H at hp Hl Hu hh9 ⊢
  generalize wrd i o.n = Z at hp ⊢
  clear h hi
  go_enter Tryz.func36, Tryz.ntmps36
  go_wp2_with (first
    | (go_at_call 26; refine ha.mono ?_; rintro e w9 ⟨rfl, hw9⟩; replace hw9 := hw9.symm; subst hw9)
    | (go_at_call 57; refine (hp _).mono ?_; rintro e w9 ⟨rfl, hw9⟩; replace hw9 := hw9.symm; subst hw9)
    | (go_at_call 49; refine (hf _).mono ?_; rintro e w9 ⟨rfl, hw9⟩; replace hw9 := hw9.symm; subst hw9))
  clear ha hp hf
  go_loopg [12, 15, 44] (H + 1) (fun kx s12 s15 s44 wr => ∃ (j : Nat) (cs' : Nat → Int), s44 = .int .i64 j ∧ s15 = .int .i64 (o.c j : Nat) ∧ s12 = .int .i64 0 ∧ j ≤ H ∧ H - j ≤ kx ∧ Tks cs cs' g j ∧ RawT w P so mb p b W base N G cs' T xs ws nn D wr)
  case atStart => exact ⟨0, cs, rfl, rfl, rfl, by omega, by omega, Tks.zero _ _, RawT.refl HR.out⟩
  case round =>
    obtain ⟨j, cs', rfl, rfl, rfl, hj, hk, htk, P', hR, hB, hW⟩ := hrel
    by_cases hlt : j < H
    · have hlt' : (j : Int) < (H : Int) := by omega
      have cc := hR.cells
      have hL := hR.load g (o.c j) 0 hg (Hu.out j hlt).1 (Hu.out j hlt).2 (by omega)
      rw [Hl.out j hlt] at hL
      have HB : Hid (Tks cs cs' g j ∧ Bt P w wr ∧ Wider P P' w) := ⟨htk, hB, hW⟩
      clear htk hB hW hR
      go_wp2_with (go_at_call 39; refine hL.mono ?_; rintro e w2 ⟨rfl, hR2⟩)
      go_roundg (H - (j + 1))
      case measure => omega
      case rel => exact ⟨j + 1, _, by go_num, rfl, rfl, by omega, by omega, HB.out.1.tick, RawT.trans HB.out.2.1 HB.out.2.2 hR2⟩
    · obtain rfl : j = H := by omega
      have hlt' : ¬ (j : Int) < (j : Int) := by omega
      go_wp2
      refine bodyPost_ret (results_tmp3 rfl _ _ _) rfl ?_
      exact ⟨rfl, cs', htk, P', hR, hB, hW⟩
/-- Load. -/
theorem load_no (h : Sto w P so mb p b W base N G cs T xs ws nn D O) (A ref i : Int) (hw : (Lit.int .i64 ref).wf = true) (hb : Bad G O A ref) :
    Calls Tryz.prog 16 #[.pointer (some ⟨so, 0, none⟩), .int .i64 A, .int .i64 ref, .int .i64 i] w fun e w' => e = .returned (.tuple #[.int .i64 0, .int .i64 803]) ∧ w' = w := by
  have ha := find_no h A ref i hw hb
  clear h hb
  go_enter Tryz.func16, Tryz.ntmps16
  go_wp2_with (go_at_call 36; refine ha.mono ?_; rintro e w9 ⟨rfl, hw9⟩; replace hw9 := hw9.symm; subst hw9)
  go_ret2
  exact ⟨rfl, rfl⟩
theorem load_bounds (h : Sto w P so mb p b W base N G cs T xs ws nn D O) {o : Ob} (ho : o ∈ O) (g : Nat) (hg : g < G) (i : Int) (hi : ¬ (0 ≤ i ∧ i < o.n)) :
    Calls Tryz.prog 16 #[.pointer (some ⟨so, 0, none⟩), .int .i64 g, .int .i64 o.ref, .int .i64 i] w fun e w' => e = .returned (.tuple #[.int .i64 0, .int .i64 802]) ∧ w' = w := by
  have ha := find_bounds h ho g hg i hi
  clear h hi
  go_enter Tryz.func16, Tryz.ntmps16
  go_wp2_with (go_at_call 36; refine ha.mono ?_; rintro e w9 ⟨rfl, hw9⟩; replace hw9 := hw9.symm; subst hw9)
  go_ret2
  exact ⟨rfl, rfl⟩
theorem load_ok8 (h : Sto w P so mb p b W base N G cs T xs ws nn D O) {o : Ob} (ho : o ∈ O) (g i : Nat) (hg : g < G) (hi : i < o.n) :
    Calls Tryz.prog 16 #[.pointer (some ⟨so, 0, none⟩), .int .i64 g, .int .i64 o.ref, .int .i64 i] w fun e w' => e = .returned (.tuple #[.int .i64 (ws (o.ad base i)), .int .i64 0]) ∧
      ∃ cs' P', Tks cs cs' g (hop i o.n + 1) ∧ Sto w' P' so mb p b W base N G cs' T xs ws nn D O ∧ Bt P w w' ∧ Wider P P' w := by
  have ha := find_ok h ho g i hg hi
  have hu := h.inv.used o ho _ (hop_lt i o.n)
  have hz := wrd_lt i o.n
  have HS : Hid (OInv ws base N xs.length O ∧ Mp D O) := ⟨h.inv, h.mp⟩
  clear h
  unfold Ob.ad
  go_enter Tryz.func16, Tryz.ntmps16
  go_wp2_with (first
    | (go_at_call 36; refine ha.mono ?_; rintro e w2 ⟨rfl, cs2, htk, P2, hR2, hB2, hW2⟩; have cc2 := hR2.cells; have hL := hR2.load g _ _ hg hu.1 hu.2 hz)
    | (go_at_call 39; refine hL.mono ?_; rintro e w3 ⟨rfl, P3, hR3, hB3, hW3⟩)
    | (go_at_call 37; refine (ofObject_ok _).mono ?_; rintro e w9 ⟨rfl, hw9⟩; replace hw9 := hw9.symm; subst hw9))
  go_ret2
  exact ⟨rfl, _, P3, htk.tick, ⟨hR3, HS.out.1, HS.out.2⟩, hB2.wide hB3 hW2, hW2.trans hW3 hB2.size⟩
/-- Put. -/
theorem put_no (h : Sto w P so mb p b W base N G cs T xs ws nn D O) (A ref i v : Int) (hw : (Lit.int .i64 ref).wf = true) (hb : Bad G O A ref) :
    Calls Tryz.prog 15 #[.pointer (some ⟨so, 0, none⟩), .int .i64 A, .int .i64 ref, .int .i64 i, .int .i64 v] w fun e w' => e = .returned (.int .i64 803) ∧ w' = w := by
  have ha := find_no h A ref i hw hb
  clear h hb
  go_enter Tryz.func15, Tryz.ntmps15
  go_wp2_with (go_at_call 36; refine ha.mono ?_; rintro e w9 ⟨rfl, hw9⟩; replace hw9 := hw9.symm; subst hw9)
  go_ret
  exact ⟨rfl, rfl⟩
theorem put_bounds (h : Sto w P so mb p b W base N G cs T xs ws nn D O) {o : Ob} (ho : o ∈ O) (g : Nat) (hg : g < G) (i v : Int) (hi : ¬ (0 ≤ i ∧ i < o.n)) :
    Calls Tryz.prog 15 #[.pointer (some ⟨so, 0, none⟩), .int .i64 g, .int .i64 o.ref, .int .i64 i, .int .i64 v] w fun e w' => e = .returned (.int .i64 802) ∧ w' = w := by
  have ha := find_bounds h ho g hg i hi
  clear h hi
  go_enter Tryz.func15, Tryz.ntmps15
  go_wp2_with (go_at_call 36; refine ha.mono ?_; rintro e w9 ⟨rfl, hw9⟩; replace hw9 := hw9.symm; subst hw9)
  go_ret
  exact ⟨rfl, rfl⟩
theorem put_ok8 (h : Sto w P so mb p b W base N G cs T xs ws nn D O) {a : Nat} {o : Ob} (ha : O[a]? = some o) (g i : Nat) (v : Int) (hg : g < G) (hi : i < o.n) :
    Calls Tryz.prog 15 #[.pointer (some ⟨so, 0, none⟩), .int .i64 g, .int .i64 o.ref, .int .i64 i, .int .i64 v] w fun e w' => e = .returned (.int .i64 0) ∧
      ∃ cs' P', Tks cs cs' g (hop i o.n + 1) ∧ Sto w' P' so mb p b W base N G cs' T xs (upd ws (o.ad base i) v) nn D O ∧ Bt P w w' ∧ Wider P P' w := by
  have ho := List.mem_of_getElem? ha
  have hf := find_ok h ho g i hg hi
  have hu := h.inv.used o ho _ (hop_lt i o.n)
  have hz := wrd_lt i o.n
  have HS : Hid (OInv (upd ws (o.ad base i) v) base N xs.length O ∧ Mp D O) := ⟨h.inv.put ha v, h.mp⟩
  clear h ha
  go_enter Tryz.func15, Tryz.ntmps15
  go_wp2_with (first
    | (go_at_call 36; refine hf.mono ?_; rintro e w2 ⟨rfl, cs2, htk, P2, hR2, hB2, hW2⟩; have cc2 := hR2.cells; have hL := hR2.store g _ _ v hg hu.1 hu.2 hz)
    | (go_at_call 38; refine hL.mono ?_; rintro e w3 ⟨rfl, P3, hR3, hB3, hW3⟩)
    | (go_at_call 37; refine (ofObject_ok _).mono ?_; rintro e w9 ⟨rfl, hw9⟩; replace hw9 := hw9.symm; subst hw9))
  go_ret
  exact ⟨rfl, _, P3, htk.tick, ⟨hR3, HS.out.1, HS.out.2⟩, hB2.wide hB3 hW2, hW2.trans hW3 hB2.size⟩
end
end Go.Proofs.YtojblddfggoecaaGreat
