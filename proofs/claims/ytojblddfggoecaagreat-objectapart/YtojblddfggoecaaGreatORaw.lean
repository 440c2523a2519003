/- A store of objects as it lies in memory. -/
import Derived.Test.YtojblddfggoecaaGreatOFree
import Derived.Maps.OwnSet
namespace Go.Proofs.YtojblddfggoecaaGreat
open Go.RowKit
/-- The pool, the struct, the map of sizes. -/
structure Raw (w : World) (P : Nat → Prop) (so mb p b W base N G : Nat) (cs : Nat → Int) (T : Int) (xs : List Int) (ws : Nat → Int) (nn : Nat) (D : DataW Unit) : Prop where
  pl : ∃ P0, Pl w P0 p b W base N G cs T xs ws ∧ (∀ k, P0 k → P k) ∧ ¬ P0 so ∧ ¬ P0 mb
  here : w.heap[so]? = some (.cells #[.pointer (some ⟨p, 0, none⟩), .map (some mb)] 64 (0, 0))
  map : w.ownsMap Tryz.prog 3 (plainElem Tryz.prog 3) mb nn D
  own : P so ∧ P mb
  lt : ∀ k, P k → k < w.heap.size
/-- What a call leaves. -/
def RawT (w : World) (P : Nat → Prop) (so mb p b W base N G : Nat) (cs : Nat → Int) (T : Int) (xs : List Int) (ws : Nat → Int) (nn : Nat) (D : DataW Unit) (w' : World) : Prop :=
  ∃ P', Raw w' P' so mb p b W base N G cs T xs ws nn D ∧ Bt P w w' ∧ Wider P P' w
theorem keyed3 : Maps.Keyed Tryz.prog 3 := Maps.int_keyed Tryz.underlying3
theorem map_of_block {w w' : World} {mb nn : Nat} {D : DataW Unit} (h : w.ownsMap Tryz.prog 3 (plainElem Tryz.prog 3) mb nn D) (e : w'.heap[mb]? = w.heap[mb]?) : w'.ownsMap Tryz.prog 3 (plainElem Tryz.prog 3) mb nn D := by
  obtain ⟨es, clock, hb, F, hs, hD⟩ := h
  exact ⟨es, clock, e.trans hb, F, hs, hD⟩
section
variable {w : World} {P : Nat → Prop} {so mb p b W base N G : Nat} {cs : Nat → Int} {T : Int} {xs : List Int} {ws : Nat → Int} {nn : Nat} {D : DataW Unit}
theorem Raw.below {w' : World} (h : Raw w P so mb p b W base N G cs T xs ws nn D) (hb : Below w.heap.size w w') : Raw w' P so mb p b W base N G cs T xs ws nn D := by
  obtain ⟨P0, h1, h2, h3, h4⟩ := h.pl
  exact ⟨⟨P0, h1.below hb, h2, h3, h4⟩, (hb.block so (h.lt so h.own.1)).trans h.here, map_of_block h.map (hb.block mb (h.lt mb h.own.2)), h.own, fun k hk => Nat.lt_of_lt_of_le (h.lt k hk) hb.size⟩
/-- A call of the pool's. -/
theorem Raw.turn {w' : World} {P0 : Nat → Prop} {cs' : Nat → Int} {T' : Int} {xs' : List Int} {ws' : Nat → Int} (h : Raw w P so mb p b W base N G cs T xs ws nn D) (h1 : ∀ k, P0 k → P k) (h2 : ¬ P0 so) (h3 : ¬ P0 mb) (ht : Turn w P0 p b W base N G cs' T' xs' ws' w') :
    RawT w P so mb p b W base N G cs' T' xs' ws' nn D w' := by
  obtain ⟨P1, hP, hB, hW⟩ := ht
  have ls := h.lt so h.own.1
  have lm := h.lt mb h.own.2
  refine ⟨fun k => P k ∨ P1 k, ⟨⟨P1, hP, fun _ r => .inr r, fun r => (hW so r).elim h2 (fun q => by omega), fun r => (hW mb r).elim h3 (fun q => by omega)⟩, (hB.block so ls h2).trans h.here, map_of_block h.map (hB.block mb lm h3), ⟨.inl h.own.1, .inl h.own.2⟩, fun k hk => hk.elim (fun r => Nat.lt_of_lt_of_le (h.lt k r) hB.size) (hP.lt k)⟩, hB.mono fun k _ r => h1 k r, fun k hk => hk.elim .inl fun r => (hW k r).imp (h1 k) id⟩
theorem RawT.refl (h : Raw w P so mb p b W base N G cs T xs ws nn D) : RawT w P so mb p b W base N G cs T xs ws nn D w := ⟨P, h, Bt.refl _ _, Wider.refl _ _⟩
theorem RawT.after {w1 w' : World} {cs' : Nat → Int} {T' : Int} {xs' : List Int} {ws' : Nat → Int} {nn' : Nat} {D' : DataW Unit} (hb : Below w.heap.size w w1) (h : RawT w1 P so mb p b W base N G cs' T' xs' ws' nn' D' w') : RawT w P so mb p b W base N G cs' T' xs' ws' nn' D' w' := by
  obtain ⟨P', h1, h2, h3⟩ := h
  exact ⟨P', h1, (Bt.of_below hb).trans h2, fun k hk => (h3 k hk).elim .inl (fun q => .inr (Nat.le_trans hb.size q))⟩
theorem RawT.trans {w1 w' : World} {P1 : Nat → Prop} {cs' : Nat → Int} {T' : Int} {xs' : List Int} {ws' : Nat → Int} {nn' : Nat} {D' : DataW Unit} (hB : Bt P w w1) (hW : Wider P P1 w) (h : RawT w1 P1 so mb p b W base N G cs' T' xs' ws' nn' D' w') : RawT w P so mb p b W base N G cs' T' xs' ws' nn' D' w' := by
  obtain ⟨P', h1, h2, h3⟩ := h
  exact ⟨P', h1, hB.wide h2 hW, hW.trans h3 hB.size⟩
theorem Raw.cells (h : Raw w P so mb p b W base N G cs T xs ws nn D) : w.cell? ⟨so, 0, none⟩ = some (.pointer (some ⟨p, 0, none⟩)) ∧ w.cell? ⟨so, 1, none⟩ = some (.map (some mb)) := by
  constructor <;> simp [World.cell?, h.here]
/-- The map has turned. -/
theorem Raw.remap {w' : World} {nn' : Nat} {D' : DataW Unit} (h : Raw w P so mb p b W base N G cs T xs ws nn D) (hm : w'.ownsMap Tryz.prog 3 (plainElem Tryz.prog 3) mb nn' D') (hg : w.grownBy w' (some mb)) : RawT w P so mb p b W base N G cs T xs ws nn' D' w' := by
  obtain ⟨P0, h1, h2, h3, h4⟩ := h.pl
  have hne : so ≠ mb := by
    rintro rfl
    obtain ⟨es, clock, hb, _⟩ := h.map
    have := h.here
    rw [hb] at this; simp at this
  have e : ∀ k, k < w.heap.size → k ≠ mb → w'.heap[k]? = w.heap[k]? := fun k hk q => hg.block k hk (fun r => q (by simpa using r))
  refine ⟨P, ⟨⟨P0, h1.keep (fun j hj => e j (h1.lt j hj) (fun q => h4 (q ▸ hj))) hg.size, h2, h3, h4⟩, (e so (h.lt so h.own.1) hne).trans h.here, hm, h.own, fun k hk => Nat.lt_of_lt_of_le (h.lt k hk) hg.size⟩, ⟨hg.os, hg.tape, hg.output, hg.size, fun k hk q => e k hk (fun r => q (r ▸ h.own.2))⟩, Wider.refl _ _⟩
/-- Size. -/
theorem size_yes (h : Raw w P so mb p b W base N G cs T xs ws nn D) (ref : Int) (hw : (Lit.int .i64 ref).wf = true) (n : Int) (hn : D.atKey (.int .i64 ref) (.lit (.int .i64 0)) = .lit (.int .i64 n)) (hr : Maps.has D (.int .i64 ref) = true) :
    Calls Tryz.prog 23 #[.pointer (some ⟨so, 0, none⟩), .int .i64 ref] w fun e w' => e = .returned (.tuple #[.int .i64 n, .int .i64 0]) ∧ w' = w := by
  have cc := h.cells
  have hz : (zeroValue 3).run Tryz.prog w = .ok (.int .i64 0) w := by kernel_rfl
  have hl : (Instr.lookup 62 (.map (some mb)) (.int .i64 ref) true).run Tryz.prog w = .ok (.tuple #[.int .i64 n, .bool true]) w := by
    obtain ⟨v, ps, hrun, hv⟩ := h.map.look_ok keyed3 Tryz.underlying62 hz (plainElem_int Tryz.underlying3 (by decide)) (Maps.keyOf_int_mk Tryz.underlying3 hw)
    obtain ⟨c, rfl, hc, hwc⟩ := plainElem_int_inv Tryz.underlying3 hv
    rw [hn] at hc
    simp only [Prod.mk.injEq, DataW.lit.injEq, Lit.int.injEq, true_and] at hc
    rw [hr, ← hc.1] at hrun
    exact hrun
  clear h hz hn hr hw
  go_enter Tryz.func23, Tryz.ntmps23
  go_wp2
  go_ret2
  exact ⟨rfl, rfl⟩
theorem size_no (h : Raw w P so mb p b W base N G cs T xs ws nn D) (ref : Int) (hw : (Lit.int .i64 ref).wf = true) (hr : Maps.has D (.int .i64 ref) = false) :
    Calls Tryz.prog 23 #[.pointer (some ⟨so, 0, none⟩), .int .i64 ref] w fun e w' => e = .returned (.tuple #[.int .i64 0, .int .i64 803]) ∧ w' = w := by
  have cc := h.cells
  have hz : (zeroValue 3).run Tryz.prog w = .ok (.int .i64 0) w := by kernel_rfl
  obtain ⟨c, hl⟩ : ∃ c, (Instr.lookup 62 (.map (some mb)) (.int .i64 ref) true).run Tryz.prog w = .ok (.tuple #[.int .i64 c, .bool false]) w := by
    obtain ⟨v, ps, hrun, hv⟩ := h.map.look_ok keyed3 Tryz.underlying62 hz (plainElem_int Tryz.underlying3 (by decide)) (Maps.keyOf_int_mk Tryz.underlying3 hw)
    obtain ⟨c, rfl, hc, hwc⟩ := plainElem_int_inv Tryz.underlying3 hv
    rw [hr] at hrun
    exact ⟨c, hrun⟩
  clear h hz hr hw
  go_enter Tryz.func23, Tryz.ntmps23
  go_wp2
  go_ret2
  exact ⟨rfl, rfl⟩
/-- The agent may come to it. -/
theorem access_yes (h : Raw w P so mb p b W base N G cs T xs ws nn D) (A ref : Int) (hA : 0 ≤ A ∧ A < G) (hw : (Lit.int .i64 ref).wf = true) (n : Int) (hn : D.atKey (.int .i64 ref) (.lit (.int .i64 0)) = .lit (.int .i64 n)) (hr : Maps.has D (.int .i64 ref) = true) :
    Calls Tryz.prog 26 #[.pointer (some ⟨so, 0, none⟩), .int .i64 A, .int .i64 ref] w fun e w' => e = .returned (.tuple #[.int .i64 n, .int .i64 0]) ∧ w' = w := by
  have cc := h.cells
  have hs := size_yes h ref hw n hn hr
  obtain ⟨P0, h1, _⟩ := h.pl
  have ha := hasAgent_any h1 A true (by simpa using hA)
  clear h h1 hn hr
  go_enter Tryz.func26, Tryz.ntmps26
  go_wp2_with (first
    | (go_at_call 23; refine hs.mono ?_; rintro e w9 ⟨rfl, hw9⟩; replace hw9 := hw9.symm; subst hw9)
    | (go_at_call 31; refine ha.mono ?_; rintro e w9 ⟨rfl, hw9⟩; replace hw9 := hw9.symm; subst hw9))
  go_ret2
  exact ⟨rfl, rfl⟩
theorem access_no (h : Raw w P so mb p b W base N G cs T xs ws nn D) (A ref : Int) (hw : (Lit.int .i64 ref).wf = true) (hn : ¬ ((0 ≤ A ∧ A < G) ∧ ∃ n, D.atKey (.int .i64 ref) (.lit (.int .i64 0)) = .lit (.int .i64 n) ∧ Maps.has D (.int .i64 ref) = true)) :
    Calls Tryz.prog 26 #[.pointer (some ⟨so, 0, none⟩), .int .i64 A, .int .i64 ref] w fun e w' => e = .returned (.tuple #[.int .i64 0, .int .i64 803]) ∧ w' = w := by
  have cc := h.cells
  obtain ⟨P0, h1, _⟩ := h.pl
  cases hr : Maps.has D (.int .i64 ref) with
  | false =>
    have hs := size_no h ref hw hr
    clear h h1 hn hr
    go_enter Tryz.func26, Tryz.ntmps26
    go_wp2_with (go_at_call 23; refine hs.mono ?_; rintro e w9 ⟨rfl, hw9⟩; replace hw9 := hw9.symm; subst hw9)
    go_ret2
    exact ⟨rfl, rfl⟩
  | true =>
    have hz : (zeroValue 3).run Tryz.prog w = .ok (.int .i64 0) w := by kernel_rfl
    obtain ⟨n, hat⟩ : ∃ n, D.atKey (.int .i64 ref) (.lit (.int .i64 0)) = .lit (.int .i64 n) := by
      obtain ⟨v, ps, hrun, hv⟩ := h.map.look_ok keyed3 Tryz.underlying62 hz (plainElem_int Tryz.underlying3 (by decide)) (Maps.keyOf_int_mk Tryz.underlying3 hw)
      obtain ⟨c, rfl, hc, hwc⟩ := plainElem_int_inv Tryz.underlying3 hv
      simp only [Prod.mk.injEq] at hc
      exact ⟨c, hc.1⟩
    have hA : ¬ (0 ≤ A ∧ A < G) := fun r => hn ⟨r, n, hat, hr⟩
    have hs := size_yes h ref hw n hat hr
    have ha := hasAgent_any h1 A false (by simpa using hA)
    clear h h1 hn hr hat hA hz
    go_enter Tryz.func26, Tryz.ntmps26
    go_wp2_with (first
      | (go_at_call 23; refine hs.mono ?_; rintro e w9 ⟨rfl, hw9⟩; replace hw9 := hw9.symm; subst hw9)
      | (go_at_call 31; refine ha.mono ?_; rintro e w9 ⟨rfl, hw9⟩; replace hw9 := hw9.symm; subst hw9))
    go_ret2
    exact ⟨rfl, rfl⟩
end
theorem fragments_ok (n : Nat) (hn : n ≤ 100000) (w : World) : Calls Tryz.prog 28 #[.int .i64 n] w fun e w' => e = .returned (.int .i64 (frg n : Nat)) ∧ w' = w := by
  go_enter Tryz.func28, Tryz.ntmps28
  go_wp2
  all_goals
    go_ret
    exact ⟨congrArg (fun x => Ending.returned (Value.int .i64 x)) (by unfold frg; omega), rfl⟩
theorem mostFragments_ok (n : Nat) (hn : n ≤ 100000) (w : World) : Calls Tryz.prog 33 #[.int .i64 n] w fun e w' => e = .returned (.int .i64 (1 + (n + 5) / 6 : Nat)) ∧ w' = w := by
  go_enter Tryz.func33, Tryz.ntmps33
  go_wp2
  go_ret
  exact ⟨congrArg (fun x => Ending.returned (Value.int .i64 x)) (by omega), rfl⟩
theorem numberOf_ok (f : Nat) (hf : f ≤ 100000) (w : World) : Calls Tryz.prog 34 #[.int .i64 f] w fun e w' => e = .returned (.int .i64 ((f : Int) + 1)) ∧ w' = w := by
  go_enter Tryz.func34, Tryz.ntmps34
  go_wp2
  go_ret
  exact ⟨rfl, rfl⟩
theorem firstOf_ok (f : Nat) (hf : f ≤ 100000) (w : World) : Calls Tryz.prog 49 #[.int .i64 ((f : Int) + 1)] w fun e w' => e = .returned (.int .i64 f) ∧ w' = w := by
  go_enter Tryz.func49, Tryz.ntmps49
  go_wp2
  go_ret
  exact ⟨congrArg (fun x => Ending.returned (Value.int .i64 x)) (by omega), rfl⟩
theorem ofObject_ok (w : World) : Calls Tryz.prog 37 #[.int .i64 0] w fun e w' => e = .returned (.int .i64 0) ∧ w' = w := by
  go_enter Tryz.func37, Tryz.ntmps37
  go_wp2
  go_ret
  exact ⟨rfl, rfl⟩
theorem pair_eq {a b c d : Int} (h1 : a = c) (h2 : b = d) : Ending.returned (.tuple #[.int .i64 a, .int .i64 b]) = .returned (.tuple #[.int .i64 c, .int .i64 d]) := by subst h1 h2; rfl
theorem placeOf_ok (i n : Nat) (hi : i < n) (hn : n ≤ 64) (w : World) : Calls Tryz.prog 57 #[.int .i64 i, .int .i64 n] w fun e w' => e = .returned (.tuple #[.int .i64 (hop i n : Nat), .int .i64 (wrd i n : Nat)]) ∧ w' = w := by
  have hf := fragments_ok n (by omega)
  have h1 := frg_pos n
  have h9 := frg_nine hn
  have H7 : Hid (n ≤ 7 * frg n + 1) := (show _ ≤ _ by unfold frg; omega)
  obtain ⟨F, hF⟩ : ∃ F, F = frg n := ⟨_, rfl⟩
  have HF : Hid (F = frg n) := hF
  rw [← hF] at hf h1 h9 H7
  clear hF
  have h7 := H7.out
  go_enter Tryz.func57, Tryz.ntmps57
  go_wp2_with (go_at_call 28; refine (hf _).mono ?_; rintro e w9 ⟨rfl, hw9⟩; replace hw9 := hw9.symm; subst hw9)
  all_goals
    go_ret2
    exact ⟨pair_eq (by unfold hop; rw [← HF.out]; omega) (by unfold wrd hop; rw [← HF.out]; omega), rfl⟩
end Go.Proofs.YtojblddfggoecaaGreat
