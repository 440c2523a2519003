/- The walk of HeapSteps. -/
import Derived.Test.YtnnjinkadcagdaaGreatMHAwake
namespace Go.Proofs.YtnnjinkadcagdaaGreat
open Go.RowKit
theorem at_mod (k : Nat) (z : Int) (h1 : 1 ≤ k) (h2 : k ≤ 100000) : ∃ a : Nat, wrap64 ((IntKind.u64.wrap z).tmod (k : Int)) = a ∧ a < k := by
  have h0 : 0 ≤ IntKind.u64.wrap z := by rw [IntKind.wrap_u64]; omega
  generalize IntKind.u64.wrap z = q at h0 ⊢
  rw [Int.tmod_eq_emod_of_nonneg h0]
  have h1 := Int.emod_nonneg q (show (k : Int) ≠ 0 by omega)
  have h2 := Int.emod_lt_of_pos q (show 0 < (k : Int) by omega)
  exact ⟨(q % (k : Int)).toNat, by rw [IntWalk.wrap64_in _ (by omega)]; omega, by omega⟩
theorem Hv.lower {B B' : Nat} {w0 w1 w : World} {P : Nat → Prop} {h W G m : Nat} {c : Int → Int} {S : List (Option Cel)} {F : Nat → Nat → Int} (H : Hv B w1 w P h W G m c S F) (hB : B' ≤ B) (hb : Below B' w0 w1) : Hv B' w0 w P h W G m c S F :=
  ⟨H.cur, fun k hk => Nat.le_trans hB (H.own k hk), hb.trans (H.bel.mono hB), Nat.le_trans hB H.size⟩
set_option maxRecDepth 20000 in
set_option maxHeartbeats 2000000 in
theorem steps9_walk (size at_ : Int) (w : World) : Calls Tryz.prog 6 #[.int .i64 size, .int .i64 at_] w fun e w' => e = .returned (.bool true) ∧ Below w.heap.size w w' := by
  obtain ⟨a, ha, ha2⟩ := at_mod 1000 size (by omega) (by omega)
  have ha' : wrap64 ((IntKind.u64.wrap size).tmod 1000) = (a : Int) := ha
  obtain ⟨k, hk⟩ : ∃ k : Nat, k = 1 + a := ⟨_, rfl⟩
  have hk1 : 1 ≤ k ∧ k ≤ 1000 := by omega
  have hke : (1 : Int) + (a : Int) = (k : Int) := by omega
  obtain ⟨i, hi, hik⟩ := at_mod k at_ hk1.1 (by omega)
  clear hk ha2 ha
  go_enter Tryz.func6, Tryz.ntmps6
  go_wp2_with (first
    | (go_at_call 9; refine (awake9 w).mono ?_; rintro e w1 ⟨rfl, hb1⟩; have hN := z_new 16384 1 16384 1 w1 rfl rfl (by omega) (by omega))
    | (go_at_call 7; refine hN.mono ?_; rintro e w2 ⟨h, P2, rfl, H2⟩; have H2' := H2.lower hb1.size hb1; clear hN H2; have hM := z_make H2' (by omega) 0 2 0 k k rfl (by omega) (by omega) (by show (0 : Int) ≤ k ∧ (k : Int) ≤ 1000; omega) (by omega) (by show 0 + (k + 16) ≤ 4096; omega))
    | (go_at_call 16; refine hM.mono ?_; rintro e w3 ⟨ix, S3, ad, c3, rfl, hAd, hT3⟩; obtain ⟨P3, H3⟩ := hT3.in_; have hx := hAd.new; have f3 := H3.facts.2.2.2 0; clear hM hT3 H2')
    | (go_at_call_of 21 (Value.int .i64 1); refine (z_steps_no H5 1 (by omega)).mono ?_; rintro e w9 ⟨rfl, hw9⟩; replace hw9 := hw9.symm; subst hw9)
    | (go_at_call 18; refine (z_put H3 (by omega) hx 0 i 77 i (by omega) rfl hik).mono ?_; rintro e w4 ⟨rfl, c4, u1, u2, hT4⟩; obtain ⟨P4, H4⟩ := hT4.in_; have f4 := H4.facts.2.2.2 0; clear hT4)
    | (go_at_call 17; refine (z_load H4 (by omega) hx 0 i i (by omega) rfl hik).mono ?_; rintro e w5 ⟨rfl, c5, u3, u4, hT5⟩; obtain ⟨P5, H5⟩ := hT5.in_; have f5 := H5.facts.2.2.2 0; clear hT5; rw [setF_at, if_pos rfl])
    | (go_at_call 21; first | (refine (z_steps H5 0 (by omega)).mono ?_; rintro e w9 ⟨rfl, hw9⟩; replace hw9 := hw9.symm; subst hw9) | (refine (z_steps H4 0 (by omega)).mono ?_; rintro e w9 ⟨rfl, hw9⟩; replace hw9 := hw9.symm; subst hw9) | (refine (z_steps H3 0 (by omega)).mono ?_; rintro e w9 ⟨rfl, hw9⟩; replace hw9 := hw9.symm; subst hw9))
    | (go_at_call 8; refine (num_any _ _).mono ?_; rintro e w9 ⟨rfl, hw9⟩; replace hw9 := hw9.symm; subst hw9))
  go_ret
  exact ⟨rfl, H5.bel⟩
end Go.Proofs.YtnnjinkadcagdaaGreat
