/- awake. -/
import Derived.Test.YtnnjinkadcagdaaGreatMHEnv
namespace Go.Proofs.YtnnjinkadcagdaaGreat
open Go.RowKit
set_option maxRecDepth 20000 in
set_option maxHeartbeats 1000000 in
theorem awake9 (w : World) : Calls Tryz.prog 9 #[] w fun e w' => e = .returned (.bool true) ∧ Below w.heap.size w w' := by
  have hN := z_new 2000 2 2000 2 w rfl rfl (by omega) (by omega)
  go_enter Tryz.func9, Tryz.ntmps9
  go_wp2_with (first
    | (go_at_call_of 7 (Value.int .i64 2000); refine hN.mono ?_; rintro e w1 ⟨h, P1, rfl, H1⟩; clear hN; have hM := z_make H1 (by omega) 0 2 3 20 20 rfl (by omega) (by omega) (by decide) (by omega) (by decide))
    | (go_at_call_of 16 (Value.int .i64 3); refine hM.mono ?_; rintro e w2 ⟨i, S2, a, c2, rfl, hAd, hT2⟩; obtain ⟨P2, H2⟩ := hT2.in_; have hi := hAd.new; clear hM hT2 H1; have hP := z_put H2 (by omega) hi 1 19 (-7) 19 (by omega) rfl (show 19 < 20 by omega))
    | (go_at_call 18; refine hP.mono ?_; rintro e w3 ⟨rfl, c3, _, _, hT3⟩; obtain ⟨P3, H3⟩ := hT3.in_; clear hP hT3 H2; have hL := z_load H3 (by omega) hi 0 19 19 (by omega) rfl (show 19 < 20 by omega))
    | (go_at_call 17; refine hL.mono ?_; rintro e w4 ⟨rfl, c4, _, _, hT4⟩; obtain ⟨P4, H4⟩ := hT4.in_; clear hL hT4 H3; have hC := z_cell H4 (by omega) hi; rw [setF_at, if_pos rfl])
    | (go_at_call 20; refine hC.mono ?_; rintro e w5 ⟨rfl, hb5⟩; have H5 := H4.below hb5; clear hC H4 hb5)
    | (go_at_call_of 16 (Value.int .i64 4); refine (z_size (H5.below ((Below.refl _ _).alloc (Nat.le_refl _) _)) 0 4 0 2 (by omega) (by omega) (by decide)).mono ?_; rintro e w6 ⟨rfl, hb6⟩; have kz6 := (hb6.block w5.heap.size (by rw [Go.Deep.nblk_alloc]; omega)).trans (heap_alloc_new w5 _); have H6 := (H5.below ((Below.refl _ _).alloc (Nat.le_refl _) _)).below hb6; clear H5 hb6)
    | (go_at_call_of 7 (Value.int .i64 511); refine (hnew_no 511 1 _ (by omega)).mono ?_; rintro e w7 ⟨rfl, hb7⟩; have cz := cell3 ((hb7.block _ (box_lt kz6)).trans kz6); have HB : Hid (Below w.heap.size w w7) := (H6.below hb7).bel; clear hb7 kz6 H6)
    | (go_at_call 8; refine (num_any _ _).mono ?_; rintro e w9 ⟨rfl, hw9⟩; replace hw9 := hw9.symm; subst hw9))
  go_ret
  exact ⟨rfl, HB.out⟩
end Go.Proofs.YtnnjinkadcagdaaGreat
