/- The law's awake: what every program answers that is one. -/
import Derived.Test.YtlkomjapfcmpkaaFUsed
namespace Go.Proofs.Ytlkomjapfcmpkaa
open Go.RowKit

theorem inuse_set {ws : Nat → Int} {base n f : Nat} {c : Int} (hf : f < n) (hc : c ≠ 0) : InUse (upd ws (base + 8 * n + f) c) base n (f : Int) :=
  ⟨by omega, by omega, by simpa [upd_at] using hc⟩
theorem inuse_word {ws : Nat → Int} {base n f i : Nat} {v x : Int} (h : InUse ws base n x) (hf : f < n) (hi : i < 8) : InUse (upd ws (base + 8 * f + i) v) base n x :=
  ⟨h.1, h.2.1, by rw [upd_else _ _ (by omega)]; exact h.2.2⟩
set_option maxRecDepth 20000 in
set_option maxHeartbeats 2000000 in
theorem awake_any (w : World) : Calls Try.prog 10 #[] w fun e w' => e = .returned (.bool true) ∧ Below w.heap.size w w' := by
  go_enter Try.func10, Try.ntmps10
  go_wp2_with (first
    | (go_at_call 14; refine (num_any _ _).mono ?_; rintro e w9 ⟨rfl, rfl⟩)
    | (go_at_call 6; refine (begun_ok _ _ 0 1 _ rfl rfl (by omega) (by omega) (by omega)).mono ?_; rintro e w1 ⟨p, b, P1, rfl, h1, hb1, hP1⟩)
    | (go_at_call 15; refine (palloc_ok (x := 1) (xs := []) h1 (by omega) 0 (by omega)).mono ?_; rintro e w2 ⟨f, hf, hf1, hz, rfl, cs2, hT2⟩; obtain rfl : f = 0 := (by omega); obtain ⟨P2, h2, hb2, l2, hP2⟩ := hT2.pl hb1 hb1.size hP1; clear h1 hT2 hf hf1 hz)
    | (go_at_call 15; refine (palloc_none h2 (by omega) 1 (by omega)).mono ?_; rintro e w3 ⟨rfl, hb3⟩; have h3 := h2.below hb3; have hb3' := hb2.trans (hb3.mono l2); have l3 := Nat.le_trans l2 hb3.size; clear h2)
    | (go_at_call 16; refine (pstore_ok h3 0 0 7 9 (by omega) (inuse_set (by omega) (by omega)) (by omega)).mono ?_; rintro e w4 ⟨rfl, hT4⟩; obtain ⟨P4, h4, hb4, l4, hP4⟩ := hT4.pl hb3' l3 hP2; clear hT4)
    | (go_at_call 18; refine (pload_ok h4 2 0 7 (by omega) (inuse_word (inuse_set (by omega) (by omega)) (by omega) (by omega)) (by omega)).mono ?_; rw [upd_at]; rintro e w5 ⟨rfl, hT5⟩; obtain ⟨P5, h5, hb5, l5, hP5⟩ := hT5.pl hb4 l4 hP4; clear hT5)
    | (go_at_call 20; refine (pfree_ok h5 (by omega) 0 0 (by omega) (inuse_word (inuse_set (by omega) (by omega)) (by omega) (by omega))).mono ?_; rintro e w6 ⟨rfl, cs6, hT6⟩; obtain ⟨P6, h6, hb6, l6, hP6⟩ := hT6.pl hb5 l5 hP5; clear hT6)
    | (go_at_call 24; refine (colour_in h6 0 (by omega)).mono ?_; rw [upd_at]; rintro e w7 ⟨rfl, hb7⟩))
  go_ret
  exact ⟨rfl, hb6.trans (hb7.mono l6)⟩
end Go.Proofs.Ytlkomjapfcmpkaa
