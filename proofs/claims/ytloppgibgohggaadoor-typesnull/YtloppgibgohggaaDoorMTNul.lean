/- TypesNull: the walk. -/
import Derived.Test.YtloppgibgohggaaDoorMGT1
namespace Go.Proofs.YtloppgibgohggaaDoor
open Go.RowKit

set_option maxHeartbeats 8000000 in
set_option maxRecDepth 20000 in
theorem null_walk (t : Int) (w : World) : Calls Tryd.prog 6 #[.int .i64 t] w fun e w' => e = .returned (.bool true) ∧ Below w.heap.size w w' := by
  have hA := awake17 w
  go_enter Tryd.func6, Tryd.ntmps6
  go_upto_region 5 with (first
    | (go_at_call 8; refine hA.mono ?_; rintro e u0 ⟨rfl, hb0⟩; have HB0 : Hid (Below w.heap.size w u0) := hb0; have hT := tiny_at17 u0; clear hA hb0)
    | (go_at_call 22; refine hT.mono ?_; rintro e u1 ⟨ao, cap, S, rfl, hb1, hs1, hS1⟩; have hLd := load_tiny hS1 hs1; have HB1 : Hid (Below w.heap.size w u1) := HB0.out.trans (hb1.mono HB0.out.size); clear hT hb1 hs1 hS1)
    | (go_at_call 9; refine hLd.mono ?_; rintro e u2 ⟨a2, c2, L, rfl, hb2, hs2, hL2⟩; have HB2 : Hid (Below w.heap.size w u2) := HB1.out.trans (hb2.mono HB1.out.size); have HL : Hid (Sl kLy u2 L (.slice a2 12 c2) tinyLs ∧ ∀ k, L k → k < u2.heap.size) := ⟨hs2, hL2⟩; clear hLd hb2 hs2 HB1 hL2))
  obtain ⟨k, hk⟩ : ∃ k, t.tmod 40 = k := ⟨_, rfl⟩
  have hb : -40 < k ∧ k < 40 := by
    rw [← hk]
    exact ⟨by have := Int.lt_tmod_of_pos t (show (0 : Int) < 40 by decide); omega, Int.tmod_lt_of_pos t (by decide)⟩
  rw [hk]
  have HB3 : Hid (Below w.heap.size w (u2.alloc (.cells #[] 41))) := HB2.out.alloc HB2.out.size _
  have hX0 := tfits_ok HL.out.1 tiny_abv k 0 (by omega) (by decide)
  have hX1 := tfits_ok HL.out.1 tiny_abv 2 1 (by decide) (by decide)
  have hX2 := tfits_ok (w := u2.alloc (.cells #[] 41)) (HL.out.1.keep (fun b q => Below.heap_alloc _ _ _ (HL.out.2 b q))) tiny_abv 2 k (by decide) (by omega)
  have hX3 := tfits_ok (w := u2.alloc (.cells #[] 41)) (S := fun _ => False) (v := .slice (some ⟨u2.heap.size, 0, none⟩) 0 0) (ls := []) ⟨_, 0, rfl, Nat.zero_le _, .inl rfl⟩ (fun y h => by cases h) 3 16 (by decide) (by decide)
  rw [show fitT tinyLs k 0 = true by simp [fitT]] at hX0
  rw [show fitT tinyLs 2 1 = false by kernel_rfl] at hX1
  rw [show fitT [] 3 16 = false by kernel_rfl] at hX3
  clear hk HL HB2 HB0
  by_cases k0 : k = 0
  · subst k0
    clear hX2
    go_wp2_with (go_at_call 15; first
      | (refine hX0.mono ?_; clear hX0; rintro e w9 ⟨rfl, hw9⟩; replace hw9 := hw9.symm; subst hw9)
      | (refine hX1.mono ?_; clear hX1; rintro e w9 ⟨rfl, hw9⟩; replace hw9 := hw9.symm; subst hw9)
      | (refine hX2.mono ?_; clear hX2; rintro e w9 ⟨rfl, hw9⟩; replace hw9 := hw9.symm; subst hw9)
      | (refine hX3.mono ?_; rintro e w9 ⟨rfl, hw9⟩; replace hw9 := hw9.symm; subst hw9))
    go_ret
    exact ⟨by first | rfl | simp, HB3.out⟩
  have e0 : (k == 0) = false := by simp [k0]
  by_cases k2 : k = 2
  · subst k2
    rw [show fitT tinyLs 2 2 = true by kernel_rfl] at hX2
    go_wp2_with (go_at_call 15; first
      | (refine hX0.mono ?_; clear hX0; rintro e w9 ⟨rfl, hw9⟩; replace hw9 := hw9.symm; subst hw9)
      | (refine hX1.mono ?_; clear hX1; rintro e w9 ⟨rfl, hw9⟩; replace hw9 := hw9.symm; subst hw9)
      | (refine hX2.mono ?_; clear hX2; rintro e w9 ⟨rfl, hw9⟩; replace hw9 := hw9.symm; subst hw9)
      | (refine hX3.mono ?_; rintro e w9 ⟨rfl, hw9⟩; replace hw9 := hw9.symm; subst hw9))
    go_ret
    exact ⟨by first | rfl | simp, HB3.out⟩
  have e2 : (k == 2) = false := by simp [k2]
  by_cases k3 : k = 3
  · subst k3
    rw [show fitT tinyLs 2 3 = true by kernel_rfl] at hX2
    go_wp2_with (go_at_call 15; first
      | (refine hX0.mono ?_; clear hX0; rintro e w9 ⟨rfl, hw9⟩; replace hw9 := hw9.symm; subst hw9)
      | (refine hX1.mono ?_; clear hX1; rintro e w9 ⟨rfl, hw9⟩; replace hw9 := hw9.symm; subst hw9)
      | (refine hX2.mono ?_; clear hX2; rintro e w9 ⟨rfl, hw9⟩; replace hw9 := hw9.symm; subst hw9)
      | (refine hX3.mono ?_; rintro e w9 ⟨rfl, hw9⟩; replace hw9 := hw9.symm; subst hw9))
    go_ret
    exact ⟨by first | rfl | simp, HB3.out⟩
  have e3 : (k == 3) = false := by simp [k3]
  by_cases k4 : k = 4
  · subst k4
    rw [show fitT tinyLs 2 4 = true by kernel_rfl] at hX2
    go_wp2_with (go_at_call 15; first
      | (refine hX0.mono ?_; clear hX0; rintro e w9 ⟨rfl, hw9⟩; replace hw9 := hw9.symm; subst hw9)
      | (refine hX1.mono ?_; clear hX1; rintro e w9 ⟨rfl, hw9⟩; replace hw9 := hw9.symm; subst hw9)
      | (refine hX2.mono ?_; clear hX2; rintro e w9 ⟨rfl, hw9⟩; replace hw9 := hw9.symm; subst hw9)
      | (refine hX3.mono ?_; rintro e w9 ⟨rfl, hw9⟩; replace hw9 := hw9.symm; subst hw9))
    go_ret
    exact ⟨by first | rfl | simp, HB3.out⟩
  have e4 : (k == 4) = false := by simp [k4]
  have hR : fitT tinyLs 2 k = refT k := by
    have e5 : ((2 : Int) == k) = false := by rw [beq_eq_false_iff_ne]; exact fun q => k2 q.symm
    unfold fitT
    rw [e0, e5, show refT 2 = true from rfl, show ((2 : Int) == 2) = true from rfl]
    simp
  rw [hR] at hX2
  by_cases k16 : 16 ≤ k
  · rw [show refT k = true by simp [refT, k16]] at hX2
    have d16 : decide (16 ≤ k) = true := by simp [k16]
    by_cases k28 : k < 28
    · have d28 : decide (k < 28) = true := by simp [k28]
      have d29 : decide (28 ≤ k) = false := by simp; omega
      clear k0 k2 k3 k4 hR
      go_wp2_with (go_at_call 15; first
        | (refine hX0.mono ?_; clear hX0; rintro e w9 ⟨rfl, hw9⟩; replace hw9 := hw9.symm; subst hw9)
        | (refine hX1.mono ?_; clear hX1; rintro e w9 ⟨rfl, hw9⟩; replace hw9 := hw9.symm; subst hw9)
        | (refine hX2.mono ?_; clear hX2; rintro e w9 ⟨rfl, hw9⟩; replace hw9 := hw9.symm; subst hw9)
        | (refine hX3.mono ?_; rintro e w9 ⟨rfl, hw9⟩; replace hw9 := hw9.symm; subst hw9))
      go_ret
      exact ⟨by first | rfl | simp, HB3.out⟩
    · have d28 : decide (k < 28) = false := by simp; omega
      have d29 : decide (28 ≤ k) = true := by simp; omega
      clear k0 k2 k3 k4 hR k28
      go_wp2_with (go_at_call 15; first
        | (refine hX0.mono ?_; clear hX0; rintro e w9 ⟨rfl, hw9⟩; replace hw9 := hw9.symm; subst hw9)
        | (refine hX1.mono ?_; clear hX1; rintro e w9 ⟨rfl, hw9⟩; replace hw9 := hw9.symm; subst hw9)
        | (refine hX2.mono ?_; clear hX2; rintro e w9 ⟨rfl, hw9⟩; replace hw9 := hw9.symm; subst hw9)
        | (refine hX3.mono ?_; rintro e w9 ⟨rfl, hw9⟩; replace hw9 := hw9.symm; subst hw9))
      go_ret
      exact ⟨by first | rfl | simp, HB3.out⟩
  · rw [show refT k = false by simp [refT, k2, k3, k4]; omega] at hX2
    have d16 : decide (16 ≤ k) = false := by simp; omega
    have d29 : decide (28 ≤ k) = false := by simp; omega
    clear k0 k2 k3 k4 hR k16
    go_wp2_with (go_at_call 15; first
      | (refine hX0.mono ?_; clear hX0; rintro e w9 ⟨rfl, hw9⟩; replace hw9 := hw9.symm; subst hw9)
      | (refine hX1.mono ?_; clear hX1; rintro e w9 ⟨rfl, hw9⟩; replace hw9 := hw9.symm; subst hw9)
      | (refine hX2.mono ?_; clear hX2; rintro e w9 ⟨rfl, hw9⟩; replace hw9 := hw9.symm; subst hw9)
      | (refine hX3.mono ?_; rintro e w9 ⟨rfl, hw9⟩; replace hw9 := hw9.symm; subst hw9))
    go_ret
    exact ⟨by first | rfl | simp, HB3.out⟩
end Go.Proofs.YtloppgibgohggaaDoor
