/- The walk of the law ArithBits (function 5): it returns true whatever the three ints are. No condition. -/
import Derived.Test.YtgkiigkbopijfaaLaws
namespace Go.Proofs.Ytgkiigkbopijfaa
open Go.RowKit

theorem and31 (k : Int) : 0 ≤ bits .and .i64 k 31 ∧ bits .and .i64 k 31 ≤ 31 := by
  have e : bits .and .i64 k 31 = IntKind.i64.wrap (((BitVec.ofInt 64 k &&& BitVec.ofInt 64 31).toNat : Nat) : Int) := rfl
  have h : (BitVec.ofInt 64 k &&& BitVec.ofInt 64 31).toNat ≤ 31 := by
    rw [BitVec.toNat_and]
    exact Nat.le_trans Nat.and_le_right (by decide)
  rw [e]
  generalize (BitVec.ofInt 64 k &&& BitVec.ofInt 64 31).toNat = n at h
  rw [IntKind.wrap_i64]
  omega

theorem sgn1 {a : Int} (ha : R a) (h : a < 0) : (V 10 a 31 == -1) = true ∧ (V 11 a 31 == 1) = true := by
  have h1 := sgn_shr ha
  have h2 := sgn_ushr ha
  simp [h] at h1 h2
  simp [h1, h2]
theorem sgn2 {a : Int} (ha : R a) (h : ¬ a < 0) : (V 10 a 31 == -1) = false ∧ (V 11 a 31 == 1) = false := by
  have h1 := sgn_shr ha
  have h2 := sgn_ushr ha
  simp [h] at h1 h2
  simp [h1, h2]

set_option maxHeartbeats 1000000 in
theorem bits_walk (p q k : Int) (w : World) :
    Calls Try.prog 5 #[.int .i64 p, .int .i64 q, .int .i64 k] w fun e w' => e = .returned (.bool true) ∧ Grown w w' := by
  have h1 := ne_false (and_or_sum (R_w p) (R_w q))
  have h2 := ne_false (or_less_and (R_w p) (R_w q))
  have h3 := ne_false (xor_undo (R_w p) (R_w q))
  obtain ⟨s0, s1⟩ := and31 k
  have h4 := ne_false (shl_back (R_w p) s0 s1)
  have h5 := ne_false (shl_32 (R_w p) s0 s1)
  have h6 := ne_false (shr_64 (R_w p) s0 s1)
  have hg := Grown.refl w
  by_cases hp : wrap32 p < 0
  · obtain ⟨h7, h8⟩ := sgn1 (R_w p) hp
    go_enter Try.func5, Try.ntmps5
    go_wp2_with (first | (go_at_call 9; refine (awake _ hg).mono ?_; clear hg; rintro e w1 ⟨rfl, hg⟩) | (go_at_call 10; refine (number_any _ _).mono ?_; rintro e w' ⟨rfl, rfl⟩) | (go_at_call 11; refine (dof _ _ _ _ hg).mono ?_; clear hg; rintro e w1 ⟨rfl, hg⟩) | (go_at_call 7; refine (do_from _ _ _ _ hg).mono ?_; clear hg; rintro e w1 ⟨rfl, hg⟩))
    go_ret
    exact ⟨rfl, hg⟩
  · obtain ⟨h7, h8⟩ := sgn2 (R_w p) hp
    go_enter Try.func5, Try.ntmps5
    go_wp2_with (first | (go_at_call 9; refine (awake _ hg).mono ?_; clear hg; rintro e w1 ⟨rfl, hg⟩) | (go_at_call 10; refine (number_any _ _).mono ?_; rintro e w' ⟨rfl, rfl⟩) | (go_at_call 11; refine (dof _ _ _ _ hg).mono ?_; clear hg; rintro e w1 ⟨rfl, hg⟩) | (go_at_call 7; refine (do_from _ _ _ _ hg).mono ?_; clear hg; rintro e w1 ⟨rfl, hg⟩))
    go_ret
    exact ⟨ret_bool (by simp [hp]), hg⟩
end Go.Proofs.Ytgkiigkbopijfaa
