/- The walk of the law ArithOrder (function 6): it returns true whatever the three ints are. No condition. -/
import Derived.Test.YtgkiigkbopijfaaLaws
namespace Go.Proofs.Ytgkiigkbopijfaa
open Go.RowKit

theorem t31_lo (x : Int) : -31 < x.tmod 31 := by
  by_cases h : 0 ≤ x
  · have := Int.tmod_nonneg 31 h; omega
  · have e : x.tmod 31 = -((-x).tmod 31) := by rw [Int.neg_tmod]; omega
    have := Int.tmod_lt_of_pos (-x) (show (0 : Int) < 31 by omega); omega
theorem t31_hi (x : Int) : x.tmod 31 < 31 := Int.tmod_lt_of_pos x (by omega)
theorem noquo3 {a b : Int} (h : b = 0) : okB 3 a b = false := ok_false (by omega)

set_option maxHeartbeats 1000000 in
theorem order_neg (p q k : Int) (w : World) (hs : k.tmod 31 < 0) :
    Calls Try.prog 6 #[.int .i64 p, .int .i64 q, .int .i64 k] w fun e w' => e = .returned (.bool true) ∧ Grown w w' := by
  have k1 := t31_lo k
  have k2 := t31_hi k
  have h1 := ne_false (shl_mul (R_w p) (s := -k.tmod 31) (by omega) (by omega))
  obtain ⟨h2, h3⟩ := low_range (R_w p) (s := -k.tmod 31) (by omega) (by omega)
  have hg := Grown.refl w
  by_cases hq : wrap32 q = 0
  · have h4 : (wrap32 q == 0) = true := eq_true hq
    have h5 := noquo3 (a := wrap32 p) hq
    clear hq
    go_enter Try.func6, Try.ntmps6
    go_wp2_with (first | (go_at_call 9; refine (awake _ hg).mono ?_; clear hg; rintro e w1 ⟨rfl, hg⟩) | (go_at_call 10; refine (number_any _ _).mono ?_; rintro e w' ⟨rfl, rfl⟩) | (go_at_call 11; refine (dof _ _ _ _ hg).mono ?_; clear hg; rintro e w1 ⟨rfl, hg⟩) | (go_at_call 7; refine (do_from _ _ _ _ hg).mono ?_; clear hg; rintro e w1 ⟨rfl, hg⟩))
    go_ret
    exact ⟨rfl, hg⟩
  · have h4 : (wrap32 q == 0) = false := by simp [hq]
    by_cases hr : V 4 (wrap32 p) (wrap32 q) = 0
    · have h5 : (V 4 (wrap32 p) (wrap32 q) == 0) = true := eq_true hr
      clear hq hr
      go_enter Try.func6, Try.ntmps6
      go_wp2_with (first | (go_at_call 9; refine (awake _ hg).mono ?_; clear hg; rintro e w1 ⟨rfl, hg⟩) | (go_at_call 10; refine (number_any _ _).mono ?_; rintro e w' ⟨rfl, rfl⟩) | (go_at_call 11; refine (dof _ _ _ _ hg).mono ?_; clear hg; rintro e w1 ⟨rfl, hg⟩) | (go_at_call 7; refine (do_from _ _ _ _ hg).mono ?_; clear hg; rintro e w1 ⟨rfl, hg⟩))
      go_ret
      exact ⟨rfl, hg⟩
    · have h5 : (V 4 (wrap32 p) (wrap32 q) == 0) = false := by simp [hr]
      have h6 := rem_sign (R_w p) (R_w q) hq hr
      by_cases hp : wrap32 p < 0
      · have h7 := h6.2 hp
        clear hq hr h6
        go_enter Try.func6, Try.ntmps6
        go_wp2_with (first | (go_at_call 9; refine (awake _ hg).mono ?_; clear hg; rintro e w1 ⟨rfl, hg⟩) | (go_at_call 10; refine (number_any _ _).mono ?_; rintro e w' ⟨rfl, rfl⟩) | (go_at_call 11; refine (dof _ _ _ _ hg).mono ?_; clear hg; rintro e w1 ⟨rfl, hg⟩) | (go_at_call 7; refine (do_from _ _ _ _ hg).mono ?_; clear hg; rintro e w1 ⟨rfl, hg⟩))
        go_ret
        exact ⟨rfl, hg⟩
      · have h7 : ¬ V 4 (wrap32 p) (wrap32 q) < 0 := fun h => hp (h6.1 h)
        clear hq hr h6
        go_enter Try.func6, Try.ntmps6
        go_wp2_with (first | (go_at_call 9; refine (awake _ hg).mono ?_; clear hg; rintro e w1 ⟨rfl, hg⟩) | (go_at_call 10; refine (number_any _ _).mono ?_; rintro e w' ⟨rfl, rfl⟩) | (go_at_call 11; refine (dof _ _ _ _ hg).mono ?_; clear hg; rintro e w1 ⟨rfl, hg⟩) | (go_at_call 7; refine (do_from _ _ _ _ hg).mono ?_; clear hg; rintro e w1 ⟨rfl, hg⟩))
        go_ret
        exact ⟨ret_bool (by simp; omega), hg⟩

set_option maxHeartbeats 1000000 in
theorem order_pos (p q k : Int) (w : World) (hs : 0 ≤ k.tmod 31) :
    Calls Try.prog 6 #[.int .i64 p, .int .i64 q, .int .i64 k] w fun e w' => e = .returned (.bool true) ∧ Grown w w' := by
  have k1 := t31_lo k
  have k2 := t31_hi k
  have h1 := ne_false (shl_mul (R_w p) (s := k.tmod 31) (by omega) (by omega))
  obtain ⟨h2, h3⟩ := low_range (R_w p) (s := k.tmod 31) (by omega) (by omega)
  have hg := Grown.refl w
  by_cases hq : wrap32 q = 0
  · have h4 : (wrap32 q == 0) = true := eq_true hq
    have h5 := noquo3 (a := wrap32 p) hq
    clear hq
    go_enter Try.func6, Try.ntmps6
    go_wp2_with (first | (go_at_call 9; refine (awake _ hg).mono ?_; clear hg; rintro e w1 ⟨rfl, hg⟩) | (go_at_call 10; refine (number_any _ _).mono ?_; rintro e w' ⟨rfl, rfl⟩) | (go_at_call 11; refine (dof _ _ _ _ hg).mono ?_; clear hg; rintro e w1 ⟨rfl, hg⟩) | (go_at_call 7; refine (do_from _ _ _ _ hg).mono ?_; clear hg; rintro e w1 ⟨rfl, hg⟩))
    go_ret
    exact ⟨rfl, hg⟩
  · have h4 : (wrap32 q == 0) = false := by simp [hq]
    by_cases hr : V 4 (wrap32 p) (wrap32 q) = 0
    · have h5 : (V 4 (wrap32 p) (wrap32 q) == 0) = true := eq_true hr
      clear hq hr
      go_enter Try.func6, Try.ntmps6
      go_wp2_with (first | (go_at_call 9; refine (awake _ hg).mono ?_; clear hg; rintro e w1 ⟨rfl, hg⟩) | (go_at_call 10; refine (number_any _ _).mono ?_; rintro e w' ⟨rfl, rfl⟩) | (go_at_call 11; refine (dof _ _ _ _ hg).mono ?_; clear hg; rintro e w1 ⟨rfl, hg⟩) | (go_at_call 7; refine (do_from _ _ _ _ hg).mono ?_; clear hg; rintro e w1 ⟨rfl, hg⟩))
      go_ret
      exact ⟨rfl, hg⟩
    · have h5 : (V 4 (wrap32 p) (wrap32 q) == 0) = false := by simp [hr]
      have h6 := rem_sign (R_w p) (R_w q) hq hr
      by_cases hp : wrap32 p < 0
      · have h7 := h6.2 hp
        clear hq hr h6
        go_enter Try.func6, Try.ntmps6
        go_wp2_with (first | (go_at_call 9; refine (awake _ hg).mono ?_; clear hg; rintro e w1 ⟨rfl, hg⟩) | (go_at_call 10; refine (number_any _ _).mono ?_; rintro e w' ⟨rfl, rfl⟩) | (go_at_call 11; refine (dof _ _ _ _ hg).mono ?_; clear hg; rintro e w1 ⟨rfl, hg⟩) | (go_at_call 7; refine (do_from _ _ _ _ hg).mono ?_; clear hg; rintro e w1 ⟨rfl, hg⟩))
        go_ret
        exact ⟨rfl, hg⟩
      · have h7 : ¬ V 4 (wrap32 p) (wrap32 q) < 0 := fun h => hp (h6.1 h)
        clear hq hr h6
        go_enter Try.func6, Try.ntmps6
        go_wp2_with (first | (go_at_call 9; refine (awake _ hg).mono ?_; clear hg; rintro e w1 ⟨rfl, hg⟩) | (go_at_call 10; refine (number_any _ _).mono ?_; rintro e w' ⟨rfl, rfl⟩) | (go_at_call 11; refine (dof _ _ _ _ hg).mono ?_; clear hg; rintro e w1 ⟨rfl, hg⟩) | (go_at_call 7; refine (do_from _ _ _ _ hg).mono ?_; clear hg; rintro e w1 ⟨rfl, hg⟩))
        go_ret
        exact ⟨ret_bool (by simp; omega), hg⟩

theorem order_walk (p q k : Int) (w : World) :
    Calls Try.prog 6 #[.int .i64 p, .int .i64 q, .int .i64 k] w fun e w' => e = .returned (.bool true) ∧ Grown w w' := by
  by_cases hs : k.tmod 31 < 0
  · exact order_neg p q k w hs
  · exact order_pos p q k w (by omega)
end Go.Proofs.Ytgkiigkbopijfaa
