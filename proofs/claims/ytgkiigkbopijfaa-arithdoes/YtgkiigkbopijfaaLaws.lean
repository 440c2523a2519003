/- The walk of the law ArithLaws (function 4): it returns true whatever the three ints are; and of 'number' (function 10). No condition. -/
import Derived.Test.YtgkiigkbopijfaaSums
import Derived.Test.YtgkiigkbopijfaaDo
namespace Go.Proofs.Ytgkiigkbopijfaa
open Go.RowKit

theorem tmod_lo (x : Int) : -4294967296 < x.tmod 4294967296 := by
  by_cases h : 0 ≤ x
  · have := Int.tmod_nonneg 4294967296 h; omega
  · have e : x.tmod 4294967296 = -((-x).tmod 4294967296) := by rw [Int.neg_tmod]; omega
    have := Int.tmod_lt_of_pos (-x) (show (0 : Int) < 4294967296 by omega); omega
theorem tmod_hi (x : Int) : x.tmod 4294967296 < 4294967296 := Int.tmod_lt_of_pos x (by omega)
theorem tmod_w (x : Int) : wrap32 x = wrap32 (x.tmod 4294967296) := by
  have := Int.mul_tdiv_add_tmod x 4294967296
  exact w32_of (x.tdiv 4294967296) (by omega)
theorem nw1 {x : Int} (_h : x.tmod 4294967296 < 0) (h' : 2147483647 < x.tmod 4294967296 + 4294967296) : x.tmod 4294967296 = wrap32 x := by
  rw [tmod_w]; unfold wrap32; have := tmod_lo x; omega
theorem nw2 {x : Int} (_h : x.tmod 4294967296 < 0) (h' : x.tmod 4294967296 + 4294967296 ≤ 2147483647) : x.tmod 4294967296 + 4294967296 = wrap32 x := by
  rw [tmod_w]; unfold wrap32; have := tmod_lo x; omega
theorem nw3 {x : Int} (h' : 2147483647 < x.tmod 4294967296) : x.tmod 4294967296 - 4294967296 = wrap32 x := by
  rw [tmod_w]; unfold wrap32; have := tmod_hi x; omega
theorem nw4 {x : Int} (h : 0 ≤ x.tmod 4294967296) (h' : x.tmod 4294967296 ≤ 2147483647) : x.tmod 4294967296 = wrap32 x := by
  rw [tmod_w]; unfold wrap32; omega

set_option maxHeartbeats 400000 in
theorem number_any (x : Int) (w : World) :
    Calls Try.prog 10 #[.int .i64 x] w fun e w' => e = .returned (.int .i64 (wrap32 x)) ∧ w' = w := by
  have t1 := tmod_lo x
  have t2 := tmod_hi x
  by_cases c1 : x.tmod 4294967296 < 0
  · by_cases c2 : 2147483647 < x.tmod 4294967296 + 4294967296
    · go_enter Try.func10, Try.ntmps10
      go_wp2
      go_ret
      exact ⟨ret_int (nw1 c1 c2), rfl⟩
    · go_enter Try.func10, Try.ntmps10
      go_wp2
      go_ret
      exact ⟨ret_int (nw2 c1 (by omega)), rfl⟩
  · by_cases c2 : 2147483647 < x.tmod 4294967296
    · go_enter Try.func10, Try.ntmps10
      go_wp2
      go_ret
      exact ⟨ret_int (nw3 c2), rfl⟩
    · go_enter Try.func10, Try.ntmps10
      go_wp2
      go_ret
      exact ⟨ret_int (nw4 (by omega) (by omega)), rfl⟩

theorem ret_bool {x y : Bool} (h : x = y) : Ending.returned (.bool x) = .returned (.bool y) := by rw [h]
theorem ne_false {x y : Int} (h : x = y) : (x != y) = false := by simp [h]
theorem eq_true {x y : Int} (h : x = y) : (x == y) = true := by simp [h]

set_option maxHeartbeats 1000000 in
theorem laws_walk (p q r : Int) (w : World) :
    Calls Try.prog 4 #[.int .i64 p, .int .i64 q, .int .i64 r] w fun e w' => e = .returned (.bool true) ∧ Grown w w' := by
  have h1 := ne_false (add_turn (R_w p) (R_w q))
  have h2 := ne_false (mul_turn (R_w p) (R_w q))
  have h3 := ne_false (sub_undo (R_w p) (R_w q))
  have h4 := ne_false (neg_neg (R_w p))
  have h5 := ne_false (mul_spread (R_w p) (R_w q) (R_w r))
  have hg := Grown.refl w
  by_cases hq : wrap32 q = 0
  · have h6 : (wrap32 q == 0) = true := eq_true hq
    clear hq
    go_enter Try.func4, Try.ntmps4
    go_wp2_with (first | (go_at_call 9; refine (awake _ hg).mono ?_; clear hg; rintro e w1 ⟨rfl, hg⟩) | (go_at_call 10; refine (number_any _ _).mono ?_; rintro e w' ⟨rfl, rfl⟩) | (go_at_call 11; refine (dof _ _ _ _ hg).mono ?_; clear hg; rintro e w1 ⟨rfl, hg⟩))
    go_ret
    exact ⟨rfl, hg⟩
  · have h6 : (wrap32 q == 0) = false := by simp [hq]
    have h7 := eq_true (quo_rem (R_w p) (R_w q) hq)
    clear hq
    go_enter Try.func4, Try.ntmps4
    go_wp2_with (first | (go_at_call 9; refine (awake _ hg).mono ?_; clear hg; rintro e w1 ⟨rfl, hg⟩) | (go_at_call 10; refine (number_any _ _).mono ?_; rintro e w' ⟨rfl, rfl⟩) | (go_at_call 11; refine (dof _ _ _ _ hg).mono ?_; clear hg; rintro e w1 ⟨rfl, hg⟩))
    go_ret
    exact ⟨rfl, hg⟩
end Go.Proofs.Ytgkiigkbopijfaa
