/- Package arith's Do, function 7: for any three ints it hands back V and okB (YtgkiigkbopijfaaMath) in a world that has at most grown. No condition. -/
import Derived.Test.YtgkiigkbopijfaaMath
import Derived.Test.YtgkiigkbopijfaaLeaf
namespace Go.Proofs.Ytgkiigkbopijfaa
open Go.RowKit

theorem fin_yes {op a b x : Int} (h : okB op a b = true) (hv : val op a b = x) :
    Ending.returned (.tuple #[.int .i64 (wrap64 x), .bool true]) = .returned (.tuple #[.int .i64 (V op a b), .bool (okB op a b)]) := by
  have r := val_range (op := op) (b := b) (ok_of h).2.1.1 (ok_of h).2.1.2
  rw [h, V_yes h, hv, w64_id (by omega) (by omega)]
theorem fin_no {op a b : Int} (h : okB op a b = false) :
    Ending.returned (.tuple #[.int .i64 0, .bool false]) = .returned (.tuple #[.int .i64 (V op a b), .bool (okB op a b)]) := by
  rw [h, V_no h]

set_option maxHeartbeats 400000 in
theorem do_0 (a b : Int) (w : World) (ha : -2147483648 ≤ a) (ha' : a ≤ 2147483647) (hb : -2147483648 ≤ b) (hb' : b ≤ 2147483647) :
    Calls Try.prog 7 #[.int .i64 0, .int .i64 a, .int .i64 b] w fun e w' => e = .returned (.tuple #[.int .i64 (V 0 a b), .bool (okB 0 a b)]) ∧ Grown w w' := by
  have HO : Hid (okB 0 a b = true) := ok_mk (by omega)
  go_enter Try.func7, Try.ntmps7
  go_wp2_with (first | (go_at_call 12; refine (table_any _).mono ?_; rintro e w' ⟨rfl, rfl⟩) | (go_at_call 20; refine (sum_any _ _ _).mono ?_; rintro e w' ⟨rfl, rfl⟩) | go_in)
  go_ret2
  exact ⟨fin_yes HO.out (by simp [val]), by repeat (first | exact Grown.refl _ | apply Grown.drew | apply Grown.alloc)⟩

set_option maxHeartbeats 400000 in
theorem do_1 (a b : Int) (w : World) (ha : -2147483648 ≤ a) (ha' : a ≤ 2147483647) (hb : -2147483648 ≤ b) (hb' : b ≤ 2147483647) :
    Calls Try.prog 7 #[.int .i64 1, .int .i64 a, .int .i64 b] w fun e w' => e = .returned (.tuple #[.int .i64 (V 1 a b), .bool (okB 1 a b)]) ∧ Grown w w' := by
  have HO : Hid (okB 1 a b = true) := ok_mk (by omega)
  go_enter Try.func7, Try.ntmps7
  go_wp2_with (first | (go_at_call 12; refine (table_any _).mono ?_; rintro e w' ⟨rfl, rfl⟩) | (go_at_call 21; refine (dif_any _ _ _).mono ?_; rintro e w' ⟨rfl, rfl⟩) | go_in)
  go_ret2
  exact ⟨fin_yes HO.out (by simp [val]), by repeat (first | exact Grown.refl _ | apply Grown.drew | apply Grown.alloc)⟩

set_option maxHeartbeats 400000 in
theorem do_2 (a b : Int) (w : World) (ha : -2147483648 ≤ a) (ha' : a ≤ 2147483647) (hb : -2147483648 ≤ b) (hb' : b ≤ 2147483647) :
    Calls Try.prog 7 #[.int .i64 2, .int .i64 a, .int .i64 b] w fun e w' => e = .returned (.tuple #[.int .i64 (V 2 a b), .bool (okB 2 a b)]) ∧ Grown w w' := by
  have HO : Hid (okB 2 a b = true) := ok_mk (by omega)
  go_enter Try.func7, Try.ntmps7
  go_wp2_with (first | (go_at_call 12; refine (table_any _).mono ?_; rintro e w' ⟨rfl, rfl⟩) | (go_at_call 22; refine (mul_any _ _ _).mono ?_; rintro e w' ⟨rfl, rfl⟩) | go_in)
  go_ret2
  exact ⟨fin_yes HO.out (by simp [val]), by repeat (first | exact Grown.refl _ | apply Grown.drew | apply Grown.alloc)⟩

set_option maxHeartbeats 400000 in
theorem do_3 (a b : Int) (w : World) (ha : -2147483648 ≤ a) (ha' : a ≤ 2147483647) (hb : -2147483648 ≤ b) (hb' : b ≤ 2147483647) (h : (b == 0) = false) (h0 : b ≠ 0) :
    Calls Try.prog 7 #[.int .i64 3, .int .i64 a, .int .i64 b] w fun e w' => e = .returned (.tuple #[.int .i64 (V 3 a b), .bool (okB 3 a b)]) ∧ Grown w w' := by
  have HO : Hid (okB 3 a b = true) := ok_mk (by omega)
  go_enter Try.func7, Try.ntmps7
  go_wp2_with (first | (go_at_call 12; refine (table_any _).mono ?_; rintro e w' ⟨rfl, rfl⟩) | (go_at_call 23; refine (quo_yes _ _ h h0 _).mono ?_; rintro e w' ⟨rfl, rfl⟩) | go_in)
  go_ret2
  exact ⟨fin_yes HO.out (by simp [val]), by repeat (first | exact Grown.refl _ | apply Grown.drew | apply Grown.alloc)⟩

set_option maxHeartbeats 400000 in
theorem do_4 (a b : Int) (w : World) (ha : -2147483648 ≤ a) (ha' : a ≤ 2147483647) (hb : -2147483648 ≤ b) (hb' : b ≤ 2147483647) (h : (b == 0) = false) (h0 : b ≠ 0) :
    Calls Try.prog 7 #[.int .i64 4, .int .i64 a, .int .i64 b] w fun e w' => e = .returned (.tuple #[.int .i64 (V 4 a b), .bool (okB 4 a b)]) ∧ Grown w w' := by
  have HO : Hid (okB 4 a b = true) := ok_mk (by omega)
  go_enter Try.func7, Try.ntmps7
  go_wp2_with (first | (go_at_call 12; refine (table_any _).mono ?_; rintro e w' ⟨rfl, rfl⟩) | (go_at_call 24; refine (rem_yes _ _ h h0 _).mono ?_; rintro e w' ⟨rfl, rfl⟩) | go_in)
  go_ret2
  exact ⟨fin_yes HO.out (by simp [val]), by repeat (first | exact Grown.refl _ | apply Grown.drew | apply Grown.alloc)⟩

set_option maxHeartbeats 400000 in
theorem do_5 (a b : Int) (w : World) (ha : -2147483648 ≤ a) (ha' : a ≤ 2147483647) (hb : -2147483648 ≤ b) (hb' : b ≤ 2147483647) :
    Calls Try.prog 7 #[.int .i64 5, .int .i64 a, .int .i64 b] w fun e w' => e = .returned (.tuple #[.int .i64 (V 5 a b), .bool (okB 5 a b)]) ∧ Grown w w' := by
  have HO : Hid (okB 5 a b = true) := ok_mk (by omega)
  go_enter Try.func7, Try.ntmps7
  go_wp2_with (first | (go_at_call 12; refine (table_any _).mono ?_; rintro e w' ⟨rfl, rfl⟩) | (go_at_call 25; refine (neg_any _ _ _).mono ?_; rintro e w' ⟨rfl, rfl⟩) | go_in)
  go_ret2
  exact ⟨fin_yes HO.out (by simp [val]), by repeat (first | exact Grown.refl _ | apply Grown.drew | apply Grown.alloc)⟩

set_option maxHeartbeats 400000 in
theorem do_6 (a b : Int) (w : World) (ha : -2147483648 ≤ a) (ha' : a ≤ 2147483647) (hb : -2147483648 ≤ b) (hb' : b ≤ 2147483647) :
    Calls Try.prog 7 #[.int .i64 6, .int .i64 a, .int .i64 b] w fun e w' => e = .returned (.tuple #[.int .i64 (V 6 a b), .bool (okB 6 a b)]) ∧ Grown w w' := by
  have HO : Hid (okB 6 a b = true) := ok_mk (by omega)
  go_enter Try.func7, Try.ntmps7
  go_wp2_with (first | (go_at_call 12; refine (table_any _).mono ?_; rintro e w' ⟨rfl, rfl⟩) | (go_at_call 26; refine (and_any _ _ _).mono ?_; rintro e w' ⟨rfl, rfl⟩) | go_in)
  go_ret2
  exact ⟨fin_yes HO.out (by simp [val]), by repeat (first | exact Grown.refl _ | apply Grown.drew | apply Grown.alloc)⟩

set_option maxHeartbeats 400000 in
theorem do_7 (a b : Int) (w : World) (ha : -2147483648 ≤ a) (ha' : a ≤ 2147483647) (hb : -2147483648 ≤ b) (hb' : b ≤ 2147483647) :
    Calls Try.prog 7 #[.int .i64 7, .int .i64 a, .int .i64 b] w fun e w' => e = .returned (.tuple #[.int .i64 (V 7 a b), .bool (okB 7 a b)]) ∧ Grown w w' := by
  have HO : Hid (okB 7 a b = true) := ok_mk (by omega)
  go_enter Try.func7, Try.ntmps7
  go_wp2_with (first | (go_at_call 12; refine (table_any _).mono ?_; rintro e w' ⟨rfl, rfl⟩) | (go_at_call 27; refine (or_any _ _ _).mono ?_; rintro e w' ⟨rfl, rfl⟩) | go_in)
  go_ret2
  exact ⟨fin_yes HO.out (by simp [val]), by repeat (first | exact Grown.refl _ | apply Grown.drew | apply Grown.alloc)⟩

set_option maxHeartbeats 400000 in
theorem do_8 (a b : Int) (w : World) (ha : -2147483648 ≤ a) (ha' : a ≤ 2147483647) (hb : -2147483648 ≤ b) (hb' : b ≤ 2147483647) :
    Calls Try.prog 7 #[.int .i64 8, .int .i64 a, .int .i64 b] w fun e w' => e = .returned (.tuple #[.int .i64 (V 8 a b), .bool (okB 8 a b)]) ∧ Grown w w' := by
  have HO : Hid (okB 8 a b = true) := ok_mk (by omega)
  go_enter Try.func7, Try.ntmps7
  go_wp2_with (first | (go_at_call 12; refine (table_any _).mono ?_; rintro e w' ⟨rfl, rfl⟩) | (go_at_call 28; refine (xor_any _ _ _).mono ?_; rintro e w' ⟨rfl, rfl⟩) | go_in)
  go_ret2
  exact ⟨fin_yes HO.out (by simp [val]), by repeat (first | exact Grown.refl _ | apply Grown.drew | apply Grown.alloc)⟩

set_option maxHeartbeats 400000 in
theorem do_9 (a b : Int) (w : World) (ha : -2147483648 ≤ a) (ha' : a ≤ 2147483647) (hb : -2147483648 ≤ b) (hb' : b ≤ 2147483647) :
    Calls Try.prog 7 #[.int .i64 9, .int .i64 a, .int .i64 b] w fun e w' => e = .returned (.tuple #[.int .i64 (V 9 a b), .bool (okB 9 a b)]) ∧ Grown w w' := by
  have HO : Hid (okB 9 a b = true) := ok_mk (by omega)
  go_enter Try.func7, Try.ntmps7
  go_wp2_with (first | (go_at_call 12; refine (table_any _).mono ?_; rintro e w' ⟨rfl, rfl⟩) | (go_at_call 29; refine (shl_any _ _ _).mono ?_; rintro e w' ⟨rfl, rfl⟩) | go_in)
  go_ret2
  exact ⟨fin_yes HO.out (by simp [val]), by repeat (first | exact Grown.refl _ | apply Grown.drew | apply Grown.alloc)⟩

set_option maxHeartbeats 400000 in
theorem do_10 (a b : Int) (w : World) (ha : -2147483648 ≤ a) (ha' : a ≤ 2147483647) (hb : -2147483648 ≤ b) (hb' : b ≤ 2147483647) :
    Calls Try.prog 7 #[.int .i64 10, .int .i64 a, .int .i64 b] w fun e w' => e = .returned (.tuple #[.int .i64 (V 10 a b), .bool (okB 10 a b)]) ∧ Grown w w' := by
  have HO : Hid (okB 10 a b = true) := ok_mk (by omega)
  go_enter Try.func7, Try.ntmps7
  go_wp2_with (first | (go_at_call 12; refine (table_any _).mono ?_; rintro e w' ⟨rfl, rfl⟩) | (go_at_call 30; refine (shr_any _ _ _).mono ?_; rintro e w' ⟨rfl, rfl⟩) | go_in)
  go_ret2
  exact ⟨fin_yes HO.out (by simp [val]), by repeat (first | exact Grown.refl _ | apply Grown.drew | apply Grown.alloc)⟩

set_option maxHeartbeats 400000 in
theorem do_11 (a b : Int) (w : World) (ha : -2147483648 ≤ a) (ha' : a ≤ 2147483647) (hb : -2147483648 ≤ b) (hb' : b ≤ 2147483647) :
    Calls Try.prog 7 #[.int .i64 11, .int .i64 a, .int .i64 b] w fun e w' => e = .returned (.tuple #[.int .i64 (V 11 a b), .bool (okB 11 a b)]) ∧ Grown w w' := by
  have HO : Hid (okB 11 a b = true) := ok_mk (by omega)
  go_enter Try.func7, Try.ntmps7
  go_wp2_with (first | (go_at_call 12; refine (table_any _).mono ?_; rintro e w' ⟨rfl, rfl⟩) | (go_at_call 31; refine (ushr_any _ _ _).mono ?_; rintro e w' ⟨rfl, rfl⟩) | go_in)
  go_ret2
  exact ⟨fin_yes HO.out (by simp [val]), by repeat (first | exact Grown.refl _ | apply Grown.drew | apply Grown.alloc)⟩

end Go.Proofs.Ytgkiigkbopijfaa
