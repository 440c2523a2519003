/- Package arith's Do, function 7: for any three ints it hands back V and okB (YtgkiigkbopijfaaMath) in a world that has at most grown; likewise 'do', function 11, and 'awake', function 9. No condition. -/
import Derived.Test.YtgkiigkbopijfaaDoyes
namespace Go.Proofs.Ytgkiigkbopijfaa
open Go.RowKit

theorem ok_false {op a b : Int} (h : ¬ ((0 ≤ op ∧ op ≤ 11) ∧ (-2147483648 ≤ a ∧ a ≤ 2147483647) ∧ (-2147483648 ≤ b ∧ b ≤ 2147483647) ∧ ¬ (b = 0 ∧ (op = 3 ∨ op = 4)))) : okB op a b = false := by
  cases e : okB op a b with
  | false => rfl
  | true => exact absurd (ok_of e) h

set_option maxHeartbeats 400000 in
theorem no_op1 (op a b : Int) (w : World) (hop : op < 0) :
    Calls Try.prog 7 #[.int .i64 op, .int .i64 a, .int .i64 b] w fun e w' => e = .returned (.tuple #[.int .i64 (V op a b), .bool (okB op a b)]) ∧ Grown w w' := by
  have HO : Hid (okB op a b = false) := ok_false (by omega)
  go_enter Try.func7, Try.ntmps7
  go_wp2_with (first | (go_at_call 12; refine (table_any _).mono ?_; rintro e w' ⟨rfl, rfl⟩) | go_in)
  go_ret2
  exact ⟨fin_no HO.out, by repeat (first | exact Grown.refl _ | apply Grown.drew | apply Grown.alloc)⟩

set_option maxHeartbeats 400000 in
theorem no_op2 (op a b : Int) (w : World) (hop : 12 ≤ op) :
    Calls Try.prog 7 #[.int .i64 op, .int .i64 a, .int .i64 b] w fun e w' => e = .returned (.tuple #[.int .i64 (V op a b), .bool (okB op a b)]) ∧ Grown w w' := by
  have HO : Hid (okB op a b = false) := ok_false (by omega)
  go_enter Try.func7, Try.ntmps7
  go_wp2_with (first | (go_at_call 12; refine (table_any _).mono ?_; rintro e w' ⟨rfl, rfl⟩) | go_in)
  go_ret2
  exact ⟨fin_no HO.out, by repeat (first | exact Grown.refl _ | apply Grown.drew | apply Grown.alloc)⟩

set_option maxHeartbeats 400000 in
theorem no_a1 (op a b : Int) (w : World) (hop : 0 ≤ op) (hop' : op < 12) (ha : a < -2147483648) :
    Calls Try.prog 7 #[.int .i64 op, .int .i64 a, .int .i64 b] w fun e w' => e = .returned (.tuple #[.int .i64 (V op a b), .bool (okB op a b)]) ∧ Grown w w' := by
  have HO : Hid (okB op a b = false) := ok_false (by omega)
  go_enter Try.func7, Try.ntmps7
  go_wp2_with (first | (go_at_call 12; refine (table_any _).mono ?_; rintro e w' ⟨rfl, rfl⟩) | go_in)
  go_ret2
  exact ⟨fin_no HO.out, by repeat (first | exact Grown.refl _ | apply Grown.drew | apply Grown.alloc)⟩

set_option maxHeartbeats 400000 in
theorem no_a2 (op a b : Int) (w : World) (hop : 0 ≤ op) (hop' : op < 12) (ha : 2147483647 < a) :
    Calls Try.prog 7 #[.int .i64 op, .int .i64 a, .int .i64 b] w fun e w' => e = .returned (.tuple #[.int .i64 (V op a b), .bool (okB op a b)]) ∧ Grown w w' := by
  have HO : Hid (okB op a b = false) := ok_false (by omega)
  have ha0 : -2147483648 ≤ a := by omega
  have hd : decide (a ≤ 2147483647) = false := by simp; omega
  go_enter Try.func7, Try.ntmps7
  go_wp2_with (first | (go_at_call 12; refine (table_any _).mono ?_; rintro e w' ⟨rfl, rfl⟩) | go_in)
  go_ret2
  exact ⟨fin_no HO.out, by repeat (first | exact Grown.refl _ | apply Grown.drew | apply Grown.alloc)⟩

set_option maxHeartbeats 400000 in
theorem no_b1 (op a b : Int) (w : World) (hop : 0 ≤ op) (hop' : op < 12) (ha : -2147483648 ≤ a) (ha' : a ≤ 2147483647) (hb : b < -2147483648) :
    Calls Try.prog 7 #[.int .i64 op, .int .i64 a, .int .i64 b] w fun e w' => e = .returned (.tuple #[.int .i64 (V op a b), .bool (okB op a b)]) ∧ Grown w w' := by
  have HO : Hid (okB op a b = false) := ok_false (by omega)
  go_enter Try.func7, Try.ntmps7
  go_wp2_with (first | (go_at_call 12; refine (table_any _).mono ?_; rintro e w' ⟨rfl, rfl⟩) | go_in)
  go_ret2
  exact ⟨fin_no HO.out, by repeat (first | exact Grown.refl _ | apply Grown.drew | apply Grown.alloc)⟩

set_option maxHeartbeats 400000 in
theorem no_b2 (op a b : Int) (w : World) (hop : 0 ≤ op) (hop' : op < 12) (ha : -2147483648 ≤ a) (ha' : a ≤ 2147483647) (hb : 2147483647 < b) :
    Calls Try.prog 7 #[.int .i64 op, .int .i64 a, .int .i64 b] w fun e w' => e = .returned (.tuple #[.int .i64 (V op a b), .bool (okB op a b)]) ∧ Grown w w' := by
  have HO : Hid (okB op a b = false) := ok_false (by omega)
  have hb0 : -2147483648 ≤ b := by omega
  have hd : decide (b ≤ 2147483647) = false := by simp; omega
  go_enter Try.func7, Try.ntmps7
  go_wp2_with (first | (go_at_call 12; refine (table_any _).mono ?_; rintro e w' ⟨rfl, rfl⟩) | go_in)
  go_ret2
  exact ⟨fin_no HO.out, by repeat (first | exact Grown.refl _ | apply Grown.drew | apply Grown.alloc)⟩

set_option maxHeartbeats 400000 in
theorem no_quo (a b : Int) (w : World) (ha : -2147483648 ≤ a) (ha' : a ≤ 2147483647)  (hb : -2147483648 ≤ b) (hb' : b ≤ 2147483647) (h : (b == 0) = true) (h0 : Hid (b = 0)) :
    Calls Try.prog 7 #[.int .i64 3, .int .i64 a, .int .i64 b] w fun e w' => e = .returned (.tuple #[.int .i64 (V 3 a b), .bool (okB 3 a b)]) ∧ Grown w w' := by
  have HO : Hid (okB 3 a b = false) := ok_false (by have := h0.out; omega)
  go_enter Try.func7, Try.ntmps7
  go_wp2_with (first | (go_at_call 12; refine (table_any _).mono ?_; rintro e w' ⟨rfl, rfl⟩) | (go_at_call 23; refine (quo_no _ _ h _).mono ?_; rintro e w' ⟨rfl, rfl⟩) | go_in)
  go_ret2
  exact ⟨fin_no HO.out, by repeat (first | exact Grown.refl _ | apply Grown.drew | apply Grown.alloc)⟩

set_option maxHeartbeats 400000 in
theorem no_rem (a b : Int) (w : World) (ha : -2147483648 ≤ a) (ha' : a ≤ 2147483647)  (hb : -2147483648 ≤ b) (hb' : b ≤ 2147483647) (h : (b == 0) = true) (h0 : Hid (b = 0)) :
    Calls Try.prog 7 #[.int .i64 4, .int .i64 a, .int .i64 b] w fun e w' => e = .returned (.tuple #[.int .i64 (V 4 a b), .bool (okB 4 a b)]) ∧ Grown w w' := by
  have HO : Hid (okB 4 a b = false) := ok_false (by have := h0.out; omega)
  go_enter Try.func7, Try.ntmps7
  go_wp2_with (first | (go_at_call 12; refine (table_any _).mono ?_; rintro e w' ⟨rfl, rfl⟩) | (go_at_call 24; refine (rem_no _ _ h _).mono ?_; rintro e w' ⟨rfl, rfl⟩) | go_in)
  go_ret2
  exact ⟨fin_no HO.out, by repeat (first | exact Grown.refl _ | apply Grown.drew | apply Grown.alloc)⟩

theorem do_any (op a b : Int) (w : World) :
    Calls Try.prog 7 #[.int .i64 op, .int .i64 a, .int .i64 b] w fun e w' => e = .returned (.tuple #[.int .i64 (V op a b), .bool (okB op a b)]) ∧ Grown w w' := by
  by_cases o1 : op < 0
  · exact no_op1 op a b w o1
  by_cases o2 : 12 ≤ op
  · exact no_op2 op a b w o2
  by_cases a1 : a < -2147483648
  · exact no_a1 op a b w (by omega) (by omega) a1
  by_cases a2 : 2147483647 < a
  · exact no_a2 op a b w (by omega) (by omega) a2
  by_cases b1 : b < -2147483648
  · exact no_b1 op a b w (by omega) (by omega) (by omega) (by omega) b1
  by_cases b2 : 2147483647 < b
  · exact no_b2 op a b w (by omega) (by omega) (by omega) (by omega) b2
  have ha : -2147483648 ≤ a := by omega
  have ha' : a ≤ 2147483647 := by omega
  have hb : -2147483648 ≤ b := by omega
  have hb' : b ≤ 2147483647 := by omega
  by_cases e0 : op = 0
  · subst e0
    exact do_0 a b w ha ha' hb hb'
  by_cases e1 : op = 1
  · subst e1
    exact do_1 a b w ha ha' hb hb'
  by_cases e2 : op = 2
  · subst e2
    exact do_2 a b w ha ha' hb hb'
  by_cases e3 : op = 3
  · subst e3
    by_cases z : b = 0
    · exact no_quo a b w ha ha' hb hb' (by simp [z]) z
    · exact do_3 a b w ha ha' hb hb' (by simp [z]) z
  by_cases e4 : op = 4
  · subst e4
    by_cases z : b = 0
    · exact no_rem a b w ha ha' hb hb' (by simp [z]) z
    · exact do_4 a b w ha ha' hb hb' (by simp [z]) z
  by_cases e5 : op = 5
  · subst e5
    exact do_5 a b w ha ha' hb hb'
  by_cases e6 : op = 6
  · subst e6
    exact do_6 a b w ha ha' hb hb'
  by_cases e7 : op = 7
  · subst e7
    exact do_7 a b w ha ha' hb hb'
  by_cases e8 : op = 8
  · subst e8
    exact do_8 a b w ha ha' hb hb'
  by_cases e9 : op = 9
  · subst e9
    exact do_9 a b w ha ha' hb hb'
  by_cases e10 : op = 10
  · subst e10
    exact do_10 a b w ha ha' hb hb'
  obtain rfl : op = 11 := by omega
  exact do_11 a b w ha ha' hb hb'

/-- the same, told of a world that has grown already -/
theorem do_from {w0 : World} (op a b : Int) (w : World) (hg : Grown w0 w) :
    Calls Try.prog 7 #[.int .i64 op, .int .i64 a, .int .i64 b] w fun e w' => e = .returned (.tuple #[.int .i64 (V op a b), .bool (okB op a b)]) ∧ Grown w0 w' :=
  (do_any op a b w).mono fun _ _ ⟨he, h⟩ => ⟨he, grown_trans hg h⟩

set_option maxHeartbeats 400000 in
theorem dof_any (op a b : Int) (w : World) :
    Calls Try.prog 11 #[.int .i64 op, .int .i64 a, .int .i64 b] w fun e w' => e = .returned (.int .i64 (V op a b)) ∧ Grown w w' := by
  go_enter Try.func11, Try.ntmps11
  go_wp2_with (go_at_call 7; refine (do_any _ _ _ _).mono ?_; rintro e w1 ⟨rfl, hg⟩)
  go_ret
  exact ⟨rfl, hg⟩

theorem dof {w0 : World} (op a b : Int) (w : World) (hg : Grown w0 w) :
    Calls Try.prog 11 #[.int .i64 op, .int .i64 a, .int .i64 b] w fun e w' => e = .returned (.int .i64 (V op a b)) ∧ Grown w0 w' :=
  (dof_any op a b w).mono fun _ _ ⟨he, h⟩ => ⟨he, grown_trans hg h⟩

set_option maxHeartbeats 400000 in
theorem num_any (e : Int) (w : World) :
    Calls Try.prog 19 #[.int .i64 e] w fun r w' => r = .returned (.int .i64 e) ∧ w' = w := by
  go_enter Try.func19, Try.ntmps19
  go_wp2
  go_ret
  exact ⟨rfl, rfl⟩

theorem v_a : (V 3 (-2147483648) (-1) == -2147483648) = true := by decide +kernel
theorem o_a : okB 3 (-2147483648) (-1) = true := by decide +kernel
theorem o_b : okB 4 5 0 = false := by decide +kernel
theorem v_c : (V 9 3 33 == 6) = true := by decide +kernel
theorem o_c : okB 9 3 33 = true := by decide +kernel

set_option maxHeartbeats 400000 in
theorem awake_any (w : World) :
    Calls Try.prog 9 #[] w fun e w' => e = .returned (.bool true) ∧ Grown w w' := by
  have h1 := v_a
  have h2 := o_a
  have h3 := o_b
  have h4 := v_c
  have h5 := o_c
  have hg := Grown.refl w
  go_enter Try.func9, Try.ntmps9
  go_wp2_with (first | (go_at_call 7; refine (do_from _ _ _ _ hg).mono ?_; clear hg; rintro e w1 ⟨rfl, hg⟩) | (go_at_call 19; refine (num_any _ _).mono ?_; rintro e w' ⟨rfl, rfl⟩))
  go_ret
  exact ⟨rfl, hg⟩

theorem awake {w0 : World} (w : World) (hg : Grown w0 w) :
    Calls Try.prog 9 #[] w fun e w' => e = .returned (.bool true) ∧ Grown w0 w' :=
  (awake_any w).mono fun _ _ ⟨he, h⟩ => ⟨he, grown_trans hg h⟩

end Go.Proofs.Ytgkiigkbopijfaa
