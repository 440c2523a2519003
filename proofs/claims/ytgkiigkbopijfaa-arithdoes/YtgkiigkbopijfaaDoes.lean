/- The document's own Do (gneissref1.Do, function 8): for any three ints it hands back V and okB (YtgkiigkbopijfaaMath), and the world stays; the law ArithDoes (function 3) returns true. No condition. -/
import Derived.Test.YtgkiigkbopijfaaRefyes
namespace Go.Proofs.Ytgkiigkbopijfaa
open Go.RowKit

set_option maxHeartbeats 400000 in
theorem rno_op1 (op a b : Int) (w : World) (hop : op < 0) :
    Calls Try.prog 8 #[.int .i64 op, .int .i64 a, .int .i64 b] w fun e w' => e = .returned (.tuple #[.int .i64 (V op a b), .bool (okB op a b)]) ∧ w' = w := by
  have HO : Hid (okB op a b = false) := ok_false (by omega)
  go_enter Try.func8, Try.ntmps8
  go_wp2
  go_ret2
  exact ⟨fin_no HO.out, rfl⟩

set_option maxHeartbeats 400000 in
theorem rno_op2 (op a b : Int) (w : World) (hop : 11 < op) :
    Calls Try.prog 8 #[.int .i64 op, .int .i64 a, .int .i64 b] w fun e w' => e = .returned (.tuple #[.int .i64 (V op a b), .bool (okB op a b)]) ∧ w' = w := by
  have HO : Hid (okB op a b = false) := ok_false (by omega)
  go_enter Try.func8, Try.ntmps8
  go_wp2
  go_ret2
  exact ⟨fin_no HO.out, rfl⟩

set_option maxHeartbeats 400000 in
theorem rno_a1 (op a b : Int) (w : World) (hop : 0 ≤ op) (hop' : op ≤ 11) (ha : a < -2147483648) :
    Calls Try.prog 8 #[.int .i64 op, .int .i64 a, .int .i64 b] w fun e w' => e = .returned (.tuple #[.int .i64 (V op a b), .bool (okB op a b)]) ∧ w' = w := by
  have HO : Hid (okB op a b = false) := ok_false (by omega)
  go_enter Try.func8, Try.ntmps8
  go_wp2
  go_ret2
  exact ⟨fin_no HO.out, rfl⟩

set_option maxHeartbeats 400000 in
theorem rno_a2 (op a b : Int) (w : World) (hop : 0 ≤ op) (hop' : op ≤ 11) (ha : 2147483647 < a) :
    Calls Try.prog 8 #[.int .i64 op, .int .i64 a, .int .i64 b] w fun e w' => e = .returned (.tuple #[.int .i64 (V op a b), .bool (okB op a b)]) ∧ w' = w := by
  have HO : Hid (okB op a b = false) := ok_false (by omega)
  have ha0 : -2147483648 ≤ a := by omega
  have hd : decide (a ≤ 2147483647) = false := by simp; omega
  go_enter Try.func8, Try.ntmps8
  go_wp2
  go_ret2
  exact ⟨fin_no HO.out, rfl⟩

set_option maxHeartbeats 400000 in
theorem rno_b1 (op a b : Int) (w : World) (hop : 0 ≤ op) (hop' : op ≤ 11) (ha : -2147483648 ≤ a) (ha' : a ≤ 2147483647) (hb : b < -2147483648) :
    Calls Try.prog 8 #[.int .i64 op, .int .i64 a, .int .i64 b] w fun e w' => e = .returned (.tuple #[.int .i64 (V op a b), .bool (okB op a b)]) ∧ w' = w := by
  have HO : Hid (okB op a b = false) := ok_false (by omega)
  go_enter Try.func8, Try.ntmps8
  go_wp2
  go_ret2
  exact ⟨fin_no HO.out, rfl⟩

set_option maxHeartbeats 400000 in
theorem rno_b2 (op a b : Int) (w : World) (hop : 0 ≤ op) (hop' : op ≤ 11) (ha : -2147483648 ≤ a) (ha' : a ≤ 2147483647) (hb : 2147483647 < b) :
    Calls Try.prog 8 #[.int .i64 op, .int .i64 a, .int .i64 b] w fun e w' => e = .returned (.tuple #[.int .i64 (V op a b), .bool (okB op a b)]) ∧ w' = w := by
  have HO : Hid (okB op a b = false) := ok_false (by omega)
  have hb0 : -2147483648 ≤ b := by omega
  have hd : decide (b ≤ 2147483647) = false := by simp; omega
  go_enter Try.func8, Try.ntmps8
  go_wp2
  go_ret2
  exact ⟨fin_no HO.out, rfl⟩

set_option maxHeartbeats 400000 in
theorem rno_3 (a b : Int) (w : World) (ha : -2147483648 ≤ a) (ha' : a ≤ 2147483647)  (hb : -2147483648 ≤ b) (hb' : b ≤ 2147483647) (hz : (b == 0) = true) (h0 : Hid (b = 0)) :
    Calls Try.prog 8 #[.int .i64 3, .int .i64 a, .int .i64 b] w fun e w' => e = .returned (.tuple #[.int .i64 (V 3 a b), .bool (okB 3 a b)]) ∧ w' = w := by
  have HO : Hid (okB 3 a b = false) := ok_false (by have := h0.out; omega)
  go_enter Try.func8, Try.ntmps8
  go_wp2
  go_ret2
  exact ⟨fin_no HO.out, rfl⟩

set_option maxHeartbeats 400000 in
theorem rno_4 (a b : Int) (w : World) (ha : -2147483648 ≤ a) (ha' : a ≤ 2147483647)  (hb : -2147483648 ≤ b) (hb' : b ≤ 2147483647) (hz : (b == 0) = true) (h0 : Hid (b = 0)) :
    Calls Try.prog 8 #[.int .i64 4, .int .i64 a, .int .i64 b] w fun e w' => e = .returned (.tuple #[.int .i64 (V 4 a b), .bool (okB 4 a b)]) ∧ w' = w := by
  have HO : Hid (okB 4 a b = false) := ok_false (by have := h0.out; omega)
  go_enter Try.func8, Try.ntmps8
  go_wp2
  go_ret2
  exact ⟨fin_no HO.out, rfl⟩

theorem ref_any (op a b : Int) (w : World) :
    Calls Try.prog 8 #[.int .i64 op, .int .i64 a, .int .i64 b] w fun e w' => e = .returned (.tuple #[.int .i64 (V op a b), .bool (okB op a b)]) ∧ w' = w := by
  by_cases o1 : op < 0
  · exact rno_op1 op a b w o1
  by_cases o2 : 11 < op
  · exact rno_op2 op a b w o2
  by_cases a1 : a < -2147483648
  · exact rno_a1 op a b w (by omega) (by omega) a1
  by_cases a2 : 2147483647 < a
  · exact rno_a2 op a b w (by omega) (by omega) a2
  by_cases b1 : b < -2147483648
  · exact rno_b1 op a b w (by omega) (by omega) (by omega) (by omega) b1
  by_cases b2 : 2147483647 < b
  · exact rno_b2 op a b w (by omega) (by omega) (by omega) (by omega) b2
  have ha : -2147483648 ≤ a := by omega
  have ha' : a ≤ 2147483647 := by omega
  have hb : -2147483648 ≤ b := by omega
  have hb' : b ≤ 2147483647 := by omega
  by_cases z : b = 0
  · by_cases e0 : op = 0
    · subst e0
      exact ref_0z a b w ha ha' hb hb' (by simp [z])
    by_cases e1 : op = 1
    · subst e1
      exact ref_1z a b w ha ha' hb hb' (by simp [z])
    by_cases e2 : op = 2
    · subst e2
      exact ref_2z a b w ha ha' hb hb' (by simp [z])
    by_cases e3 : op = 3
    · subst e3
      exact rno_3 a b w ha ha' hb hb' (by simp [z]) z
    by_cases e4 : op = 4
    · subst e4
      exact rno_4 a b w ha ha' hb hb' (by simp [z]) z
    by_cases e5 : op = 5
    · subst e5
      exact ref_5z a b w ha ha' hb hb' (by simp [z])
    by_cases e6 : op = 6
    · subst e6
      exact ref_6z a b w ha ha' hb hb' (by simp [z])
    by_cases e7 : op = 7
    · subst e7
      exact ref_7z a b w ha ha' hb hb' (by simp [z])
    by_cases e8 : op = 8
    · subst e8
      exact ref_8z a b w ha ha' hb hb' (by simp [z])
    by_cases e9 : op = 9
    · subst e9
      exact ref_9z a b w ha ha' hb hb' (by simp [z])
    by_cases e10 : op = 10
    · subst e10
      exact ref_10z a b w ha ha' hb hb' (by simp [z])
    obtain rfl : op = 11 := by omega
    by_cases s : a < 0
    · exact ref_11nz a b w ha ha' hb hb' (by simp [z]) s
    · exact ref_11pz a b w ha ha' hb hb' (by simp [z]) (by omega)
  · by_cases e0 : op = 0
    · subst e0
      exact ref_0 a b w ha ha' hb hb' (by simp [z])
    by_cases e1 : op = 1
    · subst e1
      exact ref_1 a b w ha ha' hb hb' (by simp [z])
    by_cases e2 : op = 2
    · subst e2
      exact ref_2 a b w ha ha' hb hb' (by simp [z])
    by_cases e3 : op = 3
    · subst e3
      exact ref_3 a b w ha ha' hb hb' (by simp [z]) z
    by_cases e4 : op = 4
    · subst e4
      exact ref_4 a b w ha ha' hb hb' (by simp [z]) z
    by_cases e5 : op = 5
    · subst e5
      exact ref_5 a b w ha ha' hb hb' (by simp [z])
    by_cases e6 : op = 6
    · subst e6
      exact ref_6 a b w ha ha' hb hb' (by simp [z])
    by_cases e7 : op = 7
    · subst e7
      exact ref_7 a b w ha ha' hb hb' (by simp [z])
    by_cases e8 : op = 8
    · subst e8
      exact ref_8 a b w ha ha' hb hb' (by simp [z])
    by_cases e9 : op = 9
    · subst e9
      exact ref_9 a b w ha ha' hb hb' (by simp [z])
    by_cases e10 : op = 10
    · subst e10
      exact ref_10 a b w ha ha' hb hb' (by simp [z])
    obtain rfl : op = 11 := by omega
    by_cases s : a < 0
    · exact ref_11n a b w ha ha' hb hb' (by simp [z]) s
    · exact ref_11p a b w ha ha' hb hb' (by simp [z]) (by omega)

theorem beq_self (x : Int) : (x == x) = true := by simp
theorem beq_selfb (x : Bool) : (x == x) = true := by simp

set_option maxHeartbeats 400000 in
theorem does_walk (op a b : Int) (w : World) :
    Calls Try.prog 3 #[.int .i64 op, .int .i64 a, .int .i64 b] w fun e w' => e = .returned (.bool true) ∧ Grown w w' := by
  have h1 := beq_self (V op a b)
  have h2 := beq_selfb (okB op a b)
  have hg := Grown.refl w
  go_enter Try.func3, Try.ntmps3
  go_wp2_with (first | (go_at_call 7; refine (do_from _ _ _ _ hg).mono ?_; clear hg; rintro e w1 ⟨rfl, hg⟩) | (go_at_call 8; refine (ref_any _ _ _ _).mono ?_; rintro e w' ⟨rfl, rfl⟩) | (go_at_call 9; refine (awake _ hg).mono ?_; clear hg; rintro e w1 ⟨rfl, hg⟩))
  go_ret
  exact ⟨rfl, hg⟩
end Go.Proofs.Ytgkiigkbopijfaa
