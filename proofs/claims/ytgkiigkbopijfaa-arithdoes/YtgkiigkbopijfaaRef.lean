/- The callees of the document's own Do (gneissref1): Wrap, bit, each, power, floor: what each returns; none turns the world. Conditions (a range, a count) stand in each theorem. -/
import Derived.Test.YtgkiigkbopijfaaLaws
namespace Go.Proofs.Ytgkiigkbopijfaa
open Go.RowKit

set_option maxHeartbeats 400000 in
theorem wrap_any (x : Int) (w : World) :
    Calls Try.prog 15 #[.int .i64 x] w fun e w' => e = .returned (.int .i64 (wrap32 x)) ∧ w' = w := by
  have t1 := tmod_lo x
  have t2 := tmod_hi x
  by_cases c1 : x.tmod 4294967296 < 0
  · by_cases c2 : 2147483647 < x.tmod 4294967296 + 4294967296
    · go_enter Try.func15, Try.ntmps15
      go_wp2
      go_ret
      exact ⟨ret_int (nw1 c1 c2), rfl⟩
    · go_enter Try.func15, Try.ntmps15
      go_wp2
      go_ret
      exact ⟨ret_int (nw2 c1 (by omega)), rfl⟩
  · by_cases c2 : 2147483647 < x.tmod 4294967296
    · go_enter Try.func15, Try.ntmps15
      go_wp2
      go_ret
      exact ⟨ret_int (nw3 c2), rfl⟩
    · go_enter Try.func15, Try.ntmps15
      go_wp2
      go_ret
      exact ⟨ret_int (nw4 (by omega) (by omega)), rfl⟩

/-- bit n of a number's 32 -/
def bt (x : Int) (n : Nat) : Bool := (x % 4294967296).toNat.testBit n

theorem bt_eq {x u : Int} {n : Nat} (h0 : 0 ≤ u) (h : x % 4294967296 = u) : (u / 2 ^ n % 2 == 1) = bt x n := by
  unfold bt
  rw [h, Nat.testBit_eq_decide_div_mod_eq]
  obtain ⟨m, rfl⟩ := Int.eq_ofNat_of_zero_le h0
  rw [Int.toNat_natCast]
  have e : (m : Int) / 2 ^ n % 2 = ((m / 2 ^ n % 2 : Nat) : Int) := by simp
  rw [e, Bool.eq_iff_iff]
  simp
  omega

theorem div_step (u : Int) (n : Nat) : u / 2 ^ n / 2 = u / 2 ^ (n + 1) := by
  rw [Int.ediv_ediv_of_nonneg (Int.le_of_lt (Int.pow_pos (by omega))), Int.pow_succ]
theorem div_bd {u : Int} (h0 : 0 ≤ u) (h : u < 4294967296) (n : Nat) : 0 ≤ u / 2 ^ n ∧ u / 2 ^ n < 4294967296 := by
  have p := pow_pos2 n
  have := Int.ediv_nonneg h0 (show (0 : Int) ≤ 2 ^ n by omega)
  have := Int.ediv_le_self (2 ^ n) h0
  omega

set_option maxHeartbeats 400000 in
theorem bit_pos (x : Int) (n : Nat) (w : World) (h0 : 0 ≤ x) (h1 : x < 4294967296) (hn : n ≤ 32) :
    Calls Try.prog 32 #[.int .i64 x, .int .i64 n] w fun e w' => e = .returned (.bool (bt x n)) ∧ w' = w := by
  have HE : Hid ((x / 2 ^ n % 2 == 1) = bt x n) := bt_eq h0 (by omega)
  go_enter Try.func32, Try.ntmps32
  go_wp2
  go_loop [0, 5] (fun t i => ∃ k : Nat, k ≤ n ∧ i = .int .i64 k ∧ t = .int .i64 (x / 2 ^ k)) (fun _ i => n - (intOf i).toNat)
  case atStart => exact ⟨0, Nat.zero_le _, rfl, by simp⟩
  case round =>
    obtain ⟨k, hk, rfl, rfl⟩ := hrel
    obtain ⟨d0, d1⟩ := div_bd h0 h1 k
    by_cases hlt : k < n
    · go_wp2
      go_round
      case rel => exact ⟨k + 1, by omega, by go_num, by rw [← div_step]⟩
      case measure => simp [intOf]; omega
    · obtain rfl : k = n := by omega
      go_wp2
      go_ret
      exact ⟨ret_bool HE.out, rfl⟩

set_option maxHeartbeats 400000 in
theorem bit_neg (x : Int) (n : Nat) (w : World) (h0 : x < 0) (h1 : -2147483648 ≤ x) (hn : n ≤ 32) :
    Calls Try.prog 32 #[.int .i64 x, .int .i64 n] w fun e w' => e = .returned (.bool (bt x n)) ∧ w' = w := by
  have HE : Hid (((x + 4294967296) / 2 ^ n % 2 == 1) = bt x n) := bt_eq (by omega) (by omega)
  go_enter Try.func32, Try.ntmps32
  go_wp2
  go_loop [0, 5] (fun t i => ∃ k : Nat, k ≤ n ∧ i = .int .i64 k ∧ t = .int .i64 ((x + 4294967296) / 2 ^ k)) (fun _ i => n - (intOf i).toNat)
  case atStart => exact ⟨0, Nat.zero_le _, rfl, by simp⟩
  case round =>
    obtain ⟨k, hk, rfl, rfl⟩ := hrel
    obtain ⟨d0, d1⟩ := div_bd (u := x + 4294967296) (by omega) (by omega) k
    by_cases hlt : k < n
    · go_wp2
      go_round
      case rel => exact ⟨k + 1, by omega, by go_num, by rw [← div_step]⟩
      case measure => simp [intOf]; omega
    · obtain rfl : k = n := by omega
      go_wp2
      go_ret
      exact ⟨ret_bool HE.out, rfl⟩

theorem bit_any (x : Int) (n : Nat) (w : World) (h0 : -2147483648 ≤ x) (h1 : x ≤ 2147483647) (hn : n ≤ 32) :
    Calls Try.prog 32 #[.int .i64 x, .int .i64 n] w fun e w' => e = .returned (.bool (bt x n)) ∧ w' = w := by
  by_cases h : x < 0
  · exact bit_neg x n w h h0 hn
  · exact bit_pos x n w (by omega) (by omega) hn

/-- the sum of the powers of two at which f says yes -/
def acc (f : Nat → Bool) : Nat → Int
  | 0 => 0
  | n + 1 => acc f n + if f n then 2 ^ n else 0

theorem acc_bd (f : Nat → Bool) (n : Nat) : 0 ≤ acc f n ∧ acc f n < 2 ^ n := by
  induction n with
  | zero => simp [acc]
  | succ n ih =>
    have p := pow_pos2 n
    rw [Int.pow_succ]
    unfold acc
    split <;> omega
theorem acc_bit (x n : Nat) : acc (fun i => x.testBit i) n = ((x % 2 ^ n : Nat) : Int) := by
  induction n with
  | zero => simp [acc, Nat.mod_one]
  | succ n ih =>
    rw [acc, ih, Nat.pow_succ, Nat.mod_mul, Nat.testBit_eq_decide_div_mod_eq]
    by_cases h : x / 2 ^ n % 2 = 1
    · simp [h]
    · have h0 : x / 2 ^ n % 2 = 0 := by omega
      simp [h0]
theorem acc_congr {f g : Nat → Bool} (h : ∀ i, f i = g i) (n : Nat) : acc f n = acc g n := by
  have : f = g := funext h
  rw [this]
theorem pow_32 (n : Nat) (h : n ≤ 32) : (2 : Int) ^ n ≤ 4294967296 := by
  have h2 : 2 ^ n ≤ 2 ^ 32 := Nat.pow_le_pow_right (by omega) h
  have e : (2 : Int) ^ n = ((2 ^ n : Nat) : Int) := by simp
  rw [e]
  omega

theorem each_and {a b : Int} : wrap32 (acc (fun i => bt a i && bt b i) 32) = bits .and .i32 a b := by
  rw [bits_and, acc_congr (g := fun i => ((a % 4294967296).toNat &&& (b % 4294967296).toNat).testBit i) (fun i => by rw [Nat.testBit_and]; rfl), acc_bit,
    Nat.mod_eq_of_lt (Nat.and_lt_two_pow _ (by omega))]
theorem each_or {a b : Int} : wrap32 (acc (fun i => bt a i || bt b i) 32) = bits .or .i32 a b := by
  rw [bits_or, acc_congr (g := fun i => ((a % 4294967296).toNat ||| (b % 4294967296).toNat).testBit i) (fun i => by rw [Nat.testBit_or]; rfl), acc_bit,
    Nat.mod_eq_of_lt (Nat.or_lt_two_pow (by omega) (by omega))]
theorem each_xor {a b : Int} : wrap32 (acc (fun i => bt a i != bt b i) 32) = bits .xor .i32 a b := by
  rw [bits_xor, acc_congr (g := fun i => ((a % 4294967296).toNat ^^^ (b % 4294967296).toNat).testBit i) (fun i => by rw [Nat.testBit_xor]; rfl), acc_bit,
    Nat.mod_eq_of_lt (Nat.xor_lt_two_pow (by omega) (by omega))]

set_option maxHeartbeats 400000 in
theorem power_any (b : Int) (w : World) :
    Calls Try.prog 17 #[.int .i64 b] w fun e w' => e = .returned (.int .i64 (2 ^ (b % 32).toNat)) ∧ w' = w := by
  have t1 : -32 < b.tmod 32 := by
    by_cases h : 0 ≤ b
    · have := Int.tmod_nonneg 32 h; omega
    · have e : b.tmod 32 = -((-b).tmod 32) := by rw [Int.neg_tmod]; omega
      have := Int.tmod_lt_of_pos (-b) (show (0 : Int) < 32 by omega); omega
  have t2 : b.tmod 32 < 32 := Int.tmod_lt_of_pos b (by omega)
  have t3 : b.tmod 32 < 0 ∧ b.tmod 32 + 32 = b % 32 ∨ 0 ≤ b.tmod 32 ∧ b.tmod 32 = b % 32 := by
    have := Int.mul_tdiv_add_tmod b 32
    omega
  rcases t3 with ⟨c, e⟩ | ⟨c, e⟩
  · have HE : Hid (b.tmod 32 + 32 = b % 32) := e
    clear e
    go_enter Try.func17, Try.ntmps17
    go_wp2
    go_loop [4, 5] (fun p i => ∃ k : Nat, (k : Int) ≤ b.tmod 32 + 32 ∧ i = .int .i64 k ∧ p = .int .i64 (2 ^ k)) (fun _ i => (b.tmod 32 + 32).toNat - (intOf i).toNat)
    case atStart => exact ⟨0, by omega, rfl, rfl⟩
    case round =>
      obtain ⟨k, hk, rfl, rfl⟩ := hrel
      have p1 := pow_pos2 k
      have p2 := pow_32 k (by omega)
      by_cases hlt : (k : Int) < b.tmod 32 + 32
      · go_wp2
        go_round
        case rel => exact ⟨k + 1, by omega, by go_num, by rw [Int.pow_succ]⟩
        case measure => simp [intOf]; omega
      · go_wp2
        go_ret
        exact ⟨ret_int (by rw [← HE.out, show (b.tmod 32 + 32).toNat = k by omega]), rfl⟩
  · have HE : Hid (b.tmod 32 = b % 32) := e
    clear e
    go_enter Try.func17, Try.ntmps17
    go_wp2
    go_loop [4, 5] (fun p i => ∃ k : Nat, (k : Int) ≤ b.tmod 32 ∧ i = .int .i64 k ∧ p = .int .i64 (2 ^ k)) (fun _ i => (b.tmod 32).toNat - (intOf i).toNat)
    case atStart => exact ⟨0, by omega, rfl, rfl⟩
    case round =>
      obtain ⟨k, hk, rfl, rfl⟩ := hrel
      have p1 := pow_pos2 k
      have p2 := pow_32 k (by omega)
      by_cases hlt : (k : Int) < b.tmod 32
      · go_wp2
        go_round
        case rel => exact ⟨k + 1, by omega, by go_num, by rw [Int.pow_succ]⟩
        case measure => simp [intOf]; omega
      · go_wp2
        go_ret
        exact ⟨ret_int (by rw [← HE.out, show (b.tmod 32).toNat = k by omega]), rfl⟩

theorem floor_eq1 {a p : Int} (hp : 1 ≤ p) (h : a.tmod p < 0) : a.tdiv p - 1 = a / p := by
  have e := Int.mul_tdiv_add_tmod a p
  have l : -p < a.tmod p := by
    have e2 : a.tmod p = -((-a).tmod p) := by rw [Int.neg_tmod]; omega
    have := Int.tmod_lt_of_pos (-a) (show (0 : Int) < p by omega); omega
  have e3 : a = (a.tmod p + p) + p * (a.tdiv p - 1) := by rw [Int.mul_sub, Int.mul_one]; omega
  conv => rhs; rw [e3]
  rw [Int.add_mul_ediv_left _ _ (by omega), Int.ediv_eq_zero_of_lt (by omega) (by omega)]
  omega
theorem floor_eq2 {a p : Int} (hp : 1 ≤ p) (h : ¬ a.tmod p < 0) : a.tdiv p = a / p := by
  have e := Int.mul_tdiv_add_tmod a p
  have l := Int.tmod_lt_of_pos a (show (0 : Int) < p by omega)
  have e3 : a = a.tmod p + p * a.tdiv p := by omega
  conv => rhs; rw [e3]
  rw [Int.add_mul_ediv_left _ _ (by omega), Int.ediv_eq_zero_of_lt (by omega) (by omega)]
  omega

set_option maxHeartbeats 400000 in
theorem floor_any (a p : Int) (w : World) (h0 : -2147483648 ≤ a) (h1 : a ≤ 2147483647) (hp : 1 ≤ p) :
    Calls Try.prog 18 #[.int .i64 a, .int .i64 p] w fun e w' => e = .returned (.int .i64 (a / p)) ∧ w' = w := by
  have hne : p ≠ 0 := by omega
  by_cases c : a.tmod p < 0
  · have HE : Hid (a.tdiv p - 1 = a / p) := floor_eq1 hp c
    go_enter Try.func18, Try.ntmps18
    go_wp2
    go_ret
    exact ⟨ret_int (by rw [HE.out, w64_id (ediv_range h0 h1 hp).1 (ediv_range h0 h1 hp).2]), rfl⟩
  · have HE : Hid (a.tdiv p = a / p) := floor_eq2 hp c
    go_enter Try.func18, Try.ntmps18
    go_wp2
    go_ret
    exact ⟨ret_int HE.out, rfl⟩

theorem int_eq {k : IntKind} {a b : Int} (h : a = b) : Value.int k a = Value.int k b := by rw [h]

set_option maxHeartbeats 400000 in
theorem each6 (a b : Int) (w : World) (h0 : -2147483648 ≤ a) (h1 : a ≤ 2147483647) (g0 : -2147483648 ≤ b) (g1 : b ≤ 2147483647) :
    Calls Try.prog 16 #[.int .i64 a, .int .i64 b, .int .i64 6] w fun e w' => e = .returned (.int .i64 (bits .and .i32 a b)) ∧ w' = w := by
  go_enter Try.func16, Try.ntmps16
  go_wp2
  go_loopw [7, 8, 9] (fun o p i v => v = w ∧ ∃ k : Nat, k ≤ 32 ∧ i = .int .i64 k ∧ p = .int .i64 (2 ^ k) ∧ o = .int .i64 (acc (fun j => bt a j && bt b j) k)) (fun _ _ i _ => 32 - (intOf i).toNat)
  case atStart => exact ⟨rfl, 0, by omega, rfl, rfl, rfl⟩
  case round =>
    obtain ⟨rfl, k, hk, rfl, rfl, rfl⟩ := hrel
    have p1 := pow_pos2 k
    have p2 := pow_32 k (by omega)
    obtain ⟨q1, q2⟩ := acc_bd (fun j => bt a j && bt b j) k
    by_cases hlt : k < 32
    · have HA : Hid (acc (fun j => bt a j && bt b j) (k + 1) = acc (fun j => bt a j && bt b j) k + if (bt a k && bt b k) then 2 ^ k else 0) := rfl
      cases c1 : bt a k <;> cases c2 : bt b k
      all_goals
        go_wp2_with (go_at_call 32; refine (bit_any _ _ _ (by omega) (by omega) (by omega)).mono ?_; rintro e w' ⟨rfl, rfl⟩)
        exact ⟨⟨trivial, k + 1, by omega, by go_num, by rw [Int.pow_succ], int_eq (by rw [HA.out, c1, c2]; simp)⟩, by simp [intOf]; omega⟩
    · obtain rfl : k = 32 := by omega
      go_wp2_with (go_at_call 15; refine (wrap_any _ _).mono ?_; rintro e w' ⟨rfl, rfl⟩)
      go_ret
      exact ⟨ret_int each_and, rfl⟩

set_option maxHeartbeats 400000 in
theorem each7 (a b : Int) (w : World) (h0 : -2147483648 ≤ a) (h1 : a ≤ 2147483647) (g0 : -2147483648 ≤ b) (g1 : b ≤ 2147483647) :
    Calls Try.prog 16 #[.int .i64 a, .int .i64 b, .int .i64 7] w fun e w' => e = .returned (.int .i64 (bits .or .i32 a b)) ∧ w' = w := by
  go_enter Try.func16, Try.ntmps16
  go_wp2
  go_loopw [7, 8, 9] (fun o p i v => v = w ∧ ∃ k : Nat, k ≤ 32 ∧ i = .int .i64 k ∧ p = .int .i64 (2 ^ k) ∧ o = .int .i64 (acc (fun j => bt a j || bt b j) k)) (fun _ _ i _ => 32 - (intOf i).toNat)
  case atStart => exact ⟨rfl, 0, by omega, rfl, rfl, rfl⟩
  case round =>
    obtain ⟨rfl, k, hk, rfl, rfl, rfl⟩ := hrel
    have p1 := pow_pos2 k
    have p2 := pow_32 k (by omega)
    obtain ⟨q1, q2⟩ := acc_bd (fun j => bt a j || bt b j) k
    by_cases hlt : k < 32
    · have HA : Hid (acc (fun j => bt a j || bt b j) (k + 1) = acc (fun j => bt a j || bt b j) k + if (bt a k || bt b k) then 2 ^ k else 0) := rfl
      cases c1 : bt a k <;> cases c2 : bt b k
      all_goals
        go_wp2_with (go_at_call 32; refine (bit_any _ _ _ (by omega) (by omega) (by omega)).mono ?_; rintro e w' ⟨rfl, rfl⟩)
        exact ⟨⟨trivial, k + 1, by omega, by go_num, by rw [Int.pow_succ], int_eq (by rw [HA.out, c1, c2]; simp)⟩, by simp [intOf]; omega⟩
    · obtain rfl : k = 32 := by omega
      go_wp2_with (go_at_call 15; refine (wrap_any _ _).mono ?_; rintro e w' ⟨rfl, rfl⟩)
      go_ret
      exact ⟨ret_int each_or, rfl⟩

set_option maxHeartbeats 400000 in
theorem each8 (a b : Int) (w : World) (h0 : -2147483648 ≤ a) (h1 : a ≤ 2147483647) (g0 : -2147483648 ≤ b) (g1 : b ≤ 2147483647) :
    Calls Try.prog 16 #[.int .i64 a, .int .i64 b, .int .i64 8] w fun e w' => e = .returned (.int .i64 (bits .xor .i32 a b)) ∧ w' = w := by
  go_enter Try.func16, Try.ntmps16
  go_wp2
  go_loopw [7, 8, 9] (fun o p i v => v = w ∧ ∃ k : Nat, k ≤ 32 ∧ i = .int .i64 k ∧ p = .int .i64 (2 ^ k) ∧ o = .int .i64 (acc (fun j => bt a j != bt b j) k)) (fun _ _ i _ => 32 - (intOf i).toNat)
  case atStart => exact ⟨rfl, 0, by omega, rfl, rfl, rfl⟩
  case round =>
    obtain ⟨rfl, k, hk, rfl, rfl, rfl⟩ := hrel
    have p1 := pow_pos2 k
    have p2 := pow_32 k (by omega)
    obtain ⟨q1, q2⟩ := acc_bd (fun j => bt a j != bt b j) k
    by_cases hlt : k < 32
    · have HA : Hid (acc (fun j => bt a j != bt b j) (k + 1) = acc (fun j => bt a j != bt b j) k + if (bt a k != bt b k) then 2 ^ k else 0) := rfl
      cases c1 : bt a k <;> cases c2 : bt b k
      all_goals
        go_wp2_with (go_at_call 32; refine (bit_any _ _ _ (by omega) (by omega) (by omega)).mono ?_; rintro e w' ⟨rfl, rfl⟩)
        exact ⟨⟨trivial, k + 1, by omega, by go_num, by rw [Int.pow_succ], int_eq (by rw [HA.out, c1, c2]; simp)⟩, by simp [intOf]; omega⟩
    · obtain rfl : k = 32 := by omega
      go_wp2_with (go_at_call 15; refine (wrap_any _ _).mono ?_; rintro e w' ⟨rfl, rfl⟩)
      go_ret
      exact ⟨ret_int each_xor, rfl⟩

end Go.Proofs.Ytgkiigkbopijfaa
