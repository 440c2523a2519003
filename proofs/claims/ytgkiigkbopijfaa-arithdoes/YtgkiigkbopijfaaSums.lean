/- The plain laws of sums, products, quotients, bits and shifts of 32-bit numbers, of V (YtgkiigkbopijfaaMath). Plain numbers: no program is named here; conditions stand in each theorem. -/
import Derived.Test.YtgkiigkbopijfaaMath
namespace Go.Proofs.Ytgkiigkbopijfaa
open Go.RowKit

/-- a number of the machine's range -/
def R (x : Int) : Prop := -2147483648 ≤ x ∧ x ≤ 2147483647

theorem R_w (x : Int) : R (wrap32 x) := w32_range x
theorem R_V (op a b : Int) : R (V op a b) := V_range op a b
theorem R_id {x : Int} (h : R x) : wrap32 x = x := w32_id h.1 h.2

theorem w32_of {x y : Int} (t : Int) (h : x = y + 4294967296 * t) : wrap32 x = wrap32 y := by
  subst h; unfold wrap32; omega
theorem w32_ex (x : Int) : ∃ t, wrap32 x = x + 4294967296 * t := by
  refine ⟨-((x + 2147483648) / 4294967296), ?_⟩
  unfold wrap32; omega
theorem w32_mod (x : Int) : wrap32 x % 4294967296 = x % 4294967296 := by unfold wrap32; omega
theorem w32_eq {x y : Int} (h : x % 4294967296 = y % 4294967296) : wrap32 x = wrap32 y := by unfold wrap32; omega
theorem w32_add_left (x y : Int) : wrap32 (wrap32 x + y) = wrap32 (x + y) := by unfold wrap32; omega
theorem w32_add_right (x y : Int) : wrap32 (x + wrap32 y) = wrap32 (x + y) := by unfold wrap32; omega
theorem w32_sub_left (x y : Int) : wrap32 (wrap32 x - y) = wrap32 (x - y) := by unfold wrap32; omega
theorem w32_sub_right (x y : Int) : wrap32 (x - wrap32 y) = wrap32 (x - y) := by unfold wrap32; omega
theorem w32_neg (x : Int) : wrap32 (-wrap32 x) = wrap32 (-x) := by unfold wrap32; omega
theorem w32_mul_left (x y : Int) : wrap32 (wrap32 x * y) = wrap32 (x * y) := by
  obtain ⟨t, h⟩ := w32_ex x
  rw [h, Int.add_mul]
  exact w32_of (t * y) (by rw [Int.mul_assoc])
theorem w32_mul_right (x y : Int) : wrap32 (x * wrap32 y) = wrap32 (x * y) := by
  rw [Int.mul_comm, w32_mul_left, Int.mul_comm]

theorem okp {op a b : Int} (h0 : 0 ≤ op) (h1 : op ≤ 11) (ha : R a) (hb : R b) (h : op ≠ 3 ∧ op ≠ 4 ∨ b ≠ 0) : okB op a b = true :=
  ok_mk ⟨⟨h0, h1⟩, ha, hb, by omega⟩

theorem V0 {a b : Int} (ha : R a) (hb : R b) : V 0 a b = wrap32 (a + b) := by rw [V_yes (okp (by omega) (by omega) ha hb (by omega))]; simp [val]
theorem V1 {a b : Int} (ha : R a) (hb : R b) : V 1 a b = wrap32 (a - b) := by rw [V_yes (okp (by omega) (by omega) ha hb (by omega))]; simp [val]
theorem V2 {a b : Int} (ha : R a) (hb : R b) : V 2 a b = wrap32 (a * b) := by rw [V_yes (okp (by omega) (by omega) ha hb (by omega))]; simp [val]
theorem V3 {a b : Int} (ha : R a) (hb : R b) (h : b ≠ 0) : V 3 a b = wrap32 (a.tdiv b) := by rw [V_yes (okp (by omega) (by omega) ha hb (by omega))]; simp [val]
theorem V4 {a b : Int} (ha : R a) (hb : R b) (h : b ≠ 0) : V 4 a b = a.tmod b := by rw [V_yes (okp (by omega) (by omega) ha hb (by omega))]; simp [val]
theorem V5 {a b : Int} (ha : R a) (hb : R b) : V 5 a b = wrap32 (-a) := by rw [V_yes (okp (by omega) (by omega) ha hb (by omega))]; simp [val]
theorem V6 {a b : Int} (ha : R a) (hb : R b) : V 6 a b = bits .and .i32 a b := by rw [V_yes (okp (by omega) (by omega) ha hb (by omega))]; simp [val]
theorem V7 {a b : Int} (ha : R a) (hb : R b) : V 7 a b = bits .or .i32 a b := by rw [V_yes (okp (by omega) (by omega) ha hb (by omega))]; simp [val]
theorem V8 {a b : Int} (ha : R a) (hb : R b) : V 8 a b = bits .xor .i32 a b := by rw [V_yes (okp (by omega) (by omega) ha hb (by omega))]; simp [val]
theorem V9 {a b : Int} (ha : R a) (hb : R b) : V 9 a b = wrap32 (a * 2 ^ (b % 32).toNat) := by rw [V_yes (okp (by omega) (by omega) ha hb (by omega))]; simp [val]
theorem V10 {a b : Int} (ha : R a) (hb : R b) : V 10 a b = a / 2 ^ (b % 32).toNat := by rw [V_yes (okp (by omega) (by omega) ha hb (by omega))]; simp [val]
theorem V11 {a b : Int} (ha : R a) (hb : R b) : V 11 a b = wrap32 (a % 4294967296 / 2 ^ (b % 32).toNat) := by rw [V_yes (okp (by omega) (by omega) ha hb (by omega))]; simp [val]

/-! ### ArithLaws -/
theorem add_turn {a b : Int} (ha : R a) (hb : R b) : V 0 a b = V 0 b a := by rw [V0 ha hb, V0 hb ha, Int.add_comm]
theorem mul_turn {a b : Int} (ha : R a) (hb : R b) : V 2 a b = V 2 b a := by rw [V2 ha hb, V2 hb ha, Int.mul_comm]
theorem sub_undo {a b : Int} (ha : R a) (hb : R b) : V 1 (V 0 a b) b = a := by
  rw [V1 (R_V _ _ _) hb, V0 ha hb, w32_sub_left, Int.add_sub_cancel, R_id ha]
theorem R0 : R 0 := ⟨by omega, by omega⟩
theorem neg_neg {a : Int} (ha : R a) : V 5 (V 5 a 0) 0 = a := by
  rw [V5 (R_V _ _ _) R0, V5 ha R0, w32_neg, Int.neg_neg, R_id ha]
theorem mul_spread {a b c : Int} (ha : R a) (hb : R b) (hc : R c) : V 2 (V 0 a b) c = V 0 (V 2 a c) (V 2 b c) := by
  rw [V2 (R_V _ _ _) hc, V0 ha hb, V0 (R_V _ _ _) (R_V _ _ _), V2 ha hc, V2 hb hc, w32_mul_left, w32_add_left, w32_add_right, Int.add_mul]
theorem quo_rem {a b : Int} (ha : R a) (hb : R b) (h : b ≠ 0) : V 0 (V 2 (V 3 a b) b) (V 4 a b) = a := by
  rw [V0 (R_V _ _ _) (R_V _ _ _), V2 (R_V _ _ _) hb, V3 ha hb h, V4 ha hb h, w32_mul_left, w32_add_left]
  have := Int.tdiv_mul_add_tmod a b
  rw [this, R_id ha]

/-! ### ArithBits -/
theorem nat_and_or (x y : Nat) : (x &&& y) + (x ||| y) = x + y := by
  induction x using Nat.strongRecOn generalizing y with
  | _ x ih =>
    by_cases hx : x = 0
    · subst hx; simp
    · have h := ih (x / 2) (by omega) (y / 2)
      have e1 := @Nat.and_div_two x y
      have e2 := @Nat.or_div_two x y
      have m1 := @Nat.and_mod_two_eq_one x y
      have m2 := @Nat.or_mod_two_eq_one x y
      rw [← e1, ← e2] at h
      generalize x &&& y = u at *
      generalize x ||| y = v at *
      omega
theorem nat_and_xor (x y : Nat) : (x &&& y) + (x ^^^ y) = x ||| y := by
  induction x using Nat.strongRecOn generalizing y with
  | _ x ih =>
    by_cases hx : x = 0
    · subst hx; simp
    · have h := ih (x / 2) (by omega) (y / 2)
      have e1 := @Nat.and_div_two x y
      have e2 := @Nat.or_div_two x y
      have e3 := @Nat.xor_div_two x y
      have m1 := @Nat.and_mod_two_eq_one x y
      have m2 := @Nat.or_mod_two_eq_one x y
      have m3 := @Nat.xor_mod_two_eq_one x y
      rw [← e1, ← e2, ← e3] at h
      generalize x &&& y = u at *
      generalize x ||| y = v at *
      generalize x ^^^ y = t at *
      omega

theorem bits_and (a b : Int) : bits .and .i32 a b = wrap32 (((a % 4294967296).toNat &&& (b % 4294967296).toNat : Nat) : Int) := by
  show IntKind.i32.wrap (((BitVec.ofInt 32 a &&& BitVec.ofInt 32 b).toNat : Nat) : Int) = _
  rw [wrap_i32_eq, BitVec.toNat_and, BitVec.toNat_ofInt, BitVec.toNat_ofInt]
  rfl
theorem bits_or (a b : Int) : bits .or .i32 a b = wrap32 (((a % 4294967296).toNat ||| (b % 4294967296).toNat : Nat) : Int) := by
  show IntKind.i32.wrap (((BitVec.ofInt 32 a ||| BitVec.ofInt 32 b).toNat : Nat) : Int) = _
  rw [wrap_i32_eq, BitVec.toNat_or, BitVec.toNat_ofInt, BitVec.toNat_ofInt]
  rfl
theorem bits_xor (a b : Int) : bits .xor .i32 a b = wrap32 (((a % 4294967296).toNat ^^^ (b % 4294967296).toNat : Nat) : Int) := by
  show IntKind.i32.wrap (((BitVec.ofInt 32 a ^^^ BitVec.ofInt 32 b).toNat : Nat) : Int) = _
  rw [wrap_i32_eq, BitVec.toNat_xor, BitVec.toNat_ofInt, BitVec.toNat_ofInt]
  rfl

theorem un_eq (a : Int) : ((a % 4294967296).toNat : Int) = a % 4294967296 := by omega

theorem and_or_sum {a b : Int} (ha : R a) (hb : R b) : V 0 (V 6 a b) (V 7 a b) = V 0 a b := by
  rw [V0 (R_V _ _ _) (R_V _ _ _), V0 ha hb, V6 ha hb, V7 ha hb, bits_and, bits_or, w32_add_left, w32_add_right]
  have h := nat_and_or (a % 4294967296).toNat (b % 4294967296).toNat
  apply w32_eq
  have e1 := un_eq a
  have e2 := un_eq b
  generalize (a % 4294967296).toNat &&& (b % 4294967296).toNat = u at *
  generalize (a % 4294967296).toNat ||| (b % 4294967296).toNat = v at *
  omega
theorem or_less_and {a b : Int} (ha : R a) (hb : R b) : V 1 (V 7 a b) (V 6 a b) = V 8 a b := by
  rw [V1 (R_V _ _ _) (R_V _ _ _), V8 ha hb, V6 ha hb, V7 ha hb, bits_and, bits_or, bits_xor, w32_sub_left, w32_sub_right]
  have h := nat_and_xor (a % 4294967296).toNat (b % 4294967296).toNat
  apply w32_eq
  generalize (a % 4294967296).toNat &&& (b % 4294967296).toNat = u at *
  generalize (a % 4294967296).toNat ||| (b % 4294967296).toNat = v at *
  generalize (a % 4294967296).toNat ^^^ (b % 4294967296).toNat = t at *
  omega
theorem xor_lt (x y : Nat) (hx : x < 4294967296) (hy : y < 4294967296) : x ^^^ y < 4294967296 := Nat.xor_lt_two_pow (n := 32) hx hy
theorem xor_undo {a b : Int} (ha : R a) (hb : R b) : V 8 (V 8 a b) b = a := by
  rw [V8 (R_V _ _ _) hb, V8 ha hb, bits_xor, bits_xor a b, w32_mod]
  have h := xor_lt (a % 4294967296).toNat (b % 4294967296).toNat (by omega) (by omega)
  have e : ((((a % 4294967296).toNat ^^^ (b % 4294967296).toNat : Nat) : Int) % 4294967296).toNat = (a % 4294967296).toNat ^^^ (b % 4294967296).toNat := by omega
  rw [e, Nat.xor_assoc, Nat.xor_self, Nat.xor_zero, un_eq]
  have := R_id ha
  unfold wrap32 at *
  omega

/-- a count of places: 0 to 31 -/
theorem R_small {s : Int} (h0 : 0 ≤ s) (h1 : s ≤ 100) : R s := ⟨by omega, by omega⟩

theorem shl_32 {a s : Int} (ha : R a) (h0 : 0 ≤ s) (h1 : s ≤ 31) : V 9 a (s + 32) = V 9 a s := by
  rw [V9 ha (R_small (by omega) (by omega)), V9 ha (R_small h0 (by omega)), show (s + 32) % 32 = s % 32 by omega]
theorem shr_64 {a s : Int} (ha : R a) (h0 : 0 ≤ s) (h1 : s ≤ 31) : V 10 a (s + 64) = V 10 a s := by
  rw [V10 ha (R_small (by omega) (by omega)), V10 ha (R_small h0 (by omega)), show (s + 64) % 32 = s % 32 by omega]
theorem split_pow (n : Nat) (h : n ≤ 32) : (4294967296 : Int) = 2 ^ n * 2 ^ (32 - n) := by
  rw [← Int.pow_add, show n + (32 - n) = 32 by omega]; rfl

theorem shl_back {a s : Int} (ha : R a) (h0 : 0 ≤ s) (h1 : s ≤ 31) : V 9 (V 11 (V 9 a s) s) s = V 9 a s := by
  have hs : R s := R_small h0 (by omega)
  rw [V9 (R_V _ _ _) hs, V11 (R_V _ _ _) hs, V9 ha hs, w32_mul_left, w32_mod]
  have hn : (s % 32).toNat ≤ 32 := by omega
  generalize (s % 32).toNat = n at *
  have hp := pow_pos2 n
  have e := split_pow n hn
  have d : a * 2 ^ n % 4294967296 = a % 2 ^ (32 - n) * 2 ^ n := by
    rw [e, Int.mul_comm a, Int.mul_emod_mul_of_pos _ _ (by omega), Int.mul_comm]
  rw [d, Int.mul_ediv_cancel _ (by omega), ← d]
  exact w32_eq (by omega)

theorem sgn_shr {a : Int} (ha : R a) : (decide (a < 0) == (V 10 a 31 == -1)) = true := by
  rw [V10 ha (R_small (by omega) (by omega))]
  simp only [show ((31 : Int) % 32).toNat = 31 from rfl]
  have := ha.1
  have := ha.2
  have e : (2 : Int) ^ 31 = 2147483648 := rfl
  rw [e]
  by_cases h : a < 0
  · have : a / 2147483648 = -1 := by omega
    simp [h, this]
  · have : a / 2147483648 = 0 := by omega
    simp [h, this]
theorem sgn_ushr {a : Int} (ha : R a) : (decide (a < 0) == (V 11 a 31 == 1)) = true := by
  rw [V11 ha (R_small (by omega) (by omega))]
  simp only [show ((31 : Int) % 32).toNat = 31 from rfl]
  have := ha.1
  have := ha.2
  have e : (2 : Int) ^ 31 = 2147483648 := rfl
  rw [e]
  by_cases h : a < 0
  · have : wrap32 (a % 4294967296 / 2147483648) = 1 := by unfold wrap32; omega
    simp [h, this]
  · have : wrap32 (a % 4294967296 / 2147483648) = 0 := by unfold wrap32; omega
    simp [h, this]

/-! ### ArithOrder -/
theorem R1 : R 1 := ⟨by omega, by omega⟩
theorem pow_small (n : Nat) (h : n ≤ 30) : (2 : Int) ^ n ≤ 1073741824 := by
  have h2 : 2 ^ n ≤ 2 ^ 30 := Nat.pow_le_pow_right (by omega) h
  have e : (2 : Int) ^ n = ((2 ^ n : Nat) : Int) := by simp
  rw [e]
  omega
theorem two_eq {s : Int} (h0 : 0 ≤ s) (h1 : s ≤ 30) : V 9 1 s = 2 ^ s.toNat := by
  rw [V9 R1 (R_small h0 (by omega)), show s % 32 = s by omega, Int.one_mul]
  have := pow_small s.toNat (by omega)
  have := pow_pos2 s.toNat
  exact w32_id (by omega) (by omega)
theorem shl_mul {a s : Int} (ha : R a) (h0 : 0 ≤ s) (h1 : s ≤ 30) : V 9 a s = V 2 a (V 9 1 s) := by
  rw [V2 ha (R_V _ _ _), two_eq h0 h1, V9 ha (R_small h0 (by omega)), show s % 32 = s by omega]
theorem low_eq {a s : Int} (ha : R a) (h0 : 0 ≤ s) (h1 : s ≤ 30) : V 1 a (V 2 (V 10 a s) (V 9 1 s)) = a % 2 ^ s.toNat := by
  rw [V1 ha (R_V _ _ _), V2 (R_V _ _ _) (R_V _ _ _), two_eq h0 h1, V10 ha (R_small h0 (by omega)), show s % 32 = s by omega, w32_sub_right]
  have e := Int.ediv_mul_add_emod a (2 ^ s.toNat)
  have p := pow_pos2 s.toNat
  have q := pow_small s.toNat (by omega)
  have m0 := Int.emod_nonneg a (b := 2 ^ s.toNat) (by omega)
  have m1 := Int.emod_lt_of_pos a (b := 2 ^ s.toNat) (by omega)
  rw [show a - a / 2 ^ s.toNat * 2 ^ s.toNat = a % 2 ^ s.toNat by omega]
  exact w32_id (by omega) (by omega)
theorem low_range {a s : Int} (ha : R a) (h0 : 0 ≤ s) (h1 : s ≤ 30) : 0 ≤ V 1 a (V 2 (V 10 a s) (V 9 1 s)) ∧ V 1 a (V 2 (V 10 a s) (V 9 1 s)) < V 9 1 s := by
  rw [low_eq ha h0 h1, two_eq h0 h1]
  have p := pow_pos2 s.toNat
  exact ⟨Int.emod_nonneg a (by omega), Int.emod_lt_of_pos a (by omega)⟩
theorem rem_sign {a b : Int} (ha : R a) (hb : R b) (h : b ≠ 0) (hr : V 4 a b ≠ 0) : V 4 a b < 0 ↔ a < 0 := by
  rw [V4 ha hb h] at *
  by_cases h0 : 0 ≤ a
  · have := Int.tmod_nonneg b h0
    omega
  · have e : a.tmod b = -((-a).tmod b) := by rw [Int.neg_tmod]; omega
    have := Int.tmod_nonneg b (show 0 ≤ -a by omega)
    omega
end Go.Proofs.Ytgkiigkbopijfaa
