/- Numbers as bytes, as plain functions of numbers and lists of bytes: the form, what a reader finds, that each is the other's undoing, and how short it is. No program is named here; the conditions stand in each theorem. -/
import Derived.RowKit
import Derived.RowKit3
import Derived.Below
import Derived.Laws.Entries
import Derived.Test.YtbbmgjcabmjjdaaGreatDoorRows
import Derived.WalkKit
import Derived.WalkSpells
import Derived.WalkLawsBesides
import Derived.Laws.BitsAllLaws
namespace Go.Proofs.YtbbmgjcabmjjdaaGreatDoor
open Go.RowKit

/-- 2 x, or of one below 0 -2 x - 1. -/
def zig (x : Int) : Nat := if 0 ≤ x then (2 * x).toNat else (-2 * x - 1).toNat
def zag (z : Nat) : Int := if z % 2 = 0 then ((z / 2 : Nat) : Int) else -((z / 2 : Nat) : Int) - 1

def lst (z : Nat) : UInt8 := UInt8.ofNat z
def prt (z : Nat) : UInt8 := UInt8.ofNat (z % 128 + 128)

/-- Parts of 7 bits, the lowest first: at most n + 1 of them. -/
def upTo : Nat → Nat → List UInt8
  | 0, z => [lst z]
  | n + 1, z => if z < 128 then [lst z] else prt z :: upTo n (z / 128)

theorem upTo_same : ∀ n m z : Nat, z ≤ n → z ≤ m → upTo n z = upTo m z := by
  intro n
  induction n with
  | zero =>
    intro m z h _
    have e : z = 0 := by omega
    subst e
    cases m with
    | zero => rfl
    | succ m => rw [upTo, upTo, if_pos (by omega)]
  | succ n ih =>
    intro m z h h'
    cases m with
    | zero =>
      have e : z = 0 := by omega
      subst e
      rw [upTo, upTo, if_pos (by omega)]
    | succ m =>
      rw [upTo, upTo]
      by_cases c : z < 128
      · rw [if_pos c, if_pos c]
      · rw [if_neg c, if_neg c, ih m (z / 128) (by omega) (by omega)]

/-- Parts of 7 bits, the lowest first. -/
def parts (z : Nat) : List UInt8 := upTo z z

theorem parts_lt {z : Nat} (h : z < 128) : parts z = [lst z] := by
  unfold parts
  cases z with
  | zero => rfl
  | succ n => rw [upTo, if_pos h]
theorem parts_ge {z : Nat} (h : 128 ≤ z) : parts z = prt z :: parts (z / 128) := by
  unfold parts
  cases z with
  | zero => omega
  | succ n => rw [upTo, if_neg (by omega), upTo_same n ((n + 1) / 128) ((n + 1) / 128) (by omega) (by omega)]

theorem lst_nat {z : Nat} (h : z < 128) : (lst z).toNat = z := by
  unfold lst; rw [UInt8.toNat_ofNat']; omega
theorem prt_nat (z : Nat) : (prt z).toNat = z % 128 + 128 := by
  unfold prt; rw [UInt8.toNat_ofNat']; omega

/-- May no number have the byte c in the place i? -/
def bad (c i : Nat) : Bool := (decide (0 < i) && c == 0) || (i == 4 && decide (15 < c))

/-- What a reader finds from place i of a number on: (the number that its bytes make, how many they are, 0), or (0, 0, an error). -/
def rd : List UInt8 → Nat → Nat → Nat × Nat × Int
  | [], _, _ => (0, 0, 200)
  | c :: l, i, z => if bad c.toNat i = true then (0, 0, 201) else if c.toNat < 128 then (z + c.toNat * 128 ^ i, i + 1, 0) else rd l (i + 1) (z + (c.toNat - 128) * 128 ^ i)

theorem rd_nil (i z : Nat) : rd [] i z = (0, 0, 200) := rfl
theorem rd_bad {c : UInt8} {l : List UInt8} {i z : Nat} (h : bad c.toNat i = true) : rd (c :: l) i z = (0, 0, 201) := by rw [rd, if_pos h]
theorem rd_last {c : UInt8} {l : List UInt8} {i z : Nat} (h : bad c.toNat i = false) (h' : c.toNat < 128) : rd (c :: l) i z = (z + c.toNat * 128 ^ i, i + 1, 0) := by
  rw [rd, if_neg (by rw [h]; decide), if_pos h']
theorem rd_on {c : UInt8} {l : List UInt8} {i z : Nat} (h : bad c.toNat i = false) (h' : 128 ≤ c.toNat) : rd (c :: l) i z = rd l (i + 1) (z + (c.toNat - 128) * 128 ^ i) := by
  rw [rd, if_neg (by rw [h]; decide), if_neg (by omega)]

theorem bad_eq_false {c i : Nat} (h1 : 0 < i → c ≠ 0) (h2 : i = 4 → c ≤ 15) : bad c i = false := by
  unfold bad
  by_cases a : i = 4
  · have := h2 a; subst a; have := h1 (by omega); simp; omega
  · by_cases b : 0 < i
    · have := h1 b; simp [a]; omega
    · simp [a]; omega

theorem of_bad_false {c i : Nat} (h : bad c i = false) : (0 < i → c ≠ 0) ∧ (i = 4 → c ≤ 15) := by
  unfold bad at h
  simp at h
  exact ⟨fun a b => by have := h.1 a; omega, fun a => h.2 a⟩

theorem pow_le_4 {i : Nat} (h : i ≤ 4) : i = 0 ∨ i = 1 ∨ i = 2 ∨ i = 3 ∨ i = 4 := by omega

/-- Reading what was written. -/
theorem rd_parts : ∀ (z : Nat) (rest : List UInt8) (i acc : Nat), i ≤ 4 → (0 < i → 0 < z) → z * 128 ^ i < 4294967296 →
    rd (parts z ++ rest) i acc = (acc + z * 128 ^ i, i + (parts z).length, 0) := by
  intro z
  induction z using Nat.strongRecOn with
  | ind z ih =>
    intro rest i acc hi hz hlt
    by_cases h : z < 128
    · rw [parts_lt h]
      have hb : bad (lst z).toNat i = false := by
        rw [lst_nat h]
        refine bad_eq_false (fun a => by have := hz a; omega) (fun a => ?_)
        subst a; simp at hlt; omega
      rw [List.singleton_append, rd_last hb (by rw [lst_nat h]; exact h), lst_nat h]
      simp
    · rw [parts_ge (by omega)]
      have hi3 : i ≤ 3 := by
        rcases pow_le_4 hi with e | e | e | e | e <;> subst e <;> simp at hlt <;> omega
      have hb : bad (prt z).toNat i = false := by
        rw [prt_nat]
        exact bad_eq_false (fun _ => by omega) (fun a => by omega)
      rw [List.cons_append, rd_on hb (by rw [prt_nat]; omega), prt_nat]
      have hp : 128 ^ (i + 1) = 128 * 128 ^ i := by rw [Nat.pow_succ]; omega
      have hz' : z / 128 * 128 ^ (i + 1) ≤ z * 128 ^ i := by
        rw [hp, ← Nat.mul_assoc]
        exact Nat.mul_le_mul_right _ (by omega)
      rw [ih (z / 128) (by omega) rest (i + 1) _ (by omega) (fun _ => by omega) (by omega)]
      have e : acc + (z % 128 + 128 - 128) * 128 ^ i + z / 128 * 128 ^ (i + 1) = acc + z * 128 ^ i := by
        have e0 : z % 128 + 128 - 128 + z / 128 * 128 = z := by omega
        rw [hp, ← Nat.mul_assoc, Nat.add_assoc, ← Nat.add_mul, e0]
      rw [e]
      simp
      omega

theorem sm (d y K M : Nat) (hK : 0 < K) (hd : d < 128) (h : y * (128 * K) < M * (128 * K)) : d * K + y * (128 * K) < M * (128 * K) := by
  have h1 : y + 1 ≤ M := Nat.lt_of_mul_lt_mul_right h
  have h2 : (y + 1) * (128 * K) ≤ M * (128 * K) := Nat.mul_le_mul_right _ h1
  have h3 : d * K < 128 * K := Nat.mul_lt_mul_of_pos_right hd hK
  rw [Nat.add_mul, Nat.one_mul] at h2
  omega

/-- What was read is what would be written. -/
theorem rd_taken : ∀ (l : List UInt8) (i acc Z n : Nat), i ≤ 4 → rd l i acc = (Z, n, 0) →
    ∃ y, Z = acc + y * 128 ^ i ∧ n = i + (parts y).length ∧ l.take (parts y).length = parts y ∧ (0 < i → 0 < y) ∧ y * 128 ^ i < 4294967296 := by
  intro l
  induction l with
  | nil => intro i acc Z n _ h; rw [rd_nil] at h; simp at h
  | cons c l ih =>
    intro i acc Z n hi h
    by_cases hb : bad c.toNat i = true
    · rw [rd_bad hb] at h; simp at h
    · have hb : bad c.toNat i = false := by simpa using hb
      obtain ⟨b1, b2⟩ := of_bad_false hb
      by_cases hc : c.toNat < 128
      · rw [rd_last hb hc] at h
        simp only [Prod.mk.injEq] at h
        refine ⟨c.toNat, h.1.symm, ?_, ?_, fun a => by have := b1 a; omega, ?_⟩
        · rw [parts_lt hc]; simp; omega
        · rw [parts_lt hc]; simp; apply UInt8.toNat.inj; rw [lst_nat hc]
        · rcases pow_le_4 hi with e | e | e | e | e <;> subst e <;> simp <;> (try omega)
      · have hi3 : i ≤ 3 := by
          rcases Nat.lt_or_ge i 4 with e | e
          · omega
          · have := b2 (by omega); omega
        rw [rd_on hb (by omega)] at h
        obtain ⟨y, e1, e2, e3, e4, e5⟩ := ih (i + 1) _ Z n (by omega) h
        have hy := e4 (by omega)
        have hc2 : c.toNat < 256 := c.toNat_lt
        have hp : 128 ^ (i + 1) = 128 * 128 ^ i := by rw [Nat.pow_succ]; omega
        have hq : (c.toNat - 128 + 128 * y) / 128 = y := by omega
        have hr : (c.toNat - 128 + 128 * y) % 128 = c.toNat - 128 := by omega
        have hpp : parts (c.toNat - 128 + 128 * y) = c :: parts y := by
          rw [parts_ge (by omega), hq]
          congr 1
          apply UInt8.toNat.inj
          rw [prt_nat, hr]; omega
        refine ⟨c.toNat - 128 + 128 * y, ?_, ?_, ?_, fun _ => by omega, ?_⟩
        · have e0 : c.toNat - 128 + y * 128 = c.toNat - 128 + 128 * y := by omega
          rw [e1, hp, ← Nat.mul_assoc, Nat.add_assoc, ← Nat.add_mul, e0]
        · rw [hpp, e2]; simp; omega
        · rw [hpp]; simp [e3]
        · rw [hp, ← Nat.mul_assoc] at e5
          rw [Nat.add_mul]
          clear hp hpp hq hr e1 e2 e3 e4 h ih b1 b2 hb
          have hd : c.toNat - 128 < 128 := by omega
          generalize c.toNat - 128 = d at hd ⊢
          clear hc hc2 hy
          rcases (show i = 0 ∨ i = 1 ∨ i = 2 ∨ i = 3 by omega) with e | e | e | e <;> subst e
          · have := sm d y (128 ^ 0) 33554432 (by decide) hd (by simpa [Nat.mul_assoc] using e5); simpa [Nat.mul_assoc, Nat.mul_comm 128] using this
          · have := sm d y (128 ^ 1) 262144 (by decide) hd (by simpa [Nat.mul_assoc] using e5); simpa [Nat.mul_assoc, Nat.mul_comm 128] using this
          · have := sm d y (128 ^ 2) 2048 (by decide) hd (by simpa [Nat.mul_assoc] using e5); simpa [Nat.mul_assoc, Nat.mul_comm 128] using this
          · have := sm d y (128 ^ 3) 16 (by decide) hd (by simpa [Nat.mul_assoc] using e5); simpa [Nat.mul_assoc, Nat.mul_comm 128] using this

theorem zig_lt {x : Int} (h : -2147483648 ≤ x) (h' : x ≤ 2147483647) : zig x < 4294967296 := by unfold zig; split <;> omega
theorem zag_zig (x : Int) : zag (zig x) = x := by
  unfold zag zig
  split <;> split <;> omega
theorem zig_zag (z : Nat) : zig (zag z) = z := by
  unfold zag zig
  split <;> split <;> omega
theorem zag_range {z : Nat} (h : z < 4294967296) : -2147483648 ≤ zag z ∧ zag z ≤ 2147483647 := by
  unfold zag; split <;> omega

theorem parts_pos (z : Nat) : 0 < (parts z).length := by
  by_cases h : z < 128
  · rw [parts_lt h]; simp
  · rw [parts_ge (by omega)]; simp

theorem parts_len_le (n : Nat) : ∀ z : Nat, z < 128 ^ (n + 1) → (parts z).length ≤ n + 1 := by
  induction n with
  | zero => intro z h; rw [parts_lt (by simpa using h)]; simp
  | succ n ih =>
    intro z h
    by_cases c : z < 128
    · rw [parts_lt c]; simp
    · rw [parts_ge (by omega)]
      have : z / 128 < 128 ^ (n + 1) := by rw [Nat.div_lt_iff_lt_mul (by omega), ← Nat.pow_succ]; exact h
      have := ih _ this
      simp; omega

theorem parts_len5 {z : Nat} (h : z < 4294967296) : (parts z).length ≤ 5 := parts_len_le 4 z (by have : (128 : Nat) ^ 5 = 34359738368 := by decide
                                                                                                 show z < 128 ^ 5; omega)

/-- The bytes but for the last one: a reader finds no end. -/
theorem rd_cut : ∀ (z i acc : Nat), i ≤ 4 → z * 128 ^ i < 4294967296 → rd (parts z).dropLast i acc = (0, 0, 200) := by
  intro z
  induction z using Nat.strongRecOn with
  | ind z ih =>
    intro i acc hi hlt
    by_cases h : z < 128
    · rw [parts_lt h]; rfl
    · have hi3 : i ≤ 3 := by
        rcases pow_le_4 hi with e | e | e | e | e <;> subst e <;> simp at hlt <;> omega
      have hne : parts (z / 128) ≠ [] := fun e => by have := parts_pos (z / 128); rw [e] at this; simp at this
      rw [parts_ge (by omega), List.dropLast_cons_of_ne_nil hne]
      have hb : bad (prt z).toNat i = false := by
        rw [prt_nat]
        exact bad_eq_false (fun _ => by omega) (fun a => by omega)
      rw [rd_on hb (by rw [prt_nat]; omega)]
      have hp : 128 ^ (i + 1) = 128 * 128 ^ i := by rw [Nat.pow_succ]; omega
      have hz' : z / 128 * 128 ^ (i + 1) ≤ z * 128 ^ i := by
        rw [hp, ← Nat.mul_assoc]
        exact Nat.mul_le_mul_right _ (by omega)
      exact ih _ (by omega) _ _ (by omega) (by omega)

/-- The bytes with 128 more in the last one and a 0 behind it: not as short as can be. -/
theorem rd_long : ∀ (z i acc : Nat) (c : UInt8) (rest : List UInt8), i ≤ 4 → z * 128 ^ i < 4294967296 → 128 ≤ c.toNat → rd ((parts z).dropLast ++ c :: 0 :: rest) i acc = (0, 0, 201) := by
  intro z
  induction z using Nat.strongRecOn with
  | ind z ih =>
    intro i acc c rest hi hlt hc
    by_cases h : z < 128
    · rw [parts_lt h]
      show rd (c :: 0 :: rest) i acc = _
      by_cases hb : bad c.toNat i = true
      · exact rd_bad hb
      · rw [rd_on (by simpa using hb) hc]
        exact rd_bad (by simp [bad])
    · have hi3 : i ≤ 3 := by
        rcases pow_le_4 hi with e | e | e | e | e <;> subst e <;> simp at hlt <;> omega
      have hne : parts (z / 128) ≠ [] := fun e => by have := parts_pos (z / 128); rw [e] at this; simp at this
      rw [parts_ge (by omega), List.dropLast_cons_of_ne_nil hne, List.cons_append]
      have hb : bad (prt z).toNat i = false := by
        rw [prt_nat]
        exact bad_eq_false (fun _ => by omega) (fun a => by omega)
      rw [rd_on hb (by rw [prt_nat]; omega)]
      have hp : 128 ^ (i + 1) = 128 * 128 ^ i := by rw [Nat.pow_succ]; omega
      have hz' : z / 128 * 128 ^ (i + 1) ≤ z * 128 ^ i := by
        rw [hp, ← Nat.mul_assoc]
        exact Nat.mul_le_mul_right _ (by omega)
      exact ih _ (by omega) _ _ _ _ (by omega) (by omega) hc

theorem parts_last : ∀ (z : Nat) (h : parts z ≠ []), ((parts z).getLast h).toNat < 128 := by
  intro z
  induction z using Nat.strongRecOn with
  | ind z ih =>
    intro h
    by_cases c : z < 128
    · simp only [parts_lt c, List.getLast_singleton, lst_nat c]; exact c
    · have hne : parts (z / 128) ≠ [] := fun e => by have := parts_pos (z / 128); rw [e] at this; simp at this
      simp only [parts_ge (show 128 ≤ z by omega), List.getLast_cons hne]
      exact ih _ (by omega) hne

/-- The number of what a reader finds is never 2^32 or more. -/
theorem rd_num_lt {l : List UInt8} {Z n : Nat} {c : Int} (h : rd l 0 0 = (Z, n, c)) : Z < 4294967296 := by
  by_cases hc : c = 0
  · subst hc
    obtain ⟨y, e1, _, _, _, e5⟩ := rd_taken l 0 0 Z n (by omega) h
    simp at e1 e5; omega
  · have : ∀ (l : List UInt8) (i z Z n : Nat) (c : Int), rd l i z = (Z, n, c) → c ≠ 0 → Z = 0 := by
      intro l
      induction l with
      | nil => intro i z Z n c h _; rw [rd_nil] at h; simp at h; exact h.1.symm
      | cons b l ih =>
        intro i z Z n c h hc
        by_cases hb : bad b.toNat i = true
        · rw [rd_bad hb] at h; simp at h; exact h.1.symm
        · by_cases hl : b.toNat < 128
          · rw [rd_last (by simpa using hb) hl] at h; simp at h; exact absurd h.2.2.symm hc
          · rw [rd_on (by simpa using hb) (by omega)] at h; exact ih _ _ _ _ _ h hc
    have := this l 0 0 Z n c h hc
    omega

theorem rd_err_num {l : List UInt8} : ∀ {i z Z n : Nat} {c : Int}, rd l i z = (Z, n, c) → c ≠ 0 → Z = 0 ∧ n = 0 := by
  induction l with
  | nil => intro i z Z n c h _; rw [rd_nil] at h; simp at h; exact ⟨h.1.symm, h.2.1.symm⟩
  | cons b l ih =>
    intro i z Z n c h hc
    by_cases hb : bad b.toNat i = true
    · rw [rd_bad hb] at h; simp at h; exact ⟨h.1.symm, h.2.1.symm⟩
    · by_cases hl : b.toNat < 128
      · rw [rd_last (by simpa using hb) hl] at h; simp at h; exact absurd h.2.2.symm hc
      · rw [rd_on (by simpa using hb) (by omega)] at h; exact ih h hc
end Go.Proofs.YtbbmgjcabmjjdaaGreatDoor
/- The small callees of package wire at their own numbers: what each returns, and that none turns the world. The conditions stand in each theorem. -/
namespace Go.Proofs.YtbbmgjcabmjjdaaGreatDoor
open Go.RowKit

theorem ret_int {k : IntKind} {a b : Int} (h : a = b) : Ending.returned (.int k a) = .returned (.int k b) := by rw [h]
theorem ret_bool {x y : Bool} (h : x = y) : Ending.returned (.bool x) = .returned (.bool y) := by rw [h]

theorem nat_xor_ones {a : Nat} (h : a < 4294967296) : a ^^^ 4294967295 = 4294967295 - a := by
  have e : (BitVec.ofNat 32 a ^^^ BitVec.allOnes 32).toNat = (~~~ BitVec.ofNat 32 a).toNat := by rw [BitVec.xor_allOnes]
  rw [BitVec.toNat_xor, BitVec.toNat_not, BitVec.toNat_ofNat, BitVec.toNat_allOnes] at e
  have e1 : a % 2 ^ 32 = a := Nat.mod_eq_of_lt h
  rw [e1] at e
  exact e

theorem wrap_i32_eq (n : Int) : IntKind.i32.wrap n = wrap32 n := by
  simp only [IntKind.wrap, IntKind.bits, IntKind.signed, wrap32, Bool.true_and]
  split
  · rename_i h; simp at h; omega
  · rename_i h; simp at h; omega

theorem i32_xor (a b : Int) : bits .xor .i32 a b = wrap32 (((a % 4294967296).toNat ^^^ (b % 4294967296).toNat : Nat) : Int) := by
  show IntKind.i32.wrap (((BitVec.ofInt 32 a ^^^ BitVec.ofInt 32 b).toNat : Nat) : Int) = _
  rw [wrap_i32_eq, BitVec.toNat_xor, BitVec.toNat_ofInt, BitVec.toNat_ofInt]
  rfl

theorem fold_eq {x : Int} (h : -2147483648 ≤ x) (h' : x ≤ 2147483647) : bits BinOp.xor IntKind.u32 (wrap32 (x * 2) % 4294967296) (x / 2147483648 % 4294967296) = (zig x : Int) := by
  have e1 : wrap32 (x * 2) % 4294967296 = (((x * 2) % 4294967296).toNat : Int) := by unfold wrap32; omega
  by_cases c : 0 ≤ x
  · have e2 : x / 2147483648 % 4294967296 = ((0 : Nat) : Int) := by omega
    rw [e1, e2, u32_xor_nat _ _ (by omega) (by omega), Nat.xor_zero]
    unfold zig; rw [if_pos c]; omega
  · have e2 : x / 2147483648 % 4294967296 = ((4294967295 : Nat) : Int) := by omega
    rw [e1, e2, u32_xor_nat _ _ (by omega) (by omega), nat_xor_ones (by omega)]
    unfold zig; rw [if_neg c]; omega

theorem unfold_eq {z : Nat} (h : z < 4294967296) : bits BinOp.xor IntKind.i32 ((z : Int) / 2) (wrap32 (-wrap32 (bits BinOp.and IntKind.u32 (z : Int) 1))) = zag z := by
  have e0 : bits BinOp.and IntKind.u32 (z : Int) 1 = ((z % 2 : Nat) : Int) := by
    have := u32_and_nat z 1 h (by omega)
    rw [nat_mask1] at this
    exact this
  have e1 : (((z : Int) / 2) % 4294967296).toNat = z / 2 := by omega
  rw [e0, i32_xor, e1]
  by_cases c : z % 2 = 0
  · have e2 : (wrap32 (-wrap32 ((z % 2 : Nat) : Int)) % 4294967296).toNat = 0 := by rw [c]; unfold wrap32; omega
    rw [e2, Nat.xor_zero]
    unfold zag wrap32; rw [if_pos c]; omega
  · have c1 : z % 2 = 1 := by omega
    have e2 : (wrap32 (-wrap32 ((z % 2 : Nat) : Int)) % 4294967296).toNat = 4294967295 := by rw [c1]; unfold wrap32; omega
    rw [e2, nat_xor_ones (by omega)]
    unfold zag wrap32; rw [if_neg c]; omega

set_option maxHeartbeats 400000 in
theorem num_any (x : Int) (w : World) :
    Calls Tryz.prog 6 #[.int .i64 x] w fun e w' => e = .returned (.int .i64 x) ∧ w' = w := by
  go_enter Tryz.func6, Tryz.ntmps6
  go_wp2
  go_ret
  exact ⟨rfl, rfl⟩

end Go.Proofs.YtbbmgjcabmjjdaaGreatDoor
