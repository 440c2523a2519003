/- A slice of ints as an argument; masks. -/
import Derived.Test.YtcafmloinmdeeaaMCol
namespace Go.Proofs.Ytcafmloinmdeeaa
open Go.RowKit

theorem mask3 (n : Int) : bits BinOp.and .i64 n 3 = n % 4 := by
  have e : (BitVec.ofInt 64 n &&& BitVec.ofInt 64 3).toNat = (n % 18446744073709551616).toNat % 4 := by
    rw [BitVec.toNat_and, BitVec.toNat_ofInt, show (BitVec.ofInt 64 3).toNat = 2 ^ 2 - 1 from by decide, Nat.and_two_pow_sub_one_eq_mod]; rfl
  show IntKind.i64.wrap ((BitVec.ofInt 64 n &&& BitVec.ofInt 64 3).toNat : Nat) = n % 4
  rw [e, IntKind.wrap_i64]; omega
theorem masked3 (n : Int) : ∃ r : Nat, bits BinOp.and .i64 n 3 = (r : Int) ∧ r < 4 := ⟨(n % 4).toNat, by rw [mask3]; omega, by omega⟩
theorem mask7 (n : Int) : bits BinOp.and .i64 n 7 = n % 8 := by
  have e : (BitVec.ofInt 64 n &&& BitVec.ofInt 64 7).toNat = (n % 18446744073709551616).toNat % 8 := by
    rw [BitVec.toNat_and, BitVec.toNat_ofInt, show (BitVec.ofInt 64 7).toNat = 2 ^ 3 - 1 from by decide, Nat.and_two_pow_sub_one_eq_mod]; rfl
  show IntKind.i64.wrap ((BitVec.ofInt 64 n &&& BitVec.ofInt 64 7).toNat : Nat) = n % 8
  rw [e, IntKind.wrap_i64]; omega
theorem masked7 (n : Int) : ∃ r : Nat, bits BinOp.and .i64 n 7 = (r : Int) ∧ r < 8 := ⟨(n % 8).toNat, by rw [mask7]; omega, by omega⟩
theorem mask15 (n : Int) : bits BinOp.and .i64 n 15 = n % 16 := by
  have e : (BitVec.ofInt 64 n &&& BitVec.ofInt 64 15).toNat = (n % 18446744073709551616).toNat % 16 := by
    rw [BitVec.toNat_and, BitVec.toNat_ofInt, show (BitVec.ofInt 64 15).toNat = 2 ^ 4 - 1 from by decide, Nat.and_two_pow_sub_one_eq_mod]; rfl
  show IntKind.i64.wrap ((BitVec.ofInt 64 n &&& BitVec.ofInt 64 15).toNat : Nat) = n % 16
  rw [e, IntKind.wrap_i64]; omega
theorem masked15 (n : Int) : ∃ r : Nat, bits BinOp.and .i64 n 15 = (r : Int) ∧ r < 16 := ⟨(n % 16).toNat, by rw [mask15]; omega, by omega⟩
theorem mask31 (n : Int) : bits BinOp.and .i64 n 31 = n % 32 := by
  have e : (BitVec.ofInt 64 n &&& BitVec.ofInt 64 31).toNat = (n % 18446744073709551616).toNat % 32 := by
    rw [BitVec.toNat_and, BitVec.toNat_ofInt, show (BitVec.ofInt 64 31).toNat = 2 ^ 5 - 1 from by decide, Nat.and_two_pow_sub_one_eq_mod]; rfl
  show IntKind.i64.wrap ((BitVec.ofInt 64 n &&& BitVec.ofInt 64 31).toNat : Nat) = n % 32
  rw [e, IntKind.wrap_i64]; omega
theorem masked31 (n : Int) : ∃ r : Nat, bits BinOp.and .i64 n 31 = (r : Int) ∧ r < 32 := ⟨(n % 32).toNat, by rw [mask31]; omega, by omega⟩
theorem mask63 (n : Int) : bits BinOp.and .i64 n 63 = n % 64 := by
  have e : (BitVec.ofInt 64 n &&& BitVec.ofInt 64 63).toNat = (n % 18446744073709551616).toNat % 64 := by
    rw [BitVec.toNat_and, BitVec.toNat_ofInt, show (BitVec.ofInt 64 63).toNat = 2 ^ 6 - 1 from by decide, Nat.and_two_pow_sub_one_eq_mod]; rfl
  show IntKind.i64.wrap ((BitVec.ofInt 64 n &&& BitVec.ofInt 64 63).toNat : Nat) = n % 64
  rw [e, IntKind.wrap_i64]; omega
theorem masked63 (n : Int) : ∃ r : Nat, bits BinOp.and .i64 n 63 = (r : Int) ∧ r < 64 := ⟨(n % 64).toNat, by rw [mask63]; omega, by omega⟩
theorem mask255 (n : Int) : bits BinOp.and .i64 n 255 = n % 256 := by
  have e : (BitVec.ofInt 64 n &&& BitVec.ofInt 64 255).toNat = (n % 18446744073709551616).toNat % 256 := by
    rw [BitVec.toNat_and, BitVec.toNat_ofInt, show (BitVec.ofInt 64 255).toNat = 2 ^ 8 - 1 from by decide, Nat.and_two_pow_sub_one_eq_mod]; rfl
  show IntKind.i64.wrap ((BitVec.ofInt 64 n &&& BitVec.ofInt 64 255).toNat : Nat) = n % 256
  rw [e, IntKind.wrap_i64]; omega
theorem masked255 (n : Int) : ∃ r : Nat, bits BinOp.and .i64 n 255 = (r : Int) ∧ r < 256 := ⟨(n % 256).toNat, by rw [mask255]; omega, by omega⟩
theorem mask1023 (n : Int) : bits BinOp.and .i64 n 1023 = n % 1024 := by
  have e : (BitVec.ofInt 64 n &&& BitVec.ofInt 64 1023).toNat = (n % 18446744073709551616).toNat % 1024 := by
    rw [BitVec.toNat_and, BitVec.toNat_ofInt, show (BitVec.ofInt 64 1023).toNat = 2 ^ 10 - 1 from by decide, Nat.and_two_pow_sub_one_eq_mod]; rfl
  show IntKind.i64.wrap ((BitVec.ofInt 64 n &&& BitVec.ofInt 64 1023).toNat : Nat) = n % 1024
  rw [e, IntKind.wrap_i64]; omega
theorem masked1023 (n : Int) : ∃ r : Nat, bits BinOp.and .i64 n 1023 = (r : Int) ∧ r < 1024 := ⟨(n % 1024).toNat, by rw [mask1023]; omega, by omega⟩
/-- A slice of n ints that can be read: its i-th is f i. -/
def Ints (w : World) (v : Value) (n : Nat) (f : Nat → Int) : Prop :=
  ∃ (ao : Option Addr) (cap : Nat), v = .slice ao n cap ∧ (n = 0 ∨ ∃ B o : Nat, ao = some ⟨B, o, none⟩ ∧ B < w.heap.size ∧ ∀ i, i < n → w.cell? ⟨B, o + i, none⟩ = some (.int .i64 (f i)))
theorem Ints.below {w w' : World} {v : Value} {n : Nat} {f : Nat → Int} (h : Ints w v n f) (hb : Below w.heap.size w w') : Ints w' v n f := by
  obtain ⟨ao, cap, rfl, h0 | ⟨B, o, rfl, hB, hc⟩⟩ := h
  · exact ⟨ao, cap, rfl, Or.inl h0⟩
  · exact ⟨_, cap, rfl, Or.inr ⟨B, o, rfl, Nat.lt_of_lt_of_le hB hb.size, fun i hi => (World.cell?_of_block (a := ⟨B, o + i, none⟩) (hb.block B hB)).trans (hc i hi)⟩⟩
end Go.Proofs.Ytcafmloinmdeeaa
