/- The small callees of package wire at their own numbers: what each returns, and that none turns the world. The conditions stand in each theorem. -/
import Derived.Test.YtdigdpppcboclaaRows
import Derived.Test.YtdigdpppcboclaaMath
import Derived.WalkKit
import Derived.WalkSpells
import Derived.WalkLawsBesides
import Derived.Laws.BitsAllLaws
namespace Go.Proofs.Ytdigdpppcboclaa
open Go.RowKit

theorem ret_int {k : IntKind} {a b : Int} (h : a = b) : Ending.returned (.int k a) = .returned (.int k b) := by rw [h]
theorem ret_bool {x y : Bool} (h : x = y) : Ending.returned (.bool x) = .returned (.bool y) := by rw [h]

theorem nat_xor_ones {a : Nat} (h : a < 4294967296) : a ^^^ 4294967295 = 4294967295 - a := by
  have e : (BitVec.ofNat 32 a ^^^ BitVec.allOnes 32).toNat = (~~~ BitVec.ofNat 32 a).toNat := by rw [BitVec.xor_allOnes]
  rw [BitVec.toNat_xor, BitVec.toNat_not, BitVec.toNat_ofNat, BitVec.toNat_allOnes] at e
  have e1 : a % 2 ^ 32 = a := Nat.mod_eq_of_lt h
  rw [e1] at e
  exact e

theorem wrap_i32_eq (n : Int) : IntKind.i32.wrap n = wrap32 n := by
  simp only [IntKind.wrap, IntKind.bits, IntKind.signed, wrap32, Bool.true_and]
  split
  · rename_i h; simp at h; omega
  · rename_i h; simp at h; omega

theorem i32_xor (a b : Int) : bits .xor .i32 a b = wrap32 (((a % 4294967296).toNat ^^^ (b % 4294967296).toNat : Nat) : Int) := by
  show IntKind.i32.wrap (((BitVec.ofInt 32 a ^^^ BitVec.ofInt 32 b).toNat : Nat) : Int) = _
  rw [wrap_i32_eq, BitVec.toNat_xor, BitVec.toNat_ofInt, BitVec.toNat_ofInt]
  rfl

theorem fold_eq {x : Int} (h : -2147483648 ≤ x) (h' : x ≤ 2147483647) : bits BinOp.xor IntKind.u32 (wrap32 (x * 2) % 4294967296) (x / 2147483648 % 4294967296) = (zig x : Int) := by
  have e1 : wrap32 (x * 2) % 4294967296 = (((x * 2) % 4294967296).toNat : Int) := by unfold wrap32; omega
  by_cases c : 0 ≤ x
  · have e2 : x / 2147483648 % 4294967296 = ((0 : Nat) : Int) := by omega
    rw [e1, e2, u32_xor_nat _ _ (by omega) (by omega), Nat.xor_zero]
    unfold zig; rw [if_pos c]; omega
  · have e2 : x / 2147483648 % 4294967296 = ((4294967295 : Nat) : Int) := by omega
    rw [e1, e2, u32_xor_nat _ _ (by omega) (by omega), nat_xor_ones (by omega)]
    unfold zig; rw [if_neg c]; omega

theorem unfold_eq {z : Nat} (h : z < 4294967296) : bits BinOp.xor IntKind.i32 ((z : Int) / 2) (wrap32 (-wrap32 (bits BinOp.and IntKind.u32 (z : Int) 1))) = zag z := by
  have e0 : bits BinOp.and IntKind.u32 (z : Int) 1 = ((z % 2 : Nat) : Int) := by
    have := u32_and_nat z 1 h (by omega)
    rw [nat_mask1] at this
    exact this
  have e1 : (((z : Int) / 2) % 4294967296).toNat = z / 2 := by omega
  rw [e0, i32_xor, e1]
  by_cases c : z % 2 = 0
  · have e2 : (wrap32 (-wrap32 ((z % 2 : Nat) : Int)) % 4294967296).toNat = 0 := by rw [c]; unfold wrap32; omega
    rw [e2, Nat.xor_zero]
    unfold zag wrap32; rw [if_pos c]; omega
  · have c1 : z % 2 = 1 := by omega
    have e2 : (wrap32 (-wrap32 ((z % 2 : Nat) : Int)) % 4294967296).toNat = 4294967295 := by rw [c1]; unfold wrap32; omega
    rw [e2, nat_xor_ones (by omega)]
    unfold zag wrap32; rw [if_neg c]; omega

set_option maxHeartbeats 400000 in
theorem fold_any (x : Int) (w : World) (h : -2147483648 ≤ x) (h' : x ≤ 2147483647) :
    Calls Try.prog 20 #[.int .i32 x] w fun e w' => e = .returned (.int .u32 (zig x)) ∧ w' = w := by
  go_enter Try.func20, Try.ntmps20
  go_wp2
  go_ret
  exact ⟨ret_int (fold_eq h h'), rfl⟩

set_option maxHeartbeats 400000 in
theorem unfold_any (z : Nat) (w : World) (h : z < 4294967296) :
    Calls Try.prog 25 #[.int .u32 z] w fun e w' => e = .returned (.int .i32 (zag z)) ∧ w' = w := by
  go_enter Try.func25, Try.ntmps25
  go_wp2
  go_ret
  exact ⟨ret_int (unfold_eq h), rfl⟩

set_option maxHeartbeats 400000 in
theorem num_any (x : Int) (w : World) :
    Calls Try.prog 11 #[.int .i64 x] w fun e w' => e = .returned (.int .i64 x) ∧ w' = w := by
  go_enter Try.func11, Try.ntmps11
  go_wp2
  go_ret
  exact ⟨rfl, rfl⟩

set_option maxHeartbeats 400000 in
/-- Whether no number has the byte c in its place i, at each place that is asked for. -/
theorem misfits_any (c : Nat) (i : Nat) (w : World) (hi : i ≤ 4) :
    Calls Try.prog 24 #[.int .u8 c, .int .i64 i] w fun e w' => e = .returned (.bool (bad c i)) ∧ w' = w := by
  rcases pow_le_4 hi with e | e | e | e | e <;> subst e
  all_goals
    by_cases h0 : c = 0
    · subst h0
      go_enter Try.func24, Try.ntmps24
      go_wp2
      go_ret
      exact ⟨rfl, rfl⟩
    · have h1 : ((c : Int) == 0) = false := by simp; omega
      by_cases h2 : 15 < c
      · have h3 : (c == 0) = false := by simp; omega
        go_enter Try.func24, Try.ntmps24
        go_wp2
        go_ret
        exact ⟨ret_bool (by simp [bad, h2, h3] <;> omega), rfl⟩
      · have h3 : (c == 0) = false := by simp; omega
        go_enter Try.func24, Try.ntmps24
        go_wp2
        go_ret
        exact ⟨ret_bool (by simp [bad, h3] <;> omega), rfl⟩
end Go.Proofs.Ytdigdpppcboclaa
