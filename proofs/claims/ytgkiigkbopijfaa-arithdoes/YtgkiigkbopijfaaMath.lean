/- What package arith's Do computes, as a function of whole numbers, and its range. Plain numbers: no program is named here, and there are no conditions but those that stand in each theorem. -/
import Derived.RowKit
import Derived.RowKit3
import Derived.Laws.Entries
namespace Go.Proofs.Ytgkiigkbopijfaa
open Go.RowKit

def inR (x : Int) : Bool := decide (-2147483648 ≤ x) && decide (x ≤ 2147483647)

def okB (op a b : Int) : Bool :=
  decide (0 ≤ op) && decide (op ≤ 11) && inR a && inR b && !(b == 0 && (op == 3 || op == 4))

def val (op a b : Int) : Int :=
  if op = 0 then wrap32 (a + b) else
  if op = 1 then wrap32 (a - b) else
  if op = 2 then wrap32 (a * b) else
  if op = 3 then wrap32 (a.tdiv b) else
  if op = 4 then a.tmod b else
  if op = 5 then wrap32 (-a) else
  if op = 6 then bits .and .i32 a b else
  if op = 7 then bits .or .i32 a b else
  if op = 8 then bits .xor .i32 a b else
  if op = 9 then wrap32 (a * 2 ^ (b % 32).toNat) else
  if op = 10 then a / 2 ^ (b % 32).toNat else
  wrap32 (a % 4294967296 / 2 ^ (b % 32).toNat)

/-- The value that Do hands back: 0 where there is none. -/
def V (op a b : Int) : Int := if okB op a b = true then val op a b else 0

theorem inR_iff {x : Int} : inR x = true ↔ -2147483648 ≤ x ∧ x ≤ 2147483647 := by simp [inR]

theorem w32_range (x : Int) : -2147483648 ≤ wrap32 x ∧ wrap32 x ≤ 2147483647 := by unfold wrap32; omega
theorem w32_id {x : Int} (h : -2147483648 ≤ x) (h' : x ≤ 2147483647) : wrap32 x = x := by unfold wrap32; omega
theorem w64_id {x : Int} (h : -2147483648 ≤ x) (h' : x ≤ 2147483647) : wrap64 x = x := by unfold wrap64; omega

theorem wrap_i32_eq (n : Int) : IntKind.i32.wrap n = wrap32 n := by
  simp only [IntKind.wrap, IntKind.bits, IntKind.signed, wrap32, Bool.true_and]
  split
  · rename_i h; simp at h; omega
  · rename_i h; simp at h; omega

theorem bits_wrap32 (op : BinOp) (a b : Int) : ∃ n : Int, bits op .i32 a b = wrap32 n := ⟨_, wrap_i32_eq _⟩

theorem bits_range (op : BinOp) (a b : Int) : -2147483648 ≤ bits op .i32 a b ∧ bits op .i32 a b ≤ 2147483647 := by
  obtain ⟨n, h⟩ := bits_wrap32 op a b; rw [h]; exact w32_range n

theorem pow_pos2 (n : Nat) : (1 : Int) ≤ 2 ^ n := by
  have : 0 < (2 : Int) ^ n := Int.pow_pos (by omega)
  omega

theorem ediv_range {a p : Int} (h : -2147483648 ≤ a) (h' : a ≤ 2147483647) (hp : 1 ≤ p) : -2147483648 ≤ a / p ∧ a / p ≤ 2147483647 := by
  constructor
  · rw [Int.le_ediv_iff_mul_le (by omega)]
    have : -2147483648 * p ≤ -2147483648 * 1 := Int.mul_le_mul_of_nonpos_left (by omega) (by omega)
    omega
  · have : a / p ≤ 2147483647 / p := Int.ediv_le_ediv (by omega) h'
    have : (2147483647 : Int) / p ≤ 2147483647 := Int.ediv_le_self _ (by omega)
    omega

theorem tmod_le_self {a b : Int} (ha : 0 ≤ a) : a.tmod b ≤ a := by
  rw [Int.tmod_eq_emod_of_nonneg ha]
  obtain ⟨n, rfl⟩ := Int.eq_ofNat_of_zero_le ha
  have key : ∀ m : Nat, (n : Int) % (m : Int) ≤ (n : Int) := fun m => by
    have := Nat.mod_le n m
    omega
  rcases Int.natAbs_eq b with h | h
  · rw [h]; exact key _
  · rw [h, Int.emod_neg]; exact key _

theorem tmod_range {a b : Int} (h : -2147483648 ≤ a) (h' : a ≤ 2147483647) : -2147483648 ≤ a.tmod b ∧ a.tmod b ≤ 2147483647 := by
  by_cases ha : 0 ≤ a
  · have h1 := Int.tmod_nonneg b ha
    have h2 : a.tmod b ≤ a := tmod_le_self ha
    omega
  · have e : a.tmod b = -((-a).tmod b) := by rw [Int.neg_tmod]; omega
    have h1 := Int.tmod_nonneg b (show 0 ≤ -a by omega)
    have h2 : (-a).tmod b ≤ -a := tmod_le_self (by omega)
    omega

theorem val_range {op a b : Int} (ha : -2147483648 ≤ a) (ha' : a ≤ 2147483647) : -2147483648 ≤ val op a b ∧ val op a b ≤ 2147483647 := by
  unfold val
  repeat' split
  all_goals first | exact w32_range _ | exact bits_range _ _ _ | exact ediv_range ha ha' (pow_pos2 _) | exact tmod_range ha ha'

theorem ok_of {op a b : Int} (h : okB op a b = true) : (0 ≤ op ∧ op ≤ 11) ∧ (-2147483648 ≤ a ∧ a ≤ 2147483647) ∧ (-2147483648 ≤ b ∧ b ≤ 2147483647) ∧ ¬ (b = 0 ∧ (op = 3 ∨ op = 4)) := by
  simp [okB, inR] at h
  omega
theorem ok_mk {op a b : Int} (h : (0 ≤ op ∧ op ≤ 11) ∧ (-2147483648 ≤ a ∧ a ≤ 2147483647) ∧ (-2147483648 ≤ b ∧ b ≤ 2147483647) ∧ ¬ (b = 0 ∧ (op = 3 ∨ op = 4))) : okB op a b = true := by
  simp [okB, inR]
  omega

theorem V_range (op a b : Int) : -2147483648 ≤ V op a b ∧ V op a b ≤ 2147483647 := by
  unfold V
  split
  · rename_i h; exact val_range (ok_of h).2.1.1 (ok_of h).2.1.2
  · omega

theorem V_no {op a b : Int} (h : okB op a b = false) : V op a b = 0 := by simp [V, h]
theorem V_yes {op a b : Int} (h : okB op a b = true) : V op a b = val op a b := by simp [V, h]

theorem grown_trans {a b c : World} (h : Grown a b) (g : Grown b c) : Grown a c :=
  ⟨World.keptBut_trans h.1 g.1, fun x => (g.2.1 x).trans (h.2.1 x), Nat.le_trans h.2.2 g.2.2⟩

end Go.Proofs.Ytgkiigkbopijfaa
