/- A list of ints as an argument is read, how much there is of it, and that each is an int64's. -/
import Derived.Test.YtdgndglinkcdbaaDoorMLOpr
namespace Go.Proofs.YtdgndglinkcdbaaDoor
open Go.ChangeShapes Go.WideShapes Go.ChangeAt Go.RowKit Go.Deep

theorem wl_len (xs : List Int) : xs.length ≤ wL wI xs := by
  unfold wL
  have : (xs.map wI).sum = xs.length := by
    induction xs with
    | nil => rfl
    | cons x xs ih => rw [List.map_cons, List.sum_cons, ih, List.length_cons]; unfold wI; omega
  omega
set_option maxRecDepth 100000 in
theorem openr_ints {H : Type} {enc : TypeId × Value → H} {W : World} {r : Reach} {b0 : Nat} {v : Value} {d : DataW H} {ps : List MemPlace} (hval : Value.okWide Tryd.prog W r b0 25 v) (h : DataW.Trod enc Tryd.prog W 0 (fun _ => true) true 25 v d ps) : ∃ xs, Sl kI W (Al W) v xs ∧ xs.length ≤ Rows.uptoBulk d ∧ ∀ x ∈ xs, rg x := by
  obtain ⟨a, len, cap, rfl⟩ := okWide_slice Tryd.underlying25 hval
  obtain ⟨n, hn⟩ := h
  obtain ⟨v', xs, e, s, hb⟩ := openw_sl (K := kQ kI rg) Tryd.underlying25 cells_int wI (fun _ _ _ => openr_int) hn
  obtain rfl : Value.slice a len cap = v' := by simpa [Value.cells] using e
  obtain ⟨s, q⟩ := sl_q s
  exact ⟨xs, s, Nat.le_trans (wl_len xs) hb, q⟩
end Go.Proofs.YtdgndglinkcdbaaDoor
