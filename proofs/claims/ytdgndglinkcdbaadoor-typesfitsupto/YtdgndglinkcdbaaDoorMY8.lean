/- Names: which texts are names; reading one. -/
import Derived.Test.YtdgndglinkcdbaaDoorMLMem
import Derived.Test.YtdgndglinkcdbaaDoorMGL0
import Derived.StillTailTactics
import Derived.Laws.Strings
namespace Go.Proofs.YtdgndglinkcdbaaDoor
open Go.RowKit

end Go.Proofs.YtdgndglinkcdbaaDoor
namespace Go.Proofs.YtdgndglinkcdbaaDoor
open Go.RowKit

def okCh (s : ByteArray) (k : Nat) : Prop := ∀ j (h : j < s.size), j < k → (isL s[j] || isD s[j]) = true
theorem all_yes {s : ByteArray} (h : okCh s s.size) : s.data.toList.all (fun c => isL c || isD c) = true := by
  rw [List.all_eq_true]
  intro c hc
  obtain ⟨j, hj, rfl⟩ := List.getElem_of_mem hc
  have hj' : j < s.size := by simpa using hj
  exact h j hj' hj'
theorem all_no {s : ByteArray} {k : Nat} (hk : k < s.size) (h : (isL s[k] || isD s[k]) = false) : s.data.toList.all (fun c => isL c || isD c) = false := by
  rw [List.all_eq_false]
  refine ⟨s[k], ?_, by rw [h]; decide⟩
  have : s[k] = s.data.toList[k]'(by simpa using hk) := rfl
  rw [this]; exact List.getElem_mem _

theorem isNm_empty {s : ByteArray} (h : s.size = 0) : isNm s = false := by simp [isNm, h]
theorem isNm_long {s : ByteArray} (h : 16 < s.size) : isNm s = false := by
  unfold isNm
  have : decide (s.size ≤ 16) = false := by simp; omega
  rw [this]; simp
theorem get0 {s : ByteArray} (h : 0 < s.size) : s.data[0]? = some s[0] := Array.getElem?_eq_getElem h
theorem isNm_digit {s : ByteArray} (h : 0 < s.size) (hd : isD s[0] = true) : isNm s = false := by
  unfold isNm
  rw [get0 h]; simp [hd]
theorem isNm_rest {s : ByteArray} (h : 0 < s.size) (h2 : s.size ≤ 16) (hd : isD s[0] = false) : isNm s = s.data.toList.all (fun c => isL c || isD c) := by
  unfold isNm
  have e1 : (s.size == 0) = false := by rw [beq_eq_false_iff_ne]; omega
  have e2 : decide (s.size ≤ 16) = true := by simp; omega
  rw [get0 h, e1, e2]; simp [hd]
theorem ne_empty {s : ByteArray} (h : 0 < s.size) : s.toList.isEmpty = false := by
  rw [ByteArray.toList_eq]
  cases hl : s.data.toList with
  | nil =>
    have h2 : s.data.toList.length = s.size := by simp
    rw [hl] at h2
    change 0 = s.size at h2
    omega
  | cons a l => rfl
theorem empty_of {s : ByteArray} (h : s.size = 0) : s = ⟨#[]⟩ := by
  apply ByteArray.ext; exact Array.eq_empty_of_size_eq_zero h

theorem pName_ok {s : ByteArray} {a : Nat} (h : tC s a 16 = 0) (h2 : isNm (tS s a 16) = true) : pName s a = .ok (tS s a 16, (tT s a 16).toNat) := by unfold pName; rw [if_pos h, if_pos h2]
theorem pName_bad {s : ByteArray} {a : Nat} (h : tC s a 16 = 0) (h2 : isNm (tS s a 16) = false) : pName s a = .error (a, 1403) := by unfold pName; rw [if_pos h, if_neg (by rw [h2]; decide)]
theorem pName_no {s : ByteArray} {a : Nat} (h : tC s a 16 ≠ 0) : pName s a = .error (a, ofW (tC s a 16)) := by unfold pName; rw [if_neg h]
theorem tT_nat {s : ByteArray} {a : Nat} (ha : a ≤ s.size) (h : tC s a 16 = 0) : tT s a 16 = ((tT s a 16).toNat : Int) ∧ (tS s a 16).size ≤ s.size := by
  have g0 : gC s a = 0 := by
    apply Classical.byContradiction; intro h'
    rw [(t_err (most := 16) h').1] at h; exact h' h
  have g1 : ¬ (gN s a < 0 ∨ (16 : Int) < gN s a) := by
    intro h'; rw [(t_long g0 h').1] at h; cases h
  have g2 : ¬ (s.size : Int) - gT s a < gN s a := by
    intro h'; rw [(t_cut g0 g1 h').1] at h; cases h
  obtain ⟨_, t2, t3⟩ := t_ok g0 g1 g2
  obtain ⟨n, b1, b2, b3, b4, b5⟩ := num_back ha g0
  rw [t3, b1, t2, ByteArray.size_extract]
  exact ⟨by omega, by omega⟩

end Go.Proofs.YtdgndglinkcdbaaDoor
