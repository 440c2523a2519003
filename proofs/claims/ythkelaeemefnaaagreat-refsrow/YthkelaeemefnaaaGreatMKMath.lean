/- Who has answered, as a function of the thread's number: how many have. Plain. -/
import Derived.Test.YthkelaeemefnaaaGreatRows
namespace Go.Proofs.YthkelaeemefnaaaGreat
/-- How many of the first n. -/
def cntB : Nat → (Nat → Bool) → Nat
  | 0, _ => 0
  | n + 1, A => cntB n A + (if A n = true then 1 else 0)
/-- A, but v at t. -/
def setB (A : Nat → Bool) (t : Nat) (v : Bool) : Nat → Bool := fun i => if i = t then v else A i
theorem setB_at (A : Nat → Bool) (t : Nat) (v : Bool) : setB A t v t = v := by simp [setB]
theorem setB_else {A : Nat → Bool} {t i : Nat} {v : Bool} (h : i ≠ t) : setB A t v i = A i := by simp [setB, h]
theorem cntB_le (A : Nat → Bool) : ∀ n, cntB n A ≤ n
  | 0 => Nat.le_refl 0
  | n + 1 => by
    have := cntB_le A n
    unfold cntB
    split <;> omega
theorem cntB_congr {A C : Nat → Bool} : ∀ n, (∀ i, i < n → A i = C i) → cntB n A = cntB n C
  | 0, _ => rfl
  | n + 1, h => by
    unfold cntB
    rw [cntB_congr n (fun i hi => h i (by omega)), h n (by omega)]
theorem cntB_all {A : Nat → Bool} : ∀ n, (∀ i, i < n → A i = true) → cntB n A = n
  | 0, _ => rfl
  | n + 1, h => by
    unfold cntB
    rw [cntB_all n (fun i hi => h i (by omega)), if_pos (h n (by omega))]
theorem cntB_none : ∀ n, cntB n (fun _ => false) = 0
  | 0 => rfl
  | n + 1 => by
    unfold cntB
    rw [cntB_none n]; rfl
theorem cntB_full {A : Nat → Bool} : ∀ n, cntB n A = n → ∀ i, i < n → A i = true
  | 0, _, _, hi => by omega
  | n + 1, h, i, hi => by
    have hl := cntB_le A n
    unfold cntB at h
    split at h
    · rename_i hn
      rcases Nat.lt_succ_iff_lt_or_eq.1 hi with r | rfl
      · exact cntB_full n (by omega) i r
      · exact hn
    · omega
theorem cntB_add {A : Nat → Bool} {t : Nat} : ∀ n, t < n → A t = false → cntB n (setB A t true) = cntB n A + 1
  | 0, h, _ => by omega
  | n + 1, h, hA => by
    unfold cntB
    by_cases e : t = n
    · subst e
      rw [cntB_congr (C := A) t (fun i hi => setB_else (by omega)), setB_at, hA]
      simp
    · rw [cntB_add n (by omega) hA, setB_else (fun q => e q.symm)]
      omega
theorem setB_same {A : Nat → Bool} {t : Nat} {v : Bool} (h : A t = v) : setB A t v = A := by
  funext i
  unfold setB
  split
  · rename_i e; rw [e, h]
  · rfl
/-- All have answered. -/
def allB (n : Nat) (A : Nat → Bool) : Bool := decide (cntB n A = n)
theorem allB_iff {n : Nat} {A : Nat → Bool} : allB n A = true ↔ ∀ i, i < n → A i = true := by
  unfold allB
  rw [decide_eq_true_iff]
  exact ⟨cntB_full n, cntB_all n⟩
end Go.Proofs.YthkelaeemefnaaaGreat
