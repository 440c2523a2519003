/- The order in which ShakeRounds has the threads answer: each once. Plain. -/
import Derived.Test.YtggnmmnmgnffjaaKMath
namespace Go.Proofs.Ytggnmmnmgnffjaa
/-- The thread that answers as the j-th, as it is reckoned first. -/
def ordA (N O i j : Nat) : Nat := (j * (2 * O + 1) + i) % N
/-- Is the plain row taken? -/
def ordP (N : Nat) : Bool := N % 3 == 0 || N % 5 == 0 || N % 7 == 0
def ordT (N O i j : Nat) : Nat := if ordP N = true then (j + i) % N else ordA N O i j
theorem ordT_lt {N : Nat} (O i j : Nat) (h : 0 < N) : ordT N O i j < N := by
  unfold ordT ordA
  split <;> exact Nat.mod_lt _ h
theorem ordT_apart : ∀ N, N < 9 → ∀ O, O < 4 → ∀ i, i < 16 → ∀ j, j < N → ∀ a, a < j → ordT N O i a ≠ ordT N O i j := by decide +kernel
/-- Those who have answered when j have. -/
def ordS (N O i j : Nat) : Nat → Bool := fun x => (List.range j).any fun a => ordT N O i a == x
theorem ordS_zero (N O i : Nat) : ordS N O i 0 = fun _ => false := rfl
theorem ordS_next (N O i j : Nat) : setB (ordS N O i j) (ordT N O i j) true = ordS N O i (j + 1) := by
  funext x
  unfold setB ordS
  rw [List.range_succ, List.any_append]
  by_cases e : x = ordT N O i j
  · simp [e]
  · have : (ordT N O i j == x) = false := by simp; exact fun q => e q.symm
    simp [e, this]
theorem ordS_new {N O i j : Nat} (hN : N < 9) (hO : O < 4) (hi : i < 16) (hj : j < N) : ordS N O i j (ordT N O i j) = false := by
  unfold ordS
  rw [List.any_eq_false]
  intro a ha
  have := ordT_apart N hN O hO i hi j hj a (List.mem_range.1 ha)
  simpa using this
theorem ordS_cnt {N O i : Nat} (hN : N < 9) (hO : O < 4) (hi : i < 16) : ∀ j, j ≤ N → cntB N (ordS N O i j) = j
  | 0, _ => by rw [ordS_zero, cntB_none]
  | j + 1, h => by
    rw [← ordS_next, cntB_add N (ordT_lt _ _ _ (by omega)) (ordS_new hN hO hi (by omega)), ordS_cnt hN hO hi j (by omega)]
end Go.Proofs.Ytggnmmnmgnffjaa
