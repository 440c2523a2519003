/- CollectRings' heap: rings of cells, of which one is held. -/
import Derived.Test.YthkelaeemefnaaaGreatMC5q
namespace Go.Proofs.YthkelaeemefnaaaGreat
open Go.RowKit
/-- The refs b + 1 to b + j. -/
def seg (b : Nat) : Nat → List Int
  | 0 => []
  | j + 1 => seg b j ++ [(b : Int) + j + 1]
theorem seg_len (b : Nat) : ∀ j, (seg b j).length = j
  | 0 => rfl
  | j + 1 => by rw [seg, List.length_append, seg_len b j]; rfl
/-- n cells of two words, no cycle; those below k make a ring; P the roots. -/
structure Rg (n k : Nat) (P : List Int) (X : Cm) : Prop where
  T : X.T = 1
  W : X.W = 16384
  ph : X.ph = 0
  lk : ¬ X.tr.ln < X.tr.lw
  all : X.A 0 = true
  len : X.S.length = n
  cell : ∀ i, i < n → ∃ a, X.S[i]? = some (some ⟨1, 0, 2, a⟩)
  rt : X.rt 0 = P
  ring : ∀ x, x < k → X.F x 1 = 0 ∧ X.F x 0 = if x + 1 < k then (x : Int) + 2 else 1
  sum : sumS X.S = 18 * n
  cy : X.cy = 0
section
variable {B : Nat} {w0 w w' : World} {hb : Nat}
end
end Go.Proofs.YthkelaeemefnaaaGreat
/- CollectRings' two cycles. -/
namespace Go.Proofs.YthkelaeemefnaaaGreat
open Go.RowKit
theorem seg_mem (b : Nat) : ∀ (j : Nat) (x : Int), x ∈ seg b j ↔ (b : Int) + 1 ≤ x ∧ x ≤ (b : Int) + j
  | 0, x => by simp [seg]; omega
  | j + 1, x => by rw [seg, List.mem_append, seg_mem b j x, List.mem_singleton]; omega
theorem seg_nodup (b : Nat) : ∀ j, (seg b j).Nodup
  | 0 => List.nodup_nil
  | j + 1 => by
    rw [seg, List.nodup_append]
    refine ⟨seg_nodup b j, by simp, fun a ha c hc e => ?_⟩
    have h1 := (seg_mem b j a).1 ha
    have h2 := List.mem_singleton.1 hc
    omega
end Go.Proofs.YthkelaeemefnaaaGreat
