/- Plain: a program whose counts are within their limits, its ints an int64's, is one that the document's Load is told of; what a program that is taken keeps. -/
import Derived.Test.YtdgndglinkcdbaaDoorMLOpr
import Derived.Test.YtdgndglinkcdbaaDoorMGT3
namespace Go.Proofs.YtdgndglinkcdbaaDoor
open Go.RowKit

theorem all_ptL {α : Type} {g : α → List Pt} {m : Int} {xs : List α} (h : (ptL m g xs).all okC = true) : (xs.length : Int) ≤ m ∧ ∀ x ∈ xs, (g x).all okC = true := by
  unfold ptL at h
  rw [List.all_cons, Bool.and_eq_true] at h
  refine ⟨?_, fun x hx => ?_⟩
  · have h1 := h.1
    refine Int.not_lt.1 fun hlt => ?_
    simp [okC, ptC, hlt] at h1
  · rw [List.all_eq_true] at h ⊢
    exact fun q hq => h.2 q (List.mem_flatMap.2 ⟨x, hx, hq⟩)
theorem okz_of {p : Pg} (hc : (gPg p).all okC = true) (hr : rPg p) : Okz p := by
  unfold gPg at hc
  rw [List.all_cons, Bool.and_eq_true] at hc
  obtain ⟨hn, hcs⟩ := all_ptL hc.2
  refine ⟨hr.1, by omega, fun c hcm => ?_⟩
  have h := hcs c hcm
  have r := hr.2 c hcm
  obtain ⟨r1, r2, r3, r4, r5⟩ := r
  unfold gCs at h
  simp only [List.all_cons, List.all_append, Bool.and_eq_true] at h
  obtain ⟨-, -, -, h1, h2, h3, h4⟩ := h
  have h1 := all_ptL h1
  have h2 := all_ptL h2
  have h3 := all_ptL h3
  have h4 := all_ptL h4
  refine ⟨r1, by omega, r2, by omega, r3, by omega, r4, by omega, fun m hm => ?_⟩
  have hm' := h4.2 m hm
  obtain ⟨q1, q2, q3, -⟩ := r5 m hm
  unfold gMd at hm'
  simp only [List.all_cons, List.all_append, Bool.and_eq_true] at hm'
  obtain ⟨-, -, ha, -⟩ := hm'
  have ha := all_ptL ha
  exact ⟨by omega, q1, q2, q3⟩
end Go.Proofs.YtdgndglinkcdbaaDoor
