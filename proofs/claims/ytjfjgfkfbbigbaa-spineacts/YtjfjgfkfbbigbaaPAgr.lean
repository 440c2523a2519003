/- SpineActs: what the law's list tells of the space. -/
import Derived.Test.YtjfjgfkfbbigbaaPOver
namespace Go.Proofs.Ytjfjgfkfbbigbaa
open Go.RowKit
structure Agr7 (q : St) (V : Int → Int → Int) (half bg : Int) (un : Bool) (L : List Rec) : Prop where
  sh : q.xs.map (fun z => (z.id, z.n)) = (L.filter (fun x => !x.gone)).map (fun x => (x.id, (x.n : Int)))
  ids : L.Pairwise fun x z => x.id < z.id
  rng : ∀ x ∈ L, 1 ≤ x.id ∧ x.id ≤ q.given
  val : ∀ x ∈ L, x.gone = false → ∀ j : Nat, j < x.n → V x.id j = x.F j
  un_ : un = q.c.on
  half_ : half = q.half
  dr : q.dropped = sumR (L.filter (fun x => x.gone && decide (bg ≤ x.by_)))
  lv : q.leaving = sumR (L.filter (fun x => x.gone && !decide (bg ≤ x.by_)))
  bys : ∀ x ∈ L, x.gone = true → x.by_ ≤ bg
theorem sumR_append : ∀ L M : List Rec, sumR (L ++ M) = sumR L + sumR M
  | [], M => by simp [sumR]
  | x :: r, M => by simp only [List.cons_append, sumR, sumR_append r M]; omega
theorem sumR_parts (bg : Int) : ∀ L : List Rec, sumR L = sumR (L.filter (fun x => !x.gone)) + sumR (L.filter (fun x => x.gone && decide (bg ≤ x.by_))) + sumR (L.filter (fun x => x.gone && !decide (bg ≤ x.by_)))
  | [] => rfl
  | x :: r => by
    have ih := sumR_parts bg r
    cases hg : x.gone with
    | false => simp only [List.filter_cons, hg, sumR]; simp [sumR]; omega
    | true =>
      by_cases hb : bg ≤ x.by_
      · simp only [List.filter_cons, hg, hb, sumR]; simp [sumR]; omega
      · simp only [List.filter_cons, hg, hb, sumR]; simp [sumR]; omega
theorem sumG_of : ∀ (xs : List Ary) (M : List Rec), xs.map (fun z => (z.id, z.n)) = M.map (fun x => (x.id, (x.n : Int))) → sumG sz xs = sumR M
  | [], [], _ => rfl
  | [], _ :: _, h => by simp at h
  | _ :: _, [], h => by simp at h
  | a :: xs, x :: M, h => by
    simp only [List.map_cons, List.cons.injEq, Prod.mk.injEq] at h
    have ih := sumG_of xs M h.2
    simp only [sumG, sumR, ih, sz, h.1.2]
theorem Agr7.sum {q : St} {V : Int → Int → Int} {half bg : Int} {un : Bool} {L : List Rec} {W : Int} {f : Int → Int} (h : Agr7 q V half bg un L) (hI : Inv q W f V) : sumR L = q.taken := by
  have h1 := hI.sums
  rw [sumG_of _ _ h.sh] at h1
  have h2 := sumR_parts bg L
  rw [← h.dr, ← h.lv] at h2
  omega
theorem Agr7.hs {q : St} {V : Int → Int → Int} {half bg : Int} {un : Bool} {L : List Rec} (h : Agr7 q V half bg un L) {x : Rec} (hx : x ∈ L) (hg : x.gone = false) : ∃ z ∈ q.xs, z.id = x.id ∧ z.n = x.n := by
  have : (x.id, (x.n : Int)) ∈ q.xs.map (fun z => (z.id, z.n)) := by
    rw [h.sh]
    exact List.mem_map.2 ⟨x, List.mem_filter.2 ⟨hx, by simp [hg]⟩, rfl⟩
  obtain ⟨z, hz, e⟩ := List.mem_map.1 this
  simp only [Prod.mk.injEq] at e
  exact ⟨z, hz, e.1, e.2⟩
theorem Agr7.not {q : St} {V : Int → Int → Int} {half bg : Int} {un : Bool} {L : List Rec} (h : Agr7 q V half bg un L) {t : Int} (hn : ∀ x ∈ L, ¬ (x.id = t ∧ x.gone = false)) : has q.xs t = false := by
  cases hh : has q.xs t with
  | false => rfl
  | true =>
    obtain ⟨z, hz, e⟩ := (has_iff _ _).1 hh
    have : (z.id, z.n) ∈ (L.filter (fun x => !x.gone)).map (fun x => (x.id, (x.n : Int))) := by rw [← h.sh]; exact List.mem_map.2 ⟨z, hz, rfl⟩
    obtain ⟨x, hx, e2⟩ := List.mem_map.1 this
    obtain ⟨hx1, hx2⟩ := List.mem_filter.1 hx
    simp only [Prod.mk.injEq] at e2
    exact absurd ⟨e2.1.trans e, by simpa using hx2⟩ (hn x hx1)
/-- A new array. -/
theorem Agr7.made {q : St} {V : Int → Int → Int} {half bg : Int} {un : Bool} {L : List Rec} (h : Agr7 q V half bg un L) (hg : 0 ≤ q.given) (n blk : Nat) :
    Agr7 (made q n) (fun id i => if id = q.given + 1 then 0 else V id i) half bg un (L ++ [⟨q.given + 1, n, false, 0, blk, fun _ => 0⟩]) := by
  refine ⟨?_, ?_, ?_, ?_, h.un_, h.half_, ?_, ?_, ?_⟩
  · show (q.xs ++ [(⟨q.given + 1, topOf q, n⟩ : Ary)]).map _ = _
    rw [List.map_append, h.sh, List.filter_append, List.map_append]
    simp
  · refine List.pairwise_append.2 ⟨h.ids, List.pairwise_singleton _ _, fun x hx z hz => ?_⟩
    have := h.rng x hx
    rw [List.mem_singleton.1 hz]
    show x.id < q.given + 1
    omega
  · intro x hx
    show 1 ≤ x.id ∧ x.id ≤ q.given + 1
    rcases List.mem_append.1 hx with hx | hx
    · have := h.rng x hx; omega
    · rw [List.mem_singleton.1 hx]; show 1 ≤ q.given + 1 ∧ q.given + 1 ≤ q.given + 1; omega
  · intro x hx hgo j hj
    rcases List.mem_append.1 hx with hx | hx
    · have := h.rng x hx
      show (if x.id = q.given + 1 then 0 else V x.id j) = _
      rw [if_neg (by omega)]; exact h.val x hx hgo j hj
    · rw [List.mem_singleton.1 hx]; exact if_pos rfl
  · rw [List.filter_append]; simp; exact h.dr
  · rw [List.filter_append]; simp; exact h.lv
  · intro x hx hgo
    rcases List.mem_append.1 hx with hx | hx
    · exact h.bys x hx hgo
    · rw [List.mem_singleton.1 hx] at hgo; simp at hgo
/-- A cycle begins. -/
theorem Agr7.begun {q : St} {V : Int → Int → Int} {half bg : Int} {L : List Rec} (h : Agr7 q V half bg false L) (hl : q.leaving = 0) : Agr7 (begunSt q) V half (bg + 1) true L := by
  have hnone : ∀ x ∈ L, ¬ ((x.gone && decide (bg + 1 ≤ x.by_)) = true) := by
    intro x hx r
    simp only [Bool.and_eq_true, decide_eq_true_eq] at r
    have := h.bys x hx r.1
    omega
  refine ⟨h.sh, h.ids, h.rng, h.val, rfl, h.half_, ?_, ?_, fun x hx hg => by have := h.bys x hx hg; omega⟩
  · show (0 : Int) = _
    rw [List.filter_eq_nil_iff.2 hnone]; rfl
  · show q.dropped = _
    have h2 := sumR_parts bg L
    have h3 := sumR_parts (bg + 1) L
    rw [List.filter_eq_nil_iff.2 hnone] at h3
    have h4 := h.dr
    have h5 := h.lv
    simp only [sumR] at h3
    omega
end Go.Proofs.Ytjfjgfkfbbigbaa
