/- What holds of a space between two calls, and that each call keeps it. -/
import Derived.Test.YtjfjgfkfbbigbaaPMath
namespace Go.Proofs.Ytjfjgfkfbbigbaa
open Go.RowKit

/-- x is still where it was when the cycle began. -/
def Old (q : St) (x : Ary) : Prop := q.c.on = true ∧ x.id ≤ q.c.last ∧ (q.c.id < x.id ∨ (x.id = q.c.id ∧ q.c.cop = true))
/-- The word behind x's sentinel. -/
def tw (q : St) (x : Ary) : Int := if q.c.cop = true ∧ x.id = q.c.id then q.c.to + 4 else 0
def Words (q : St) (f : Int → Int) (V : Int → Int → Int) (x : Ary) : Prop := f x.at_ = x.at_ + 4 ∧ f (x.at_ + 1) = tw q x ∧ ∀ i, 0 ≤ i → i < x.n → f (x.at_ + 4 + i) = V x.id i
structure Inv (q : St) (W : Int) (f : Int → Int) (V : Int → Int → Int) : Prop where
  base0 : 0 ≤ q.base
  half0 : 0 ≤ q.half
  big : q.base + 2 * q.half ≤ W
  sorted : SortedA q.xs
  ids : ∀ x ∈ q.xs, 1 ≤ x.id ∧ x.id ≤ q.given ∧ 0 ≤ x.n
  given0 : 0 ≤ q.given
  sums : q.taken = sumG sz q.xs + q.dropped + q.leaving ∧ 0 ≤ q.dropped ∧ 0 ≤ q.leaving ∧ q.taken ≤ q.half
  off : q.c.on = false → q.leaving = 0 ∧ q.c.cop = false
  old_in : ∀ x ∈ q.xs, Old q x → othOf q ≤ x.at_ ∧ x.at_ + (x.n + 4) ≤ othOf q + q.half
  new_in : ∀ x ∈ q.xs, ¬ Old q x → fillOf q ≤ x.at_ ∧ x.at_ + (x.n + 4) ≤ topOf q
  dis : ∀ x ∈ q.xs, ∀ y ∈ q.xs, x.id ≠ y.id → x.at_ + (x.n + 4) ≤ y.at_ ∨ y.at_ + (y.n + 4) ≤ x.at_
  words : ∀ x ∈ q.xs, Words q f V x
  cyc : q.c.on = true → 0 ≤ q.c.id ∧ q.c.id ≤ q.c.last ∧ q.c.last ≤ q.given ∧ fillOf q ≤ q.c.next ∧ q.c.next + remG sz q.c.id q.c.last q.xs ≤ topOf q
  done_in : q.c.on = true → ∀ x ∈ q.xs, x.id ≤ q.c.last → ¬ Old q x → x.at_ + (x.n + 4) ≤ q.c.next
  after : q.c.on = true → ∀ x ∈ q.xs, q.c.last < x.id → q.c.next + remG sz q.c.id q.c.last q.xs ≤ x.at_
  copy : q.c.cop = true → q.c.on = true ∧ ∀ x ∈ q.xs, x.id = q.c.id → 0 ≤ q.c.copied ∧ q.c.copied ≤ x.n ∧ fillOf q ≤ q.c.to ∧ q.c.to + (x.n + 4) = q.c.next ∧ (∀ y ∈ q.xs, y.id < q.c.id → y.at_ + (y.n + 4) ≤ q.c.to) ∧ ∀ i, 0 ≤ i → i < q.c.copied → f (q.c.to + 4 + i) = V x.id i

section
variable {q : St} {W : Int} {f : Int → Int} {V : Int → Int → Int}
theorem Inv.top (h : Inv q W f V) : fillOf q ≤ topOf q ∧ topOf q ≤ fillOf q + q.half ∧ 0 ≤ sumG sz q.xs := by
  have h1 : 0 ≤ sumG sz q.xs := sumG_pos fun x hx => by have := h.ids x hx; show 0 ≤ x.n + 4; omega
  have h2 := h.sums
  unfold topOf
  omega
theorem Inv.rem0 (h : Inv q W f V) : 0 ≤ remG sz q.c.id q.c.last q.xs := remG_pos fun x hx _ _ => by have := h.ids x hx; show 0 ≤ x.n + 4; omega
/-- Where an array may lie. -/
theorem Inv.lies (h : Inv q W f V) {x : Ary} (hx : x ∈ q.xs) : q.base ≤ x.at_ ∧ x.at_ + (x.n + 4) ≤ q.base + 2 * q.half ∧ 0 ≤ x.n := by
  have h1 := h.top
  have h2 := halves q
  have h3 := h.ids x hx
  have h4 := h.half0
  by_cases ho : Old q x
  · have := h.old_in x hx ho; omega
  · have := h.new_in x hx ho; omega
theorem Words.of {q' : St} {f' : Int → Int} {V' : Int → Int → Int} {x : Ary} (h : Words q f V x) (hn : 0 ≤ x.n) (h1 : ∀ a, x.at_ ≤ a → a < x.at_ + (x.n + 4) → f' a = f a) (h2 : tw q' x = tw q x) (h3 : ∀ i, V' x.id i = V x.id i) : Words q' f' V' x := by
  refine ⟨?_, ?_, fun i h0 hi => ?_⟩
  · rw [h1 _ (by omega) (by omega)]; exact h.1
  · rw [h1 _ (by omega) (by omega), h2]; exact h.2.1
  · rw [h1 _ (by omega) (by omega), h3]; exact h.2.2 i h0 hi
/-- No array lies where another is being copied to. -/
theorem Inv.target (h : Inv q W f V) (hc : q.c.cop = true) {x : Ary} (hx : x ∈ q.xs) (e : x.id = q.c.id) {y : Ary} (hy : y ∈ q.xs) : y.at_ + (y.n + 4) ≤ q.c.to ∨ q.c.to + (x.n + 4) ≤ y.at_ := by
  obtain ⟨hon, hcc⟩ := h.copy hc
  obtain ⟨h1, h2, h3, h4, h5, _⟩ := hcc x hx e
  have ht := h.top
  have hh := halves q
  have hr := h.rem0
  have hc2 := h.cyc hon
  by_cases ho : Old q y
  · have := h.old_in y hy ho
    have := h.ids y hy
    have := h.half0
    omega
  · by_cases hl : y.id ≤ q.c.last
    · left
      apply h5 y hy
      have : ¬ (q.c.id < y.id ∨ (y.id = q.c.id ∧ q.c.cop = true)) := fun r => ho ⟨hon, hl, r⟩
      have h6 : y.id ≠ q.c.id := fun r => this (.inr ⟨r, hc⟩)
      have h7 : ¬ q.c.id < y.id := fun r => this (.inl r)
      omega
    · have := h.after hon y hy (by omega)
      omega

def made (q : St) (n : Int) : St := { q with given := q.given + 1, xs := q.xs ++ [⟨q.given + 1, topOf q, n⟩], taken := q.taken + (n + 4) }
theorem made_inv (h : Inv q W f V) {n : Int} (hn : 0 ≤ n) (hr : n + 4 ≤ q.half - q.taken) {f' : Int → Int} (w0 : f' (topOf q) = topOf q + 4) (w1 : f' (topOf q + 1) = 0) (w2 : ∀ i, 0 ≤ i → i < n → f' (topOf q + 4 + i) = 0)
    (w3 : ∀ a, a < topOf q ∨ topOf q + 4 + n ≤ a → f' a = f a) : Inv (made q n) W f' (fun id i => if id = q.given + 1 then 0 else V id i) := by
  have ht := h.top
  have hh := halves q
  have hrem := h.rem0
  have hs := h.sums
  have hb := h.half0
  have hfil : fillOf (made q n) = fillOf q := rfl
  have hoth : othOf (made q n) = othOf q := rfl
  have htop : topOf (made q n) = topOf q + (n + 4) := by unfold topOf; rw [hfil]; simp only [made]; omega
  have htd : topOf q = fillOf q + q.taken - q.leaving := rfl
  have hmem : ∀ y, y ∈ (made q n).xs → y ∈ q.xs ∨ y = ⟨q.given + 1, topOf q, n⟩ := fun y hy => by simpa [made] using hy
  have hrm : ∀ lo hi, hi ≤ q.given → remG sz lo hi (made q n).xs = remG sz lo hi q.xs := by
    intro lo hi hle
    simp only [made, remG_append, remG]
    rw [if_neg (by omega)]; omega
  have sep : ∀ y ∈ q.xs, y.at_ + (y.n + 4) ≤ topOf q ∨ topOf q + 4 + n ≤ y.at_ := by
    intro y hy
    by_cases ho : Old q y
    · have := h.old_in y hy ho
      have := h.ids y hy
      omega
    · exact .inl (h.new_in y hy ho).2
  have hold : ∀ y, Old (made q n) y ↔ Old q y := fun y => Iff.rfl
  have nold : ¬ Old (made q n) ⟨q.given + 1, topOf q, n⟩ := by
    rintro ⟨ho, hl, _⟩
    have := h.cyc ho
    simp only [made] at hl
    omega
  have htw : ∀ y, tw (made q n) y = tw q y := fun y => rfl
  refine ⟨h.base0, h.half0, h.big, ?_, ?_, ?_, ?_, h.off, ?_, ?_, ?_, ?_, ?_, ?_, ?_, ?_⟩
  · show SortedA (q.xs ++ [_])
    refine List.pairwise_append.2 ⟨h.sorted, List.pairwise_singleton _ _, ?_⟩
    intro x hx y hy
    have := h.ids x hx
    rw [List.mem_singleton.1 hy]
    show x.id < q.given + 1
    omega
  · intro x hx
    rcases hmem x hx with hx | rfl
    · have := h.ids x hx; refine ⟨this.1, ?_, this.2.2⟩; show x.id ≤ q.given + 1; omega
    · have := h.given0; refine ⟨?_, Int.le_refl _, hn⟩; show 1 ≤ q.given + 1; omega
  · have := h.given0; show 0 ≤ q.given + 1; omega
  · simp only [made, sumG_append, sumG, sz]; omega
  · intro x hx ho
    rcases hmem x hx with hx | rfl
    · exact h.old_in x hx ho
    · exact absurd ho nold
  · intro x hx ho
    rw [hfil, htop]
    rcases hmem x hx with hx | rfl
    · have := h.new_in x hx ho; omega
    · exact ⟨ht.1, by show topOf q + (n + 4) ≤ _; omega⟩
  · intro x hx y hy hne
    rcases hmem x hx with hx | rfl
    · rcases hmem y hy with hy | rfl
      · exact h.dis x hx y hy hne
      · rcases sep x hx with r | r
        · exact .inl r
        · right; show topOf q + (n + 4) ≤ _; omega
    · rcases hmem y hy with hy | rfl
      · rcases sep y hy with r | r
        · exact .inr r
        · left; show topOf q + (n + 4) ≤ _; omega
      · exact absurd rfl hne
  · intro x hx
    rcases hmem x hx with hx | rfl
    · have hi := h.ids x hx
      refine (h.words x hx).of hi.2.2 (fun a h1 h2 => w3 a ?_) rfl (fun i => if_neg (by omega))
      rcases sep x hx with r | r
      · left; omega
      · right; omega
    · refine ⟨w0, ?_, fun i h0 hi => ?_⟩
      · show f' (topOf q + 1) = _
        rw [w1, htw]
        unfold tw
        rw [if_neg]
        rintro ⟨hc, hid⟩
        have h1 := h.copy hc
        have h2 := h.cyc h1.1
        simp only at hid
        omega
      · show f' (topOf q + 4 + i) = _
        rw [w2 i h0 hi]; exact (if_pos rfl).symm
  · intro hon
    have h1 := h.cyc hon
    rw [hfil, htop]
    have : remG sz (made q n).c.id (made q n).c.last (made q n).xs = remG sz q.c.id q.c.last q.xs := hrm _ _ h1.2.2.1
    rw [this]
    refine ⟨h1.1, h1.2.1, ?_, h1.2.2.2.1, ?_⟩
    · show q.c.last ≤ q.given + 1; omega
    · show q.c.next + _ ≤ _; omega
  · intro hon x hx hl ho
    rcases hmem x hx with hx | rfl
    · exact h.done_in hon x hx hl ho
    · have := h.cyc hon
      simp only [made] at hl
      omega
  · intro hon x hx hl
    have h1 := h.cyc hon
    have : remG sz (made q n).c.id (made q n).c.last (made q n).xs = remG sz q.c.id q.c.last q.xs := hrm _ _ h1.2.2.1
    rw [this]
    rcases hmem x hx with hx | rfl
    · exact h.after hon x hx hl
    · exact h1.2.2.2.2
  · intro hc
    obtain ⟨hon, hcc⟩ := h.copy hc
    have h1 := h.cyc hon
    refine ⟨hon, fun x hx hid => ?_⟩
    have hid' : x.id = q.c.id := hid
    rcases hmem x hx with hx | rfl
    · obtain ⟨a1, a2, a3, a4, a5, a6⟩ := hcc x hx hid
      refine ⟨a1, a2, a3, a4, fun y hy hlt => ?_, fun i h0 hi => ?_⟩
      · rcases hmem y hy with hy | rfl
        · exact a5 y hy hlt
        · have h2 : q.given + 1 < q.c.id := hlt
          omega
      · have hi' : i < q.c.copied := hi
        show f' (q.c.to + 4 + i) = if x.id = q.given + 1 then 0 else V x.id i
        rw [w3 _ (by left; omega), if_neg (by omega)]
        exact a6 i h0 hi
    · simp only at hid'
      omega
end
end Go.Proofs.Ytjfjgfkfbbigbaa
