/- What each other call makes of a space, and that it keeps what holds. -/
import Derived.Test.YtjfjgfkfbbigbaaPInv
namespace Go.Proofs.Ytjfjgfkfbbigbaa
open Go.RowKit
section
variable {q : St} {W : Int} {f : Int → Int} {V : Int → Int → Int}

/-- V, but v at the word i of the array t. -/
def updV (V : Int → Int → Int) (t i v : Int) : Int → Int → Int := fun id j => if id = t ∧ j = i then v else V id j
theorem tw_cur {x : Ary} (hc : q.c.cop = true) (e : x.id = q.c.id) : tw q x = q.c.to + 4 := if_pos ⟨hc, e⟩
theorem tw_not {x : Ary} (h : ¬ (q.c.cop = true ∧ x.id = q.c.id)) : tw q x = 0 := if_neg h
theorem Inv.tw_ne (h : Inv q W f V) {x : Ary} (hx : x ∈ q.xs) (h0 : tw q x ≠ 0) : q.c.cop = true ∧ x.id = q.c.id ∧ tw q x = q.c.to + 4 ∧ fillOf q ≤ q.c.to ∧ q.c.to + (x.n + 4) ≤ fillOf q + q.half := by
  by_cases hc : q.c.cop = true ∧ x.id = q.c.id
  · obtain ⟨hon, hcc⟩ := h.copy hc.1
    have h1 := hcc x hx hc.2
    have h2 := h.cyc hon
    have h3 := h.top
    have h4 := h.rem0
    exact ⟨hc.1, hc.2, if_pos hc, h1.2.2.1, by omega⟩
  · exact absurd (if_neg hc) h0
theorem set_inv (h : Inv q W f V) {x : Ary} (hx : x ∈ q.xs) {i v : Int} (h0 : 0 ≤ i) (hi : i < x.n) {f' : Int → Int} (w0 : f' (x.at_ + 4 + i) = v) (w1 : tw q x ≠ 0 → f' (tw q x + i) = v)
    (w2 : ∀ a, a ≠ x.at_ + 4 + i → (tw q x ≠ 0 → a ≠ tw q x + i) → f' a = f a) : Inv q W f' (updV V x.id i v) := by
  have hout : ∀ y ∈ q.xs, y.id ≠ x.id → ∀ a, y.at_ ≤ a → a < y.at_ + (y.n + 4) → f' a = f a := by
    intro y hy hne a h1 h2
    have h3 := h.dis y hy x hx hne
    refine w2 a (by omega) fun ht => ?_
    obtain ⟨hc, e, et, _⟩ := h.tw_ne hx ht
    have h4 := h.target hc hx e hy
    omega
  have hin : ∀ a, x.at_ ≤ a → a < x.at_ + (x.n + 4) → a ≠ x.at_ + 4 + i → f' a = f a := by
    intro a h1 h2 h3
    refine w2 a h3 fun ht => ?_
    obtain ⟨hc, e, et, _⟩ := h.tw_ne hx ht
    have h4 := h.target hc hx e hx
    omega
  refine ⟨h.base0, h.half0, h.big, h.sorted, h.ids, h.given0, h.sums, h.off, h.old_in, h.new_in, h.dis, ?_, h.cyc, h.done_in, h.after, ?_⟩
  · intro y hy
    by_cases e : y.id = x.id
    · obtain rfl := same_of_id h.sorted hy hx e
      obtain ⟨a1, a2, a3⟩ := h.words y hy
      refine ⟨?_, ?_, fun j j0 jn => ?_⟩
      · rw [hin _ (by omega) (by omega) (by omega)]; exact a1
      · rw [hin _ (by omega) (by omega) (by omega)]; exact a2
      · unfold updV
        by_cases ej : j = i
        · subst ej; rw [if_pos ⟨rfl, rfl⟩]; exact w0
        · rw [if_neg (fun r => ej r.2), hin _ (by omega) (by omega) (by omega)]; exact a3 j j0 jn
    · exact (h.words y hy).of (h.ids y hy).2.2 (hout y hy e) rfl (fun j => if_neg (fun r => e r.1))
  · intro hc
    obtain ⟨hon, hcc⟩ := h.copy hc
    refine ⟨hon, fun y hy ey => ?_⟩
    obtain ⟨a1, a2, a3, a4, a5, a6⟩ := hcc y hy ey
    refine ⟨a1, a2, a3, a4, a5, fun j j0 jc => ?_⟩
    have hty := h.target hc hy ey hx
    unfold updV
    by_cases e : y.id = x.id
    · obtain rfl := same_of_id h.sorted hy hx e
      have et := tw_cur hc ey
      have et0 : tw q y ≠ 0 := by
        have := h.base0; have := halves q; have := h.half0; rw [et]; omega
      by_cases ej : j = i
      · subst ej; rw [if_pos ⟨rfl, rfl⟩, ← et]; exact w1 et0
      · rw [if_neg (fun r => ej r.2), w2 _ (by omega) (fun _ => by rw [et]; omega)]; exact a6 j j0 jc
    · rw [if_neg (fun r => e r.1)]
      rw [w2 _ (by omega) (fun ht => ?_)]
      · exact a6 j j0 jc
      · obtain ⟨_, ex, _⟩ := h.tw_ne hx ht
        exact absurd (ey.trans ex.symm) e

def droppedSt (q : St) (k : Nat) (n : Int) : St := { q with xs := q.xs.eraseIdx k, dropped := q.dropped + (n + 4) }
theorem drop_inv (h : Inv q W f V) {k : Nat} {x : Ary} (hk : q.xs[k]? = some x) : Inv (droppedSt q k x.n) W f V := by
  have hm := fun y => mem_erase_or (y := y) h.sorted hk
  have hmem : ∀ y, y ∈ (droppedSt q k x.n).xs → y ∈ q.xs := fun y hy => ((hm y).1 hy).1
  have hsum : sumG sz q.xs = sumG sz (q.xs.eraseIdx k) + (x.n + 4) := sumG_erase hk
  have hxs := h.ids x (List.mem_of_getElem? hk)
  have hrem : remG sz q.c.id q.c.last (q.xs.eraseIdx k) ≤ remG sz q.c.id q.c.last q.xs := by
    rw [remG_erase hk]
    split
    · have : 0 ≤ x.n + 4 := by omega
      show _ ≤ _ + (x.n + 4)
      omega
    · omega
  refine ⟨h.base0, h.half0, h.big, sorted_erase h.sorted k, fun y hy => h.ids y (hmem y hy), h.given0, ?_, h.off, fun y hy => h.old_in y (hmem y hy), fun y hy => h.new_in y (hmem y hy), fun y hy z hz => h.dis y (hmem y hy) z (hmem z hz), fun y hy => h.words y (hmem y hy), ?_, fun hon y hy => h.done_in hon y (hmem y hy), ?_, ?_⟩
  · have := h.sums
    simp only [droppedSt]; omega
  · intro hon
    have h1 := h.cyc hon
    refine ⟨h1.1, h1.2.1, h1.2.2.1, h1.2.2.2.1, ?_⟩
    show q.c.next + remG sz q.c.id q.c.last (q.xs.eraseIdx k) ≤ topOf q
    omega
  · intro hon y hy hl
    have h1 := h.after hon y (hmem y hy) hl
    show q.c.next + remG sz q.c.id q.c.last (q.xs.eraseIdx k) ≤ y.at_
    omega
  · intro hc
    obtain ⟨hon, hcc⟩ := h.copy hc
    refine ⟨hon, fun y hy ey => ?_⟩
    obtain ⟨a1, a2, a3, a4, a5, a6⟩ := hcc y (hmem y hy) ey
    exact ⟨a1, a2, a3, a4, fun z hz => a5 z (hmem z hz), a6⟩

def begunSt (q : St) : St := { q with up := !q.up, leaving := q.dropped, dropped := 0, c := ⟨true, q.given, 0, false, 0, 0, othOf q⟩ }
theorem begun_inv (h : Inv q W f V) (hoff : q.c.on = false) : Inv (begunSt q) W f V := by
  obtain ⟨hl, hcop⟩ := h.off hoff
  have hfil : fillOf (begunSt q) = othOf q := by unfold fillOf othOf begunSt; cases q.up <;> simp
  have hoth : othOf (begunSt q) = fillOf q := by unfold fillOf othOf begunSt; cases q.up <;> simp
  have hs := h.sums
  have htop : topOf (begunSt q) = othOf q + sumG sz q.xs := by unfold topOf; rw [hfil]; simp only [begunSt]; omega
  have hnold : ∀ x, ¬ Old q x := fun x ho => by rw [ho.1] at hoff; simp at hoff
  have hold : ∀ x ∈ q.xs, Old (begunSt q) x := fun x hx => ⟨rfl, (h.ids x hx).2.1, .inl (by have := h.ids x hx; show 0 < x.id; omega)⟩
  have hrem : remG sz 0 q.given q.xs = sumG sz q.xs := remG_all fun x hx => by have := h.ids x hx; omega
  refine ⟨h.base0, h.half0, h.big, h.sorted, h.ids, h.given0, ?_, fun r => by simp [begunSt] at r, ?_, fun x hx ho => absurd (hold x hx) ho, h.dis, ?_, ?_, fun _ x hx _ ho => absurd (hold x hx) ho, ?_, fun r => by simp [begunSt] at r⟩
  · simp only [begunSt]; omega
  · intro x hx _
    rw [hoth]
    have h1 := h.new_in x hx (hnold x)
    have h2 := h.top
    show fillOf q ≤ _ ∧ _ ≤ fillOf q + q.half
    omega
  · intro x hx
    refine (h.words x hx).of (h.ids x hx).2.2 (fun _ _ _ => rfl) ?_ (fun _ => rfl)
    rw [tw_not (by simp [begunSt]), tw_not (by simp [hcop])]
  · intro _
    rw [hfil, htop]
    have := h.given0
    refine ⟨Int.le_refl _, this, Int.le_refl _, Int.le_refl _, ?_⟩
    show othOf q + remG sz 0 q.given q.xs ≤ _
    omega
  · intro _ x hx hl
    have := h.ids x hx
    have h2 : q.given < x.id := hl
    omega

def endedSt (q : St) : St := { q with taken := q.taken - q.leaving, leaving := 0, c := ⟨false, 0, 0, false, 0, 0, 0⟩ }
theorem ended_inv (h : Inv q W f V) (hcur : ∀ x ∈ q.xs, ¬ (q.c.cop = true ∧ x.id = q.c.id)) (hno : ∀ x ∈ q.xs, ¬ (q.c.id < x.id ∧ x.id ≤ q.c.last)) : Inv (endedSt q) W f V := by
  have hnold : ∀ x ∈ q.xs, ¬ Old q x := by
    rintro x hx ⟨_, hl, r | r⟩
    · exact hno x hx ⟨r, hl⟩
    · exact hcur x hx ⟨r.2, r.1⟩
  have hfil : fillOf (endedSt q) = fillOf q := rfl
  have htop : topOf (endedSt q) = topOf q := by unfold topOf; rw [hfil]; simp only [endedSt]; omega
  have hs := h.sums
  refine ⟨h.base0, h.half0, h.big, h.sorted, h.ids, h.given0, ?_, fun _ => ⟨rfl, rfl⟩, fun x _ ho => by simp [Old, endedSt] at ho, ?_, h.dis, ?_, fun r => by simp [endedSt] at r, fun r => by simp [endedSt] at r, fun r => by simp [endedSt] at r, fun r => by simp [endedSt] at r⟩
  · simp only [endedSt]; omega
  · intro x hx _
    rw [hfil, htop]
    exact h.new_in x hx (hnold x hx)
  · intro x hx
    refine (h.words x hx).of (h.ids x hx).2.2 (fun _ _ _ => rfl) ?_ (fun _ => rfl)
    rw [tw_not (by simp [endedSt]), tw_not (hcur x hx)]

def startedSt (q : St) (x : Ary) : St := { q with c := { q.c with id := x.id, cop := true, copied := 0, to := q.c.next, next := q.c.next + (x.n + 4) } }
theorem started_inv (h : Inv q W f V) (hon : q.c.on = true) (hcur : ∀ x ∈ q.xs, ¬ (q.c.cop = true ∧ x.id = q.c.id)) {x : Ary} (hx : x ∈ q.xs) (h1 : q.c.id < x.id) (h2 : x.id ≤ q.c.last) (h3 : ∀ y ∈ q.xs, q.c.id < y.id → x.id ≤ y.id) {f' : Int → Int}
    (w0 : f' (x.at_ + 1) = q.c.next + 4) (w1 : ∀ a, a ≠ x.at_ + 1 → f' a = f a) : Inv (startedSt q x) W f' V := by
  have hold : ∀ y ∈ q.xs, (Old (startedSt q x) y ↔ Old q y) := by
    intro y hy
    constructor
    · rintro ⟨_, hl, r⟩
      have r' : x.id < y.id ∨ (y.id = x.id ∧ true = true) := r
      exact ⟨hon, hl, .inl (by omega)⟩
    · rintro ⟨_, hl, r | r⟩
      · have := h3 y hy r
        refine ⟨hon, hl, ?_⟩
        rcases Int.lt_or_eq_of_le this with r2 | r2
        · exact .inl r2
        · exact .inr ⟨r2.symm, rfl⟩
      · exact absurd ⟨r.2, r.1⟩ (hcur y hy)
  have hrem : remG sz q.c.id q.c.last q.xs = (x.n + 4) + remG sz x.id q.c.last q.xs := remG_first h.sorted hx h1 h2 h3
  have hc1 := h.cyc hon
  have hxn := (h.ids x hx).2.2
  refine ⟨h.base0, h.half0, h.big, h.sorted, h.ids, h.given0, h.sums, fun r => by rw [show (startedSt q x).c.on = q.c.on from rfl, hon] at r; simp at r, fun y hy ho => h.old_in y hy ((hold y hy).1 ho), fun y hy ho => h.new_in y hy (fun r => ho ((hold y hy).2 r)), h.dis, ?_, ?_, ?_, ?_, ?_⟩
  · intro y hy
    by_cases e : y.id = x.id
    · obtain rfl := same_of_id h.sorted hy hx e
      obtain ⟨a1, a2, a3⟩ := h.words y hy
      refine ⟨by rw [w1 _ (by omega)]; exact a1, ?_, fun j j0 jn => by rw [w1 _ (by omega)]; exact a3 j j0 jn⟩
      rw [w0]
      exact (tw_cur (q := startedSt q y) rfl rfl).symm
    · have hd := h.dis y hy x hx e
      refine (h.words y hy).of (h.ids y hy).2.2 (fun a b1 b2 => w1 a (by omega)) ?_ (fun _ => rfl)
      rw [tw_not (q := startedSt q x) (fun r => e r.2), tw_not (hcur y hy)]
  · intro _
    show 0 ≤ x.id ∧ x.id ≤ q.c.last ∧ q.c.last ≤ q.given ∧ fillOf q ≤ q.c.next + (x.n + 4) ∧ q.c.next + (x.n + 4) + remG sz x.id q.c.last q.xs ≤ topOf q
    omega
  · intro _ y hy hl ho
    have := h.done_in hon y hy hl (fun r => ho ((hold y hy).2 r))
    show _ ≤ q.c.next + (x.n + 4)
    omega
  · intro _ y hy hl
    have := h.after hon y hy hl
    show q.c.next + (x.n + 4) + remG sz x.id q.c.last q.xs ≤ _
    omega
  · intro _
    refine ⟨hon, fun y hy ey => ?_⟩
    obtain rfl := same_of_id h.sorted hy hx ey
    refine ⟨Int.le_refl _, hxn, hc1.2.2.2.1, rfl, fun z hz ez => ?_, fun i i0 ic => ?_⟩
    · have ez' : z.id < y.id := ez
      refine h.done_in hon z hz (by omega) ?_
      rintro ⟨_, _, r | r⟩
      · have := h3 z hz r; omega
      · exact hcur z hz ⟨r.2, r.1⟩
    · have : i < 0 := ic
      omega

def copiedSt (q : St) : St := { q with c := { q.c with copied := q.c.copied + 1 } }
theorem copied_inv (h : Inv q W f V) (hcop : q.c.cop = true) {x : Ary} (hx : x ∈ q.xs) (ex : x.id = q.c.id) (hlt : q.c.copied < x.n) {f' : Int → Int} (w0 : f' (q.c.to + 4 + q.c.copied) = V x.id q.c.copied) (w1 : ∀ a, a ≠ q.c.to + 4 + q.c.copied → f' a = f a) : Inv (copiedSt q) W f' V := by
  obtain ⟨hon, hcc⟩ := h.copy hcop
  obtain ⟨a1, a2, a3, a4, a5, a6⟩ := hcc x hx ex
  refine ⟨h.base0, h.half0, h.big, h.sorted, h.ids, h.given0, h.sums, h.off, h.old_in, h.new_in, h.dis, ?_, h.cyc, h.done_in, h.after, ?_⟩
  · intro y hy
    have := h.target hcop hx ex hy
    exact (h.words y hy).of (h.ids y hy).2.2 (fun a b1 b2 => w1 a (by omega)) rfl (fun _ => rfl)
  · intro _
    refine ⟨hon, fun y hy ey => ?_⟩
    obtain rfl := same_of_id h.sorted hy hx (Eq.trans ey ex.symm)
    refine ⟨by show 0 ≤ q.c.copied + 1; omega, by show q.c.copied + 1 ≤ _; omega, a3, a4, a5, fun i i0 ic => ?_⟩
    have ic' : i < q.c.copied + 1 := ic
    show f' (q.c.to + 4 + i) = V y.id i
    by_cases e : i = q.c.copied
    · subst e; exact w0
    · rw [w1 _ (by omega)]; exact a6 i i0 (by omega)

def finishedSt (q : St) (k : Nat) (x : Ary) : St := { q with xs := q.xs.set k ⟨x.id, q.c.to, x.n⟩, c := { q.c with cop := false } }
theorem finished_inv (h : Inv q W f V) (hcop : q.c.cop = true) {k : Nat} {x : Ary} (hk : q.xs[k]? = some x) (ex : x.id = q.c.id) (hge : ¬ q.c.copied < x.n) {f' : Int → Int} (w0 : f' q.c.to = q.c.to + 4) (w1 : f' (q.c.to + 1) = 0) (w2 : ∀ a, a ≠ q.c.to → a ≠ q.c.to + 1 → f' a = f a) :
    Inv (finishedSt q k x) W f' V := by
  have hx : x ∈ q.xs := List.mem_of_getElem? hk
  obtain ⟨hon, hcc⟩ := h.copy hcop
  obtain ⟨a1, a2, a3, a4, a5, a6⟩ := hcc x hx ex
  have hmem : ∀ y, y ∈ (finishedSt q k x).xs → y = ⟨x.id, q.c.to, x.n⟩ ∨ (y ∈ q.xs ∧ y.id ≠ x.id) := fun y hy => mem_set_or h.sorted hk hy
  have hshape : (q.xs.set k ⟨x.id, q.c.to, x.n⟩).map (fun z => (z.id, z.n)) = q.xs.map (fun z => (z.id, z.n)) := set_shape hk rfl rfl
  have hsum : sumG sz (q.xs.set k ⟨x.id, q.c.to, x.n⟩) = sumG sz q.xs := sumG_set hk rfl
  have hrem : remG sz q.c.id q.c.last (q.xs.set k ⟨x.id, q.c.to, x.n⟩) = remG sz q.c.id q.c.last q.xs := remG_set hk rfl rfl
  have hold : ∀ y ∈ q.xs, y.id ≠ x.id → (Old (finishedSt q k x) y ↔ Old q y) := by
    intro y hy hne
    constructor
    · rintro ⟨_, hl, r | r⟩
      · exact ⟨hon, hl, .inl r⟩
      · simp [finishedSt] at r
    · rintro ⟨_, hl, r | r⟩
      · exact ⟨hon, hl, .inl r⟩
      · exact absurd (r.1.trans ex.symm) hne
  have hno : ¬ Old (finishedSt q k x) ⟨x.id, q.c.to, x.n⟩ := by
    rintro ⟨_, hl, r | r⟩
    · have r' : q.c.id < x.id := r
      omega
    · simp [finishedSt] at r
  have hc1 := h.cyc hon
  have hr0 := h.rem0
  refine ⟨h.base0, h.half0, h.big, ?_, ?_, h.given0, ?_, fun r => by rw [show (finishedSt q k x).c.on = q.c.on from rfl, hon] at r; simp at r, ?_, ?_, ?_, ?_, ?_, ?_, ?_, fun r => by simp [finishedSt] at r⟩
  · exact (sorted_iff _).2 (by rw [show (finishedSt q k x).xs = q.xs.set k ⟨x.id, q.c.to, x.n⟩ from rfl, hshape]; exact (sorted_iff _).1 h.sorted)
  · intro y hy
    rcases hmem y hy with rfl | ⟨hy, _⟩
    · exact h.ids x hx
    · exact h.ids y hy
  · have := h.sums
    simp only [finishedSt, hsum]; exact this
  · intro y hy ho
    rcases hmem y hy with rfl | ⟨hy, e⟩
    · exact absurd ho hno
    · exact h.old_in y hy ((hold y hy e).1 ho)
  · intro y hy ho
    rcases hmem y hy with rfl | ⟨hy, e⟩
    · exact ⟨a3, by show q.c.to + (x.n + 4) ≤ topOf q; omega⟩
    · exact h.new_in y hy (fun r => ho ((hold y hy e).2 r))
  · intro y hy z hz hne
    rcases hmem y hy with rfl | ⟨hy, e⟩
    · rcases hmem z hz with rfl | ⟨hz, e2⟩
      · exact absurd rfl hne
      · exact (h.target hcop hx ex hz).symm
    · rcases hmem z hz with rfl | ⟨hz, e2⟩
      · exact h.target hcop hx ex hy
      · exact h.dis y hy z hz hne
  · intro y hy
    rcases hmem y hy with rfl | ⟨hy, e⟩
    · refine ⟨w0, ?_, fun i i0 ic => ?_⟩
      · show f' (q.c.to + 1) = _
        rw [w1, tw_not (by simp [finishedSt])]
      · have ic' : i < x.n := ic
        show f' (q.c.to + 4 + i) = V x.id i
        rw [w2 _ (by omega) (by omega)]
        exact a6 i i0 (by omega)
    · have := h.target hcop hx ex hy
      have hxn := (h.ids x hx).2.2
      refine (h.words y hy).of (h.ids y hy).2.2 (fun a b1 b2 => w2 a (by omega) (by omega)) ?_ (fun _ => rfl)
      rw [tw_not (by simp [finishedSt]), tw_not (fun r => e (r.2.trans ex.symm))]
  · intro _
    show 0 ≤ q.c.id ∧ q.c.id ≤ q.c.last ∧ q.c.last ≤ q.given ∧ fillOf q ≤ q.c.next ∧ q.c.next + remG sz q.c.id q.c.last (q.xs.set k ⟨x.id, q.c.to, x.n⟩) ≤ topOf q
    rw [hrem]; exact hc1
  · intro _ y hy hl ho
    rcases hmem y hy with rfl | ⟨hy, e⟩
    · show q.c.to + (x.n + 4) ≤ q.c.next; omega
    · exact h.done_in hon y hy hl (fun r => ho ((hold y hy e).2 r))
  · intro _ y hy hl
    show q.c.next + remG sz q.c.id q.c.last (q.xs.set k ⟨x.id, q.c.to, x.n⟩) ≤ _
    rw [hrem]
    rcases hmem y hy with rfl | ⟨hy, e⟩
    · have : q.c.last < x.id := hl
      omega
    · exact h.after hon y hy hl

/-- So many steps a cycle under way may still take. -/
def rank (q : St) : Int := 1 + remG wt q.c.id q.c.last q.xs + (if q.c.cop = true then remG (fun x => x.n - q.c.copied + 1) (q.c.id - 1) q.c.id q.xs else 0)
theorem Inv.rank1 (h : Inv q W f V) : 1 ≤ rank q := by
  have h1 : 0 ≤ remG wt q.c.id q.c.last q.xs := remG_pos fun x hx _ _ => by have := h.ids x hx; show 0 ≤ x.n + 2; omega
  unfold rank
  split
  · rename_i hc
    have h2 : 0 ≤ remG (fun x => x.n - q.c.copied + 1) (q.c.id - 1) q.c.id q.xs := remG_pos fun x hx l1 l2 => by
      have := (h.copy hc).2 x hx (by omega)
      show 0 ≤ x.n - q.c.copied + 1
      omega
    omega
  · omega
theorem rem_one {g : Ary → Int} {xs : List Ary} (hs : SortedA xs) {x : Ary} (hx : x ∈ xs) : remG g (x.id - 1) x.id xs = g x := by
  rw [remG_first hs hx (by omega) (Int.le_refl _) (fun y _ _ => by omega), remG_none (fun y _ r => by omega)]; omega
theorem rank_begun (h : Inv q W f V) : rank (begunSt q) = 1 + sumG wt q.xs := by
  unfold rank
  have : remG wt 0 q.given q.xs = sumG wt q.xs := remG_all fun x hx => by have := h.ids x hx; omega
  simp only [begunSt, this]
  simp
theorem rank_started (h : Inv q W f V) (hcur : ∀ x ∈ q.xs, ¬ (q.c.cop = true ∧ x.id = q.c.id)) {x : Ary} (hx : x ∈ q.xs) (h1 : q.c.id < x.id) (h2 : x.id ≤ q.c.last) (h3 : ∀ y ∈ q.xs, q.c.id < y.id → x.id ≤ y.id) : rank (startedSt q x) + 1 = rank q := by
  have e1 : remG wt q.c.id q.c.last q.xs = (x.n + 2) + remG wt x.id q.c.last q.xs := remG_first h.sorted hx h1 h2 h3
  have e2 : remG (fun y => y.n - 0 + 1) (x.id - 1) x.id q.xs = x.n - 0 + 1 := rem_one h.sorted hx
  have e3 : (if q.c.cop = true then remG (fun x => x.n - q.c.copied + 1) (q.c.id - 1) q.c.id q.xs else 0) = 0 := by
    split
    · rename_i hc
      exact remG_none fun y hy r => hcur y hy ⟨hc, by omega⟩
    · rfl
  unfold rank
  rw [e3, e1]
  simp only [startedSt, if_true]
  rw [e2]; omega
theorem rank_copied (h : Inv q W f V) (hcop : q.c.cop = true) {x : Ary} (hx : x ∈ q.xs) (ex : x.id = q.c.id) : rank (copiedSt q) + 1 = rank q := by
  have e1 : remG (fun y => y.n - q.c.copied + 1) (x.id - 1) x.id q.xs = x.n - q.c.copied + 1 := rem_one h.sorted hx
  have e2 : remG (fun y => y.n - (q.c.copied + 1) + 1) (x.id - 1) x.id q.xs = x.n - (q.c.copied + 1) + 1 := rem_one h.sorted hx
  rw [ex] at e1 e2
  unfold rank
  simp only [copiedSt, hcop, if_true, e1, e2]; omega
theorem rank_finished (h : Inv q W f V) (hcop : q.c.cop = true) {k : Nat} {x : Ary} (hk : q.xs[k]? = some x) (ex : x.id = q.c.id) : rank (finishedSt q k x) < rank q := by
  have hx : x ∈ q.xs := List.mem_of_getElem? hk
  have e1 : remG (fun y => y.n - q.c.copied + 1) (x.id - 1) x.id q.xs = x.n - q.c.copied + 1 := rem_one h.sorted hx
  have a2 := ((h.copy hcop).2 x hx ex).2.1
  have e2 : remG wt q.c.id q.c.last (q.xs.set k ⟨x.id, q.c.to, x.n⟩) = remG wt q.c.id q.c.last q.xs := remG_set hk rfl rfl
  rw [ex] at e1
  unfold rank
  rw [if_pos hcop, e1]
  simp only [finishedSt, e2]
  simp; omega
end
end Go.Proofs.Ytjfjgfkfbbigbaa
