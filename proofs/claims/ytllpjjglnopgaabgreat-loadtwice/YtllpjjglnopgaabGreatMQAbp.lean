/- The program's own Load: a line comes to the top; all that a class is: plain. -/
import Derived.Test.YtllpjjglnopgaabGreatMY33
namespace Go.Proofs.YtllpjjglnopgaabGreat
open Go.RowKit

theorem nx_low {p : Pg} {k : Int} (h : k < 11) : nxQ p k = 0 ∨ nxQ p k = 1 := by
  unfold nxQ clQ
  rw [if_pos h]
  unfold bltC
  dsimp only
  split
  · exact .inr rfl
  · exact .inl rfl
theorem nx_one {p : Pg} : nxQ p 1 = 0 := rfl
theorem nx_zero {p : Pg} : nxQ p 0 = 0 := rfl
theorem it_zero {p : Pg} : ∀ n, itQ p 0 n = 0
  | 0 => rfl
  | n + 1 => by show nxQ p (itQ p 0 n) = 0; rw [it_zero n]; rfl
theorem it_low2 {p : Pg} {u : Int} (h : u < 11) (n : Nat) : itQ p u (2 + n) = 0 := by
  rw [itQ_shift]
  have : itQ p u 2 = 0 := by
    show nxQ p (nxQ p u) = 0
    rcases nx_low (p := p) h with e | e <;> rw [e] <;> rfl
  rw [this, it_zero]
/-- From every class the top is come to. -/
theorem top_ex {p : Pg} (h1 : ∀ i, i < p.cls.length → bad1 p i = false) (h2 : ∀ i, i < p.cls.length → bad2 p i = false) {c : Int} (hc : isJ p c = true) : ∃ m, m < 11 + p.cls.length ∧ itQ p c m = 0 := by
  apply Classical.byContradiction
  intro hno
  have hne : ∀ m, m < 11 + p.cls.length → itQ p c m ≠ 0 := fun m hm e => hno ⟨m, hm, e⟩
  have hp := upOk_of h1
  have hnd : ((List.range (11 + p.cls.length)).map (itQ p c)).Nodup := by
    refine List.pairwise_map.2 (List.pairwise_iff_getElem.2 fun a b ha hb hab => ?_)
    rw [List.getElem_range, List.getElem_range]
    intro e
    simp at ha hb
    obtain ⟨u, hu⟩ : ∃ u, itQ p c a = u := ⟨_, rfl⟩
    have hback : itQ p u (b - a) = u := by
      rw [← hu, ← itQ_shift, show a + (b - a) = b by omega]; exact e.symm
    by_cases hlow : u < 11
    · have h2b : itQ p u (b - a + (b - a)) = u := by rw [itQ_shift, hback, hback]
      have : itQ p u (2 + (b - a + (b - a) - 2)) = 0 := it_low2 hlow _
      rw [show 2 + (b - a + (b - a) - 2) = b - a + (b - a) by omega, h2b] at this
      exact hne a ha (hu.trans this)
    · have hj : isJ p u = true := by rw [← hu]; exact itQ_ok hp hc a
      have hj2 := hj
      simp [isJ] at hj2
      obtain ⟨i, rfl⟩ : ∃ i : Nat, u = 11 + (i : Int) := ⟨(u - 11).toNat, by omega⟩
      have hil : i < p.cls.length := by omega
      have hnx : nxQ p (11 + (i : Int)) = supJ p (11 + (i : Int)) := by rw [show nxQ p (11 + (i : Int)) = (clQ p (11 + (i : Int))).sup from rfl, cl_sup hj, if_neg (by omega)]
      have hy := cyc_yes h1 hil (j := b - a - 1) (by
        rw [← hnx, ← itQ_next, show b - a - 1 + 1 = b - a by omega]; exact hback) (fun e he => by
        rw [← hnx, ← itQ_next, ← hu, ← itQ_shift]
        exact hne _ (by omega))
      rw [h2 i hil] at hy
      cases hy
  have hle := nodup_len (11 + p.cls.length - 1) (((List.range (11 + p.cls.length)).map (itQ p c)).map (· - 1)) (by
    refine List.Pairwise.map _ (fun a b hab q => hab (by simpa using q)) hnd) (fun x hx => by
    obtain ⟨y, hy, rfl⟩ := List.mem_map.1 hx
    obtain ⟨m, hm, rfl⟩ := List.mem_map.1 hy
    have hj := itQ_ok hp hc m
    simp [isJ] at hj
    have := hne m (by simpa using hm)
    omega)
  simp at hle
/-- A line ends at the top. -/
theorem line_top {p : Pg} (h1 : ∀ i, i < p.cls.length → bad1 p i = false) (h2 : ∀ i, i < p.cls.length → bad2 p i = false) {c : Int} (hc : isJ p c = true) : ∃ m, (lnQ p (11 + p.cls.length) c).length = m + 1 ∧ itQ p c m = 0 := by
  obtain ⟨hl, hh⟩ := lnQ_len (p := p) (11 + p.cls.length) c
  obtain ⟨m, hm, h0⟩ := top_ex h1 h2 hc
  generalize hL : (lnQ p (11 + p.cls.length) c).length = L at *
  have hpos : 0 < L := by
    rw [← hL, show 11 + p.cls.length = (10 + p.cls.length) + 1 by omega, lnQ]
    simp
  refine ⟨L - 1, by omega, ?_⟩
  by_cases e : L < 11 + p.cls.length
  · have := hh e
    obtain ⟨k, rfl⟩ : ∃ k, L = k + 1 := ⟨L - 1, by omega⟩
    simpa [hasQ] using this
  · have hm1 : ¬ m + 1 < L := fun q => by
      obtain ⟨x, hx⟩ : ∃ x, (lnQ p (11 + p.cls.length) c)[m + 1]? = some x := ⟨_, List.getElem?_eq_getElem (by omega)⟩
      have := (lnQ_get _ _ _ _ hx).2.2
      simp [hasQ, h0] at this
    rw [show L - 1 = m by omega]; exact h0
theorem ext_sorted : ∀ (l k : List Int), l.Pairwise (· < ·) → k.Pairwise (· < ·) → (∀ x, x ∈ l ↔ x ∈ k) → l = k
  | [], [], _, _, _ => rfl
  | [], b :: k, _, _, h => by have := (h b).2 (by simp); simp at this
  | a :: l, [], _, _, h => by have := (h a).1 (by simp); simp at this
  | a :: l, b :: k, hl, hk, h => by
    rw [List.pairwise_cons] at hl hk
    have e : a = b := by
      rcases List.mem_cons.1 ((h a).1 (by simp)) with q | q
      · exact q
      · rcases List.mem_cons.1 ((h b).2 (by simp)) with r | r
        · exact r.symm
        · have := hk.1 a q; have := hl.1 b r; omega
    subst e
    congr 1
    refine ext_sorted l k hl.2 hk.2 fun x => ?_
    constructor
    · intro hx
      rcases List.mem_cons.1 ((h x).1 (by simp [hx])) with q | q
      · have := hl.1 x hx; omega
      · exact q
    · intro hx
      rcases List.mem_cons.1 ((h x).2 (by simp [hx])) with q | q
      · have := hk.1 x hx; omega
      · exact q
theorem ins_nodup {x : Int} : ∀ {l : List Int}, l.Nodup → x ∉ l → (insJ x l).Nodup
  | [], _, _ => by simp [insJ]
  | a :: l, h, hx => by
    rw [List.nodup_cons] at h
    unfold insJ
    split
    · rw [List.nodup_cons, List.nodup_cons]; exact ⟨hx, h⟩
    · rw [List.nodup_cons, mem_insJ]
      refine ⟨fun q => ?_, ins_nodup h.2 fun q => hx (by simp [q])⟩
      rcases q with q | q
      · exact hx (by simp [q])
      · exact h.1 q
theorem sort_nodup {xs : List Int} (h : xs.Nodup) : (sortJ xs).Nodup := by
  have g : ∀ (l o : List Int), o.Nodup → l.Nodup → (∀ x ∈ l, x ∉ o) → (l.foldl (fun o x => insJ x o) o).Nodup := by
    intro l
    induction l with
    | nil => intro o ho _ _; exact ho
    | cons a l ih =>
      intro o ho hl hd
      rw [List.nodup_cons] at hl
      refine ih _ (ins_nodup ho (hd a (by simp))) hl.2 fun x hx q => ?_
      rcases mem_insJ.1 q with e | e
      · exact hl.1 (e ▸ hx)
      · exact hd x (by simp [hx]) e
  exact g xs [] List.nodup_nil h (by simp)
theorem abv_strict {p : Pg} (hS : SupOk p) (hF : FaceOk p) {c : Int} (hc : isJ p c = true) : (abvJ p c).Pairwise (· < ·) := by
  have hg := (above_gd hS hF (nJ p + 1) c [] hc ⟨by simp, by simp⟩).1
  have h1 := (sorted_sort _ (aboveJ p (nJ p + 1) c []) rfl).1
  have h2 := sort_nodup hg.1
  unfold abvJ
  exact (List.pairwise_iff_getElem.2 fun i j hi hj hij => by
    have a := List.pairwise_iff_getElem.1 h1 i j hi hj hij
    have b := List.pairwise_iff_getElem.1 h2 i j hi hj hij
    omega)
/-- A row that rises, is closed and holds no more than it must is all that c is. -/
theorem abv_of_set {p : Pg} (hS : SupOk p) (hF : FaceOk p) {c : Int} (hc : isJ p c = true) {xs : List Int} (hs : xs.Pairwise (· < ·)) (h0 : c ∈ xs) (hcl : ∀ x ∈ xs, ∀ y, Suc p x y → y ∈ xs) (hin : ∀ x ∈ xs, x ∈ abvJ p c) : xs = abvJ p c := by
  refine ext_sorted _ _ hs (abv_strict hS hF hc) fun x => ⟨hin x, fun hx => ?_⟩
  unfold abvJ at hx
  rw [sort_mem] at hx
  rcases above_in (fun x => x ∈ xs) (fun x y hx hy => hcl x hx y hy) _ _ _ h0 x hx with q | q
  · simp at q
  · exact q
theorem abv_self {p : Pg} (hS : SupOk p) (hF : FaceOk p) {c : Int} (hc : isJ p c = true) : c ∈ abvJ p c := by
  unfold abvJ
  rw [sort_mem]
  exact (above_clo hS hF (nJ p + 1) c [] hc ⟨by simp, by simp⟩ (by simp)).2
theorem abv_suc {p : Pg} (hS : SupOk p) (hF : FaceOk p) {c : Int} (hc : isJ p c = true) {x y : Int} (hx : x ∈ abvJ p c) (hy : Suc p x y) : y ∈ abvJ p c := by
  unfold abvJ at hx ⊢
  rw [sort_mem] at hx ⊢
  exact ((above_clo hS hF (nJ p + 1) c [] hc ⟨by simp, by simp⟩ (by simp)).1.2 x hx).resolve_left (by simp) y hy
/-- A class's Faces, as the program has them. -/
def fcQ (p : Pg) (k : Int) : List Int := (clQ p k).faces
theorem suc_iff {p : Pg} {k y : Int} (hk : isJ p k = true) : Suc p k y ↔ y ∈ fcQ p k ∨ (0 ≤ supJ p k ∧ y = supJ p k) := by
  unfold Suc fcQ clQ
  by_cases h : k < 11
  · have hu : userJ p k = false := by unfold userJ; rw [decide_eq_false (by omega)]; rfl
    rw [if_pos h, hu]
    constructor
    · rintro (⟨q, -⟩ | q)
      · cases q
      · exact .inr q
    · rintro (q | q)
      · simp [bltC] at q
      · exact .inr q
  · have hu : userJ p k = true := by unfold userJ; rw [decide_eq_true (by omega), hk]; rfl
    rw [if_neg h, hu]
    constructor
    · rintro (⟨-, q⟩ | q)
      · exact .inl q
      · exact .inr q
    · rintro (q | q)
      · exact .inl ⟨rfl, q⟩
      · exact .inr q
/-- While the Faces are gone into: A is what was met, fs what is still to be gone into. -/
structure WkA (p : Pg) (c : Int) (A : Nat → Bool) (fs : List Int) : Prop where
  top : A 0 = true
  slf : A c.toNat = true
  snd : ∀ t, A t = true → t < 11 + p.cls.length ∧ (t : Int) ∈ abvJ p c
  fsn : ∀ f ∈ fs, f ∈ abvJ p c ∧ isJ p f = true ∧ supJ p f = 0
  fac : ∀ t, A t = true → ∀ y ∈ fcQ p t, A y.toNat = true ∨ y ∈ fs
  sup : ∀ t, A t = true → 0 ≤ supJ p t → A (supJ p t).toNat = true
theorem WkA.met {p : Pg} {c : Int} {A : Nat → Bool} {fs : List Int} {f : Int} (h : WkA p c A (fs ++ [f])) (hf : A f.toNat = true) : WkA p c A fs where
  top := h.top
  slf := h.slf
  snd := h.snd
  fsn := fun g hg => h.fsn g (by simp [hg])
  fac := fun t ht y hy => by
    rcases h.fac t ht y hy with q | q
    · exact .inl q
    · rcases List.mem_append.1 q with q | q
      · exact .inr q
      · obtain rfl : y = f := by simpa using q
        exact .inl hf
  sup := h.sup
theorem nat_isJ {p : Pg} {f : Int} (h : isJ p f = true) : ((f.toNat : Nat) : Int) = f ∧ f.toNat < 11 + p.cls.length := by
  simp [isJ] at h
  omega
theorem WkA.gone {p : Pg} (hS : SupOk p) (hF : FaceOk p) {c : Int} (hc : isJ p c = true) (hface : ∀ k y, isJ p k = true → y ∈ fcQ p k → isJ p y = true ∧ supJ p y = 0) {A : Nat → Bool} {fs : List Int} {f : Int} (h : WkA p c A (fs ++ [f])) : WkA p c (fun t => if t = f.toNat then true else A t) (fs ++ fcQ p f) where
  top := by show (if 0 = f.toNat then true else A 0) = true; split; rfl; exact h.top
  slf := by show (if c.toNat = f.toNat then true else A c.toNat) = true; split; rfl; exact h.slf
  snd := fun t ht => by
    obtain ⟨f1, f2, -⟩ := h.fsn f (by simp)
    have hn := nat_isJ f2
    by_cases e : t = f.toNat
    · subst e; exact ⟨hn.2, by rw [hn.1]; exact f1⟩
    · simp only [if_neg e] at ht; exact h.snd t ht
  fsn := fun g hg => by
    rcases List.mem_append.1 hg with q | q
    · exact h.fsn g (by simp [q])
    · obtain ⟨f1, f2, -⟩ := h.fsn f (by simp)
      obtain ⟨g1, g2⟩ := hface f g f2 q
      exact ⟨abv_suc hS hF hc f1 ((suc_iff f2).2 (.inl q)), g1, g2⟩
  fac := fun t ht y hy => by
    obtain ⟨f1, f2, -⟩ := h.fsn f (by simp)
    have hn := nat_isJ f2
    by_cases e : t = f.toNat
    · subst e
      rw [hn.1] at hy
      exact .inr (by simp [hy])
    · simp only [if_neg e] at ht
      rcases h.fac t ht y hy with q | q
      · exact .inl (by show (if y.toNat = f.toNat then true else A y.toNat) = true; split; rfl; exact q)
      · rcases List.mem_append.1 q with q | q
        · exact .inr (by simp [q])
        · obtain rfl : y = f := by simpa using q
          exact .inl (by show (if y.toNat = y.toNat then true else A y.toNat) = true; rw [if_pos rfl])
  sup := fun t ht h0 => by
    obtain ⟨f1, f2, f3⟩ := h.fsn f (by simp)
    have hn := nat_isJ f2
    show (if (supJ p t).toNat = f.toNat then true else A (supJ p t).toNat) = true
    by_cases e : t = f.toNat
    · subst e
      rw [hn.1, f3]
      split
      · rfl
      · exact h.top
    · simp only [if_neg e] at ht
      split
      · rfl
      · exact h.sup t ht h0
/-- The numbers of a set, rising. -/
def rise (N : Nat) (A : Nat → Bool) : List Int := ((List.range N).filter A).map fun t : Nat => (t : Int)
theorem rise_mem {N : Nat} {A : Nat → Bool} {x : Int} : x ∈ rise N A ↔ ∃ t : Nat, t < N ∧ A t = true ∧ x = (t : Int) := by
  unfold rise
  rw [List.mem_map]
  constructor
  · rintro ⟨t, ht, rfl⟩
    obtain ⟨h1, h2⟩ := List.mem_filter.1 ht
    exact ⟨t, List.mem_range.1 h1, h2, rfl⟩
  · rintro ⟨t, h1, h2, rfl⟩
    exact ⟨t, List.mem_filter.2 ⟨List.mem_range.2 h1, h2⟩, rfl⟩
theorem rise_pw (N : Nat) (A : Nat → Bool) : (rise N A).Pairwise (· < ·) := by
  unfold rise
  refine List.pairwise_map.2 (List.Pairwise.imp ?_ ((List.pairwise_lt_range (n := N)).filter A))
  intro a b h
  omega
/-- When nothing is left, the set is all that c is. -/
theorem WkA.done {p : Pg} (hS : SupOk p) (hF : FaceOk p) {c : Int} (hc : isJ p c = true) {A : Nat → Bool} (h : WkA p c A []) : rise (11 + p.cls.length) A = abvJ p c := by
  refine abv_of_set hS hF hc (rise_pw _ _) ?_ (fun x hx y hy => ?_) (fun x hx => ?_)
  · have := nat_isJ hc
    exact rise_mem.2 ⟨c.toNat, this.2, h.slf, this.1.symm⟩
  · obtain ⟨t, ht, hA, rfl⟩ := rise_mem.1 hx
    have hk : isJ p (t : Int) = true := by simp [isJ]; omega
    rcases (suc_iff hk).1 hy with q | ⟨q0, rfl⟩
    · have := (h.fac t hA y q).resolve_right (by simp)
      have hy2 := h.snd _ this
      have hy3 : isJ p y = true := by
        have hq : y ∈ fcQ p t := q
        unfold fcQ clQ at hq
        by_cases h11 : (t : Int) < 11
        · rw [if_pos h11] at hq; simp [bltC] at hq
        · rw [if_neg h11] at hq
          exact hF t (by unfold userJ; rw [decide_eq_true (by omega), hk]; rfl) y hq
      exact rise_mem.2 ⟨y.toNat, hy2.1, this, (nat_isJ hy3).1.symm⟩
    · have := h.sup t hA q0
      exact rise_mem.2 ⟨_, (h.snd _ this).1, this, by omega⟩
  · obtain ⟨t, -, hA, rfl⟩ := rise_mem.1 hx
    exact (h.snd t hA).2
end Go.Proofs.YtllpjjglnopgaabGreat
