/- The program's own Load: a layout out of its super's; what the layouts are meanwhile: plain. -/
import Derived.Test.YtbbmgjcabmjjdaaGreatDoorMY31
namespace Go.Proofs.YtbbmgjcabmjjdaaGreatDoor
open Go.RowKit

theorem nx_low {p : Pg} {k : Int} (h : k < 11) : nxQ p k = 0 ∨ nxQ p k = 1 := by
  unfold nxQ clQ
  rw [if_pos h]
  unfold bltC
  dsimp only
  split
  · exact .inr rfl
  · exact .inl rfl
theorem nx_one {p : Pg} : nxQ p 1 = 0 := rfl
theorem nx_zero {p : Pg} : nxQ p 0 = 0 := rfl
theorem it_zero {p : Pg} : ∀ n, itQ p 0 n = 0
  | 0 => rfl
  | n + 1 => by show nxQ p (itQ p 0 n) = 0; rw [it_zero n]; rfl
theorem it_low2 {p : Pg} {u : Int} (h : u < 11) (n : Nat) : itQ p u (2 + n) = 0 := by
  rw [itQ_shift]
  have : itQ p u 2 = 0 := by
    show nxQ p (nxQ p u) = 0
    rcases nx_low (p := p) h with e | e <;> rw [e] <;> rfl
  rw [this, it_zero]
/-- From every class the top is come to. -/
theorem top_ex {p : Pg} (h1 : ∀ i, i < p.cls.length → bad1 p i = false) (h2 : ∀ i, i < p.cls.length → bad2 p i = false) {c : Int} (hc : isJ p c = true) : ∃ m, m < 11 + p.cls.length ∧ itQ p c m = 0 := by
  apply Classical.byContradiction
  intro hno
  have hne : ∀ m, m < 11 + p.cls.length → itQ p c m ≠ 0 := fun m hm e => hno ⟨m, hm, e⟩
  have hp := upOk_of h1
  have hnd : ((List.range (11 + p.cls.length)).map (itQ p c)).Nodup := by
    refine List.pairwise_map.2 (List.pairwise_iff_getElem.2 fun a b ha hb hab => ?_)
    rw [List.getElem_range, List.getElem_range]
    intro e
    simp at ha hb
    obtain ⟨u, hu⟩ : ∃ u, itQ p c a = u := ⟨_, rfl⟩
    have hback : itQ p u (b - a) = u := by
      rw [← hu, ← itQ_shift, show a + (b - a) = b by omega]; exact e.symm
    by_cases hlow : u < 11
    · have h2b : itQ p u (b - a + (b - a)) = u := by rw [itQ_shift, hback, hback]
      have : itQ p u (2 + (b - a + (b - a) - 2)) = 0 := it_low2 hlow _
      rw [show 2 + (b - a + (b - a) - 2) = b - a + (b - a) by omega, h2b] at this
      exact hne a ha (hu.trans this)
    · have hj : isJ p u = true := by rw [← hu]; exact itQ_ok hp hc a
      have hj2 := hj
      simp [isJ] at hj2
      obtain ⟨i, rfl⟩ : ∃ i : Nat, u = 11 + (i : Int) := ⟨(u - 11).toNat, by omega⟩
      have hil : i < p.cls.length := by omega
      have hnx : nxQ p (11 + (i : Int)) = supJ p (11 + (i : Int)) := by rw [show nxQ p (11 + (i : Int)) = (clQ p (11 + (i : Int))).sup from rfl, cl_sup hj, if_neg (by omega)]
      have hy := cyc_yes h1 hil (j := b - a - 1) (by
        rw [← hnx, ← itQ_next, show b - a - 1 + 1 = b - a by omega]; exact hback) (fun e he => by
        rw [← hnx, ← itQ_next, ← hu, ← itQ_shift]
        exact hne _ (by omega))
      rw [h2 i hil] at hy
      cases hy
  have hle := nodup_len (11 + p.cls.length - 1) (((List.range (11 + p.cls.length)).map (itQ p c)).map (· - 1)) (by
    refine List.Pairwise.map _ (fun a b hab q => hab (by simpa using q)) hnd) (fun x hx => by
    obtain ⟨y, hy, rfl⟩ := List.mem_map.1 hx
    obtain ⟨m, hm, rfl⟩ := List.mem_map.1 hy
    have hj := itQ_ok hp hc m
    simp [isJ] at hj
    have := hne m (by simpa using hm)
    omega)
  simp at hle
/-- A line ends at the top. -/
theorem line_top {p : Pg} (h1 : ∀ i, i < p.cls.length → bad1 p i = false) (h2 : ∀ i, i < p.cls.length → bad2 p i = false) {c : Int} (hc : isJ p c = true) : ∃ m, (lnQ p (11 + p.cls.length) c).length = m + 1 ∧ itQ p c m = 0 := by
  obtain ⟨hl, hh⟩ := lnQ_len (p := p) (11 + p.cls.length) c
  obtain ⟨m, hm, h0⟩ := top_ex h1 h2 hc
  generalize hL : (lnQ p (11 + p.cls.length) c).length = L at *
  have hpos : 0 < L := by
    rw [← hL, show 11 + p.cls.length = (10 + p.cls.length) + 1 by omega, lnQ]
    simp
  refine ⟨L - 1, by omega, ?_⟩
  by_cases e : L < 11 + p.cls.length
  · have := hh e
    obtain ⟨k, rfl⟩ : ∃ k, L = k + 1 := ⟨L - 1, by omega⟩
    simpa [hasQ] using this
  · have hm1 : ¬ m + 1 < L := fun q => by
      obtain ⟨x, hx⟩ : ∃ x, (lnQ p (11 + p.cls.length) c)[m + 1]? = some x := ⟨_, List.getElem?_eq_getElem (by omega)⟩
      have := (lnQ_get _ _ _ _ hx).2.2
      simp [hasQ, h0] at this
    rw [show L - 1 = m by omega]; exact h0
theorem ext_sorted : ∀ (l k : List Int), l.Pairwise (· < ·) → k.Pairwise (· < ·) → (∀ x, x ∈ l ↔ x ∈ k) → l = k
  | [], [], _, _, _ => rfl
  | [], b :: k, _, _, h => by have := (h b).2 (by simp); simp at this
  | a :: l, [], _, _, h => by have := (h a).1 (by simp); simp at this
  | a :: l, b :: k, hl, hk, h => by
    rw [List.pairwise_cons] at hl hk
    have e : a = b := by
      rcases List.mem_cons.1 ((h a).1 (by simp)) with q | q
      · exact q
      · rcases List.mem_cons.1 ((h b).2 (by simp)) with r | r
        · exact r.symm
        · have := hk.1 a q; have := hl.1 b r; omega
    subst e
    congr 1
    refine ext_sorted l k hl.2 hk.2 fun x => ?_
    constructor
    · intro hx
      rcases List.mem_cons.1 ((h x).1 (by simp [hx])) with q | q
      · have := hl.1 x hx; omega
      · exact q
    · intro hx
      rcases List.mem_cons.1 ((h x).2 (by simp [hx])) with q | q
      · have := hk.1 x hx; omega
      · exact q
theorem ins_nodup {x : Int} : ∀ {l : List Int}, l.Nodup → x ∉ l → (insJ x l).Nodup
  | [], _, _ => by simp [insJ]
  | a :: l, h, hx => by
    rw [List.nodup_cons] at h
    unfold insJ
    split
    · rw [List.nodup_cons, List.nodup_cons]; exact ⟨hx, h⟩
    · rw [List.nodup_cons, mem_insJ]
      refine ⟨fun q => ?_, ins_nodup h.2 fun q => hx (by simp [q])⟩
      rcases q with q | q
      · exact hx (by simp [q])
      · exact h.1 q
theorem sort_nodup {xs : List Int} (h : xs.Nodup) : (sortJ xs).Nodup := by
  have g : ∀ (l o : List Int), o.Nodup → l.Nodup → (∀ x ∈ l, x ∉ o) → (l.foldl (fun o x => insJ x o) o).Nodup := by
    intro l
    induction l with
    | nil => intro o ho _ _; exact ho
    | cons a l ih =>
      intro o ho hl hd
      rw [List.nodup_cons] at hl
      refine ih _ (ins_nodup ho (hd a (by simp))) hl.2 fun x hx q => ?_
      rcases mem_insJ.1 q with e | e
      · exact hl.1 (e ▸ hx)
      · exact hd x (by simp [hx]) e
  exact g xs [] List.nodup_nil h (by simp)
theorem abv_strict {p : Pg} (hS : SupOk p) (hF : FaceOk p) {c : Int} (hc : isJ p c = true) : (abvJ p c).Pairwise (· < ·) := by
  have hg := (above_gd hS hF (nJ p + 1) c [] hc ⟨by simp, by simp⟩).1
  have h1 := (sorted_sort _ (aboveJ p (nJ p + 1) c []) rfl).1
  have h2 := sort_nodup hg.1
  unfold abvJ
  exact (List.pairwise_iff_getElem.2 fun i j hi hj hij => by
    have a := List.pairwise_iff_getElem.1 h1 i j hi hj hij
    have b := List.pairwise_iff_getElem.1 h2 i j hi hj hij
    omega)
/-- A row that rises, is closed and holds no more than it must is all that c is. -/
theorem abv_of_set {p : Pg} (hS : SupOk p) (hF : FaceOk p) {c : Int} (hc : isJ p c = true) {xs : List Int} (hs : xs.Pairwise (· < ·)) (h0 : c ∈ xs) (hcl : ∀ x ∈ xs, ∀ y, Suc p x y → y ∈ xs) (hin : ∀ x ∈ xs, x ∈ abvJ p c) : xs = abvJ p c := by
  refine ext_sorted _ _ hs (abv_strict hS hF hc) fun x => ⟨hin x, fun hx => ?_⟩
  unfold abvJ at hx
  rw [sort_mem] at hx
  rcases above_in (fun x => x ∈ xs) (fun x y hx hy => hcl x hx y hy) _ _ _ h0 x hx with q | q
  · simp at q
  · exact q
theorem abv_self {p : Pg} (hS : SupOk p) (hF : FaceOk p) {c : Int} (hc : isJ p c = true) : c ∈ abvJ p c := by
  unfold abvJ
  rw [sort_mem]
  exact (above_clo hS hF (nJ p + 1) c [] hc ⟨by simp, by simp⟩ (by simp)).2
theorem abv_suc {p : Pg} (hS : SupOk p) (hF : FaceOk p) {c : Int} (hc : isJ p c = true) {x y : Int} (hx : x ∈ abvJ p c) (hy : Suc p x y) : y ∈ abvJ p c := by
  unfold abvJ at hx ⊢
  rw [sort_mem] at hx ⊢
  exact ((above_clo hS hF (nJ p + 1) c [] hc ⟨by simp, by simp⟩ (by simp)).1.2 x hx).resolve_left (by simp) y hy
/-- A class's Faces, as the program has them. -/
def fcQ (p : Pg) (k : Int) : List Int := (clQ p k).faces
theorem suc_iff {p : Pg} {k y : Int} (hk : isJ p k = true) : Suc p k y ↔ y ∈ fcQ p k ∨ (0 ≤ supJ p k ∧ y = supJ p k) := by
  unfold Suc fcQ clQ
  by_cases h : k < 11
  · have hu : userJ p k = false := by unfold userJ; rw [decide_eq_false (by omega)]; rfl
    rw [if_pos h, hu]
    constructor
    · rintro (⟨q, -⟩ | q)
      · cases q
      · exact .inr q
    · rintro (q | q)
      · simp [bltC] at q
      · exact .inr q
  · have hu : userJ p k = true := by unfold userJ; rw [decide_eq_true (by omega), hk]; rfl
    rw [if_neg h, hu]
    constructor
    · rintro (⟨-, q⟩ | q)
      · exact .inl q
      · exact .inr q
    · rintro (q | q)
      · exact .inl ⟨rfl, q⟩
      · exact .inr q
/-- While the Faces are gone into: A is what was met, fs what is still to be gone into. -/
structure WkA (p : Pg) (c : Int) (A : Nat → Bool) (fs : List Int) : Prop where
  top : A 0 = true
  slf : A c.toNat = true
  snd : ∀ t, A t = true → t < 11 + p.cls.length ∧ (t : Int) ∈ abvJ p c
  fsn : ∀ f ∈ fs, f ∈ abvJ p c ∧ isJ p f = true ∧ supJ p f = 0
  fac : ∀ t, A t = true → ∀ y ∈ fcQ p t, A y.toNat = true ∨ y ∈ fs
  sup : ∀ t, A t = true → 0 ≤ supJ p t → A (supJ p t).toNat = true
theorem WkA.met {p : Pg} {c : Int} {A : Nat → Bool} {fs : List Int} {f : Int} (h : WkA p c A (fs ++ [f])) (hf : A f.toNat = true) : WkA p c A fs where
  top := h.top
  slf := h.slf
  snd := h.snd
  fsn := fun g hg => h.fsn g (by simp [hg])
  fac := fun t ht y hy => by
    rcases h.fac t ht y hy with q | q
    · exact .inl q
    · rcases List.mem_append.1 q with q | q
      · exact .inr q
      · obtain rfl : y = f := by simpa using q
        exact .inl hf
  sup := h.sup
theorem nat_isJ {p : Pg} {f : Int} (h : isJ p f = true) : ((f.toNat : Nat) : Int) = f ∧ f.toNat < 11 + p.cls.length := by
  simp [isJ] at h
  omega
theorem WkA.gone {p : Pg} (hS : SupOk p) (hF : FaceOk p) {c : Int} (hc : isJ p c = true) (hface : ∀ k y, isJ p k = true → y ∈ fcQ p k → isJ p y = true ∧ supJ p y = 0) {A : Nat → Bool} {fs : List Int} {f : Int} (h : WkA p c A (fs ++ [f])) : WkA p c (fun t => if t = f.toNat then true else A t) (fs ++ fcQ p f) where
  top := by show (if 0 = f.toNat then true else A 0) = true; split; rfl; exact h.top
  slf := by show (if c.toNat = f.toNat then true else A c.toNat) = true; split; rfl; exact h.slf
  snd := fun t ht => by
    obtain ⟨f1, f2, -⟩ := h.fsn f (by simp)
    have hn := nat_isJ f2
    by_cases e : t = f.toNat
    · subst e; exact ⟨hn.2, by rw [hn.1]; exact f1⟩
    · simp only [if_neg e] at ht; exact h.snd t ht
  fsn := fun g hg => by
    rcases List.mem_append.1 hg with q | q
    · exact h.fsn g (by simp [q])
    · obtain ⟨f1, f2, -⟩ := h.fsn f (by simp)
      obtain ⟨g1, g2⟩ := hface f g f2 q
      exact ⟨abv_suc hS hF hc f1 ((suc_iff f2).2 (.inl q)), g1, g2⟩
  fac := fun t ht y hy => by
    obtain ⟨f1, f2, -⟩ := h.fsn f (by simp)
    have hn := nat_isJ f2
    by_cases e : t = f.toNat
    · subst e
      rw [hn.1] at hy
      exact .inr (by simp [hy])
    · simp only [if_neg e] at ht
      rcases h.fac t ht y hy with q | q
      · exact .inl (by show (if y.toNat = f.toNat then true else A y.toNat) = true; split; rfl; exact q)
      · rcases List.mem_append.1 q with q | q
        · exact .inr (by simp [q])
        · obtain rfl : y = f := by simpa using q
          exact .inl (by show (if y.toNat = y.toNat then true else A y.toNat) = true; rw [if_pos rfl])
  sup := fun t ht h0 => by
    obtain ⟨f1, f2, f3⟩ := h.fsn f (by simp)
    have hn := nat_isJ f2
    show (if (supJ p t).toNat = f.toNat then true else A (supJ p t).toNat) = true
    by_cases e : t = f.toNat
    · subst e
      rw [hn.1, f3]
      split
      · rfl
      · exact h.top
    · simp only [if_neg e] at ht
      split
      · rfl
      · exact h.sup t ht h0
/-- The numbers of a set, rising. -/
def rise (N : Nat) (A : Nat → Bool) : List Int := ((List.range N).filter A).map fun t : Nat => (t : Int)
theorem rise_mem {N : Nat} {A : Nat → Bool} {x : Int} : x ∈ rise N A ↔ ∃ t : Nat, t < N ∧ A t = true ∧ x = (t : Int) := by
  unfold rise
  rw [List.mem_map]
  constructor
  · rintro ⟨t, ht, rfl⟩
    obtain ⟨h1, h2⟩ := List.mem_filter.1 ht
    exact ⟨t, List.mem_range.1 h1, h2, rfl⟩
  · rintro ⟨t, h1, h2, rfl⟩
    exact ⟨t, List.mem_filter.2 ⟨List.mem_range.2 h1, h2⟩, rfl⟩
theorem rise_pw (N : Nat) (A : Nat → Bool) : (rise N A).Pairwise (· < ·) := by
  unfold rise
  refine List.pairwise_map.2 (List.Pairwise.imp ?_ ((List.pairwise_lt_range (n := N)).filter A))
  intro a b h
  omega
/-- When nothing is left, the set is all that c is. -/
theorem WkA.done {p : Pg} (hS : SupOk p) (hF : FaceOk p) {c : Int} (hc : isJ p c = true) {A : Nat → Bool} (h : WkA p c A []) : rise (11 + p.cls.length) A = abvJ p c := by
  refine abv_of_set hS hF hc (rise_pw _ _) ?_ (fun x hx y hy => ?_) (fun x hx => ?_)
  · have := nat_isJ hc
    exact rise_mem.2 ⟨c.toNat, this.2, h.slf, this.1.symm⟩
  · obtain ⟨t, ht, hA, rfl⟩ := rise_mem.1 hx
    have hk : isJ p (t : Int) = true := by simp [isJ]; omega
    rcases (suc_iff hk).1 hy with q | ⟨q0, rfl⟩
    · have := (h.fac t hA y q).resolve_right (by simp)
      have hy2 := h.snd _ this
      have hy3 : isJ p y = true := by
        have hq : y ∈ fcQ p t := q
        unfold fcQ clQ at hq
        by_cases h11 : (t : Int) < 11
        · rw [if_pos h11] at hq; simp [bltC] at hq
        · rw [if_neg h11] at hq
          exact hF t (by unfold userJ; rw [decide_eq_true (by omega), hk]; rfl) y hq
      exact rise_mem.2 ⟨y.toNat, hy2.1, this, (nat_isJ hy3).1.symm⟩
    · have := h.sup t hA q0
      exact rise_mem.2 ⟨_, (h.snd _ this).1, this, by omega⟩
  · obtain ⟨t, -, hA, rfl⟩ := rise_mem.1 hx
    exact (h.snd t hA).2
end Go.Proofs.YtbbmgjcabmjjdaaGreatDoor
namespace Go.Proofs.YtbbmgjcabmjjdaaGreatDoor
open Go.RowKit

theorem face_facts {p : Pg} (h1 : ∀ i, i < p.cls.length → bad1 p i = false) (h3 : ∀ i, i < p.cls.length → bad3 p i = false) (k y : Int) (hk : isJ p k = true) (hy : y ∈ fcQ p k) : isJ p y = true ∧ supJ p y = 0 := by
  unfold fcQ clQ at hy
  by_cases h : k < 11
  · rw [if_pos h] at hy; simp [bltC] at hy
  · rw [if_neg h] at hy
    have hk2 := hk
    simp [isJ] at hk2
    obtain ⟨i, rfl⟩ : ∃ i : Nat, k = 11 + (i : Int) := ⟨(k - 11).toNat, by omega⟩
    have hb := h3 i (by omega)
    rw [bad3_eq] at hb
    simp only [Bool.or_eq_false_iff] at hb
    have hf : faceJ p y = true := by simpa using List.any_eq_false.1 hb.1 y hy
    unfold faceJ userJ at hf
    rw [Bool.and_eq_true, Bool.and_eq_true, decide_eq_true_eq] at hf
    obtain ⟨⟨h11, hj⟩, hfc⟩ := hf
    refine ⟨hj, ?_⟩
    have hj2 := hj
    simp [isJ] at hj2
    obtain ⟨n, rfl⟩ : ∃ n : Nat, y = 11 + (n : Int) := ⟨(y - 11).toNat, by omega⟩
    have hb1 := h1 n (by omega)
    unfold bad1 at hb1
    simp only [Bool.or_eq_false_iff] at hb1
    have h4 := hb1.2
    rw [hfc] at h4
    unfold supJ
    rw [if_neg (by omega)]
    simpa using h4
/-- The first i of a line as a set; their Faces. -/
def lnA (p : Pg) (c : Int) (i : Nat) (t : Nat) : Bool := (List.range i).any fun j => itQ p c j == (t : Int)
def lnF (p : Pg) (c : Int) (i : Nat) : List Int := ((List.range i).map fun j => fcQ p (itQ p c j)).flatten
theorem lnA_iff {p : Pg} {c : Int} {i t : Nat} : lnA p c i t = true ↔ ∃ j, j < i ∧ itQ p c j = (t : Int) := by
  unfold lnA
  rw [List.any_eq_true]
  constructor
  · rintro ⟨j, hj, h⟩; exact ⟨j, List.mem_range.1 hj, by simpa using h⟩
  · rintro ⟨j, hj, h⟩; exact ⟨j, List.mem_range.2 hj, by simpa using h⟩
theorem lnF_iff {p : Pg} {c : Int} {i : Nat} {y : Int} : y ∈ lnF p c i ↔ ∃ j, j < i ∧ y ∈ fcQ p (itQ p c j) := by
  unfold lnF
  rw [List.mem_flatten]
  constructor
  · rintro ⟨l, hl, hy⟩
    obtain ⟨j, hj, rfl⟩ := List.mem_map.1 hl
    exact ⟨j, List.mem_range.1 hj, hy⟩
  · rintro ⟨j, hj, hy⟩
    exact ⟨_, List.mem_map.2 ⟨j, List.mem_range.2 hj, rfl⟩, hy⟩
theorem lnF_succ (p : Pg) (c : Int) (i : Nat) : lnF p c (i + 1) = lnF p c i ++ fcQ p (itQ p c i) := by
  unfold lnF
  rw [List.range_succ, List.map_append, List.flatten_append]; simp
theorem lnA_succ {p : Pg} (hp : UpOk p) {c : Int} (hc : isJ p c = true) (i t : Nat) : lnA p c (i + 1) t = if t = (itQ p c i).toNat then true else lnA p c i t := by
  have hn := nat_isJ (itQ_ok hp hc i)
  unfold lnA
  rw [List.range_succ, List.any_append]
  by_cases e : t = (itQ p c i).toNat
  · rw [if_pos e]
    simp
    right
    rw [e]; exact hn.1.symm
  · rw [if_neg e]
    have : (itQ p c i == (t : Int)) = false := by
      simp
      intro q
      apply e
      rw [q]; rfl
    simp [this]
theorem it_abv {p : Pg} (hS : SupOk p) (hF : FaceOk p) (hp : UpOk p) {c : Int} (hc : isJ p c = true) : ∀ j, itQ p c j ∈ abvJ p c
  | 0 => abv_self hS hF hc
  | j + 1 => by
    have ih := it_abv hS hF hp hc j
    have hk := itQ_ok hp hc j
    show nxQ p (itQ p c j) ∈ _
    have hx : nxQ p (itQ p c j) = _ := cl_sup hk
    rw [hx]
    by_cases e : itQ p c j = 0
    · rw [if_pos e, ← e]; exact ih
    · rw [if_neg e]
      have hs := itQ_ok hp hc (j + 1)
      rw [show itQ p c (j + 1) = nxQ p (itQ p c j) from rfl, hx, if_neg e] at hs
      simp [isJ] at hs
      exact abv_suc hS hF hc ih (.inr ⟨by omega, rfl⟩)
/-- A line gone along to the top: what is met, what is still to be gone into. -/
theorem wka_line {p : Pg} (hS : SupOk p) (hF : FaceOk p) (h1 : ∀ i, i < p.cls.length → bad1 p i = false) (h3 : ∀ i, i < p.cls.length → bad3 p i = false) {c : Int} (hc : isJ p c = true) {m : Nat} (hm : itQ p c m = 0) : WkA p c (lnA p c (m + 1)) (lnF p c (m + 1)) where
  top := lnA_iff.2 ⟨m, by omega, by rw [hm]; rfl⟩
  slf := lnA_iff.2 ⟨0, by omega, (nat_isJ hc).1.symm⟩
  snd := fun t ht => by
    obtain ⟨j, -, e⟩ := lnA_iff.1 ht
    have hk := itQ_ok (upOk_of h1) hc j
    rw [e] at hk
    simp [isJ] at hk
    exact ⟨by omega, by rw [← e]; exact it_abv hS hF (upOk_of h1) hc j⟩
  fsn := fun f hf => by
    obtain ⟨j, -, hy⟩ := lnF_iff.1 hf
    have hk := itQ_ok (upOk_of h1) hc j
    obtain ⟨a, b⟩ := face_facts h1 h3 _ _ hk hy
    exact ⟨abv_suc hS hF hc (it_abv hS hF (upOk_of h1) hc j) ((suc_iff hk).2 (.inl hy)), a, b⟩
  fac := fun t ht y hy => by
    obtain ⟨j, hj, e⟩ := lnA_iff.1 ht
    rw [← e] at hy
    exact .inr (lnF_iff.2 ⟨j, hj, hy⟩)
  sup := fun t ht h0 => by
    obtain ⟨j, hj, e⟩ := lnA_iff.1 ht
    have hk := itQ_ok (upOk_of h1) hc j
    have hx : nxQ p (itQ p c j) = _ := cl_sup hk
    by_cases ez : itQ p c j = 0
    · rw [← e, ez] at h0
      simp [supJ, bltJ] at h0
    · rw [if_neg ez] at hx
      have hjm : j ≠ m := fun q => ez (by rw [q]; exact hm)
      refine lnA_iff.2 ⟨j + 1, by omega, ?_⟩
      show nxQ p (itQ p c j) = _
      rw [hx, e]
      omega
/-- How much is still to be gone into. -/
def wkM (p : Pg) (N : Nat) (A : Nat → Bool) : Nat := ((List.range N).map fun t => if A t then 0 else (fcQ p (t : Nat)).length).sum
theorem wkM_set {p : Pg} {A : Nat → Bool} {f : Nat} (hA : A f = false) : ∀ {N : Nat}, f < N → wkM p N (fun t => if t = f then true else A t) + (fcQ p (f : Nat)).length = wkM p N A
  | 0, h => by omega
  | N + 1, h => by
    unfold wkM
    rw [List.range_succ, List.map_append, List.map_append, List.sum_append, List.sum_append]
    by_cases e : f = N
    · subst e
      have : ((List.range f).map fun t => if (if t = f then true else A t) = true then 0 else (fcQ p (t : Nat)).length) = (List.range f).map fun t => if A t = true then 0 else (fcQ p (t : Nat)).length := by
        apply List.map_congr_left
        intro t ht
        have := List.mem_range.1 ht
        rw [if_neg (show ¬ t = f by omega)]
      rw [this]
      simp [hA]
    · have ih := wkM_set (p := p) hA (N := N) (by omega)
      unfold wkM at ih
      rw [← ih]
      simp [show ¬ N = f from fun q => e q.symm]
      omega
end Go.Proofs.YtbbmgjcabmjjdaaGreatDoor
namespace Go.Proofs.YtbbmgjcabmjjdaaGreatDoor
open Go.RowKit

/-- A layout, as the program makes it out of the super's. -/
def qlay (p : Pg) (k : Int) (up : Ly) : Ly := ⟨up.flds ++ (clQ p k).flds, if (clQ p k).face then -1 else up.flds.length, virQ up.vir k (clQ p k).mds (clQ p k).mds.length, abvJ p k⟩
/-- The first five rules are kept. -/
structure Kp5 (p : Pg) : Prop where
  b1 : ∀ i, i < p.cls.length → bad1 p i = false
  b2 : ∀ i, i < p.cls.length → bad2 p i = false
  b3 : ∀ i, i < p.cls.length → bad3 p i = false
  b4 : ∀ i, i < p.cls.length → bad4 p i = false
  b5 : ∀ i, i < p.cls.length → bad5 p i = false
  sup : SupOk p
  face : FaceOk p
theorem kp5_of {p : Pg} (h : st5 p = (0, 0)) : Kp5 p := by
  obtain ⟨hS, hF⟩ := st5_keep h
  have h0 : (st5 p).1 = 0 := by rw [h]
  by_cases h2 : (st2 p).1 = 0
  · have e : st5 p = runJ (bad5 p) 1503 (runJ (bad4 p) 1504 (runJ (bad3 p) 1502 (st2 p) p.cls.length) p.cls.length) p.cls.length := by unfold st5; rw [if_pos h2]
    rw [e] at h0
    have h5 := runJ_ok (by decide) h0
    have h4 := runJ_ok (by decide) h5.1
    have h3 := runJ_ok (by decide) h4.1
    have q2 := runJ_ok (by decide) (show (runJ (bad2 p) 1501 (runJ (bad1 p) 1500 (0, 0) p.cls.length) p.cls.length).1 = 0 from h2)
    have q1 := runJ_ok (by decide) q2.1
    exact ⟨q1.2.2, q2.2.2, h3.2.2, h4.2.2, h5.2.2, hS, hF⟩
  · have e : st5 p = st2 p := by unfold st5; rw [if_neg h2]
    rw [e] at h0
    exact absurd h0 h2
theorem sup_nx {p : Pg} {k : Int} (hk : isJ p k = true) (h0 : k ≠ 0) : supJ p k = nxQ p k := by
  unfold nxQ; rw [cl_sup hk, if_neg h0]
theorem user_zero (p : Pg) : userJ p 0 = false := by simp [userJ]
theorem user_low {p : Pg} {k : Int} (h : k < 11) : userJ p k = false := by
  unfold userJ
  rw [decide_eq_false (show ¬ 11 ≤ k by omega)]
  rfl
theorem face_zero (p : Pg) : faceJ p 0 = false := by simp [faceJ, userJ]
theorem lay_zero (p : Pg) (f : Nat) : layJ p (f + 1) 0 = ⟨[], 0, [], abvJ p 0⟩ := by
  unfold layJ
  rw [face_zero, if_neg (by decide), user_zero, show supJ p 0 = -1 from rfl]
  simp [ly0]
/-- How much is counted down does not matter once it is enough. -/
theorem lay_fuel {p : Pg} (hp : UpOk p) : ∀ (m : Nat) (k : Int) (f g : Nat), isJ p k = true → itQ p k m = 0 → m + 1 ≤ f → m + 1 ≤ g → layJ p f k = layJ p g k
  | m, k, f, g, hk, hm, hf, hg => by
    obtain ⟨f, rfl⟩ : ∃ f', f = f' + 1 := ⟨f - 1, by omega⟩
    obtain ⟨g, rfl⟩ : ∃ g', g = g' + 1 := ⟨g - 1, by omega⟩
    by_cases h0 : k = 0
    · subst h0; rw [lay_zero, lay_zero]
    · cases m with
      | zero => exact absurd hm h0
      | succ m =>
        rw [itQ_next] at hm
        have ih := lay_fuel hp m (nxQ p k) f g (hp k hk) hm (by omega) (by omega)
        rw [← sup_nx hk h0] at ih
        unfold layJ
        rw [ih]
theorem virQ_nil {k : Int} {ms : List Md} (hs : ∀ m ∈ ms, m.stc = false) : ∀ i, i ≤ ms.length → virQ [] k ms i = (ms.take i).mapIdx (fun i m => ownJ m k i)
  | 0, _ => rfl
  | i + 1, hi => by
    have ih := virQ_nil (k := k) hs i (by omega)
    have hm : ms[i]? = some ms[i] := List.getElem?_eq_getElem hi
    unfold virQ
    rw [hm]
    simp only []
    rw [hs _ (List.getElem_mem hi), if_neg (by decide), ih, List.take_add_one, hm, Option.toList_some, List.mapIdx_concat, List.length_take, Nat.min_eq_left (by omega)]
    rfl
theorem face_sup {p : Pg} (h : Kp5 p) {k : Int} (hk : isJ p k = true) (hf : faceJ p k = true) : nxQ p k = 0 := by
  have hf2 := hf
  simp [faceJ, userJ] at hf2
  obtain ⟨i, rfl⟩ : ∃ i : Nat, k = 11 + (i : Int) := ⟨(k - 11).toNat, by omega⟩
  have hi : i < p.cls.length := by have := hk; simp [isJ] at this; omega
  have hb := h.b1 i hi
  unfold bad1 at hb
  simp only [Bool.or_eq_false_iff, Bool.and_eq_false_iff] at hb
  rw [← sup_nx hk (by omega)]
  unfold supJ
  rw [if_neg (by omega)]
  rcases hb.2 with q | q
  · rw [hf2.2] at q; cases q
  · simpa using q
theorem face_flds {p : Pg} (h : Kp5 p) {k : Int} (hk : isJ p k = true) (hf : faceJ p k = true) : (clQ p k).flds = [] ∧ ∀ m ∈ (clQ p k).mds, m.stc = false := by
  have hf2 := hf
  simp [faceJ, userJ] at hf2
  obtain ⟨i, rfl⟩ : ∃ i : Nat, k = 11 + (i : Int) := ⟨(k - 11).toNat, by omega⟩
  have hi : i < p.cls.length := by have := hk; simp [isJ] at this; omega
  have hb := h.b3 i hi
  unfold bad3 at hb
  simp only [Bool.or_eq_false_iff, Bool.and_eq_false_iff, hf2.2] at hb
  rw [cl_user (by omega)]
  have hb2 := hb.2.resolve_left (by decide)
  refine ⟨?_, fun m hm => ?_⟩
  · have := hb2.1.1.2
    cases hq : (ofJ p (11 + (i : Int))).flds with
    | nil => rfl
    | cons a l => rw [hq] at this; simp at this
  · have := List.any_eq_false.1 hb2.2 m hm
    simp at this
    exact this.1.1.1
theorem own_pair {p : Pg} (h : Kp5 p) {k : Int} (hk : isJ p k = true) (hu : 11 ≤ k) : pairJ likeM (ofJ p k).mds (ofJ p k).mds.length = false := by
  obtain ⟨i, rfl⟩ : ∃ i : Nat, k = 11 + (i : Int) := ⟨(k - 11).toNat, by omega⟩
  have hi : i < p.cls.length := by have := hk; simp [isJ] at this; omega
  have hb := h.b5 i hi
  unfold bad5 at hb
  simp only [Bool.or_eq_false_iff] at hb
  exact hb.2
/-- A class's layout is what the program makes of its super's. -/
theorem ly_step {p : Pg} (h : Kp5 p) {k : Int} (hk : isJ p k = true) : lyJ p k = qlay p k (if k = 0 then ly0 else lyJ p (nxQ p k)) := by
  have hp := upOk_of h.b1
  by_cases h0 : k = 0
  · subst h0
    rw [if_pos rfl]
    unfold lyJ
    rw [lay_zero]
    rfl
  · rw [if_neg h0]
    obtain ⟨m, hm, hz⟩ := top_ex h.b1 h.b2 (hp k hk)
    have hfu := lay_fuel hp m (nxQ p k) (nJ p) (nJ p + 1) (hp k hk) hz (by unfold nJ; omega) (by unfold nJ; omega)
    have hsx := sup_nx hk h0
    rcases hf : faceJ p k with _ | _
    · unfold lyJ
      rw [← hfu]
      conv => lhs; unfold layJ
      rw [hf, if_neg (by decide), hsx]
      have hge : 0 ≤ nxQ p k := by have := hp k hk; simp [isJ] at this; omega
      simp only [if_pos hge]
      by_cases h9 : k = 9
      · subst h9
        rw [show nxQ p 9 = 0 from rfl, show nJ p = (10 + p.cls.length) + 1 by unfold nJ; omega, lay_zero]
        unfold qlay
        rw [cl_face hk, hf, user_low (p := p) (k := 9) (by omega)]
        simp only [Bool.false_eq_true, if_false, if_true]
        rfl
      generalize layJ p (nJ p) (nxQ p k) = up
      unfold qlay
      rw [cl_face hk, hf, if_neg h9]
      simp only [Bool.false_eq_true, if_false]
      by_cases hu : 11 ≤ k
      · have hus : userJ p k = true := by simp [userJ, hk, hu]
        rw [hus]
        simp only [if_true]
        rw [cl_user hu, virQ_eq (own_pair h hk hu) _ (Nat.le_refl _)]
      · have hus : userJ p k = false := user_low (by omega)
        rw [hus]
        simp only [Bool.false_eq_true, if_false]
        have hc : clQ p k = bltC k.toNat := by unfold clQ; rw [if_pos (by omega)]
        rw [hc]
        have hfl : (bltC k.toNat).flds = [] := rfl
        have hmd : (bltC k.toNat).mds = [] := by
          show (if k.toNat = 9 then [runM] else []) = []
          have : 0 ≤ k := by simp [isJ] at hk; omega
          rw [if_neg (by omega)]
        rw [hfl, List.append_nil, hmd]
        rfl
    · rw [face_sup h hk hf]
      have hl0 : lyJ p 0 = ⟨[], 0, [], abvJ p 0⟩ := lay_zero p _
      rw [hl0]
      unfold lyJ
      conv => lhs; unfold layJ
      rw [hf, if_pos rfl]
      obtain ⟨hfl, hms⟩ := face_flds h hk hf
      unfold qlay
      rw [cl_face hk, hf, if_pos rfl, hfl]
      rw [virQ_nil hms _ (Nat.le_refl _), List.take_length]
      have hu : 11 ≤ k := by simp [faceJ, userJ] at hf; omega
      rw [cl_user hu]
      rfl
end Go.Proofs.YtbbmgjcabmjjdaaGreatDoor
