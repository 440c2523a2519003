/- The program's own Load: a layout out of its super's; what the layouts are meanwhile: plain. -/
import Derived.Test.YtllpjjglnopgaabGreatMQAbp
import Derived.Test.YtllpjjglnopgaabGreatMY33
namespace Go.Proofs.YtllpjjglnopgaabGreat
open Go.RowKit

theorem face_facts {p : Pg} (h1 : ∀ i, i < p.cls.length → bad1 p i = false) (h3 : ∀ i, i < p.cls.length → bad3 p i = false) (k y : Int) (hk : isJ p k = true) (hy : y ∈ fcQ p k) : isJ p y = true ∧ supJ p y = 0 := by
  unfold fcQ clQ at hy
  by_cases h : k < 11
  · rw [if_pos h] at hy; simp [bltC] at hy
  · rw [if_neg h] at hy
    have hk2 := hk
    simp [isJ] at hk2
    obtain ⟨i, rfl⟩ : ∃ i : Nat, k = 11 + (i : Int) := ⟨(k - 11).toNat, by omega⟩
    have hb := h3 i (by omega)
    rw [bad3_eq] at hb
    simp only [Bool.or_eq_false_iff] at hb
    have hf : faceJ p y = true := by simpa using List.any_eq_false.1 hb.1 y hy
    unfold faceJ userJ at hf
    rw [Bool.and_eq_true, Bool.and_eq_true, decide_eq_true_eq] at hf
    obtain ⟨⟨h11, hj⟩, hfc⟩ := hf
    refine ⟨hj, ?_⟩
    have hj2 := hj
    simp [isJ] at hj2
    obtain ⟨n, rfl⟩ : ∃ n : Nat, y = 11 + (n : Int) := ⟨(y - 11).toNat, by omega⟩
    have hb1 := h1 n (by omega)
    unfold bad1 at hb1
    simp only [Bool.or_eq_false_iff] at hb1
    have h4 := hb1.2
    rw [hfc] at h4
    unfold supJ
    rw [if_neg (by omega)]
    simpa using h4
/-- The first i of a line as a set; their Faces. -/
def lnA (p : Pg) (c : Int) (i : Nat) (t : Nat) : Bool := (List.range i).any fun j => itQ p c j == (t : Int)
def lnF (p : Pg) (c : Int) (i : Nat) : List Int := ((List.range i).map fun j => fcQ p (itQ p c j)).flatten
theorem lnA_iff {p : Pg} {c : Int} {i t : Nat} : lnA p c i t = true ↔ ∃ j, j < i ∧ itQ p c j = (t : Int) := by
  unfold lnA
  rw [List.any_eq_true]
  constructor
  · rintro ⟨j, hj, h⟩; exact ⟨j, List.mem_range.1 hj, by simpa using h⟩
  · rintro ⟨j, hj, h⟩; exact ⟨j, List.mem_range.2 hj, by simpa using h⟩
theorem lnF_iff {p : Pg} {c : Int} {i : Nat} {y : Int} : y ∈ lnF p c i ↔ ∃ j, j < i ∧ y ∈ fcQ p (itQ p c j) := by
  unfold lnF
  rw [List.mem_flatten]
  constructor
  · rintro ⟨l, hl, hy⟩
    obtain ⟨j, hj, rfl⟩ := List.mem_map.1 hl
    exact ⟨j, List.mem_range.1 hj, hy⟩
  · rintro ⟨j, hj, hy⟩
    exact ⟨_, List.mem_map.2 ⟨j, List.mem_range.2 hj, rfl⟩, hy⟩
theorem lnF_succ (p : Pg) (c : Int) (i : Nat) : lnF p c (i + 1) = lnF p c i ++ fcQ p (itQ p c i) := by
  unfold lnF
  rw [List.range_succ, List.map_append, List.flatten_append]; simp
theorem lnA_succ {p : Pg} (hp : UpOk p) {c : Int} (hc : isJ p c = true) (i t : Nat) : lnA p c (i + 1) t = if t = (itQ p c i).toNat then true else lnA p c i t := by
  have hn := nat_isJ (itQ_ok hp hc i)
  unfold lnA
  rw [List.range_succ, List.any_append]
  by_cases e : t = (itQ p c i).toNat
  · rw [if_pos e]
    simp
    right
    rw [e]; exact hn.1.symm
  · rw [if_neg e]
    have : (itQ p c i == (t : Int)) = false := by
      simp
      intro q
      apply e
      rw [q]; rfl
    simp [this]
theorem it_abv {p : Pg} (hS : SupOk p) (hF : FaceOk p) (hp : UpOk p) {c : Int} (hc : isJ p c = true) : ∀ j, itQ p c j ∈ abvJ p c
  | 0 => abv_self hS hF hc
  | j + 1 => by
    have ih := it_abv hS hF hp hc j
    have hk := itQ_ok hp hc j
    show nxQ p (itQ p c j) ∈ _
    have hx : nxQ p (itQ p c j) = _ := cl_sup hk
    rw [hx]
    by_cases e : itQ p c j = 0
    · rw [if_pos e, ← e]; exact ih
    · rw [if_neg e]
      have hs := itQ_ok hp hc (j + 1)
      rw [show itQ p c (j + 1) = nxQ p (itQ p c j) from rfl, hx, if_neg e] at hs
      simp [isJ] at hs
      exact abv_suc hS hF hc ih (.inr ⟨by omega, rfl⟩)
/-- A line gone along to the top: what is met, what is still to be gone into. -/
theorem wka_line {p : Pg} (hS : SupOk p) (hF : FaceOk p) (h1 : ∀ i, i < p.cls.length → bad1 p i = false) (h3 : ∀ i, i < p.cls.length → bad3 p i = false) {c : Int} (hc : isJ p c = true) {m : Nat} (hm : itQ p c m = 0) : WkA p c (lnA p c (m + 1)) (lnF p c (m + 1)) where
  top := lnA_iff.2 ⟨m, by omega, by rw [hm]; rfl⟩
  slf := lnA_iff.2 ⟨0, by omega, (nat_isJ hc).1.symm⟩
  snd := fun t ht => by
    obtain ⟨j, -, e⟩ := lnA_iff.1 ht
    have hk := itQ_ok (upOk_of h1) hc j
    rw [e] at hk
    simp [isJ] at hk
    exact ⟨by omega, by rw [← e]; exact it_abv hS hF (upOk_of h1) hc j⟩
  fsn := fun f hf => by
    obtain ⟨j, -, hy⟩ := lnF_iff.1 hf
    have hk := itQ_ok (upOk_of h1) hc j
    obtain ⟨a, b⟩ := face_facts h1 h3 _ _ hk hy
    exact ⟨abv_suc hS hF hc (it_abv hS hF (upOk_of h1) hc j) ((suc_iff hk).2 (.inl hy)), a, b⟩
  fac := fun t ht y hy => by
    obtain ⟨j, hj, e⟩ := lnA_iff.1 ht
    rw [← e] at hy
    exact .inr (lnF_iff.2 ⟨j, hj, hy⟩)
  sup := fun t ht h0 => by
    obtain ⟨j, hj, e⟩ := lnA_iff.1 ht
    have hk := itQ_ok (upOk_of h1) hc j
    have hx : nxQ p (itQ p c j) = _ := cl_sup hk
    by_cases ez : itQ p c j = 0
    · rw [← e, ez] at h0
      simp [supJ, bltJ] at h0
    · rw [if_neg ez] at hx
      have hjm : j ≠ m := fun q => ez (by rw [q]; exact hm)
      refine lnA_iff.2 ⟨j + 1, by omega, ?_⟩
      show nxQ p (itQ p c j) = _
      rw [hx, e]
      omega
/-- How much is still to be gone into. -/
def wkM (p : Pg) (N : Nat) (A : Nat → Bool) : Nat := ((List.range N).map fun t => if A t then 0 else (fcQ p (t : Nat)).length).sum
theorem wkM_set {p : Pg} {A : Nat → Bool} {f : Nat} (hA : A f = false) : ∀ {N : Nat}, f < N → wkM p N (fun t => if t = f then true else A t) + (fcQ p (f : Nat)).length = wkM p N A
  | 0, h => by omega
  | N + 1, h => by
    unfold wkM
    rw [List.range_succ, List.map_append, List.map_append, List.sum_append, List.sum_append]
    by_cases e : f = N
    · subst e
      have : ((List.range f).map fun t => if (if t = f then true else A t) = true then 0 else (fcQ p (t : Nat)).length) = (List.range f).map fun t => if A t = true then 0 else (fcQ p (t : Nat)).length := by
        apply List.map_congr_left
        intro t ht
        have := List.mem_range.1 ht
        rw [if_neg (show ¬ t = f by omega)]
      rw [this]
      simp [hA]
    · have ih := wkM_set (p := p) hA (N := N) (by omega)
      unfold wkM at ih
      rw [← ih]
      simp [show ¬ N = f from fun q => e q.symm]
      omega
end Go.Proofs.YtllpjjglnopgaabGreat
namespace Go.Proofs.YtllpjjglnopgaabGreat
open Go.RowKit

/-- A layout, as the program makes it out of the super's. -/
def qlay (p : Pg) (k : Int) (up : Ly) : Ly := ⟨up.flds ++ (clQ p k).flds, if (clQ p k).face then -1 else up.flds.length, virQ up.vir k (clQ p k).mds (clQ p k).mds.length, abvJ p k⟩
/-- The first five rules are kept. -/
structure Kp5 (p : Pg) : Prop where
  b1 : ∀ i, i < p.cls.length → bad1 p i = false
  b2 : ∀ i, i < p.cls.length → bad2 p i = false
  b3 : ∀ i, i < p.cls.length → bad3 p i = false
  b4 : ∀ i, i < p.cls.length → bad4 p i = false
  b5 : ∀ i, i < p.cls.length → bad5 p i = false
  sup : SupOk p
  face : FaceOk p
theorem kp5_of {p : Pg} (h : st5 p = (0, 0)) : Kp5 p := by
  obtain ⟨hS, hF⟩ := st5_keep h
  have h0 : (st5 p).1 = 0 := by rw [h]
  by_cases h2 : (st2 p).1 = 0
  · have e : st5 p = runJ (bad5 p) 1503 (runJ (bad4 p) 1504 (runJ (bad3 p) 1502 (st2 p) p.cls.length) p.cls.length) p.cls.length := by unfold st5; rw [if_pos h2]
    rw [e] at h0
    have h5 := runJ_ok (by decide) h0
    have h4 := runJ_ok (by decide) h5.1
    have h3 := runJ_ok (by decide) h4.1
    have q2 := runJ_ok (by decide) (show (runJ (bad2 p) 1501 (runJ (bad1 p) 1500 (0, 0) p.cls.length) p.cls.length).1 = 0 from h2)
    have q1 := runJ_ok (by decide) q2.1
    exact ⟨q1.2.2, q2.2.2, h3.2.2, h4.2.2, h5.2.2, hS, hF⟩
  · have e : st5 p = st2 p := by unfold st5; rw [if_neg h2]
    rw [e] at h0
    exact absurd h0 h2
theorem sup_nx {p : Pg} {k : Int} (hk : isJ p k = true) (h0 : k ≠ 0) : supJ p k = nxQ p k := by
  unfold nxQ; rw [cl_sup hk, if_neg h0]
theorem user_zero (p : Pg) : userJ p 0 = false := by simp [userJ]
theorem user_low {p : Pg} {k : Int} (h : k < 11) : userJ p k = false := by
  unfold userJ
  rw [decide_eq_false (show ¬ 11 ≤ k by omega)]
  rfl
theorem face_zero (p : Pg) : faceJ p 0 = false := by simp [faceJ, userJ]
theorem lay_zero (p : Pg) (f : Nat) : layJ p (f + 1) 0 = ⟨[], 0, [], abvJ p 0⟩ := by
  unfold layJ
  rw [face_zero, if_neg (by decide), user_zero, show supJ p 0 = -1 from rfl]
  simp [ly0]
/-- How much is counted down does not matter once it is enough. -/
theorem lay_fuel {p : Pg} (hp : UpOk p) : ∀ (m : Nat) (k : Int) (f g : Nat), isJ p k = true → itQ p k m = 0 → m + 1 ≤ f → m + 1 ≤ g → layJ p f k = layJ p g k
  | m, k, f, g, hk, hm, hf, hg => by
    obtain ⟨f, rfl⟩ : ∃ f', f = f' + 1 := ⟨f - 1, by omega⟩
    obtain ⟨g, rfl⟩ : ∃ g', g = g' + 1 := ⟨g - 1, by omega⟩
    by_cases h0 : k = 0
    · subst h0; rw [lay_zero, lay_zero]
    · cases m with
      | zero => exact absurd hm h0
      | succ m =>
        rw [itQ_next] at hm
        have ih := lay_fuel hp m (nxQ p k) f g (hp k hk) hm (by omega) (by omega)
        rw [← sup_nx hk h0] at ih
        unfold layJ
        rw [ih]
theorem virQ_nil {k : Int} {ms : List Md} (hs : ∀ m ∈ ms, m.stc = false) : ∀ i, i ≤ ms.length → virQ [] k ms i = (ms.take i).mapIdx (fun i m => ownJ m k i)
  | 0, _ => rfl
  | i + 1, hi => by
    have ih := virQ_nil (k := k) hs i (by omega)
    have hm : ms[i]? = some ms[i] := List.getElem?_eq_getElem hi
    unfold virQ
    rw [hm]
    simp only []
    rw [hs _ (List.getElem_mem hi), if_neg (by decide), ih, List.take_add_one, hm, Option.toList_some, List.mapIdx_concat, List.length_take, Nat.min_eq_left (by omega)]
    rfl
theorem face_sup {p : Pg} (h : Kp5 p) {k : Int} (hk : isJ p k = true) (hf : faceJ p k = true) : nxQ p k = 0 := by
  have hf2 := hf
  simp [faceJ, userJ] at hf2
  obtain ⟨i, rfl⟩ : ∃ i : Nat, k = 11 + (i : Int) := ⟨(k - 11).toNat, by omega⟩
  have hi : i < p.cls.length := by have := hk; simp [isJ] at this; omega
  have hb := h.b1 i hi
  unfold bad1 at hb
  simp only [Bool.or_eq_false_iff, Bool.and_eq_false_iff] at hb
  rw [← sup_nx hk (by omega)]
  unfold supJ
  rw [if_neg (by omega)]
  rcases hb.2 with q | q
  · rw [hf2.2] at q; cases q
  · simpa using q
theorem face_flds {p : Pg} (h : Kp5 p) {k : Int} (hk : isJ p k = true) (hf : faceJ p k = true) : (clQ p k).flds = [] ∧ ∀ m ∈ (clQ p k).mds, m.stc = false := by
  have hf2 := hf
  simp [faceJ, userJ] at hf2
  obtain ⟨i, rfl⟩ : ∃ i : Nat, k = 11 + (i : Int) := ⟨(k - 11).toNat, by omega⟩
  have hi : i < p.cls.length := by have := hk; simp [isJ] at this; omega
  have hb := h.b3 i hi
  unfold bad3 at hb
  simp only [Bool.or_eq_false_iff, Bool.and_eq_false_iff, hf2.2] at hb
  rw [cl_user (by omega)]
  have hb2 := hb.2.resolve_left (by decide)
  refine ⟨?_, fun m hm => ?_⟩
  · have := hb2.1.1.2
    cases hq : (ofJ p (11 + (i : Int))).flds with
    | nil => rfl
    | cons a l => rw [hq] at this; simp at this
  · have := List.any_eq_false.1 hb2.2 m hm
    simp at this
    exact this.1.1.1
theorem own_pair {p : Pg} (h : Kp5 p) {k : Int} (hk : isJ p k = true) (hu : 11 ≤ k) : pairJ likeM (ofJ p k).mds (ofJ p k).mds.length = false := by
  obtain ⟨i, rfl⟩ : ∃ i : Nat, k = 11 + (i : Int) := ⟨(k - 11).toNat, by omega⟩
  have hi : i < p.cls.length := by have := hk; simp [isJ] at this; omega
  have hb := h.b5 i hi
  unfold bad5 at hb
  simp only [Bool.or_eq_false_iff] at hb
  exact hb.2
/-- A class's layout is what the program makes of its super's. -/
theorem ly_step {p : Pg} (h : Kp5 p) {k : Int} (hk : isJ p k = true) : lyJ p k = qlay p k (if k = 0 then ly0 else lyJ p (nxQ p k)) := by
  have hp := upOk_of h.b1
  by_cases h0 : k = 0
  · subst h0
    rw [if_pos rfl]
    unfold lyJ
    rw [lay_zero]
    rfl
  · rw [if_neg h0]
    obtain ⟨m, hm, hz⟩ := top_ex h.b1 h.b2 (hp k hk)
    have hfu := lay_fuel hp m (nxQ p k) (nJ p) (nJ p + 1) (hp k hk) hz (by unfold nJ; omega) (by unfold nJ; omega)
    have hsx := sup_nx hk h0
    rcases hf : faceJ p k with _ | _
    · unfold lyJ
      rw [← hfu]
      conv => lhs; unfold layJ
      rw [hf, if_neg (by decide), hsx]
      have hge : 0 ≤ nxQ p k := by have := hp k hk; simp [isJ] at this; omega
      simp only [if_pos hge]
      by_cases h9 : k = 9
      · subst h9
        rw [show nxQ p 9 = 0 from rfl, show nJ p = (10 + p.cls.length) + 1 by unfold nJ; omega, lay_zero]
        unfold qlay
        rw [cl_face hk, hf, user_low (p := p) (k := 9) (by omega)]
        simp only [Bool.false_eq_true, if_false, if_true]
        rfl
      generalize layJ p (nJ p) (nxQ p k) = up
      unfold qlay
      rw [cl_face hk, hf, if_neg h9]
      simp only [Bool.false_eq_true, if_false]
      by_cases hu : 11 ≤ k
      · have hus : userJ p k = true := by simp [userJ, hk, hu]
        rw [hus]
        simp only [if_true]
        rw [cl_user hu, virQ_eq (own_pair h hk hu) _ (Nat.le_refl _)]
      · have hus : userJ p k = false := user_low (by omega)
        rw [hus]
        simp only [Bool.false_eq_true, if_false]
        have hc : clQ p k = bltC k.toNat := by unfold clQ; rw [if_pos (by omega)]
        rw [hc]
        have hfl : (bltC k.toNat).flds = [] := rfl
        have hmd : (bltC k.toNat).mds = [] := by
          show (if k.toNat = 9 then [runM] else []) = []
          have : 0 ≤ k := by simp [isJ] at hk; omega
          rw [if_neg (by omega)]
        rw [hfl, List.append_nil, hmd]
        rfl
    · rw [face_sup h hk hf]
      have hl0 : lyJ p 0 = ⟨[], 0, [], abvJ p 0⟩ := lay_zero p _
      rw [hl0]
      unfold lyJ
      conv => lhs; unfold layJ
      rw [hf, if_pos rfl]
      obtain ⟨hfl, hms⟩ := face_flds h hk hf
      unfold qlay
      rw [cl_face hk, hf, if_pos rfl, hfl]
      rw [virQ_nil hms _ (Nat.le_refl _), List.take_length]
      have hu : 11 ≤ k := by simp [faceJ, userJ] at hf; omega
      rw [cl_user hu]
      rfl
end Go.Proofs.YtllpjjglnopgaabGreat
