/- Plain: what a class is, is closed: for TypesOrder (nothing of memory). -/
import Derived.Test.YtdgndglinkcdbaaDoorMGJ5
import Derived.Test.YtdgndglinkcdbaaDoorMGT1
namespace Go.Proofs.YtdgndglinkcdbaaDoor
open Go.RowKit

/-- What a class is by one step: its faces, its super. -/
def Suc (p : Pg) (k y : Int) : Prop := (userJ p k = true ∧ y ∈ (ofJ p k).faces) ∨ (0 ≤ supJ p k ∧ y = supJ p k)
/-- All that was come to from o, R: o stays, what is new has all its steps in R. -/
def Clo (p : Pg) (o R : List Int) : Prop := (∀ x ∈ o, x ∈ R) ∧ ∀ x ∈ R, x ∈ o ∨ ∀ y, Suc p x y → y ∈ R
theorem Clo.refl (p : Pg) (o : List Int) : Clo p o o := ⟨fun _ h => h, fun _ h => .inl h⟩
theorem Clo.trans {p : Pg} {a b c : List Int} (h : Clo p a b) (k : Clo p b c) : Clo p a c :=
  ⟨fun x hx => k.1 x (h.1 x hx), fun x hx => by
    rcases k.2 x hx with q | q
    · rcases h.2 x q with r | r
      · exact .inl r
      · exact .inr fun y hy => k.1 y (r y hy)
    · exact .inr q⟩
theorem above_clo {p : Pg} (hS : SupOk p) (hF : FaceOk p) : ∀ (f : Nat) (k : Int) (out : List Int), isJ p k = true → Gd p out → nJ p < f + out.length → Clo p out (aboveJ p f k out) ∧ k ∈ aboveJ p f k out
  | 0, _, out, _, hg, hn => by have := hg.le; omega
  | f + 1, k, out, hk, hg, hn => by
    rw [aboveJ]
    by_cases hc : out.contains k = true
    · rw [if_pos hc]; exact ⟨Clo.refl _ _, by simpa using hc⟩
    · rw [if_neg hc]
      rw [Bool.not_eq_true] at hc
      have h1 := hg.add hk hc
      have hfold : ∀ (xs : List Int) (o : List Int), (∀ x ∈ xs, isJ p x = true) → Gd p o → nJ p < f + o.length → Gd p (xs.foldl (fun o x => aboveJ p f x o) o) ∧ o.length ≤ (xs.foldl (fun o x => aboveJ p f x o) o).length ∧ Clo p o (xs.foldl (fun o x => aboveJ p f x o) o) ∧ ∀ x ∈ xs, x ∈ xs.foldl (fun o x => aboveJ p f x o) o := by
        intro xs
        induction xs with
        | nil => intro o _ ho _; exact ⟨ho, Nat.le_refl _, Clo.refl _ _, by simp⟩
        | cons x xs ih =>
          intro o hx ho hn2
          have q := above_gd hS hF f x o (hx x (by simp)) ho
          have c := above_clo hS hF f x o (hx x (by simp)) ho hn2
          have r := ih (aboveJ p f x o) (fun y hy => hx y (by simp [hy])) q.1 (by have := q.2; omega)
          refine ⟨r.1, Nat.le_trans q.2 r.2.1, c.1.trans r.2.2.1, fun y hy => ?_⟩
          rcases List.mem_cons.1 hy with rfl | hy
          · exact r.2.2.1.1 _ c.2
          · exact r.2.2.2 y hy
      have hn1 : nJ p < f + (out ++ [k]).length := by simp; omega
      have h2 : ∃ o2, (if userJ p k then (ofJ p k).faces.foldl (fun o x => aboveJ p f x o) (out ++ [k]) else out ++ [k]) = o2 ∧ Gd p o2 ∧ (out ++ [k]).length ≤ o2.length ∧ Clo p (out ++ [k]) o2 ∧ (userJ p k = true → ∀ x ∈ (ofJ p k).faces, x ∈ o2) := by
        by_cases hu : userJ p k = true
        · rw [if_pos hu]
          have q := hfold _ (out ++ [k]) (hF k hu) h1 hn1
          exact ⟨_, rfl, q.1, q.2.1, q.2.2.1, fun _ => q.2.2.2⟩
        · rw [if_neg hu]; exact ⟨_, rfl, h1, Nat.le_refl _, Clo.refl _ _, fun e => absurd e hu⟩
      obtain ⟨o2, e2, g2, l2, c2, f2⟩ := h2
      simp only [e2]
      have fin : ∀ R, Clo p o2 R → (0 ≤ supJ p k → supJ p k ∈ R) → Clo p out R ∧ k ∈ R := fun R cR hs => by
        have cc := c2.trans cR
        refine ⟨⟨fun x hx => cc.1 x (by simp [hx]), fun x hx => ?_⟩, cc.1 k (by simp)⟩
        rcases cc.2 x hx with q | q
        · rcases List.mem_append.1 q with q | q
          · exact .inl q
          · obtain rfl : x = k := by simpa using q
            refine .inr fun y hy => ?_
            rcases hy with ⟨hu, hy⟩ | ⟨h0, rfl⟩
            · exact cR.1 y (f2 hu y hy)
            · exact hs h0
        · exact .inr q
      by_cases hs : 0 ≤ supJ p k
      · rw [if_pos hs]
        have q := above_clo hS hF f (supJ p k) o2 ((hS k hk).resolve_left (by omega)) g2 (by omega)
        exact fin _ q.1 fun _ => q.2
      · rw [if_neg hs]
        exact fin _ (Clo.refl _ _) fun h => absurd h hs
/-- Nothing else is come to: K holds k and is closed. -/
theorem above_in {p : Pg} (K : Int → Prop) (hK : ∀ x y, K x → Suc p x y → K y) : ∀ (f : Nat) (k : Int) (out : List Int), K k → ∀ x ∈ aboveJ p f k out, x ∈ out ∨ K x
  | 0, _, out, _, x, hx => .inl hx
  | f + 1, k, out, hk, x, hx => by
    rw [aboveJ] at hx
    by_cases hc : out.contains k = true
    · rw [if_pos hc] at hx; exact .inl hx
    · rw [if_neg hc] at hx
      have hfold : ∀ (xs : List Int) (o : List Int), (∀ y ∈ xs, K y) → ∀ x ∈ xs.foldl (fun o x => aboveJ p f x o) o, x ∈ o ∨ K x := by
        intro xs
        induction xs with
        | nil => intro o _ x hx; exact .inl hx
        | cons y ys ih =>
          intro o hy x hx
          rcases ih _ (fun z hz => hy z (by simp [hz])) x hx with q | q
          · exact above_in K hK f y o (hy y (by simp)) x q
          · exact .inr q
      have h2 : ∀ x ∈ (if userJ p k then (ofJ p k).faces.foldl (fun o x => aboveJ p f x o) (out ++ [k]) else out ++ [k]), x ∈ out ∨ K x := fun z hz => by
        have base : ∀ z ∈ out ++ [k], z ∈ out ∨ K z := fun z hz => by
          rcases List.mem_append.1 hz with q | q
          · exact .inl q
          · obtain rfl : z = k := by simpa using q
            exact .inr hk
        by_cases hu : userJ p k = true
        · rw [if_pos hu] at hz
          rcases hfold _ _ (fun y hy => hK k y hk (.inl ⟨hu, hy⟩)) z hz with q | q
          · exact base z q
          · exact .inr q
        · rw [if_neg hu] at hz; exact base z hz
      simp only at hx
      by_cases hs : 0 ≤ supJ p k
      · rw [if_pos hs] at hx
        rcases above_in K hK f (supJ p k) _ (hK k _ hk (.inr ⟨hs, rfl⟩)) x hx with q | q
        · exact h2 x q
        · exact .inr q
      · rw [if_neg hs] at hx; exact h2 x hx
/-- What is above what is above, is above. -/
theorem above_trans {p : Pg} (hS : SupOk p) (hF : FaceOk p) {a b c : Int} (ha : isJ p a = true) (h1 : b ∈ aboveJ p (nJ p + 1) a []) (h2 : c ∈ aboveJ p (nJ p + 1) b []) : c ∈ aboveJ p (nJ p + 1) a [] := by
  have hc := above_clo hS hF (nJ p + 1) a [] ha ⟨by simp, by simp⟩ (by simp)
  rcases above_in (fun x => x ∈ aboveJ p (nJ p + 1) a []) (fun x y hx hy => (hc.1.2 x hx).resolve_left (by simp) y hy) (nJ p + 1) b [] h1 c h2 with q | q
  · simp at q
  · exact q
theorem ins_mem (x y : Int) : ∀ l : List Int, y ∈ insJ x l ↔ y = x ∨ y ∈ l
  | [] => by simp [insJ]
  | a :: l => by
    rw [insJ]
    split
    · simp
    · simp only [List.mem_cons, ins_mem x y l]; constructor
      · rintro (h | h | h) <;> simp [h]
      · rintro (h | h | h) <;> simp [h]
theorem sort_mem (y : Int) (l : List Int) : y ∈ sortJ l ↔ y ∈ l := by
  have h : ∀ (l o : List Int), y ∈ l.foldl (fun o x => insJ x o) o ↔ y ∈ o ∨ y ∈ l := by
    intro l
    induction l with
    | nil => intro o; simp
    | cons a l ih => intro o; rw [List.foldl_cons, ih, ins_mem]; simp only [List.mem_cons]; constructor
                     · rintro ((h | h) | h) <;> simp [h]
                     · rintro (h | h | h) <;> simp [h]
  simpa [sortJ] using h l []
theorem abv_trans {p : Pg} (hS : SupOk p) (hF : FaceOk p) {a b c : Int} (ha : isJ p a = true) (h1 : b ∈ abvJ p a) (h2 : c ∈ abvJ p b) : c ∈ abvJ p a := by
  unfold abvJ at h1 h2 ⊢
  rw [sort_mem] at h1 h2 ⊢
  exact above_trans hS hF ha h1 h2
end Go.Proofs.YtdgndglinkcdbaaDoor
/- Plain: fits is an order as long as no Face is between: for TypesOrder. -/
namespace Go.Proofs.YtdgndglinkcdbaaDoor
open Go.RowKit

theorem ly_abv (p : Pg) (k : Int) : (lyJ p k).abv = abvJ p k := by
  unfold lyJ
  rw [layJ]
  split
  · rfl
  · simp only
    split <;> rfl
theorem all_at {p : Pg} {k : Int} (h : inT (allJ p) k = true) : lyAt (allJ p) k = lyJ p k ∧ isJ p k = true := by
  have hl : (allJ p).length = nJ p := by simp [allJ]
  simp only [inT, hl, Bool.and_eq_true, decide_eq_true_eq] at h
  have hk : k.toNat < nJ p := by omega
  refine ⟨?_, ?_⟩
  · have e : ((k.toNat : Nat) : Int) = k := by omega
    simp [lyAt, allJ, List.getD, List.getElem?_map, List.getElem?_range hk, e]
  · have := h.2
    unfold nJ at this
    simp only [isJ, Bool.and_eq_true, decide_eq_true_eq]
    exact ⟨h.1, by omega⟩
theorem abv_zero (p : Pg) {x : Int} (h : x ∈ abvJ p 0) : x = 0 := by
  unfold abvJ at h
  rw [sort_mem, aboveJ] at h
  have hs : supJ p 0 = -1 := rfl
  have hu : userJ p 0 = false := by simp [userJ]
  simp [hs, hu] at h
  exact h
theorem fit_refl (ls : List Ly) (a : Int) : fitT ls a a = true := by simp [fitT]
theorem fit_trans {p : Pg} (hS : SupOk p) (hF : FaceOk p) {a b c : Int} (h0 : b ≠ 0) (hf : 16 ≤ b → inT (allJ p) (b - 16) = true → (lyAt (allJ p) (b - 16)).off ≠ -1) (h1 : fitT (allJ p) a b = true) (h2 : fitT (allJ p) b c = true) : fitT (allJ p) a c = true := by
  by_cases c0 : c = 0
  · simp [fitT, c0]
  by_cases ab : a = b
  · subst ab; exact h2
  by_cases bc : b = c
  · subst bc; exact h1
  simp only [fitT, Bool.or_eq_true, Bool.and_eq_true, beq_iff_eq, h0, ab, bc, c0, false_or] at h1 h2 ⊢
  obtain ⟨⟨ra, rb⟩, h1⟩ := h1
  obtain ⟨⟨-, rc⟩, h2⟩ := h2
  refine .inr ⟨⟨ra, rc⟩, ?_⟩
  rcases h1 with h1 | h1
  · exact .inl h1
  right
  simp only [fitC, Bool.or_eq_true, Bool.and_eq_true, beq_iff_eq] at h1 h2 ⊢
  obtain ⟨ib, h1⟩ := h1
  have b16 : 16 ≤ b := by
    have := ib
    simp [inT] at this; omega
  rcases h2 with h2 | ⟨ic, h2⟩
  · omega
  refine ⟨ic, ?_⟩
  rcases h2 with h2 | h2
  · exact .inl h2
  simp only [isLy, Bool.and_eq_true, List.contains_iff_mem] at h1 h2
  rw [(all_at ib).1, ly_abv] at h2
  rcases h1 with (h1 | h1) | h1
  · rw [h1] at h2
    exact .inl (.inl (abv_zero p h2.2))
  · exact absurd h1 (hf b16 ib)
  · right
    rw [(all_at h1.1.1).1, ly_abv] at h1
    simp only [isLy, Bool.and_eq_true, List.contains_iff_mem]
    rw [(all_at h1.1.1).1, ly_abv]
    exact ⟨⟨h1.1.1, ic⟩, abv_trans hS hF (all_at h1.1.1).2 h1.2 h2.2⟩
end Go.Proofs.YtdgndglinkcdbaaDoor
