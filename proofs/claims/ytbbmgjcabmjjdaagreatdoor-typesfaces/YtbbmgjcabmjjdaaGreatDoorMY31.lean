/- The program's own Load: a class's methods among its super's: plain. -/
import Derived.Test.YtbbmgjcabmjjdaaGreatDoorMGJ5
import Derived.Test.YtbbmgjcabmjjdaaGreatDoorMGT1
import Derived.Test.YtbbmgjcabmjjdaaGreatDoorMY29
import Derived.Test.YtbbmgjcabmjjdaaGreatDoorMY26
namespace Go.Proofs.YtbbmgjcabmjjdaaGreatDoor
open Go.RowKit

/-- What a class is by one step: its faces, its super. -/
def Suc (p : Pg) (k y : Int) : Prop := (userJ p k = true ∧ y ∈ (ofJ p k).faces) ∨ (0 ≤ supJ p k ∧ y = supJ p k)
/-- All that was come to from o, R: o stays, what is new has all its steps in R. -/
def Clo (p : Pg) (o R : List Int) : Prop := (∀ x ∈ o, x ∈ R) ∧ ∀ x ∈ R, x ∈ o ∨ ∀ y, Suc p x y → y ∈ R
theorem Clo.refl (p : Pg) (o : List Int) : Clo p o o := ⟨fun _ h => h, fun _ h => .inl h⟩
theorem Clo.trans {p : Pg} {a b c : List Int} (h : Clo p a b) (k : Clo p b c) : Clo p a c :=
  ⟨fun x hx => k.1 x (h.1 x hx), fun x hx => by
    rcases k.2 x hx with q | q
    · rcases h.2 x q with r | r
      · exact .inl r
      · exact .inr fun y hy => k.1 y (r y hy)
    · exact .inr q⟩
theorem above_clo {p : Pg} (hS : SupOk p) (hF : FaceOk p) : ∀ (f : Nat) (k : Int) (out : List Int), isJ p k = true → Gd p out → nJ p < f + out.length → Clo p out (aboveJ p f k out) ∧ k ∈ aboveJ p f k out
  | 0, _, out, _, hg, hn => by have := hg.le; omega
  | f + 1, k, out, hk, hg, hn => by
    rw [aboveJ]
    by_cases hc : out.contains k = true
    · rw [if_pos hc]; exact ⟨Clo.refl _ _, by simpa using hc⟩
    · rw [if_neg hc]
      rw [Bool.not_eq_true] at hc
      have h1 := hg.add hk hc
      have hfold : ∀ (xs : List Int) (o : List Int), (∀ x ∈ xs, isJ p x = true) → Gd p o → nJ p < f + o.length → Gd p (xs.foldl (fun o x => aboveJ p f x o) o) ∧ o.length ≤ (xs.foldl (fun o x => aboveJ p f x o) o).length ∧ Clo p o (xs.foldl (fun o x => aboveJ p f x o) o) ∧ ∀ x ∈ xs, x ∈ xs.foldl (fun o x => aboveJ p f x o) o := by
        intro xs
        induction xs with
        | nil => intro o _ ho _; exact ⟨ho, Nat.le_refl _, Clo.refl _ _, by simp⟩
        | cons x xs ih =>
          intro o hx ho hn2
          have q := above_gd hS hF f x o (hx x (by simp)) ho
          have c := above_clo hS hF f x o (hx x (by simp)) ho hn2
          have r := ih (aboveJ p f x o) (fun y hy => hx y (by simp [hy])) q.1 (by have := q.2; omega)
          refine ⟨r.1, Nat.le_trans q.2 r.2.1, c.1.trans r.2.2.1, fun y hy => ?_⟩
          rcases List.mem_cons.1 hy with rfl | hy
          · exact r.2.2.1.1 _ c.2
          · exact r.2.2.2 y hy
      have hn1 : nJ p < f + (out ++ [k]).length := by simp; omega
      have h2 : ∃ o2, (if userJ p k then (ofJ p k).faces.foldl (fun o x => aboveJ p f x o) (out ++ [k]) else out ++ [k]) = o2 ∧ Gd p o2 ∧ (out ++ [k]).length ≤ o2.length ∧ Clo p (out ++ [k]) o2 ∧ (userJ p k = true → ∀ x ∈ (ofJ p k).faces, x ∈ o2) := by
        by_cases hu : userJ p k = true
        · rw [if_pos hu]
          have q := hfold _ (out ++ [k]) (hF k hu) h1 hn1
          exact ⟨_, rfl, q.1, q.2.1, q.2.2.1, fun _ => q.2.2.2⟩
        · rw [if_neg hu]; exact ⟨_, rfl, h1, Nat.le_refl _, Clo.refl _ _, fun e => absurd e hu⟩
      obtain ⟨o2, e2, g2, l2, c2, f2⟩ := h2
      simp only [e2]
      have fin : ∀ R, Clo p o2 R → (0 ≤ supJ p k → supJ p k ∈ R) → Clo p out R ∧ k ∈ R := fun R cR hs => by
        have cc := c2.trans cR
        refine ⟨⟨fun x hx => cc.1 x (by simp [hx]), fun x hx => ?_⟩, cc.1 k (by simp)⟩
        rcases cc.2 x hx with q | q
        · rcases List.mem_append.1 q with q | q
          · exact .inl q
          · obtain rfl : x = k := by simpa using q
            refine .inr fun y hy => ?_
            rcases hy with ⟨hu, hy⟩ | ⟨h0, rfl⟩
            · exact cR.1 y (f2 hu y hy)
            · exact hs h0
        · exact .inr q
      by_cases hs : 0 ≤ supJ p k
      · rw [if_pos hs]
        have q := above_clo hS hF f (supJ p k) o2 ((hS k hk).resolve_left (by omega)) g2 (by omega)
        exact fin _ q.1 fun _ => q.2
      · rw [if_neg hs]
        exact fin _ (Clo.refl _ _) fun h => absurd h hs
/-- Nothing else is come to: K holds k and is closed. -/
theorem above_in {p : Pg} (K : Int → Prop) (hK : ∀ x y, K x → Suc p x y → K y) : ∀ (f : Nat) (k : Int) (out : List Int), K k → ∀ x ∈ aboveJ p f k out, x ∈ out ∨ K x
  | 0, _, out, _, x, hx => .inl hx
  | f + 1, k, out, hk, x, hx => by
    rw [aboveJ] at hx
    by_cases hc : out.contains k = true
    · rw [if_pos hc] at hx; exact .inl hx
    · rw [if_neg hc] at hx
      have hfold : ∀ (xs : List Int) (o : List Int), (∀ y ∈ xs, K y) → ∀ x ∈ xs.foldl (fun o x => aboveJ p f x o) o, x ∈ o ∨ K x := by
        intro xs
        induction xs with
        | nil => intro o _ x hx; exact .inl hx
        | cons y ys ih =>
          intro o hy x hx
          rcases ih _ (fun z hz => hy z (by simp [hz])) x hx with q | q
          · exact above_in K hK f y o (hy y (by simp)) x q
          · exact .inr q
      have h2 : ∀ x ∈ (if userJ p k then (ofJ p k).faces.foldl (fun o x => aboveJ p f x o) (out ++ [k]) else out ++ [k]), x ∈ out ∨ K x := fun z hz => by
        have base : ∀ z ∈ out ++ [k], z ∈ out ∨ K z := fun z hz => by
          rcases List.mem_append.1 hz with q | q
          · exact .inl q
          · obtain rfl : z = k := by simpa using q
            exact .inr hk
        by_cases hu : userJ p k = true
        · rw [if_pos hu] at hz
          rcases hfold _ _ (fun y hy => hK k y hk (.inl ⟨hu, hy⟩)) z hz with q | q
          · exact base z q
          · exact .inr q
        · rw [if_neg hu] at hz; exact base z hz
      simp only at hx
      by_cases hs : 0 ≤ supJ p k
      · rw [if_pos hs] at hx
        rcases above_in K hK f (supJ p k) _ (hK k _ hk (.inr ⟨hs, rfl⟩)) x hx with q | q
        · exact h2 x q
        · exact .inr q
      · rw [if_neg hs] at hx; exact h2 x hx
/-- What is above what is above, is above. -/
theorem above_trans {p : Pg} (hS : SupOk p) (hF : FaceOk p) {a b c : Int} (ha : isJ p a = true) (h1 : b ∈ aboveJ p (nJ p + 1) a []) (h2 : c ∈ aboveJ p (nJ p + 1) b []) : c ∈ aboveJ p (nJ p + 1) a [] := by
  have hc := above_clo hS hF (nJ p + 1) a [] ha ⟨by simp, by simp⟩ (by simp)
  rcases above_in (fun x => x ∈ aboveJ p (nJ p + 1) a []) (fun x y hx hy => (hc.1.2 x hx).resolve_left (by simp) y hy) (nJ p + 1) b [] h1 c h2 with q | q
  · simp at q
  · exact q
theorem ins_mem (x y : Int) : ∀ l : List Int, y ∈ insJ x l ↔ y = x ∨ y ∈ l
  | [] => by simp [insJ]
  | a :: l => by
    rw [insJ]
    split
    · simp
    · simp only [List.mem_cons, ins_mem x y l]; constructor
      · rintro (h | h | h) <;> simp [h]
      · rintro (h | h | h) <;> simp [h]
theorem sort_mem (y : Int) (l : List Int) : y ∈ sortJ l ↔ y ∈ l := by
  have h : ∀ (l o : List Int), y ∈ l.foldl (fun o x => insJ x o) o ↔ y ∈ o ∨ y ∈ l := by
    intro l
    induction l with
    | nil => intro o; simp
    | cons a l ih => intro o; rw [List.foldl_cons, ih, ins_mem]; simp only [List.mem_cons]; constructor
                     · rintro ((h | h) | h) <;> simp [h]
                     · rintro (h | h | h) <;> simp [h]
  simpa [sortJ] using h l []
theorem abv_trans {p : Pg} (hS : SupOk p) (hF : FaceOk p) {a b c : Int} (ha : isJ p a = true) (h1 : b ∈ abvJ p a) (h2 : c ∈ abvJ p b) : c ∈ abvJ p a := by
  unfold abvJ at h1 h2 ⊢
  rw [sort_mem] at h1 h2 ⊢
  exact above_trans hS hF ha h1 h2
end Go.Proofs.YtbbmgjcabmjjdaaGreatDoor
/- Plain: fits is an order as long as no Face is between: for TypesOrder. -/
namespace Go.Proofs.YtbbmgjcabmjjdaaGreatDoor
open Go.RowKit

theorem ly_abv (p : Pg) (k : Int) : (lyJ p k).abv = abvJ p k := by
  unfold lyJ
  rw [layJ]
  split
  · rfl
  · simp only
    split <;> rfl
theorem all_at {p : Pg} {k : Int} (h : inT (allJ p) k = true) : lyAt (allJ p) k = lyJ p k ∧ isJ p k = true := by
  have hl : (allJ p).length = nJ p := by simp [allJ]
  simp only [inT, hl, Bool.and_eq_true, decide_eq_true_eq] at h
  have hk : k.toNat < nJ p := by omega
  refine ⟨?_, ?_⟩
  · have e : ((k.toNat : Nat) : Int) = k := by omega
    simp [lyAt, allJ, List.getD, List.getElem?_map, List.getElem?_range hk, e]
  · have := h.2
    unfold nJ at this
    simp only [isJ, Bool.and_eq_true, decide_eq_true_eq]
    exact ⟨h.1, by omega⟩
theorem abv_zero (p : Pg) {x : Int} (h : x ∈ abvJ p 0) : x = 0 := by
  unfold abvJ at h
  rw [sort_mem, aboveJ] at h
  have hs : supJ p 0 = -1 := rfl
  have hu : userJ p 0 = false := by simp [userJ]
  simp [hs, hu] at h
  exact h
theorem fit_refl (ls : List Ly) (a : Int) : fitT ls a a = true := by simp [fitT]
theorem fit_trans {p : Pg} (hS : SupOk p) (hF : FaceOk p) {a b c : Int} (h0 : b ≠ 0) (hf : 16 ≤ b → inT (allJ p) (b - 16) = true → (lyAt (allJ p) (b - 16)).off ≠ -1) (h1 : fitT (allJ p) a b = true) (h2 : fitT (allJ p) b c = true) : fitT (allJ p) a c = true := by
  by_cases c0 : c = 0
  · simp [fitT, c0]
  by_cases ab : a = b
  · subst ab; exact h2
  by_cases bc : b = c
  · subst bc; exact h1
  simp only [fitT, Bool.or_eq_true, Bool.and_eq_true, beq_iff_eq, h0, ab, bc, c0, false_or] at h1 h2 ⊢
  obtain ⟨⟨ra, rb⟩, h1⟩ := h1
  obtain ⟨⟨-, rc⟩, h2⟩ := h2
  refine .inr ⟨⟨ra, rc⟩, ?_⟩
  rcases h1 with h1 | h1
  · exact .inl h1
  right
  simp only [fitC, Bool.or_eq_true, Bool.and_eq_true, beq_iff_eq] at h1 h2 ⊢
  obtain ⟨ib, h1⟩ := h1
  have b16 : 16 ≤ b := by
    have := ib
    simp [inT] at this; omega
  rcases h2 with h2 | ⟨ic, h2⟩
  · omega
  refine ⟨ic, ?_⟩
  rcases h2 with h2 | h2
  · exact .inl h2
  simp only [isLy, Bool.and_eq_true, List.contains_iff_mem] at h1 h2
  rw [(all_at ib).1, ly_abv] at h2
  rcases h1 with (h1 | h1) | h1
  · rw [h1] at h2
    exact .inl (.inl (abv_zero p h2.2))
  · exact absurd h1 (hf b16 ib)
  · right
    rw [(all_at h1.1.1).1, ly_abv] at h1
    simp only [isLy, Bool.and_eq_true, List.contains_iff_mem]
    rw [(all_at h1.1.1).1, ly_abv]
    exact ⟨⟨h1.1.1, ic⟩, abv_trans hS hF (all_at h1.1.1).2 h1.2 h2.2⟩
end Go.Proofs.YtbbmgjcabmjjdaaGreatDoor
namespace Go.Proofs.YtbbmgjcabmjjdaaGreatDoor
open Go.RowKit

theorem face_okQ {p : Pg} (h : ∀ i, i < p.cls.length → bad3 p i = false) : FaceOk p := fun k hk x hx => by
  have hk2 := hk
  simp [userJ, isJ] at hk2
  obtain ⟨i, rfl⟩ : ∃ i : Nat, k = 11 + (i : Int) := ⟨(k - 11).toNat, by omega⟩
  have hb := h i (by omega)
  rw [bad3_eq] at hb
  simp only [Bool.or_eq_false_iff] at hb
  have := List.any_eq_false.1 hb.1 x hx
  have hf : faceJ p x = true := by simpa using this
  simp [faceJ, userJ] at hf
  exact hf.1.2
theorem abq_of {p : Pg} (hS : SupOk p) (hF : FaceOk p) : AbQ p := fun i hi a ha => by
  have hk : isJ p (11 + (i : Int)) = true := by simp [isJ]; omega
  rw [ly_abv] at ha
  unfold abvJ at ha
  rw [sort_mem] at ha
  rcases above_in (fun x => isJ p x = true) (fun x y hx hy => by
    rcases hy with ⟨hu, hy⟩ | ⟨hu, rfl⟩
    · exact hF x hu y hy
    · exact (hS x hx).resolve_left (by omega)) _ _ _ hk a ha with h | h
  · simp at h
  · exact h
theorem st5_keep {p : Pg} (h : st5 p = (0, 0)) : SupOk p ∧ FaceOk p := by
  have h0 : (st5 p).1 = 0 := by rw [h]
  by_cases h2 : (st2 p).1 = 0
  · have e : st5 p = runJ (bad5 p) 1503 (runJ (bad4 p) 1504 (runJ (bad3 p) 1502 (st2 p) p.cls.length) p.cls.length) p.cls.length := by unfold st5; rw [if_pos h2]
    rw [e] at h0
    have h3 := (runJ_ok (by decide) (runJ_ok (by decide) h0).1).1
    have h1 := (runJ_ok (by decide) (show (runJ (bad2 p) 1501 (runJ (bad1 p) 1500 (0, 0) p.cls.length) p.cls.length).1 = 0 from h2)).1
    exact ⟨sup_ok (runJ_ok (by decide) h1).2.2, face_okQ (runJ_ok (by decide) h3).2.2⟩
  · have e : st5 p = st2 p := by unfold st5; rw [if_neg h2]
    rw [e] at h0
    exact absurd h0 h2
/-- load.Load answers loadJ p, once hasEqual and layouts have their contracts. -/
theorem loadQ_of {S : Nat → Prop} {p : Pg} {cs : List Value} {w : World} (hok : Okq p) (hF : HqF) (hM : HqM) (hLy : HLy p) (hS : ∀ k, S k → k < w.heap.size) (hR : kPg.R w S p cs) : Calls Tryz.prog 5 #[.agg cs.toArray] w (LdQ p w) :=
  loadQ_ok (fun _ _ _ h1 h2 => layoutsOf_ok h1 h2 hok hF hM (fun h => abq_of (st5_keep h).1 (st5_keep h).2) hLy) hS hR
end Go.Proofs.YtbbmgjcabmjjdaaGreatDoor
namespace Go.Proofs.YtbbmgjcabmjjdaaGreatDoor
open Go.RowKit

theorem eqB_iff (a b : ByteArray) : eqB a b = true ↔ a = b := by
  unfold eqB
  constructor
  · intro h
    have h1 : a.data.toList = b.data.toList := by simpa using h
    cases a; cases b
    simp at h1
    rw [h1]
  · rintro rfl; simp
theorem like_iff (a : ByteArray) (xs : List Int) (ar : Int) (b : ByteArray) (ys : List Int) (br : Int) : likeJ a xs ar b ys br = true ↔ a = b ∧ ar = br ∧ xs = ys := by
  unfold likeJ
  rw [Bool.and_eq_true, Bool.and_eq_true, eqB_iff, beq_iff_eq, beq_iff_eq, and_assoc]
theorem like_bool {a a2 b : ByteArray} {xs xs2 ys : List Int} {ar ar2 br : Int} (h : likeJ a xs ar a2 xs2 ar2 = true) : likeJ a xs ar b ys br = likeJ a2 xs2 ar2 b ys br := by
  obtain ⟨rfl, rfl, rfl⟩ := (like_iff _ _ _ _ _ _).1 h; rfl
theorem findIdx_set {α : Type} {p : α → Bool} {x : α} : ∀ (l : List α) (a : Nat), (∀ y, l[a]? = some y → p y = p x) → (l.set a x).findIdx? p = l.findIdx? p
  | [], _, _ => rfl
  | y :: l, 0, h => by
    have := h y rfl
    simp only [List.set_cons_zero, List.findIdx?_cons, this]
  | y :: l, a + 1, h => by
    have ih := findIdx_set l a (fun z hz => h z (by simpa using hz))
    simp only [List.set_cons_succ, List.findIdx?_cons, ih]
theorem of_some {es : List En} {nm : ByteArray} {args : List Int} {ret : Int} {a : Nat} (h : OfJ es nm args ret = some a) : ∃ e, es[a]? = some e ∧ likeJ e.nm e.args e.ret nm args ret = true := by
  unfold OfJ at h
  obtain ⟨hl, he, -⟩ := List.findIdx?_eq_some_iff_getElem.1 h
  exact ⟨es[a], List.getElem?_eq_getElem hl, he⟩
/-- What is unlike a method is found where it was. -/
theorem of_put {es : List En} {e : En} {nm : ByteArray} {args : List Int} {ret : Int} (h : likeJ e.nm e.args e.ret nm args ret = false) : OfJ (putJ es e) nm args ret = OfJ es nm args ret := by
  unfold putJ
  rcases ho : OfJ es e.nm e.args e.ret with _ | a
  · show (es ++ [e]).findIdx? _ = _
    rw [List.findIdx?_append]
    unfold OfJ
    rcases hf : es.findIdx? (fun e => likeJ e.nm e.args e.ret nm args ret) with _ | b
    · simp [hf, List.findIdx?_cons, h]
    · simp [hf]
  · obtain ⟨y, hy, hl⟩ := of_some ho
    show (es.set a e).findIdx? _ = _
    refine findIdx_set es a fun z hz => ?_
    rw [hy] at hz
    injection hz with hz
    subst hz
    show likeJ y.nm y.args y.ret nm args ret = likeJ e.nm e.args e.ret nm args ret
    exact like_bool hl
theorem vir_of {vir : List En} {k : Int} {ms : List Md} {nm : ByteArray} {args : List Int} {ret : Int} : ∀ (i : Nat), (∀ j m, j < i → ms[j]? = some m → likeJ m.nm m.args m.ret nm args ret = false) → OfJ (virJ vir k ms i) nm args ret = OfJ vir nm args ret
  | 0, _ => rfl
  | i + 1, h => by
    have ih := vir_of (vir := vir) (k := k) i fun j m hj hm => h j m (by omega) hm
    unfold virJ
    rcases hm : ms[i]? with _ | m
    · exact ih
    · simp only []
      rcases hs : m.stc with _ | _
      · rw [if_neg (by decide)]
        rw [of_put (show likeJ (ownJ m k i).nm (ownJ m k i).args (ownJ m k i).ret nm args ret = false from h i m (by omega) hm)]
        exact ih
      · rw [if_pos rfl]; exact ih
/-- As the program does: each is looked up among the super's. -/
def virQ (vir : List En) (k : Int) (ms : List Md) : Nat → List En
  | 0 => vir
  | i + 1 => match ms[i]? with
    | some m => if m.stc then virQ vir k ms i else match OfJ vir m.nm m.args m.ret with
      | some a => (virQ vir k ms i).set a (ownJ m k i)
      | none => virQ vir k ms i ++ [ownJ m k i]
    | none => virQ vir k ms i
theorem virQ_eq {vir : List En} {k : Int} {ms : List Md} (hp : pairJ likeM ms ms.length = false) : ∀ i, i ≤ ms.length → virQ vir k ms i = virJ vir k ms i
  | 0, _ => rfl
  | i + 1, hi => by
    have ih := virQ_eq (vir := vir) (k := k) hp i (by omega)
    have hpw := (pair_iff (eq := likeM) (fun x y => by
      unfold likeM
      rcases hb : likeJ x.nm x.args x.ret y.nm y.args y.ret with _ | _
      · rcases hc : likeJ y.nm y.args y.ret x.nm x.args x.ret with _ | _
        · rfl
        · obtain ⟨a, b, c⟩ := (like_iff _ _ _ _ _ _).1 hc
          rw [(like_iff _ _ _ _ _ _).2 ⟨a.symm, b.symm, c.symm⟩] at hb
          cases hb
      · obtain ⟨a, b, c⟩ := (like_iff _ _ _ _ _ _).1 hb
        exact ((like_iff _ _ _ _ _ _).2 ⟨a.symm, b.symm, c.symm⟩).symm) ms).1 hp
    unfold virQ virJ
    rw [ih]
    rcases hm : ms[i]? with _ | m
    · rfl
    · simp only []
      rcases hs : m.stc with _ | _
      · rw [if_neg (by decide), if_neg (by decide)]
        have hof : OfJ (virJ vir k ms i) m.nm m.args m.ret = OfJ vir m.nm m.args m.ret := vir_of i fun j x hj hx => by
          have h1 := (List.getElem?_eq_some_iff.1 hx)
          have h2 := (List.getElem?_eq_some_iff.1 hm)
          have := List.pairwise_iff_getElem.1 hpw j i h1.1 h2.1 hj
          rw [h1.2, h2.2] at this
          exact this
        show (match OfJ vir m.nm m.args m.ret with
          | some a => (virJ vir k ms i).set a (ownJ m k i)
          | none => virJ vir k ms i ++ [ownJ m k i]) = putJ (virJ vir k ms i) (ownJ m k i)
        unfold putJ
        rw [show OfJ (virJ vir k ms i) (ownJ m k i).nm (ownJ m k i).args (ownJ m k i).ret = OfJ vir m.nm m.args m.ret from hof]
        rcases OfJ vir m.nm m.args m.ret with _ | a <;> rfl
      · rfl
end Go.Proofs.YtbbmgjcabmjjdaaGreatDoor
