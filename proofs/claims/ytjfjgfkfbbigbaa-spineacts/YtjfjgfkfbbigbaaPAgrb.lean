/- SpineActs: what the list tells behind a step, a drop, a set. -/
import Derived.Test.YtjfjgfkfbbigbaaPMky
import Derived.Test.YtjfjgfkfbbigbaaPCyc
namespace Go.Proofs.Ytjfjgfkfbbigbaa
open Go.RowKit
theorem Agr7.stepped {q q' : St} {V : Int → Int → Int} {half bg : Int} {L : List Rec} (h : Agr7 q V half bg true L) (hs : Stepped q q') (hon : q'.c.on = true) : Agr7 q' V half bg true L :=
  ⟨hs.shape.trans h.sh, h.ids, fun x hx => by rw [hs.given]; exact h.rng x hx, h.val, hon.symm, by rw [hs.half]; exact h.half_, by rw [hs.dropped]; exact h.dr, by rw [(hs.on hon).2.1]; exact h.lv, h.bys⟩
theorem Agr7.over {q q' : St} {V : Int → Int → Int} {half bg : Int} {L : List Rec} (h : Agr7 q V half bg true L) (hs : Stepped q q') (hoff : q'.c.on = false) : Agr7 q' V half bg false (L.filter (keepR bg)) := by
  have hsub : ∀ x, x ∈ L.filter (keepR bg) → x ∈ L := fun x hx => (List.mem_filter.1 hx).1
  have e1 : (L.filter (keepR bg)).filter (fun x => !x.gone) = L.filter (fun x => !x.gone) := by
    rw [List.filter_filter]
    exact List.filter_congr fun x _ => by cases hg : x.gone <;> simp [keepR, hg]
  have e2 : (L.filter (keepR bg)).filter (fun x => x.gone && decide (bg ≤ x.by_)) = L.filter (fun x => x.gone && decide (bg ≤ x.by_)) := by
    rw [List.filter_filter]
    exact List.filter_congr fun x _ => by cases hb : decide (bg ≤ x.by_) <;> simp [keepR, hb]
  have e3 : (L.filter (keepR bg)).filter (fun x => x.gone && !decide (bg ≤ x.by_)) = [] := by
    rw [List.filter_filter]
    refine List.filter_eq_nil_iff.2 fun x _ => ?_
    cases hg : x.gone <;> cases hb : decide (bg ≤ x.by_) <;> simp [keepR, hb, hg]
  refine ⟨by rw [e1]; exact hs.shape.trans h.sh, h.ids.sublist (List.filter_sublist ..), fun x hx => by rw [hs.given]; exact h.rng x (hsub x hx), fun x hx => h.val x (hsub x hx), hoff.symm, by rw [hs.half]; exact h.half_, by rw [hs.dropped, e2]; exact h.dr, by rw [(hs.off hoff).2, e3]; rfl, fun x hx => h.bys x (hsub x hx)⟩
theorem sumR_set {p : Rec → Bool} {x x' : Rec} (hp : p x' = p x) (hn : x'.n = x.n) : ∀ {L : List Rec} {i : Nat}, L[i]? = some x → sumR ((L.set i x').filter p) = sumR (L.filter p)
  | [], i, h => by simp at h
  | a :: r, 0, h => by
    simp at h; subst h
    simp only [List.set_cons_zero, List.filter_cons, hp]
    split
    · simp only [sumR, hn]
    · rfl
  | a :: r, i + 1, h => by
    have ih := sumR_set hp hn (L := r) (i := i) (by simpa using h)
    simp only [List.set_cons_succ, List.filter_cons]
    split
    · simp only [sumR, ih]
    · exact ih
theorem map_set {α : Type} {p : Rec → Bool} {g : Rec → α} {x x' : Rec} (hp : p x' = p x) (hg : g x' = g x) : ∀ {L : List Rec} {i : Nat}, L[i]? = some x → ((L.set i x').filter p).map g = (L.filter p).map g
  | [], i, h => by simp at h
  | a :: r, 0, h => by
    simp at h; subst h
    simp only [List.set_cons_zero, List.filter_cons, hp]
    split
    · simp only [List.map_cons, hg]
    · rfl
  | a :: r, i + 1, h => by
    have ih := map_set hp hg (L := r) (i := i) (by simpa using h)
    simp only [List.set_cons_succ, List.filter_cons]
    split
    · simp only [List.map_cons, ih]
    · exact ih
theorem ids_set {x x' : Rec} (e : x'.id = x.id) : ∀ {L : List Rec} {i : Nat}, L[i]? = some x → (L.set i x').map (fun a => a.id) = L.map (fun a => a.id)
  | [], i, h => by simp at h
  | a :: r, 0, h => by simp at h; subst h; simp [e]
  | a :: r, i + 1, h => by simp only [List.set_cons_succ, List.map_cons, ids_set e (L := r) (i := i) (by simpa using h)]
theorem mem_setR {x x' z : Rec} {L : List Rec} {i : Nat} (hids : L.Pairwise fun a b => a.id < b.id) (hx : L[i]? = some x) (h : z ∈ L.set i x') : z = x' ∨ (z ∈ L ∧ z.id ≠ x.id) := by
  have hil : i < L.length := (List.getElem?_eq_some_iff.1 hx).1
  have hxe : L[i] = x := by rw [List.getElem?_eq_getElem hil] at hx; exact Option.some.inj hx
  obtain ⟨m, hm, rfl⟩ := List.getElem_of_mem h
  have hm' : m < L.length := by simpa using hm
  by_cases e : i = m
  · left; subst e; simp
  · right
    rw [List.getElem_set_ne e]
    refine ⟨List.getElem_mem _, fun r => ?_⟩
    have hp := List.pairwise_iff_getElem.1 hids
    rcases Nat.lt_or_gt_of_ne e with q | q
    · have := hp i m hil hm' q; rw [hxe] at this; omega
    · have := hp m i hm' hil q; rw [hxe] at this; omega
/-- A word is set. -/
theorem Agr7.set {q : St} {V : Int → Int → Int} {half bg : Int} {un : Bool} {L : List Rec} (h : Agr7 q V half bg un L) {i : Nat} {x : Rec} (hx : L[i]? = some x) (j : Nat) (z : Int) : Agr7 q (updV V x.id j z) half bg un (L.set i { x with F := upd x.F j z }) := by
  have hxm : x ∈ L := List.mem_of_getElem? hx
  refine ⟨?_, ?_, fun a ha => ?_, fun a ha hg t ht => ?_, h.un_, h.half_, ?_, ?_, fun a ha hg => ?_⟩
  · rw [map_set (x := x) (x' := { x with F := upd x.F j z }) (g := fun x : Rec => (x.id, (x.n : Int))) rfl rfl hx]; exact h.sh
  · have h0 := h.ids
    rw [← List.pairwise_map (f := fun a : Rec => a.id) (R := fun a b => a < b)] at h0 ⊢
    rw [ids_set (x := x) (x' := { x with F := upd x.F j z }) rfl hx]; exact h0
  · rcases mem_setR h.ids hx ha with rfl | ⟨ha, _⟩
    · exact h.rng x hxm
    · exact h.rng a ha
  · rcases mem_setR h.ids hx ha with rfl | ⟨ha, hne⟩
    · show updV V x.id j z x.id t = upd x.F j z t
      have h0 := h.val x hxm hg t ht
      unfold updV upd
      by_cases e : t = j
      · subst e; simp
      · have e' : ¬ (t : Int) = (j : Int) := by omega
        simp only [e, e', and_false, if_false]; exact h0
    · have h0 := h.val a ha hg t ht
      unfold updV
      rw [if_neg (fun r => hne r.1)]; exact h0
  · rw [sumR_set (x := x) (x' := { x with F := upd x.F j z }) (p := fun x => x.gone && decide (bg ≤ x.by_)) rfl rfl hx]; exact h.dr
  · rw [sumR_set (x := x) (x' := { x with F := upd x.F j z }) (p := fun x => x.gone && !decide (bg ≤ x.by_)) rfl rfl hx]; exact h.lv
  · rcases mem_setR h.ids hx ha with rfl | ⟨ha, _⟩
    · exact h.bys x hxm hg
    · exact h.bys a ha hg
/-- Those not gone, where one goes. -/
theorem live_drop {x : Rec} {bg : Int} (hg : x.gone = false) : ∀ {L : List Rec} {i : Nat}, L.Pairwise (fun a b => a.id < b.id) → L[i]? = some x →
    ((L.set i { x with gone := true, by_ := bg }).filter (fun x => !x.gone)).map (fun x => (x.id, (x.n : Int))) = ((L.filter (fun x => !x.gone)).map (fun x => (x.id, (x.n : Int)))).filter (fun p => decide (p.1 ≠ x.id))
  | [], i, _, h => by simp at h
  | a :: r, 0, hs, h => by
    simp at h; subst h
    have ha := (List.pairwise_cons.1 hs).1
    have e : ((r.filter (fun x => !x.gone)).map (fun x => (x.id, (x.n : Int)))).filter (fun p => decide (p.1 ≠ a.id)) = (r.filter (fun x => !x.gone)).map (fun x => (x.id, (x.n : Int))) := by
      refine List.filter_eq_self.2 fun p hp => ?_
      obtain ⟨z, hz, rfl⟩ := List.mem_map.1 hp
      have := ha z (List.mem_filter.1 hz).1
      simp; omega
    simp only [List.set_cons_zero, List.filter_cons, hg]
    simp
    exact (by simpa using e.symm)
  | a :: r, i + 1, hs, h => by
    have h' : r[i]? = some x := by simpa using h
    have ha := (List.pairwise_cons.1 hs).1 x (List.mem_of_getElem? h')
    have ih := live_drop (bg := bg) hg (L := r) (i := i) (List.pairwise_cons.1 hs).2 h'
    have hne : decide (a.id ≠ x.id) = true := by simp; omega
    simp only [List.set_cons_succ, List.filter_cons]
    split
    · simp only [List.map_cons, List.filter_cons, hne, if_true, ih]
    · exact ih
theorem sum_drop {x : Rec} {bg : Int} (hg : x.gone = false) : ∀ {L : List Rec} {i : Nat}, L[i]? = some x →
    sumR ((L.set i { x with gone := true, by_ := bg }).filter (fun x => x.gone && decide (bg ≤ x.by_))) = sumR (L.filter (fun x => x.gone && decide (bg ≤ x.by_))) + (x.n + 4)
  | [], i, h => by simp at h
  | a :: r, 0, h => by
    simp at h; subst h
    simp only [List.set_cons_zero, List.filter_cons, hg]
    simp [sumR]; omega
  | a :: r, i + 1, h => by
    have ih := sum_drop (bg := bg) hg (L := r) (i := i) (by simpa using h)
    simp only [List.set_cons_succ, List.filter_cons]
    split
    · simp only [sumR, ih]; omega
    · exact ih
/-- An array is dropped. -/
theorem Agr7.drop {q : St} {V : Int → Int → Int} {half bg : Int} {un : Bool} {L : List Rec} (h : Agr7 q V half bg un L) {i : Nat} {x : Rec} (hx : L[i]? = some x) (hg : x.gone = false) {k : Nat} {z : Ary} (hs : SortedA q.xs) (hz : q.xs[k]? = some z) (e1 : z.id = x.id) (e2 : z.n = x.n) :
    Agr7 (droppedSt q k z.n) V half bg un (L.set i { x with gone := true, by_ := bg }) := by
  have hxm : x ∈ L := List.mem_of_getElem? hx
  refine ⟨?_, ?_, fun a ha => ?_, fun a ha hg2 t ht => ?_, h.un_, h.half_, ?_, ?_, fun a ha hg2 => ?_⟩
  · show (q.xs.eraseIdx k).map _ = _
    rw [drop_shape hs hz, h.sh, live_drop hg h.ids hx, e1]
  · have h0 := h.ids
    rw [← List.pairwise_map (f := fun a : Rec => a.id) (R := fun a b => a < b)] at h0 ⊢
    rw [ids_set (x := x) (x' := { x with gone := true, by_ := bg }) rfl hx]; exact h0
  · rcases mem_setR h.ids hx ha with rfl | ⟨ha, _⟩
    · exact h.rng x hxm
    · exact h.rng a ha
  · rcases mem_setR h.ids hx ha with rfl | ⟨ha, _⟩
    · simp at hg2
    · exact h.val a ha hg2 t ht
  · show q.dropped + (z.n + 4) = _
    rw [sum_drop hg hx, h.dr, e2]
  · show q.leaving = _
    rw [sumR_set (x := x) (x' := { x with gone := true, by_ := bg }) (p := fun x => x.gone && !decide (bg ≤ x.by_)) (by simp [hg]) rfl hx]; exact h.lv
  · rcases mem_setR h.ids hx ha with rfl | ⟨ha, _⟩
    · exact Int.le_refl _
    · exact h.bys a ha hg2
end Go.Proofs.Ytjfjgfkfbbigbaa
