/- ObjectActs: what a store into a field, and into the law's own row, leaves. -/
import Derived.Test.YtojblddfggoecaaGreatOMky
namespace Go.Proofs.YtojblddfggoecaaGreat
open Go.RowKit
theorem set_map {α : Type} {g : Rc → α} {x x' : Rc} (hg : g x' = g x) : ∀ {L : List Rc} {i : Nat}, L[i]? = some x → (L.set i x').map g = L.map g
  | [], i, h => by simp at h
  | a :: r, 0, h => by simp at h; subst h; simp [hg]
  | a :: r, i + 1, h => by simp only [List.set_cons_succ, List.map_cons]; rw [set_map hg (by simpa using h)]
section
variable {B : Nat} {w0 w : World} {P : Nat → Prop} {so p b W N m : Nat} {cs ws : Nat → Int} {O : List Ob} {y : Nat} {vr vo : Value} {Rr : List Value} {L : List Rc}
theorem Play8.word (h : Play8 B w0 w P so p b W N m cs ws O y vr vo Rr L) {i : Nat} {x : Rc} (hx : L[i]? = some x) (j : Nat) (z : Int) :
    Play8 B w0 (w.setCell ⟨x.blk, j, none⟩ (.int .i64 z)) P so p b W N m cs ws O y vr vo Rr (L.set i { x with F := upd x.F j z }) := by
  have hxm : x ∈ L := List.mem_of_getElem? hx
  have hil : i < L.length := (List.getElem?_eq_some_iff.1 hx).1
  have hw := h.words x hxm
  refine h.remake (r := fun k => k = x.blk) (by simp [World.setCell]) ⟨rfl, rfl, rfl⟩ (fun k _ hk => Below.heap_setCell _ _ _ _ hk) (fun k hk => hk ▸ ⟨hw.2.1, hw.2.2.1⟩) ?_ (h.refs.of_block fun k hk => Below.heap_setCell _ _ _ _ (fun q => hw.2.2.2 (by have q' : k = x.blk := q; rw [← q']; exact hk))) ?_ (fun a ha => ?_) ?_ h.pr h.po
  · rw [Below.heap_setCell _ _ _ _ (fun r => h.y_x hxm r.symm)]; exact h.here
  · unfold rowO
    rw [set_map (x := x) (x' := { x with F := upd x.F j z }) rfl hx]
    exact h.objs.of_block fun k hk => Below.heap_setCell _ _ _ _ (fun q => h.o_x hxm (by have q' : k = x.blk := q; rw [← q']; exact hk))
  · obtain ⟨t, ht, e⟩ := List.getElem_of_mem ha
    have ht' : t < L.length := by simpa using ht
    by_cases e2 : i = t
    · subst e2
      simp only [List.getElem_set_self] at e
      subst e
      refine ⟨(hw.1.set j (.int .i64 z)).congr fun s _ => ?_, hw.2⟩
      show (if s = j then _ else _) = Value.int .i64 (upd x.F j z s)
      unfold upd; split <;> rfl
    · rw [List.getElem_set_ne e2] at e
      subst e
      have hne : L[t].blk ≠ x.blk := by
        have hxe : L[i] = x := by rw [List.getElem?_eq_getElem hil] at hx; exact Option.some.inj hx
        rw [← hxe]
        rcases Nat.lt_or_gt_of_ne e2 with r | r
        · exact fun q => List.pairwise_iff_getElem.1 h.apart i t hil ht' r q.symm
        · exact List.pairwise_iff_getElem.1 h.apart t i ht' hil r
      exact ⟨(h.words _ (List.getElem_mem ht')).1.setOther (a := ⟨x.blk, j, none⟩) hne _, (h.words _ (List.getElem_mem ht')).2⟩
  · have h0 := h.apart
    rw [← List.pairwise_map (f := fun a : Rc => a.blk) (R := fun a b => a ≠ b)] at h0 ⊢
    rw [set_map (x := x) (x' := { x with F := upd x.F j z }) rfl hx]; exact h0
theorem Agr8.get (h : Agr8 ws O L) {i : Nat} {x : Rc} (hx : L[i]? = some x) : O[i]? = some x.o := by rw [h.1, List.getElem?_map, hx]; rfl
theorem Agr8.mem (h : Agr8 ws O L) {i : Nat} {x : Rc} (hx : L[i]? = some x) : x.o ∈ O := List.mem_of_getElem? (h.get hx)
theorem Agr8.put {len : Nat} (h : Agr8 ws O L) (hI : OInv ws 0 N len O) {i : Nat} {x : Rc} (hx : L[i]? = some x) {j : Nat} (hj : j < x.o.n) (v : Int) : Agr8 (upd ws (x.o.ad 0 j) v) O (L.set i { x with F := upd x.F j v }) := by
  refine ⟨by rw [h.1, set_map (x := x) (x' := { x with F := upd x.F j v }) rfl hx], fun z hz t ht => ?_⟩
  obtain ⟨a, ha, e⟩ := List.getElem_of_mem hz
  have ha' : a < L.length := by simpa using ha
  by_cases e2 : i = a
  · subst e2
    simp only [List.getElem_set_self] at e
    subst e
    show upd ws (x.o.ad 0 j) v (x.o.ad 0 t) = upd x.F j v t
    by_cases e3 : t = j
    · subst e3; rw [upd_at, upd_at]
    · rw [upd_else _ _ (hI.ad_ne (h.get hx) (h.get hx) ht hj (by omega)), upd_else _ _ e3]
      exact h.2 x (List.mem_of_getElem? hx) t ht
  · rw [List.getElem_set_ne e2] at e
    subst e
    have hz2 : L[a]? = some L[a] := List.getElem?_eq_getElem ha'
    rw [upd_else _ _ (hI.ad_ne (h.get hz2) (h.get hx) ht hj (by omega))]
    exact h.2 _ (List.getElem_mem ha') t ht
theorem Agr8.bad (h : Agr8 ws O L) {t A : Int} (hn : ∀ x ∈ L, x.o.ref ≠ t) : Bad 3 O A t := by
  rintro ⟨_, o, ho, e⟩
  rw [h.1] at ho
  obtain ⟨x, hx, rfl⟩ := List.mem_map.1 ho
  exact hn x hx e
theorem Pb8.steps_any {x : Nat} {K A q I n : Int} (h : Pb8 B w0 w P so p b W N m cs ws O y vr vo Rr L x K A q I n) : ∃ bf : Int, (0 ≤ A ∧ A < 3 → bf = cs A.toNat) ∧ ∀ k, Calls Tryz.prog 45 #[.pointer (some ⟨b, 0, none⟩), .int .i64 A] (w.drewN k) fun e w' => e = .returned (.int .i64 bf) ∧ w' = w.drewN k := by
  by_cases hA : 0 ≤ A ∧ A < 3
  · obtain ⟨g, rfl⟩ := Int.eq_ofNat_of_zero_le hA.1
    exact ⟨cs g, fun _ => rfl, fun k => v_steps (h.below (below_drewN w k _)).play.ev g (by omega)⟩
  · exact ⟨0, fun r => absurd r hA, fun k => v_steps_no (h.below (below_drewN w k _)).play.ev A hA⟩
theorem Play8.orow {g cap : Nat} (h : Play8 B w0 w P so p b W N m cs ws O y vr (.slice (some ⟨g, 0, none⟩) L.length cap) Rr L) {i : Nat} {x : Rc} (hx : L[i]? = some x) : w.cell? ⟨g, i, none⟩ = some (.slice (some ⟨x.blk, 0, none⟩) x.o.n x.o.n) := by
  have hi := (List.getElem?_eq_some_iff.1 hx).1
  obtain ⟨p2, e, _, _, _, hc⟩ := h.objs.cells (by rw [rowO_len]; omega)
  simp only [Option.some.injEq, Addr.mk.injEq, and_true] at e
  subst e
  exact hc i _ (by unfold rowO; rw [List.getElem?_map, hx]; rfl)
theorem Play8.oaddr {ao : Option Addr} {M cap : Nat} (h : Play8 B w0 w P so p b W N m cs ws O y vr (.slice ao M cap) Rr L) {i : Nat} {x : Rc} (hx : L[i]? = some x) : ∃ g, ao = some ⟨g, 0, none⟩ := by
  have hi := (List.getElem?_eq_some_iff.1 hx).1
  obtain ⟨p2, e, _⟩ := h.objs.cells (by rw [rowO_len]; omega)
  exact ⟨p2, e⟩
theorem Play8.oform (h : Play8 B w0 w P so p b W N m cs ws O y vr vo Rr L) : ∃ ao cap, vo = .slice ao L.length cap := by
  obtain ⟨ao, cap, e⟩ := h.objs.form
  rw [rowO_len] at e
  exact ⟨ao, cap, e⟩
theorem Play8.wd (h : Play8 B w0 w P so p b W N m cs ws O y vr vo Rr L) {i : Nat} {x : Rc} (hx : L[i]? = some x) {j : Nat} (hj : j < x.o.n) : w.cell? ⟨x.blk, j, none⟩ = some (.int .i64 (x.F j)) ∧ w.frozen? ⟨x.blk, j, none⟩ = false :=
  ⟨(h.words x (List.mem_of_getElem? hx)).1.cell hj, (h.words x (List.mem_of_getElem? hx)).1.frozen j⟩
theorem Fnd.miss {L : List Rc} {t R : Int} (h : Fnd L t R) (hR : R < 0) : R = -1 ∧ ∀ x ∈ L, x.o.ref ≠ t := by
  rcases h with ⟨i, x, _, _, _, e⟩ | ⟨hm, e⟩
  · omega
  · exact ⟨e, hm⟩
theorem Fnd.got {L : List Rc} {t R : Int} (h : Fnd L t R) (hR : ¬ R < 0) : ∃ (i : Nat) (x : Rc), L[i]? = some x ∧ x.o.ref = t ∧ R = i := by
  rcases h with ⟨i, x, a, b, _, e⟩ | ⟨_, e⟩
  · exact ⟨i, x, a, b, e⟩
  · omega
end
end Go.Proofs.YtojblddfggoecaaGreat
