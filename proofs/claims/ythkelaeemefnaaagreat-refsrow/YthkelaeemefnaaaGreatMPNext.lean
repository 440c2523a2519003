/- Step: the array that is copied gets its new place; the next one. -/
import Derived.Test.YthkelaeemefnaaaGreatMP4
namespace Go.Proofs.YthkelaeemefnaaaGreat
open Go.RowKit
theorem cellsA_set : ∀ (xs : List Ary) (k : Nat) (x : Ary) (T : Int), xs[k]? = some x → cellsA (xs.set k ⟨x.id, T, x.n⟩) = (cellsA xs).set (k * 3 + 1) (.int .i64 T)
  | [], k, x, T, h => by simp at h
  | y :: r, 0, x, T, h => by
    simp at h; subst h
    simp [cellsA]
  | y :: r, k + 1, x, T, h => by
    have h' : r[k]? = some x := by simpa using h
    rw [show (k + 1) * 3 + 1 = (k * 3 + 1) + 1 + 1 + 1 by omega]
    simp only [List.set_cons_succ, cellsA, cellsA_set r k x T h']
section
variable {w : World} {P : Nat → Prop} {s b bw bs W G : Nat} {v : Value} {q : St} {f c : Int → Int}
theorem Sp.reat (h : Sp w P s b bw bs W G v q f c) {p k : Nat} {x : Ary} (hp : v.ownBlock = some p) (hk : q.xs[k]? = some x) (T : Int) :
    Sp (w.setCell ⟨p, k * 3 + 1, none⟩ (.int .i64 T)) P s b bw bs W G v { q with xs := q.xs.set k ⟨x.id, T, x.n⟩ } f c ∧ Bt P w (w.setCell ⟨p, k * 3 + 1, none⟩ (.int .i64 T)) := by
  obtain ⟨n1, n2, n3, n4, _⟩ := h.row_ne hp
  refine ⟨⟨?_, ⟨?_, h.ar.words.setOther (fun r => n3 r.symm) _, h.ar.steps.setOther (fun r => n4 r.symm) _, h.ar.part⟩, ?_, h.own⟩, (Bt.refl _ _).set _ _ _ (.inl (h.own.2.2.2.2 p hp))⟩
  · rw [Below.heap_setCell _ _ _ _ (fun r => n1 r.symm)]; exact h.here
  · rw [Below.heap_setCell _ _ _ _ (fun r => n2 r.symm)]; exact h.ar.here
  · have hkl : k < q.xs.length := (List.getElem?_eq_some_iff.1 hk).1
    rcases h.row.shape with ⟨rfl, _⟩ | ⟨p', cap, rfl, hc, hm, _⟩
    · simp [Value.ownBlock] at hp
    · simp only [Value.ownBlock, Option.some.injEq] at hp
      subst hp
      obtain ⟨_, _, _, F, hR, hF⟩ := h.row.row
      have hl : (q.xs.set k ⟨x.id, T, x.n⟩).length = q.xs.length := List.length_set
      have := Arys.of_row (xs := q.xs.set k ⟨x.id, T, x.n⟩) (hR.set (k * 3 + 1) (.int .i64 T)) (by omega) hm (fun j hj => by
        rw [hl] at hj
        rw [cellsA_set _ _ _ _ hk, List.getElem?_set]
        by_cases e : k * 3 + 1 = j
        · subst e
          rw [if_pos rfl, if_pos (by rw [cellsA_length]; omega)]
          exact congrArg some (if_pos rfl).symm
        · rw [if_neg e, hF j hj]
          exact congrArg some (if_neg (fun r => e r.symm)).symm)
      rw [hl] at this
      exact this
theorem finish_ok (h : Sp w P s b bw bs W G v q f c) (g : Int) {p k : Nat} {x : Ary} (hp : v.ownBlock = some p) (hk : q.xs[k]? = some x) (hg : 0 ≤ g ∧ g < G) (hW : W ≤ 65536) (ht : 0 ≤ q.c.tgt ∧ q.c.tgt + 1 < W) :
    Calls Tryz.prog 293 #[.pointer (some ⟨s, 0, none⟩), .int .i64 g, .pointer (some ⟨p, k * 3, none⟩)] w fun e w' => e = .returned (.tuple #[]) ∧ Sp w' P s b bw bs W G v (finishedSt q k x) (updI (updI f q.c.tgt (q.c.tgt + 4)) (q.c.tgt + 1) 0) (tick (tick c g) g) ∧ Bt P w w' := by
  have cc := h.cells
  go_enter Tryz.func293, Tryz.ntmps293
  go_wp2_with (go_at_call 266; refine (lay_ok h g q.c.tgt hg ht hW).mono ?_; rintro e w1 ⟨rfl, h1, hB1⟩; have c1 := h1.cells; have f1 := fun j => h1.frozen j; have e1 := (h1.elem hp hk).2.1; have e2 := (h1.elem hp hk).2.2.2; have e3 := (h1.row_ne hp).1)
  have p1 := h1.reat hp hk q.c.tgt
  have p2 := p1.1.poke 12 (.bool false) (q' := finishedSt q k x) rfl rfl
  go_end0
  exact ⟨rfl, p2.1, hB1.trans (p1.2.trans p2.2)⟩
theorem startNext_none (h : Sp w P s b bw bs W G v q f c) (hs : SortedA q.xs) (hl : q.xs.length < 1000000) (g : Int) (hp : pos q.xs (q.c.id + 1) = q.xs.length) (hc : 0 ≤ q.c.id ∧ q.c.id ≤ 1000000000) (b1 : 0 ≤ q.taken ∧ q.taken ≤ 65536) (b2 : 0 ≤ q.leaving ∧ q.leaving ≤ q.taken) :
    Calls Tryz.prog 291 #[.pointer (some ⟨s, 0, none⟩), .int .i64 g] w fun e w' => e = .returned (.tuple #[]) ∧ Sp w' P s b bw bs W G v (endedSt q) f c ∧ Bt P w w' := by
  have cc := h.cells
  have hd := h.drewn 1
  have hF := behind_no hd.row hs hl q.c.id (by omega) hp
  clear hp hs hl
  go_enter Tryz.func291, Tryz.ntmps291
  go_wp2
  go_region_held3 (fun w' => w'.cell? ⟨s, 5, none⟩ = some v ∧ w'.cell? ⟨s, 11, none⟩ = some (.int .i64 q.c.id)) (go_keep)
    ((go_at_call 294; refine hF.mono ?_; rintro e w1 ⟨rfl, hb⟩; have h1 := hd.below hb; have c1 := h1.cells))
  go_wp2
  go_quiet (fail)
  have h2 := h1.drewn nq
  go_wp2_with (go_at_call 262; refine (end_ok h2 b1 b2).mono ?_; rintro e w2 ⟨rfl, h3, hB3⟩)
  refine bodyPost_ret (results_none rfl _ _ _) rfl ?_
  exact ⟨rfl, h3, ((bt_drewN w 1).trans (Bt.of_below hb)).trans ((bt_drewN w1 nq).trans hB3)⟩
theorem startNext_over (h : Sp w P s b bw bs W G v q f c) (hs : SortedA q.xs) (hl : q.xs.length < 1000000) (g : Int) {x : Ary} (hk : q.xs[pos q.xs (q.c.id + 1)]? = some x) (hx : q.c.last < x.id) (hc : 0 ≤ q.c.id ∧ q.c.id ≤ 1000000000) (b1 : 0 ≤ q.taken ∧ q.taken ≤ 65536) (b2 : 0 ≤ q.leaving ∧ q.leaving ≤ q.taken) :
    Calls Tryz.prog 291 #[.pointer (some ⟨s, 0, none⟩), .int .i64 g] w fun e w' => e = .returned (.tuple #[]) ∧ Sp w' P s b bw bs W G v (endedSt q) f c ∧ Bt P w w' := by
  have cc := h.cells
  have hd := h.drewn 1
  have hF := behind_yes hd.row hs hl q.c.id (by omega) (List.getElem?_eq_some_iff.1 hk).1
  generalize pos q.xs (q.c.id + 1) = k at *
  clear hs hl
  go_enter Tryz.func291, Tryz.ntmps291
  go_wp2
  go_region_held3 (fun w' => w'.cell? ⟨s, 5, none⟩ = some v ∧ w'.cell? ⟨s, 11, none⟩ = some (.int .i64 q.c.id)) (go_keep)
    ((go_at_call 294; refine hF.mono ?_; rintro e w1 ⟨p, hp, rfl, hb⟩; have h1 := hd.below hb; have c1 := h1.cells; have e1 := (h1.elem hp hk).1))
  go_wp2
  go_quiet (fail)
  have h2 := h1.drewn nq
  go_wp2_with (go_at_call 262; refine (end_ok h2 b1 b2).mono ?_; rintro e w2 ⟨rfl, h3, hB3⟩)
  refine bodyPost_ret (results_none rfl _ _ _) rfl ?_
  exact ⟨rfl, h3, ((bt_drewN w 1).trans (Bt.of_below hb)).trans ((bt_drewN w1 nq).trans hB3)⟩
set_option maxRecDepth 20000 in
set_option maxHeartbeats 6000000 in
theorem startNext_go (h : Sp w P s b bw bs W G v q f c) (hs : SortedA q.xs) (hl : q.xs.length < 1000000) (g : Int) {x : Ary} (hk : q.xs[pos q.xs (q.c.id + 1)]? = some x) (hx : x.id ≤ q.c.last) (hc : 0 ≤ q.c.id ∧ q.c.id ≤ 1000000000) (hg : 0 ≤ g ∧ g < G) (hW : W ≤ 65536) (hn : 0 ≤ q.c.next ∧ q.c.next ≤ 65536) (hxn : 0 ≤ x.n ∧ x.n ≤ 65536) (ha : 0 ≤ x.at_ ∧ x.at_ + 1 < W) :
    Calls Tryz.prog 291 #[.pointer (some ⟨s, 0, none⟩), .int .i64 g] w fun e w' => e = .returned (.tuple #[]) ∧ Sp w' P s b bw bs W G v (startedSt q x) (updI f (x.at_ + 1) (q.c.next + 4)) (tick c g) ∧ Bt P w w' := by
  have cc := h.cells
  have hd := h.drewn 1
  have hF := behind_yes hd.row hs hl q.c.id (by omega) (List.getElem?_eq_some_iff.1 hk).1
  generalize pos q.xs (q.c.id + 1) = k at *
  have hx' : decide (q.c.last < x.id) = false := by simp; omega
  have ew : IntKind.i64.wrap (q.c.next + (x.n + 4)) = q.c.next + (x.n + 4) := by rw [IntKind.wrap_i64]; omega
  have hSz := fun u => size_any x.n u (by omega) (by omega)
  clear hs hl hx
  go_enter Tryz.func291, Tryz.ntmps291
  go_wp2
  go_region_held3 (fun w' => w'.cell? ⟨s, 5, none⟩ = some v ∧ w'.cell? ⟨s, 11, none⟩ = some (.int .i64 q.c.id)) (go_keep)
    ((go_at_call 294; refine hF.mono ?_; rintro e w1 ⟨p, hp, rfl, hb⟩; have h1 := hd.below hb; have c1 := h1.cells; have e1 := (h1.elem hp hk).1))
  go_wp2
  go_quiet (fail)
  have h2 := h1.drewn nq
  have HB2 : Hid (Bt P w (w1.drewN nq)) := ((bt_drewN w 1).trans (Bt.of_below hb)).trans (bt_drewN w1 nq)
  generalize w1.drewN nq = u2 at *
  have c2 := h2.cells
  have f2 := fun j => h2.frozen j
  have e2 := h2.elem hp hk
  have e3 := (h2.row_ne hp).1
  have p1 := h2.poke 11 (.int .i64 x.id) (q' := { q with c := { q.c with id := x.id } }) rfl rfl
  have p2 := p1.1.poke 12 (.bool true) (q' := { q with c := { q.c with id := x.id, cop := true } }) rfl rfl
  have p3 := p2.1.poke 13 (.int .i64 0) (q' := { q with c := { q.c with id := x.id, cop := true, copied := 0 } }) rfl rfl
  go_wp2
  have h4 := p3.1
  have HB4 : Hid (Bt P w _) := HB2.out.trans (p1.2.trans (p2.2.trans p3.2))
  clear p1 p2 p3 c2 f2 e2
  generalize World.setCell _ _ _ = u4 at *
  have c15 : u4.cell? ⟨s, 15, none⟩ = some (.int .i64 q.c.next) := h4.cells.2.2.2.2.2.2.2.2.2.2.2.2.2.2.2
  have c14 : u4.cell? ⟨s, 14, none⟩ = some (.int .i64 q.c.tgt) := h4.cells.2.2.2.2.2.2.2.2.2.2.2.2.2.2.1
  have f4 := fun j => h4.frozen j
  have e4 := h4.elem (k := k) (x := x) hp hk
  go_region_with (go_at_call 263; refine (hSz _).mono ?_; rintro e w9 ⟨rfl, hw9⟩; replace hw9 := hw9.symm; subst hw9)
  all_goals
    have p4 := h4.poke 14 (.int .i64 q.c.next) (q' := { q with c := ⟨q.c.on, q.c.last, x.id, true, 0, q.c.next, q.c.next⟩ }) rfl rfl
    have p5 := p4.1.poke 15 (.int .i64 (q.c.next + (x.n + 4))) (q' := startedSt q x) rfl rfl
    have h6 := p5.1.below (w' := World.drew _) (below_drewN _ 1 _)
    have HB6 : Hid (Bt P w (World.drew _)) := HB4.out.trans ((p4.2.trans p5.2).trans (bt_drewN _ 1))
    clear p4 p5 c14 c15 f4 e4
    go_wp2
    generalize World.drew _ = u6 at *
    have c6 : u6.cell? ⟨s, 14, none⟩ = some (.int .i64 q.c.next) := h6.cells.2.2.2.2.2.2.2.2.2.2.2.2.2.2.1
    have e6 := (h6.elem (k := k) (x := x) hp hk).2.1
    have hd6 := h6.drewn 1
    go_region_held3 (fun w' => w'.cell? ⟨s, 14, none⟩ = some (.int .i64 q.c.next) ∧ w'.cell? ⟨p, k * 3 + 1, none⟩ = some (.int .i64 x.at_)) (go_keep)
      (first
        | (go_at_call 268; refine (wordsOf_any q.c.next _ (by omega) (by omega)).mono ?_; rintro e w8 ⟨rfl, hw8⟩; subst hw8)
        | (go_at_call 270; refine (setTwin_ok hd6 g x.at_ (q.c.next + 4) hg ha hW).mono ?_; rintro e w7 ⟨rfl, h7, hB7⟩; have c7 : w7.cell? ⟨s, 14, none⟩ = some (.int .i64 q.c.next) := h7.cells.2.2.2.2.2.2.2.2.2.2.2.2.2.2.1; have e7 := (h7.elem (k := k) (x := x) hp hk).2.1))
    go_wp2
    go_end0
    exact ⟨rfl, h7, HB6.out.trans ((bt_drewN u6 1).trans hB7)⟩
end
end Go.Proofs.YthkelaeemefnaaaGreat
