/- Drop, Begin. -/
import Derived.Test.YthkelaeemefnaaaGreatMP3
namespace Go.Proofs.YthkelaeemefnaaaGreat
open Go.RowKit
section
variable {w : World} {P : Nat → Prop} {s b W G : Nat} {q : St} {V : Int → Int → Int} {c : Int → Int}
theorem drop_no (h : Gd w P s b W G q V c) (t : Int) (hh : has q.xs t = false) :
    Calls Tryz.prog 276 #[.pointer (some ⟨s, 0, none⟩), .int .i64 t] w fun e w' => e = .returned (.int .i64 704) ∧ Below w.heap.size w w' := by
  obtain ⟨hW, bw, bs, v, f, h, hI⟩ := h
  have cc := h.cells
  have hF := sp_find_no h.row hI.sorted (hI.short hW) t hh
  clear hh h hI
  go_enter Tryz.func276, Tryz.ntmps276
  go_wp2_with (go_at_call 281; refine hF.mono ?_; rintro e w1 ⟨rfl, hb⟩)
  go_ret
  exact ⟨rfl, hb⟩
set_option maxRecDepth 20000 in
set_option maxHeartbeats 1000000 in
theorem drop_ok (h : Gd w P s b W G q V c) {x : Ary} (hx : x ∈ q.xs) :
    Calls Tryz.prog 276 #[.pointer (some ⟨s, 0, none⟩), .int .i64 x.id] w fun e w' => e = .returned (.int .i64 0) ∧ SpTurn w P s b W G (droppedSt q (pos q.xs x.id) x.n) V c w' := by
  obtain ⟨hW, bw, bs, v, f, h, hI⟩ := h
  obtain ⟨hh, hk⟩ := hI.at_id hx
  obtain ⟨b1, b2, b3, b4, b5, b6, b7, b8, b9, b10, b11, b12⟩ := hI.bounds hW
  obtain ⟨l1, l2, l3⟩ := hI.lies hx
  have hF := find_yes h.row hI.sorted (hI.short hW) x.id hh
  have HI : Hid (SpInv (droppedSt q (pos q.xs x.id) x.n) W f V) := drop_inv hI hk
  have HR : Hid (SortedA q.xs ∧ q.xs.length < 1000000 ∧ has q.xs x.id = true) := ⟨hI.sorted, hI.short hW, hh⟩
  have hSz := fun u => size_any x.n u (by omega) (by omega)
  have ew1 : IntKind.i64.wrap (q.dropped + (x.n + 4)) = q.dropped + (x.n + 4) := by rw [IntKind.wrap_i64]; omega
  have HK : Hid (q.xs[pos q.xs x.id]? = some x) := hk
  clear hI hk hh hx
  have cc := h.cells
  obtain ⟨k, hkk⟩ : ∃ k, k = pos q.xs x.id := ⟨_, rfl⟩
  rw [← hkk] at hF HI HK
  have HKK : Hid (k = pos q.xs x.id) := hkk
  rw [← hkk]
  clear hkk
  go_enter Tryz.func276, Tryz.ntmps276
  go_wp2_with (go_at_call 281; refine hF.mono ?_; rintro e w1 ⟨p, hp, rfl, hb⟩; have h1 := h.below hb; have c1 := h1.cells; have f1 := h1.frozen 7; have e1 := (h1.elem hp HK.out).2.2.1)
  have hps : p ≠ s := (h1.row_ne hp).1
  go_region_with (go_at_call 263; refine (hSz _).mono ?_; rintro e w9 ⟨rfl, hw9⟩; replace hw9 := hw9.symm; subst hw9)
  all_goals
    have hp1 := (h1.poke 7 (.int .i64 (q.dropped + (x.n + 4))) (q' := { q with dropped := q.dropped + (x.n + 4) }) rfl rfl)
    have hp3 := hp1.1.below (w' := World.drew _) (below_drewN _ 1 _)
    have HB3 : Hid (Bt P w1 (World.drew _)) := hp1.2.trans (bt_drewN _ 1)
    generalize World.drew _ = U at *
    have c5 : U.cell? ⟨s, 5, none⟩ = some v := hp3.cells.2.2.2.2.2.1
    have hRm := remove_ok hp3.row HR.out.1 HR.out.2.1 x.id HR.out.2.2 c5 (hp3.frozen 5) (fun r => (hp3.row_ne r).1 rfl)
    go_wp2_with (go_at_call 282; refine hRm.mono ?_; rintro e w2 ⟨rfl, v2, w3, hw2, hA2, hg2, hv2⟩; have hO := own_row (q' := droppedSt q k x.n) hp3 (by show Arys w3 v2 (q.xs.eraseIdx k); rw [HKK.out]; exact hA2) hg2 (.inl hv2) rfl; rw [← hw2] at hO; clear hw2 hA2 hg2 hv2)
    go_ret
    refine ⟨rfl, _, ⟨hW, bw, bs, v2, f, hO.1, HI.out⟩, ?_, ?_, h.same hO.1⟩
    · exact ((Bt.of_below hb).trans HB3.out).trans hO.2.1
    · exact fun j hj => (hO.2.2 j hj).elim .inl (fun r => .inr (Nat.le_trans (Nat.le_trans hb.size HB3.out.size) r))
theorem begin_no (h : Gd w P s b W G q V c) (hon : q.c.on = true) :
    Calls Tryz.prog 279 #[.pointer (some ⟨s, 0, none⟩)] w fun e w' => e = .returned (.int .i64 701) ∧ w' = w := by
  obtain ⟨hW, bw, bs, v, f, h, hI⟩ := h
  have c9 := h.cells.2.2.2.2.2.2.2.2.2.1
  rw [hon] at c9
  clear h hI hon
  go_enter Tryz.func279, Tryz.ntmps279
  go_wp2
  go_ret
  exact ⟨rfl, rfl⟩
/-- A cycle's struct stored, cell by cell. -/
theorem Sp.poke7 {bw bs : Nat} {v : Value} {f : Int → Int} (h : Sp w P s b bw bs W G v q f c) (C : Cyc) :
    Sp (((((((w.setCell ⟨s, 9, none⟩ (.bool C.on)).setCell ⟨s, 10, none⟩ (.int .i64 C.last)).setCell ⟨s, 11, none⟩ (.int .i64 C.id)).setCell ⟨s, 12, none⟩ (.bool C.cop)).setCell ⟨s, 13, none⟩ (.int .i64 C.copied)).setCell ⟨s, 14, none⟩ (.int .i64 C.tgt)).setCell ⟨s, 15, none⟩ (.int .i64 C.next)) P s b bw bs W G v { q with c := C } f c ∧
    Bt P w (((((((w.setCell ⟨s, 9, none⟩ (.bool C.on)).setCell ⟨s, 10, none⟩ (.int .i64 C.last)).setCell ⟨s, 11, none⟩ (.int .i64 C.id)).setCell ⟨s, 12, none⟩ (.bool C.cop)).setCell ⟨s, 13, none⟩ (.int .i64 C.copied)).setCell ⟨s, 14, none⟩ (.int .i64 C.tgt)).setCell ⟨s, 15, none⟩ (.int .i64 C.next)) := by
  have r1 := h.poke 9 (.bool C.on) (q' := { q with c := { q.c with on := C.on } }) rfl rfl
  have r2 := r1.1.poke 10 (.int .i64 C.last) (q' := { q with c := { q.c with on := C.on, last := C.last } }) rfl rfl
  have r3 := r2.1.poke 11 (.int .i64 C.id) (q' := { q with c := { q.c with on := C.on, last := C.last, id := C.id } }) rfl rfl
  have r4 := r3.1.poke 12 (.bool C.cop) (q' := { q with c := { q.c with on := C.on, last := C.last, id := C.id, cop := C.cop } }) rfl rfl
  have r5 := r4.1.poke 13 (.int .i64 C.copied) (q' := { q with c := { q.c with on := C.on, last := C.last, id := C.id, cop := C.cop, copied := C.copied } }) rfl rfl
  have r6 := r5.1.poke 14 (.int .i64 C.tgt) (q' := { q with c := ⟨C.on, C.last, C.id, C.cop, C.copied, C.tgt, q.c.next⟩ }) rfl rfl
  have r7 := r6.1.poke 15 (.int .i64 C.next) (q' := { q with c := C }) rfl rfl
  exact ⟨r7.1, r1.2.trans (r2.2.trans (r3.2.trans (r4.2.trans (r5.2.trans (r6.2.trans r7.2)))))⟩
set_option maxRecDepth 20000 in
set_option maxHeartbeats 1000000 in
theorem begin_ok (h : Gd w P s b W G q V c) (hoff : q.c.on = false) :
    Calls Tryz.prog 279 #[.pointer (some ⟨s, 0, none⟩)] w fun e w' => e = .returned (.int .i64 0) ∧ SpTurn w P s b W G (begunSt q) V c w' := by
  obtain ⟨hW, bw, bs, v, f, h, hI⟩ := h
  obtain ⟨b1, b2, b3, b4, b5, b6, b7, b8, b9, b10, b11, b12⟩ := hI.bounds hW
  have HI : Hid (SpInv (begunSt q) W f V) := begun_inv hI hoff
  have cc := h.cells
  rw [hoff] at cc
  have f3 := h.frozen 3
  have f8 := h.frozen 8
  have f7 := h.frozen 7
  have p1 := (h.poke 3 (.bool (!q.up)) (q' := { q with up := !q.up }) rfl rfl)
  have p2 := (p1.1.poke 8 (.int .i64 q.dropped) (q' := { q with up := !q.up, leaving := q.dropped }) rfl rfl)
  have p3 := (p2.1.poke 7 (.int .i64 0) (q' := { q with up := !q.up, leaving := q.dropped, dropped := 0 }) rfl rfl)
  have HB : Hid (Bt P w _) := (p1.2.trans p2.2).trans p3.2
  have hfil : fillOf { q with up := !q.up, leaving := q.dropped, dropped := 0 } = othOf q := by unfold fillOf othOf; cases q.up <;> simp
  have hFil := fun {u : World} (hu : Sp u P s b bw bs W G v { q with up := !q.up, leaving := q.dropped, dropped := 0 } f c) => fill_any hu ⟨b1, by show q.base ≤ _; omega⟩ ⟨b3, by show q.half ≤ _; omega⟩
  rw [hfil] at hFil
  clear hI hoff hfil
  go_enter Tryz.func279, Tryz.ntmps279
  go_wp2
  have p4 := p3.1
  clear p1 p2 p3
  generalize World.setCell _ _ _ = U at *
  have c4 : U.cell? ⟨s, 4, none⟩ = some (.int .i64 q.given) := p4.cells.2.2.2.2.1
  have hd := p4.drewn 1
  have fz := fun k => p4.frozen k
  have hcs := p4.cells
  go_region_with (go_at_call 265; refine (hFil hd).mono ?_; rintro e w1 ⟨rfl, hb1⟩; have h1 := hd.below hb1; have d1 := h1.cells; have d2 := fun k => h1.frozen k)
  all_goals
    have r := h1.poke7 ⟨true, q.given, 0, false, 0, 0, othOf q⟩
    go_wp2
    go_ret
    exact ⟨rfl, P, ⟨hW, bw, bs, v, f, r.1, HI.out⟩, (HB.out.trans ((bt_drewN U 1).trans (Bt.of_below hb1))).trans r.2, Wider.refl _ _, h.same r.1⟩
end
end Go.Proofs.YthkelaeemefnaaaGreat
/- Step. -/
namespace Go.Proofs.YthkelaeemefnaaaGreat
open Go.RowKit
section
variable {w : World} {P : Nat → Prop} {s b bw bs W G : Nat} {v : Value} {q : St} {f c : Int → Int}
set_option maxRecDepth 20000 in
set_option maxHeartbeats 1000000 in
theorem end_ok (h : Sp w P s b bw bs W G v q f c) (b1 : 0 ≤ q.taken ∧ q.taken ≤ 65536) (b2 : 0 ≤ q.leaving ∧ q.leaving ≤ q.taken) :
    Calls Tryz.prog 262 #[.pointer (some ⟨s, 0, none⟩)] w fun e w' => e = .returned (.tuple #[]) ∧ Sp w' P s b bw bs W G v (endedSt q) f c ∧ Bt P w w' := by
  have cc := h.cells
  have fz := fun k => h.frozen k
  have ew1 : IntKind.i64.wrap (q.taken - q.leaving) = q.taken - q.leaving := by rw [IntKind.wrap_i64]; omega
  have p1 := (h.poke 6 (.int .i64 (q.taken - q.leaving)) (q' := { q with taken := q.taken - q.leaving }) rfl rfl)
  have p2 := (p1.1.poke 8 (.int .i64 0) (q' := { q with taken := q.taken - q.leaving, leaving := 0 }) rfl rfl)
  have p3 := p2.1.poke7 ⟨false, 0, 0, false, 0, 0, 0⟩
  have HP : Hid (Sp _ P s b bw bs W G v (endedSt q) f c ∧ Bt P w _) := ⟨p3.1.drewn 1, (p1.2.trans (p2.2.trans p3.2)).trans (bt_drewN _ 1)⟩
  clear p1 p2 p3
  go_enter Tryz.func262, Tryz.ntmps262
  go_wp2
  go_region
  go_wp2
  go_end0
  exact ⟨rfl, HP.out⟩
theorem moving_no (h : Sp w P s b bw bs W G v q f c) (hs : SortedA q.xs) (hl : q.xs.length < 1000000) (hh : ¬ (q.c.cop = true ∧ has q.xs q.c.id = true)) :
    Calls Tryz.prog 290 #[.pointer (some ⟨s, 0, none⟩)] w fun e w' => e = .returned (.pointer none) ∧ Below w.heap.size w w' := by
  have cc := h.cells
  cases hc : q.c.cop with
  | false =>
    rw [hc] at cc
    clear h hs hl hh hc
    go_enter Tryz.func290, Tryz.ntmps290
    go_wp2
    go_ret
    exact ⟨rfl, Below.refl _ _⟩
  | true =>
    rw [hc] at cc
    have hd := h.drewn 1
    have hF := sp_find_no hd.row hs hl q.c.id (by cases r : has q.xs q.c.id with | false => rfl | true => exact absurd ⟨hc, r⟩ hh)
    clear hs hl hh hc
    go_enter Tryz.func290, Tryz.ntmps290
    go_wp2
    go_region_held3 (fun w' => w'.cell? ⟨s, 5, none⟩ = some v ∧ w'.cell? ⟨s, 11, none⟩ = some (.int .i64 q.c.id)) (go_keep)
      ((go_at_call 281; refine hF.mono ?_; rintro e w1 ⟨rfl, hb⟩; have h1 := (hd.below hb).cells))
    go_wp2
    go_ret
    exact ⟨rfl, (below_drewN w 1 _).trans hb⟩
theorem moving_yes (h : Sp w P s b bw bs W G v q f c) (hs : SortedA q.xs) (hl : q.xs.length < 1000000) (hc : q.c.cop = true) (hh : has q.xs q.c.id = true) :
    Calls Tryz.prog 290 #[.pointer (some ⟨s, 0, none⟩)] w fun e w' => ∃ p, v.ownBlock = some p ∧ e = .returned (.pointer (some ⟨p, pos q.xs q.c.id * 3, none⟩)) ∧ Below w.heap.size w w' := by
  have cc := h.cells
  rw [hc] at cc
  have hd := h.drewn 1
  have hF := find_yes hd.row hs hl q.c.id hh
  generalize pos q.xs q.c.id = k at *
  clear hs hl hh hc
  go_enter Tryz.func290, Tryz.ntmps290
  go_wp2
  go_region_held3 (fun w' => w'.cell? ⟨s, 5, none⟩ = some v ∧ w'.cell? ⟨s, 11, none⟩ = some (.int .i64 q.c.id)) (go_keep)
    ((go_at_call 281; refine hF.mono ?_; rintro e w1 ⟨p, hp, rfl, hb⟩; have h1 := (hd.below hb).cells))
  go_wp2
  go_ret
  exact ⟨p, hp, rfl, (below_drewN w 1 _).trans hb⟩
set_option maxRecDepth 20000 in
set_option maxHeartbeats 1000000 in
theorem copyWord_ok (h : Sp w P s b bw bs W G v q f c) (g : Int) {p k : Nat} {x : Ary} {T : Int} (hp : v.ownBlock = some p) (hk : q.xs[k]? = some x) (hg : 0 ≤ g ∧ g < G) (hW : W ≤ 65536) (b0 : 0 ≤ q.base ∧ q.base + 2 * q.half ≤ W) (bh : 0 ≤ q.half) (l1 : q.base ≤ x.at_) (l2 : x.at_ + (x.n + 4) ≤ q.base + 2 * q.half) (l3 : 0 ≤ q.c.copied ∧ q.c.copied < x.n)
    (z1 : f x.at_ = x.at_ + 4) (z2 : f (x.at_ + 1) = T) (t1 : q.base ≤ T) (t2 : T + q.c.copied < q.base + 2 * q.half) :
    Calls Tryz.prog 292 #[.pointer (some ⟨s, 0, none⟩), .int .i64 g, .pointer (some ⟨p, k * 3, none⟩)] w fun e w' => e = .returned (.tuple #[]) ∧ Sp w' P s b bw bs W G v (copiedSt q) (updI f (T + q.c.copied) (f (x.at_ + 4 + q.c.copied))) (tick (tick (tick (tick c g) g) g) g) ∧ Bt P w w' := by
  have cc := h.cells
  have Z1 : Hid (f x.at_ = x.at_ + 4) := z1
  have Z2 : Hid (f (x.at_ + 1) = T) := z2
  have hd := h.drewn 1
  clear z1 z2
  have ew : IntKind.i64.wrap (q.c.copied + 1) = q.c.copied + 1 := by rw [IntKind.wrap_i64]; omega
  go_enter Tryz.func292, Tryz.ntmps292
  go_wp2
  go_region_held3 (fun w' => w'.cell? ⟨s, 0, none⟩ = some (.pointer (some ⟨b, 0, none⟩))) (go_keep)
    (first
      | (go_at_call 284; refine (lead_ok hd g hp hk hg (by omega)).mono ?_; rintro e w2 ⟨rfl, hS2, hB2⟩; have d2 := hS2.c0; rw [Z1.out])
      | (go_at_call 267; refine (sp_place_ok hS2 (x.at_ + 4) q.c.copied (by omega) (by omega) (by omega) (by omega) (by omega) (by omega)).mono ?_; rintro e w3 ⟨rfl, hb3⟩; have hS3 := hS2.below hb3; have d3 := hS3.c0)
      | (go_at_call 201; refine (sp_load hS3 g (x.at_ + 4 + q.c.copied) hg (by omega)).mono ?_; rintro e w4 ⟨rfl, hS4, hB4⟩; have d4 := hS4.c0))
  generalize hY : f (x.at_ + 4 + q.c.copied) = Y at *
  have HY : Hid (f (x.at_ + 4 + q.c.copied) = Y) := hY
  clear hY
  have HB4 : Hid (Bt P w w4) := ((bt_drewN w 1).trans hB2).trans ((Bt.of_below hb3).trans hB4)
  have hd4 := hS4.drewn 1
  go_wp2
  go_region_held3 (fun w' => w'.cell? ⟨s, 0, none⟩ = some (.pointer (some ⟨b, 0, none⟩))) (go_keep)
    (first
      | (go_at_call 285; refine (twin_ok hd4 g hp hk hg (by omega) hW).mono ?_; rintro e w5 ⟨rfl, hS5, hB5⟩; have d5 := hS5.c0; rw [Z2.out])
      | (go_at_call 267; refine (sp_place_ok hS5 T q.c.copied (by omega) (by omega) (by omega) (by omega) (by omega) (by omega)).mono ?_; rintro e w6 ⟨rfl, hb6⟩; have hS6 := hS5.below hb6; have d6 := hS6.c0)
      | (go_at_call 232; refine (sp_store hS6 g (T + q.c.copied) Y hg (by omega)).mono ?_; rintro e w7 ⟨rfl, hS7, hB7⟩; have d7 := hS7.c0))
  have c7 := hS7.cells
  have f7 := hS7.frozen 13
  have p1 := hS7.poke 13 (.int .i64 (q.c.copied + 1)) (q' := copiedSt q) rfl rfl
  go_wp2
  go_end0
  rw [← HY.out] at p1
  exact ⟨rfl, p1.1, (HB4.out.trans ((bt_drewN w4 1).trans hB5)).trans (((Bt.of_below hb6).trans hB7).trans p1.2)⟩
end
end Go.Proofs.YthkelaeemefnaaaGreat
