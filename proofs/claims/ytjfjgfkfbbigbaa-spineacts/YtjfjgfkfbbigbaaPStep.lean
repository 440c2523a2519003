/- Step. -/
import Derived.Test.YtjfjgfkfbbigbaaPDrop
namespace Go.Proofs.Ytjfjgfkfbbigbaa
open Go.RowKit
section
variable {w : World} {P : Nat → Prop} {s b bw bs W G : Nat} {v : Value} {q : St} {f c : Int → Int}
set_option maxRecDepth 20000 in
set_option maxHeartbeats 1000000 in
theorem end_ok (h : Sp w P s b bw bs W G v q f c) (b1 : 0 ≤ q.taken ∧ q.taken ≤ 65536) (b2 : 0 ≤ q.leaving ∧ q.leaving ≤ q.taken) :
    Calls Try.prog 61 #[.pointer (some ⟨s, 0, none⟩)] w fun e w' => e = .returned (.tuple #[]) ∧ Sp w' P s b bw bs W G v (endedSt q) f c ∧ Bt P w w' := by
  have cc := h.cells
  have fz := fun k => h.frozen k
  have ew1 : IntKind.i64.wrap (q.taken - q.leaving) = q.taken - q.leaving := by rw [IntKind.wrap_i64]; omega
  have p1 := (h.poke 6 (.int .i64 (q.taken - q.leaving)) (q' := { q with taken := q.taken - q.leaving }) rfl rfl)
  have p2 := (p1.1.poke 8 (.int .i64 0) (q' := { q with taken := q.taken - q.leaving, leaving := 0 }) rfl rfl)
  have p3 := p2.1.poke7 ⟨false, 0, 0, false, 0, 0, 0⟩
  have HP : Hid (Sp _ P s b bw bs W G v (endedSt q) f c ∧ Bt P w _) := ⟨p3.1.drewn 1, (p1.2.trans (p2.2.trans p3.2)).trans (bt_drewN _ 1)⟩
  clear p1 p2 p3
  go_enter Try.func61, Try.ntmps61
  go_wp2
  go_region
  go_wp2
  go_end0
  exact ⟨rfl, HP.out⟩
theorem moving_no (h : Sp w P s b bw bs W G v q f c) (hs : SortedA q.xs) (hl : q.xs.length < 1000000) (hh : ¬ (q.c.cop = true ∧ has q.xs q.c.id = true)) :
    Calls Try.prog 52 #[.pointer (some ⟨s, 0, none⟩)] w fun e w' => e = .returned (.pointer none) ∧ Below w.heap.size w w' := by
  have cc := h.cells
  cases hc : q.c.cop with
  | false =>
    rw [hc] at cc
    clear h hs hl hh hc
    go_enter Try.func52, Try.ntmps52
    go_wp2
    go_ret
    exact ⟨rfl, Below.refl _ _⟩
  | true =>
    rw [hc] at cc
    have hd := h.drewn 1
    have hF := find_no hd.row hs hl q.c.id (by cases r : has q.xs q.c.id with | false => rfl | true => exact absurd ⟨hc, r⟩ hh)
    clear hs hl hh hc
    go_enter Try.func52, Try.ntmps52
    go_wp2
    go_region_held3 (fun w' => w'.cell? ⟨s, 5, none⟩ = some v ∧ w'.cell? ⟨s, 11, none⟩ = some (.int .i64 q.c.id)) (go_keep)
      ((go_at_call 26; refine hF.mono ?_; rintro e w1 ⟨rfl, hb⟩; have h1 := (hd.below hb).cells))
    go_wp2
    go_ret
    exact ⟨rfl, (below_drewN w 1 _).trans hb⟩
theorem moving_yes (h : Sp w P s b bw bs W G v q f c) (hs : SortedA q.xs) (hl : q.xs.length < 1000000) (hc : q.c.cop = true) (hh : has q.xs q.c.id = true) :
    Calls Try.prog 52 #[.pointer (some ⟨s, 0, none⟩)] w fun e w' => ∃ p, v.ownBlock = some p ∧ e = .returned (.pointer (some ⟨p, pos q.xs q.c.id * 3, none⟩)) ∧ Below w.heap.size w w' := by
  have cc := h.cells
  rw [hc] at cc
  have hd := h.drewn 1
  have hF := find_yes hd.row hs hl q.c.id hh
  generalize pos q.xs q.c.id = k at *
  clear hs hl hh hc
  go_enter Try.func52, Try.ntmps52
  go_wp2
  go_region_held3 (fun w' => w'.cell? ⟨s, 5, none⟩ = some v ∧ w'.cell? ⟨s, 11, none⟩ = some (.int .i64 q.c.id)) (go_keep)
    ((go_at_call 26; refine hF.mono ?_; rintro e w1 ⟨p, hp, rfl, hb⟩; have h1 := (hd.below hb).cells))
  go_wp2
  go_ret
  exact ⟨p, hp, rfl, (below_drewN w 1 _).trans hb⟩
set_option maxRecDepth 20000 in
set_option maxHeartbeats 1000000 in
theorem copyWord_ok (h : Sp w P s b bw bs W G v q f c) (g : Int) {p k : Nat} {x : Ary} {T : Int} (hp : v.ownBlock = some p) (hk : q.xs[k]? = some x) (hg : 0 ≤ g ∧ g < G) (hW : W ≤ 65536) (b0 : 0 ≤ q.base ∧ q.base + 2 * q.half ≤ W) (bh : 0 ≤ q.half) (l1 : q.base ≤ x.at_) (l2 : x.at_ + (x.n + 4) ≤ q.base + 2 * q.half) (l3 : 0 ≤ q.c.copied ∧ q.c.copied < x.n)
    (z1 : f x.at_ = x.at_ + 4) (z2 : f (x.at_ + 1) = T) (t1 : q.base ≤ T) (t2 : T + q.c.copied < q.base + 2 * q.half) :
    Calls Try.prog 54 #[.pointer (some ⟨s, 0, none⟩), .int .i64 g, .pointer (some ⟨p, k * 3, none⟩)] w fun e w' => e = .returned (.tuple #[]) ∧ Sp w' P s b bw bs W G v (copiedSt q) (updI f (T + q.c.copied) (f (x.at_ + 4 + q.c.copied))) (tick (tick (tick (tick c g) g) g) g) ∧ Bt P w w' := by
  have cc := h.cells
  have Z1 : Hid (f x.at_ = x.at_ + 4) := z1
  have Z2 : Hid (f (x.at_ + 1) = T) := z2
  have hd := h.drewn 1
  clear z1 z2
  have ew : IntKind.i64.wrap (q.c.copied + 1) = q.c.copied + 1 := by rw [IntKind.wrap_i64]; omega
  go_enter Try.func54, Try.ntmps54
  go_wp2
  go_region_held3 (fun w' => w'.cell? ⟨s, 0, none⟩ = some (.pointer (some ⟨b, 0, none⟩))) (go_keep)
    (first
      | (go_at_call 30; refine (lead_ok hd g hp hk hg (by omega)).mono ?_; rintro e w2 ⟨rfl, hS2, hB2⟩; have d2 := hS2.c0; rw [Z1.out])
      | (go_at_call 29; refine (place_ok hS2 (x.at_ + 4) q.c.copied (by omega) (by omega) (by omega) (by omega) (by omega) (by omega)).mono ?_; rintro e w3 ⟨rfl, hb3⟩; have hS3 := hS2.below hb3; have d3 := hS3.c0)
      | (go_at_call 28; refine (sp_load hS3 g (x.at_ + 4 + q.c.copied) hg (by omega)).mono ?_; rintro e w4 ⟨rfl, hS4, hB4⟩; have d4 := hS4.c0))
  generalize hY : f (x.at_ + 4 + q.c.copied) = Y at *
  have HY : Hid (f (x.at_ + 4 + q.c.copied) = Y) := hY
  clear hY
  have HB4 : Hid (Bt P w w4) := ((bt_drewN w 1).trans hB2).trans ((Bt.of_below hb3).trans hB4)
  have hd4 := hS4.drewn 1
  go_wp2
  go_region_held3 (fun w' => w'.cell? ⟨s, 0, none⟩ = some (.pointer (some ⟨b, 0, none⟩))) (go_keep)
    (first
      | (go_at_call 38; refine (twin_ok hd4 g hp hk hg (by omega) hW).mono ?_; rintro e w5 ⟨rfl, hS5, hB5⟩; have d5 := hS5.c0; rw [Z2.out])
      | (go_at_call 29; refine (place_ok hS5 T q.c.copied (by omega) (by omega) (by omega) (by omega) (by omega) (by omega)).mono ?_; rintro e w6 ⟨rfl, hb6⟩; have hS6 := hS5.below hb6; have d6 := hS6.c0)
      | (go_at_call 35; refine (sp_store hS6 g (T + q.c.copied) Y hg (by omega)).mono ?_; rintro e w7 ⟨rfl, hS7, hB7⟩; have d7 := hS7.c0))
  have c7 := hS7.cells
  have f7 := hS7.frozen 13
  have p1 := hS7.poke 13 (.int .i64 (q.c.copied + 1)) (q' := copiedSt q) rfl rfl
  go_wp2
  go_end0
  rw [← HY.out] at p1
  exact ⟨rfl, p1.1, (HB4.out.trans ((bt_drewN w4 1).trans hB5)).trans (((Bt.of_below hb6).trans hB7).trans p1.2)⟩
end
end Go.Proofs.Ytjfjgfkfbbigbaa
