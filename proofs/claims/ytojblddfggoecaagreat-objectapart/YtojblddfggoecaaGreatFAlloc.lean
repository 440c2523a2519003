/- Free and Alloc of a pool. -/
import Derived.Test.YtojblddfggoecaaGreatFMove
namespace Go.Proofs.YtojblddfggoecaaGreat
open Go.RowKit

theorem Done.after {cs : Nat → Int} {w w1 w' : World} {P : Nat → Prop} {s b W base G cap : Nat} {old : Nat → Int} {T : Int} {xs : List Int} (h : Done cs w1 P s b W base G cap old T xs w') (hb : Below w.heap.size w w1) : Done cs w P s b W base G cap old T xs w' := by
  obtain ⟨P', cs', h1, h2, h3, h4⟩ := h
  exact ⟨P', cs', h1, (Bt.of_below hb).trans h2, fun j hj => (h3 j hj).elim .inl (fun q => .inr (Nat.le_trans hb.size q)), h4⟩
section
variable {w : World} {P : Nat → Prop} {s b W base G cap pl k : Nat} {old cs : Nat → Int} {T : Int} {xs : List Int}
theorem cell_alloc {a : Addr} {v : Value} (h : w.cell? a = some v) (o : Obj) : (w.alloc o).cell? a = some v := by
  refine (cell_of (Below.heap_alloc _ _ _ ?_)).trans h
  apply Classical.byContradiction
  intro q
  unfold World.cell? at h
  rw [Array.getElem?_eq_none (by omega)] at h
  cases h
theorem cell_in {a : Addr} {v : Value} (h : w.cell? a = some v) : a.block < w.heap.size := by
  apply Classical.byContradiction
  intro q
  unfold World.cell? at h
  rw [Array.getElem?_eq_none (by omega)] at h
  cases h
theorem put_ok (h : Good w P s ⟨b, W, base, old⟩ G cap cs calm T xs) (hT : T ≤ 1000000000) (g f : Nat) (hg : g < G) (hf : f < 1000) (hm : May cap calm xs f) (hl : w.cell? ⟨pl, 0, none⟩ = some (.pointer (some ⟨s, 0, none⟩))) :
    Calls Tryz.prog 52 #[.agg #[.slice (some ⟨pl, 0, none⟩) 1 k], .int .i64 g, .int .i64 f] w fun e w' => (∃ v, e = .returned v) ∧ Done cs w P s b W base G cap old (T + 1) (((f : Int) + 1) :: xs) w' := by
  have hpf := fun o => perform_push (h.alloc o) hT g (f : Int) hg hm
  have hl' := fun o => cell_alloc hl o
  have q1 : (f : Int).tdiv 1000 = 0 := Int.tdiv_eq_zero_of_lt (by omega) (by omega)
  have q2 : (f : Int).tmod 1000 = f := Int.tmod_eq_of_lt (by omega) (by omega)
  clear hm
  go_enter Tryz.func52, Tryz.ntmps52
  go_wp2_with (go_at_call 73; refine (hpf _).mono ?_; rintro e w1 ⟨rfl, hD⟩)
  go_end0
  exact ⟨⟨_, rfl⟩, hD.after ((Below.refl _ _).alloc (Nat.le_refl _) _)⟩
set_option maxRecDepth 20000 in
set_option maxHeartbeats 1000000 in
theorem take_some {x : Int} (h : Good w P s ⟨b, W, base, old⟩ G cap cs calm T (x :: xs)) (hT : T ≤ 1000000000) (g : Nat) (hg : g < G) (hl : w.cell? ⟨pl, 0, none⟩ = some (.pointer (some ⟨s, 0, none⟩))) :
    Calls Tryz.prog 77 #[.agg #[.slice (some ⟨pl, 0, none⟩) 1 k], .int .i64 g] w fun e w' => e = .returned (.tuple #[.int .i64 (x - 1), .bool true]) ∧ Done cs w P s b W base G cap old (T + 1) xs w' := by
  have hr := h.range
  have hx := hr.1 x (by simp)
  have hx2 : x ≤ 1000 := by have := hr.2.1; omega
  have l0 := fun o => cell_alloc hl o
  clear hr
  go_enter Tryz.func77, Tryz.ntmps77
  go_wp2
  go_loopg [11] 1 (fun _ v11 wr => v11 = .int .i64 0 ∧ Below w.heap.size w wr)
  case atStart => exact ⟨rfl, (Below.refl _ _).alloc (Nat.le_refl _) _⟩
  case round =>
    obtain ⟨rfl, hb⟩ := hrel
    have hk := hasItems_ok (h.below hb) hT true (by simp [hd]; omega)
    have l1 := (cell_of (a := ⟨pl, 0, none⟩) (hb.block pl (cell_in hl))).trans hl
    clear l0
    go_wp2_with (first
      | (go_at_call 98; refine hk.mono ?_; rintro e w1 ⟨rfl, hb1⟩)
      | (go_at_call 73; refine (perform_pop ((h.below hb).below hb1) hT g 0 hg).mono ?_; rintro e w2 ⟨rfl, hD⟩))
    go_ret2
    exact ⟨rfl, (hD.after hb1).after hb⟩
set_option maxRecDepth 20000 in
set_option maxHeartbeats 1000000 in
theorem take_none (h : Good w P s ⟨b, W, base, old⟩ G cap cs calm T []) (hT : T ≤ 1000000000) (g : Int) (hl : w.cell? ⟨pl, 0, none⟩ = some (.pointer (some ⟨s, 0, none⟩))) :
    Calls Tryz.prog 77 #[.agg #[.slice (some ⟨pl, 0, none⟩) 1 k], .int .i64 g] w fun e w' => e = .returned (.tuple #[.int .i64 0, .bool false]) ∧ Below w.heap.size w w' := by
  have l0 := fun o => cell_alloc hl o
  go_enter Tryz.func77, Tryz.ntmps77
  go_wp2
  go_loopw [11] (fun v11 wr => ∃ i : Nat, i ≤ 1 ∧ v11 = .int .i64 i ∧ Below w.heap.size w wr) (fun v11 _ => 1 - (intOf v11).toNat)
  case atStart => exact ⟨0, by omega, rfl, (Below.refl _ _).alloc (Nat.le_refl _) _⟩
  case round =>
    obtain ⟨i, hi, rfl, hb⟩ := hrel
    clear l0
    have l1 := (cell_of (a := ⟨pl, 0, none⟩) (hb.block pl (cell_in hl))).trans hl
    have hk := hasItems_ok (h.below hb) hT false (by simp [hd])
    rcases (show i = 0 ∨ i = 1 by omega) with rfl | rfl
    · go_wp2_with (go_at_call 98; refine hk.mono ?_; rintro e w1 ⟨rfl, hb1⟩)
      go_roundw
      case rel => exact ⟨1, by omega, by go_num, hb.trans (hb1.mono hb.size)⟩
      case measure => simp [intOf]
    · go_wp2
      go_ret2
      exact ⟨rfl, hb⟩
end
/-- What of the pool lies beside its stack. -/
theorem PlC.side {w' : World} {w : World} {P Q : Nat → Prop} {p s bc pl k b W base n G : Nat} {cs : Nat → Int} {T : Int} {xs : List Int} {ws : Nat → Int} (h : PlC w P Q p s bc pl k b W base n G cs T xs ws) (hB : Bt Q w w') : (w'.cell? ⟨p, 0, none⟩ = some (.pointer (some ⟨b, 0, none⟩)) ∧ w'.cell? ⟨p, 1, none⟩ = some (.int .i64 base) ∧ w'.cell? ⟨p, 2, none⟩ = some (.pointer (some ⟨b, 0, none⟩)) ∧ w'.cell? ⟨p, 3, none⟩ = some (.func (.func 62) #[] #[.pointer (some ⟨bc, 0, none⟩)]) ∧ w'.cell? ⟨p, 4, none⟩ = some (.func (.func 63) #[] #[]) ∧ w'.cell? ⟨p, 5, none⟩ = some (.int .i64 ((base : Int) + 8 * n)) ∧ w'.cell? ⟨p, 6, none⟩ = some (.int .i64 n) ∧ w'.cell? ⟨p, 7, none⟩ = some (.slice (some ⟨pl, 0, none⟩) 1 k)) ∧
    w'.cell? ⟨pl, 0, none⟩ = some (.pointer (some ⟨s, 0, none⟩)) :=
  ⟨blk8 ((hB.block p (h.lt p h.foot.1) h.off.1).trans h.here), (cell_of (hB.block pl (h.lt pl h.foot.2.2) h.off.2.2)).trans h.list⟩
theorem col_free {ws : Nat → Int} {base n : Nat} {xs : List Int} {f : Nat} (hc : ∀ f, f < n → 0 ≤ ws (base + 8 * n + f) ∧ ws (base + 8 * n + f) ≤ 3 ∧ (ws (base + 8 * n + f) = 0 ↔ (f : Int) + 1 ∈ xs)) :
    ∀ m, m < n → 0 ≤ upd ws (base + 8 * n + f) 0 (base + 8 * n + m) ∧ upd ws (base + 8 * n + f) 0 (base + 8 * n + m) ≤ 3 ∧ (upd ws (base + 8 * n + f) 0 (base + 8 * n + m) = 0 ↔ (m : Int) + 1 ∈ ((f : Int) + 1) :: xs) := by
  intro m hm
  by_cases e : m = f
  · subst e
    rw [upd_at]
    exact ⟨by omega, by omega, fun _ => by simp, fun _ => rfl⟩
  · rw [upd_else _ _ (by omega)]
    refine ⟨(hc m hm).1, (hc m hm).2.1, fun q => List.mem_cons_of_mem _ ((hc m hm).2.2.1 q), fun q => (hc m hm).2.2.2 ?_⟩
    rcases List.mem_cons.1 q with r | r
    · omega
    · exact r
set_option maxRecDepth 20000 in
set_option maxHeartbeats 1000000 in
theorem pfree_gr {w : World} {P : Nat → Prop} {p b W base n G : Nat} {cs : Nat → Int} {T : Int} {xs : List Int} {ws : Nat → Int} (h : Pl w P p b W base n G cs T xs ws) (hT : T ≤ 1000000000) (g f : Nat) (hg : g < G) (hf : InUse ws base n f) :
    Calls Tryz.prog 29 #[.pointer (some ⟨p, 0, none⟩), .int .i64 g, .int .i64 f] w fun e w' => e = .returned (.int .i64 0) ∧ ∃ cs', Grew cs cs' 10 ∧ Turn w P p b W base n G cs' (T + 1) (((f : Int) + 1) :: xs) (upd ws (base + 8 * n + f) 0) w' := by
  obtain ⟨Q, s, bc, pl, k, h⟩ := h
  have hf1 : f < n := by have := hf.2.1; omega
  have hu := isUsed_yes h (g : Int) f (by omega) hf
  have hcol := col_free (f := f) h.col
  have hn2 := h.n2
  have hm : May n calm xs f := ⟨by omega, by omega, fun _ => by simp [Op.link]; omega, fun q => (show ws (base + 8 * n + f) ≠ 0 by simpa using hf.2.2) ((h.col f hf1).2.2.2 q)⟩
  have Hm : Hid (May n calm xs f) := hm
  clear hm
  go_enter Tryz.func29, Tryz.ntmps29
  go_wp2_with (first
    | (go_at_call 50; refine hu.mono ?_; rintro e w1 ⟨rfl, hb⟩; have h' := h.below hb; have c1 := h'.c8)
    | (go_at_call 51; refine (set_ok h' g f _ hg hf1).mono ?_; rintro e w2 ⟨⟨ev, rfl⟩, hG, hB⟩; obtain ⟨c2, l2⟩ := h'.side hB)
    | (go_at_call 52; refine (put_ok hG hT g f hg (by omega) Hm.out l2).mono ?_; rintro e w3 ⟨⟨ew, rfl⟩, Q3, cs3, hG3, hB3, hW3, hgr⟩))
  go_ret
  exact ⟨rfl, _, (((Grew.refl cs 0).tick g).trans hgr).mono (by omega), (h'.turn hG3 (hB.trans hB3) (fun j hj => (hW3 j hj).elim .inl (fun q => .inr (Nat.le_trans hB.size q))) hcol).after hb⟩
theorem pfree_ok {w : World} {P : Nat → Prop} {p b W base n G : Nat} {cs : Nat → Int} {T : Int} {xs : List Int} {ws : Nat → Int} (h : Pl w P p b W base n G cs T xs ws) (hT : T ≤ 1000000000) (g f : Nat) (hg : g < G) (hf : InUse ws base n f) :
    Calls Tryz.prog 29 #[.pointer (some ⟨p, 0, none⟩), .int .i64 g, .int .i64 f] w fun e w' => e = .returned (.int .i64 0) ∧ ∃ cs', Turn w P p b W base n G cs' (T + 1) (((f : Int) + 1) :: xs) (upd ws (base + 8 * n + f) 0) w' := by
  refine (pfree_gr h hT g f hg hf).mono ?_
  rintro e w' ⟨rfl, cs', _, hT⟩
  exact ⟨rfl, cs', hT⟩

def zap (ws : Nat → Int) (a m : Nat) : Nat → Int := fun j => if a ≤ j ∧ j < a + m then 0 else ws j
theorem zap_none (ws : Nat → Int) (a : Nat) : zap ws a 0 = ws := by funext j; unfold zap; rw [if_neg (by omega)]
theorem zap_next (ws : Nat → Int) (a m : Nat) : upd (zap ws a m) (a + m) 0 = zap ws a (m + 1) := by
  funext j
  unfold upd zap
  by_cases h1 : j = a + m
  · rw [if_pos h1, if_pos (by omega)]
  · rw [if_neg h1]
    by_cases h2 : a ≤ j ∧ j < a + m
    · rw [if_pos h2, if_pos (by omega)]
    · rw [if_neg h2, if_neg (by omega)]
theorem zap_in (ws : Nat → Int) {a m j : Nat} (h1 : a ≤ j) (h2 : j < a + m) : zap ws a m j = 0 := by unfold zap; rw [if_pos ⟨h1, h2⟩]
theorem zap_else (ws : Nat → Int) {a m j : Nat} (h : ¬ (a ≤ j ∧ j < a + m)) : zap ws a m j = ws j := by unfold zap; rw [if_neg h]
theorem col_alloc {ws : Nat → Int} {base n : Nat} {xs : List Int} {f : Nat} (hf : f < n) (hx : (((f : Int) + 1) :: xs).Nodup) (hc : ∀ m, m < n → 0 ≤ ws (base + 8 * n + m) ∧ ws (base + 8 * n + m) ≤ 3 ∧ (ws (base + 8 * n + m) = 0 ↔ (m : Int) + 1 ∈ ((f : Int) + 1) :: xs)) :
    ∀ m, m < n → 0 ≤ upd (zap ws (base + 8 * f) 8) (base + 8 * n + f) 1 (base + 8 * n + m) ∧ upd (zap ws (base + 8 * f) 8) (base + 8 * n + f) 1 (base + 8 * n + m) ≤ 3 ∧ (upd (zap ws (base + 8 * f) 8) (base + 8 * n + f) 1 (base + 8 * n + m) = 0 ↔ (m : Int) + 1 ∈ xs) := by
  intro m hm
  by_cases e : m = f
  · subst e
    rw [upd_at]
    exact ⟨by omega, by omega, fun q => absurd q (by decide), fun q => absurd q (List.nodup_cons.1 hx).1⟩
  · rw [upd_else _ _ (by omega), zap_else _ (by omega)]
    refine ⟨(hc m hm).1, (hc m hm).2.1, fun q => ?_, fun q => (hc m hm).2.2.2 (List.mem_cons_of_mem _ q)⟩
    rcases List.mem_cons.1 ((hc m hm).2.2.1 q) with r | r
    · omega
    · exact r
theorem place_at {w : World} {p base : Nat} (f i : Nat) (hc : w.cell? ⟨p, 1, none⟩ = some (.int .i64 base)) (h1 : base + 8 * f + i ≤ 65536) :
    Calls Tryz.prog 60 #[.pointer (some ⟨p, 0, none⟩), .int .i64 f, .int .i64 i] w fun e w' => e = .returned (.int .i64 ((base + 8 * f + i : Nat) : Int)) ∧ w' = w := by
  go_enter Tryz.func60, Tryz.ntmps60
  go_wp2
  go_ret
  exact ⟨by first | rfl | (simp; omega) | (congr 2; omega), rfl⟩
theorem set_at {w : World} {P : Nat → Prop} {s bc b W base n G : Nat} {cs : Nat → Int} {T : Int} {xs : List Int} {ws : Nat → Int} (h : Good w P s ⟨b, W, base + 9 * n, ws⟩ G n cs calm T xs) (h1 : base + (14 * n + 64) ≤ W) (h2 : W ≤ 65536) (g f : Nat) (c : Int) (hg : g < G) (hf : f < n) :
    Calls Tryz.prog 51 #[.agg #[.pointer (some ⟨b, 0, none⟩), .func (.func 62) #[] #[.pointer (some ⟨bc, 0, none⟩)], .func (.func 63) #[] #[], .int .i64 ((base : Int) + 8 * n), .int .i64 n], .int .i64 g, .int .i64 f, .int .i64 c] w fun e w' => (∃ v, e = .returned v) ∧ Good w' P s ⟨b, W, base + 9 * n, upd ws (base + 8 * n + f) c⟩ G n (upd cs g (wrap64 (cs g + 1))) calm T xs ∧ Bt P w w' := by
  have hp := fun o => gi_cstore (bc := bc) (h.alloc o) g (base + 8 * n + f) c hg (by omega) (by omega)
  simp only [Int.natCast_add, Int.natCast_mul] at hp
  go_enter Tryz.func51, Tryz.ntmps51
  go_wp2_with (go_at_call 72; refine (hp _).mono ?_; rintro e w1 ⟨rfl, hG, hB⟩)
  go_end0
  exact ⟨⟨_, rfl⟩, hG, (Bt.of_below ((Below.refl _ _).alloc (Nat.le_refl _) _)).trans hB⟩
set_option maxRecDepth 20000 in
set_option maxHeartbeats 2000000 in
theorem palloc_gr {w : World} {P : Nat → Prop} {p b W base n G : Nat} {cs : Nat → Int} {T : Int} {xs : List Int} {ws : Nat → Int} {x : Int} (h : Pl w P p b W base n G cs T (x :: xs) ws) (hT : T ≤ 1000000000) (g : Nat) (hg : g < G) :
    Calls Tryz.prog 56 #[.pointer (some ⟨p, 0, none⟩), .int .i64 g] w fun e w' => ∃ f : Nat, x = (f : Int) + 1 ∧ f < n ∧ ws (base + 8 * n + f) = 0 ∧ e = .returned (.tuple #[.int .i64 f, .int .i64 0]) ∧ ∃ cs', Grew cs cs' 20 ∧ Turn w P p b W base n G cs' (T + 1) xs (upd (zap ws (base + 8 * f) 8) (base + 8 * n + f) 1) w' := by
  obtain ⟨Q, s, bc, pl, k, h⟩ := h
  have hr := h.good.range
  have hx := hr.1 x (by simp)
  obtain ⟨f, rfl⟩ : ∃ f : Nat, x = (f : Int) + 1 := ⟨(x - 1).toNat, by omega⟩
  have hf : f < n := by omega
  have hcol := col_alloc hf hr.2.2.2.1 h.col
  have h0 : Hid (ws (base + 8 * n + f) = 0) := (show _ = _ from (h.col f hf).2.2.2 (by simp))
  have h1 := h.fit
  have h2 := h.big
  have hn := phas h (g : Int) true (by simp; omega)
  have c0 := h.c8
  have ht := take_some (k := k) h.good hT g hg h.list
  rw [show (f : Int) + 1 - 1 = f by omega] at ht
  clear hr hx
  go_enter Tryz.func56, Tryz.ntmps56
  go_wp2_with (first
    | (go_at_call 31; refine hn.mono ?_; rintro e w1 ⟨rfl, rfl⟩)
    | (go_at_call 77; refine ht.mono ?_; rintro e w2 ⟨rfl, Q2, cs2, hG2, hB2, hW2, hg2⟩; obtain ⟨c2, l2⟩ := h.side hB2))
  go_loopw [28] (fun v31 wr => ∃ (i : Nat) (cs' : Nat → Int), i ≤ 8 ∧ v31 = .int .i64 i ∧ Good wr Q2 s ⟨b, W, base + 9 * n, zap ws (base + 8 * f) i⟩ G n cs' calm (T + 1) xs ∧ Bt Q2 w2 wr ∧ Grew cs cs' (5 + i)) (fun v31 _ => 8 - (intOf v31).toNat)
  case atStart => exact ⟨0, _, by omega, rfl, by rw [zap_none]; exact hG2, Bt.refl _ _, hg2⟩
  case round =>
    obtain ⟨i, cs', hi, rfl, hG, hB, hgr⟩ := hrel
    have hBr := hB2.wide hB hW2
    obtain ⟨c3, _⟩ := h.side hBr
    clear c0 c2 l2 hG2 ht hn
    by_cases hlt : i < 8
    · have hGd := hG.below (below_drewN wr 1 _)
      have e1 : (wr.drewN 1).cell? ⟨p, 1, none⟩ = some (.int .i64 base) := c3.2.1
      go_wp2
      go_region_held3 (fun w' => w'.cell? ⟨p, 0, none⟩ = some (.pointer (some ⟨b, 0, none⟩))) (go_keep)
        (first
          | (go_at_call 59; refine (gi_store hGd g (base + 8 * f + i) 0 hg (by omega) (by omega)).mono ?_; rintro e w3 ⟨rfl, hG3, hB3⟩; have d1 := (h.side (hB2.wide (hB.trans ((Bt.of_below (below_drewN _ 1 _)).trans hB3)) hW2)).1)
          | (go_at_call 60; refine (place_at f i e1 (by omega)).mono ?_; rintro e w2 ⟨rfl, rfl⟩))
      rw [zap_next] at hG3
      go_wp2
      go_roundw
      case rel => exact ⟨i + 1, _, by omega, by go_num, hG3, hB.trans ((Bt.of_below (below_drewN _ 1 _)).trans hB3), hgr.tick g⟩
      case measure => simp [intOf]; omega
    · obtain rfl : i = 8 := by omega
      go_wp2_with (go_at_call 51; refine (set_at hG h1 h2 g f _ hg hf).mono ?_; rintro e w4 ⟨⟨ev, rfl⟩, hG4, hB4⟩)
      go_ret2
      exact ⟨f, rfl, hf, h0.out, rfl, _, (hgr.tick g).mono (by omega), h.turn hG4 (hB2.wide (hB.trans hB4) hW2) hW2 hcol⟩
theorem palloc_ok {w : World} {P : Nat → Prop} {p b W base n G : Nat} {cs : Nat → Int} {T : Int} {xs : List Int} {ws : Nat → Int} {x : Int} (h : Pl w P p b W base n G cs T (x :: xs) ws) (hT : T ≤ 1000000000) (g : Nat) (hg : g < G) :
    Calls Tryz.prog 56 #[.pointer (some ⟨p, 0, none⟩), .int .i64 g] w fun e w' => ∃ f : Nat, x = (f : Int) + 1 ∧ f < n ∧ ws (base + 8 * n + f) = 0 ∧ e = .returned (.tuple #[.int .i64 f, .int .i64 0]) ∧ ∃ cs', Turn w P p b W base n G cs' (T + 1) xs (upd (zap ws (base + 8 * f) 8) (base + 8 * n + f) 1) w' := by
  refine (palloc_gr h hT g hg).mono ?_
  rintro e w' ⟨f, h1, h2, h3, h4, cs', _, h5⟩
  exact ⟨f, h1, h2, h3, h4, cs', h5⟩
theorem palloc_none {w : World} {P : Nat → Prop} {p b W base n G : Nat} {cs : Nat → Int} {T : Int} {ws : Nat → Int} (h : Pl w P p b W base n G cs T [] ws) (hT : T ≤ 1000000000) (x : Int) (hx : 0 ≤ x ∧ x < (G : Int)) :
    Calls Tryz.prog 56 #[.pointer (some ⟨p, 0, none⟩), .int .i64 x] w fun e w' => e = .returned (.tuple #[.int .i64 0, .int .i64 601]) ∧ Below w.heap.size w w' := by
  obtain ⟨Q, s, bc, pl, k, h⟩ := h
  have hn := phas h x true (by simpa using hx)
  have c0 := h.c8
  have ht := take_none (k := k) h.good hT x h.list
  clear h
  go_enter Tryz.func56, Tryz.ntmps56
  go_wp2_with (first
    | (go_at_call 31; refine hn.mono ?_; rintro e w1 ⟨rfl, rfl⟩)
    | (go_at_call 77; refine ht.mono ?_; rintro e w2 ⟨rfl, hb⟩))
  go_ret2
  exact ⟨rfl, hb⟩
theorem palloc_no {w : World} {P : Nat → Prop} {p b W base n G : Nat} {cs : Nat → Int} {T : Int} {xs : List Int} {ws : Nat → Int} (h : Pl w P p b W base n G cs T xs ws) (x : Int) (hx : ¬ (0 ≤ x ∧ x < (G : Int))) :
    Calls Tryz.prog 56 #[.pointer (some ⟨p, 0, none⟩), .int .i64 x] w fun e w' => e = .returned (.tuple #[.int .i64 0, .int .i64 602]) ∧ w' = w := by
  obtain ⟨Q, s, bc, pl, k, h⟩ := h
  have hn := phas h x false (by simpa using hx)
  have c0 := h.c8
  clear h hx
  go_enter Tryz.func56, Tryz.ntmps56
  go_wp2_with (go_at_call 31; refine hn.mono ?_; rintro e w1 ⟨rfl, rfl⟩)
  go_ret2
  exact ⟨rfl, rfl⟩
end Go.Proofs.YtojblddfggoecaaGreat
