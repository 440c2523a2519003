/- The stack's two views of the arena's words: Load, Store, Swap, Poke, Peek: what each answers, what of the arena turns. -/
import Derived.Test.YtojblddfggoecaaGreatSLeaf
import Derived.Deep.DeepCutAuto
import Derived.Deep.RegionHeld3
namespace Go.Proofs.YtojblddfggoecaaGreat
open Go.RowKit

theorem heap_put {w : World} {k : Nat} (a : Addr) (v : Value) (hk : k ≠ a.block) : (w.setCell a v).heap[k]? = w.heap[k]? := Below.heap_setCell _ _ _ _ hk
/-- step, its world a letter. -/
theorem step_but {w : World} {b bw bs W G : Nat} {ws cs : Nat → Int} (h : Ar w b bw bs W G ws cs) (g a : Nat) (hg : g < G) (ha : a < W) :
    Calls Tryz.prog 94 #[.pointer (some ⟨b, 0, none⟩), .int .i64 g, .int .i64 a] w fun e w' => e = .returned (.tuple #[.pointer (some ⟨bw, a, none⟩), .int .i64 0]) ∧ Ar w' b bw bs W G ws (upd cs g (wrap64 (cs g + 1))) ∧ But bw bs w w' := by
  refine (step_ok h g a hg ha).mono ?_
  rintro e w' ⟨rfl, rfl⟩
  exact ⟨rfl, h.tick g _, (But.refl _ _ _).sets g _⟩
/-- What was laid since is no row of the arena's. -/
theorem laid1 {w w1 : World} {o : Obj} {bw bs : Nat} (h1 : bw < w.heap.size) (h2 : bs < w.heap.size) (k : But bw bs (w.alloc o) w1) : w1.heap[w.heap.size]? = some o :=
  (k.block _ (by simp) (by omega) (by omega)).trans (heap_alloc_new w o)
theorem laidA {w w1 : World} {o p : Obj} {bw bs : Nat} (h1 : bw < w.heap.size) (h2 : bs < w.heap.size) (k : But bw bs ((w.alloc o).alloc p) w1) : w1.heap[w.heap.size]? = some o ∧ w1.heap[w.heap.size + 1]? = some p := by
  have e0 := heap_alloc_new w o
  have e1 := heap_alloc_new (w.alloc o) p
  rw [Go.Deep.nblk_alloc] at e1
  exact ⟨(k.block _ (by simp; omega) (by omega) (by omega)).trans ((Below.heap_alloc _ _ _ (by simp)).trans e0), (k.block _ (by simp) (by omega) (by omega)).trans e1⟩
theorem laidB {w w1 : World} {o p q : Obj} {bw bs : Nat} (h1 : bw < w.heap.size) (h2 : bs < w.heap.size) (k : But bw bs (((w.alloc o).alloc p).alloc q) w1) : w1.heap[w.heap.size]? = some o ∧ w1.heap[w.heap.size + 1]? = some p ∧ w1.heap[w.heap.size + 1 + 1]? = some q := by
  have e2 := heap_alloc_new ((w.alloc o).alloc p) q
  rw [Go.Deep.nblk_alloc, Go.Deep.nblk_alloc] at e2
  have hA := laidA h1 h2 (((But.refl bw bs ((w.alloc o).alloc p)).alloc q).trans k)
  exact ⟨hA.1, hA.2, (k.block _ (by simp) (by omega) (by omega)).trans e2⟩
theorem Ar.lts {w : World} {b bw bs W G : Nat} {ws cs : Nat → Int} (h : Ar w b bw bs W G ws cs) : bw < w.heap.size ∧ bs < w.heap.size := ⟨h.words.lt, h.steps.lt⟩
theorem blk3 {w : World} {b ty : Nat} {x y z : Value} (h : w.heap[b]? = some (.cells #[x, y, z] ty (0, 0))) : w.cell? ⟨b, 0, none⟩ = some x ∧ w.cell? ⟨b, 1, none⟩ = some y ∧ w.cell? ⟨b, 2, none⟩ = some z := by
  simp [World.cell?, h]
/-- A store into what was laid since turns nothing that was there. -/
theorem Ar.fresh {w u : World} {b bw bs W G : Nat} {ws cs ws0 cs0 : Nat → Int} (h0 : Ar w b bw bs W G ws0 cs0) (h : Ar u b bw bs W G ws cs) (r i : Nat) (v : Value) (hr : w.heap.size ≤ r) : Ar (u.setCell ⟨r, i, none⟩ v) b bw bs W G ws cs := by
  have e0 := h0.lt
  have e1 := h0.words.lt
  have e2 := h0.steps.lt
  exact ⟨by rw [heap_put _ _ (by show b ≠ r; omega)]; exact h.here, h.words.setOther (by show bw ≠ r; omega) v, h.steps.setOther (by show bs ≠ r; omega) v, h.part⟩
theorem But.fresh {bw bs : Nat} {w u : World} (h : But bw bs w u) (r i : Nat) (v : Value) (hr : w.heap.size ≤ r) : But bw bs w (u.setCell ⟨r, i, none⟩ v) :=
  ⟨h.os, h.tape, h.output, by simpa [World.setCell] using h.size, fun k hk e1 e2 => (heap_put _ _ (by show k ≠ r; omega)).trans (h.block k hk e1 e2)⟩

theorem topLoad_ok {w : World} {b bw bs W G : Nat} {ws cs : Nat → Int} (h : Ar w b bw bs W G ws cs) {bt bu bl : Nat} {c t i : Int} (hx : Bx w bw bs bt bu bl c) (g a : Nat) (hg : g < G) (ha : a < W) (h1 : 0 < c) (hq : wrap64 ((ws a).tdiv c) = t) (hr : (ws a).tmod c = i) (hi : 0 ≤ i) :
    Calls Tryz.prog 127 #[.agg #[.pointer (some ⟨b, 0, none⟩), .func (.func 135) #[] #[.pointer (some ⟨bt, 0, none⟩)], .func (.func 136) #[] #[.pointer (some ⟨bu, 0, none⟩)]], .int .i64 g, .int .i64 a] w fun e w' => e = .returned (.tuple #[.agg #[.int .i64 t, .int .i64 i], .int .i64 0]) ∧
      Ar w' b bw bs W G ws (upd cs g (wrap64 (cs g + 1))) ∧ But bw bs w w' := by
  go_enter Tryz.func127, Tryz.ntmps127
  go_wp2_with (go_at_call 94; refine (step_but ((h.alloc _).alloc _) _ _ hg ha).mono ?_; rintro e w1 ⟨rfl, hA, hB⟩; have hw := hA.words.cell ha; have hL := laidA h.lts.1 h.lts.2 hB; obtain ⟨v0, v1, v2⟩ := blk3 hL.1)
  go_region_with (go_at_call 135; refine (readTop1_any t i c (ws a) bt _ (hx.but ((((But.refl bw bs w).alloc _).alloc _).trans (hB.trans (But.of_below (below_drewN _ 1 _))))).t h1 hq hr hi).mono ?_; rintro e w2 ⟨rfl, hb⟩; have hk := (hb.block _ (box_lt hL.2)).trans hL.2; obtain ⟨c0, c1, f0, f1⟩ := blk2 hk)
  all_goals go_wp2
  all_goals
    refine bodyPost_ret (results_ct rfl _ _ (w.heap.size + 1) 154 #[.int .i64 t, .int .i64 i] (0, 0) _ rfl ?_ Tryz.underlying154 rfl info103) rfl ⟨rfl, ?_⟩
  all_goals first
    | exact set_blk (set_blk hk 0 _) 1 _
    | (have hq := hA.below ((below_drewN _ 1 _).trans hb)
       have hl := (((But.refl bw bs w).alloc _).alloc _).trans (hB.trans (But.of_below ((below_drewN _ 1 _).trans hb)))
       exact ⟨h.fresh (h.fresh hq _ 0 _ (by omega)) _ 1 _ (by omega), (hl.fresh _ 0 _ (by omega)).fresh _ 1 _ (by omega)⟩)
theorem topPoke_ok {w : World} {b bw bs W G : Nat} {ws cs : Nat → Int} (h : Ar w b bw bs W G ws cs) {bt bu bl : Nat} {c t i z : Int} (hx : Bx w bw bs bt bu bl c) (a : Nat) (ha : a < W) (hz : wrap64 (wrap64 (t * c) + i) = z) :
    Calls Tryz.prog 106 #[.agg #[.pointer (some ⟨b, 0, none⟩), .func (.func 135) #[] #[.pointer (some ⟨bt, 0, none⟩)], .func (.func 136) #[] #[.pointer (some ⟨bu, 0, none⟩)]], .int .i64 a, .agg #[.int .i64 t, .int .i64 i]] w fun e w' => e = .returned (.int .i64 0) ∧
      Ar w' b bw bs W G (upd ws a z) cs ∧ But bw bs w w' := by
  go_enter Tryz.func106, Tryz.ntmps106
  go_wp2_with (first | (go_at_call 74; refine (word_ok ((h.alloc _).alloc _) _ ha).mono ?_; rintro e w1 ⟨rfl, rfl⟩) | (go_at_call 136; refine (writeTop1_any t i c z bu _ ((hx.alloc _).alloc _).u hz).mono ?_; rintro e w1 ⟨rfl, hb⟩; have hA := ((h.alloc _).alloc _).below hb; have hc := hA.words.cell ha; have hf := hA.words.frozen a))
  go_ret
  exact ⟨rfl, hA.put a z, ((((But.refl _ _ _).alloc _).alloc _).trans (But.of_below hb)).setw a _⟩
set_option maxHeartbeats 1000000 in
theorem topSwap_yes {w : World} {b bw bs W G : Nat} {ws cs : Nat → Int} (h : Ar w b bw bs W G ws cs) {bt bu bl : Nat} {c t i t' i' z z' : Int} (hx : Bx w bw bs bt bu bl c) (g a : Nat) (hg : g < G) (ha : a < W) (hz : wrap64 (wrap64 (t * c) + i) = z) (hz' : wrap64 (wrap64 (t' * c) + i') = z') (hy : (ws a != z) = false) :
    Calls Tryz.prog 138 #[.agg #[.pointer (some ⟨b, 0, none⟩), .func (.func 135) #[] #[.pointer (some ⟨bt, 0, none⟩)], .func (.func 136) #[] #[.pointer (some ⟨bu, 0, none⟩)]], .int .i64 g, .int .i64 a, .agg #[.int .i64 t, .int .i64 i], .agg #[.int .i64 t', .int .i64 i']] w fun e w' => e = .returned (.tuple #[.bool true, .int .i64 0]) ∧
      Ar w' b bw bs W G (upd ws a z') (upd cs g (wrap64 (cs g + 1))) ∧ But bw bs w w' := by
  go_enter Tryz.func138, Tryz.ntmps138
  go_wp2_with (go_at_call 94; refine (step_but (((h.alloc _).alloc _).alloc _) _ _ hg ha).mono ?_; rintro e w1 ⟨rfl, hA, hB⟩; have hw := hA.words.cell ha; have hL := laidB h.lts.1 h.lts.2 hB; obtain ⟨v0, v1, v2⟩ := blk3 hL.1; obtain ⟨c0, c1, f0, f1⟩ := blk2 hL.2.1)
  go_cut [33] (fun s33 wx => s33 = .bool false ∧ Below w1.heap.size w1 wx)
  case first =>
    go_region_held3 (fun w' => w'.cell? ⟨bw, a, none⟩ = some (.int .i64 (ws a)) ∧ w'.cell? ⟨w.heap.size, 2, none⟩ = some (.func (.func 136) #[] #[.pointer (some ⟨bu, 0, none⟩)]) ∧ w'.cell? ⟨w.heap.size + 1, 0, none⟩ = some (.int .i64 t) ∧ w'.cell? ⟨w.heap.size + 1, 1, none⟩ = some (.int .i64 i)) (go_keep) ((go_at_call 136; refine (writeTop1_any t i c z bu _ (hx.but (((((But.refl bw bs w).alloc _).alloc _).alloc _).trans (hB.trans (But.of_below (below_drewN _ 1 _))))).u hz).mono ?_; rintro e w2 ⟨rfl, hb⟩; have hw2 := ((hA.below (below_drewN _ 1 _)).below hb).words.cell ha; have hL2 := laidB h.lts.1 h.lts.2 (hB.trans (But.of_below ((below_drewN _ 1 _).trans hb))); obtain ⟨v0', v1', v2'⟩ := blk3 hL2.1; obtain ⟨c0', c1', f0', f1'⟩ := blk2 hL2.2.1))
    all_goals (as_aux_lemma => (go_wp2_with fail; go_meet; exact ⟨by simp, (below_drewN _ 1 _).trans hb⟩))
  case rest =>
    obtain ⟨rfl, hE⟩ := hcut
    have hA' := hA.below hE
    have hB' := hB.trans (But.of_below hE)
    have hL' := laidB h.lts.1 h.lts.2 hB'
    obtain ⟨v0', v1', v2'⟩ := blk3 hL'.1
    obtain ⟨d0, d1, g0, g1⟩ := blk2 hL'.2.2
    clear hB hA hw hL v0 v1 v2 c0 c1 f0 f1 hE
    go_wp2_with (go_at_call 136; refine (writeTop1_any t' i' c z' bu _ (hx.but (((((But.refl bw bs w).alloc _).alloc _).alloc _).trans hB')).u hz').mono ?_; rintro e w3 ⟨rfl, hb⟩; have hA3 := hA'.below hb; have hc := hA3.words.cell ha; have hf := hA3.words.frozen a)
    go_ret2
    exact ⟨rfl, hA3.put a z', ((((((But.refl bw bs w).alloc _).alloc _).alloc _).trans hB').trans (But.of_below hb)).setw a _⟩
set_option maxHeartbeats 1000000 in
theorem topSwap_no {w : World} {b bw bs W G : Nat} {ws cs : Nat → Int} (h : Ar w b bw bs W G ws cs) {bt bu bl : Nat} {c t i t' i' z : Int} (hx : Bx w bw bs bt bu bl c) (g a : Nat) (hg : g < G) (ha : a < W) (hz : wrap64 (wrap64 (t * c) + i) = z) (hy : (ws a != z) = true) :
    Calls Tryz.prog 138 #[.agg #[.pointer (some ⟨b, 0, none⟩), .func (.func 135) #[] #[.pointer (some ⟨bt, 0, none⟩)], .func (.func 136) #[] #[.pointer (some ⟨bu, 0, none⟩)]], .int .i64 g, .int .i64 a, .agg #[.int .i64 t, .int .i64 i], .agg #[.int .i64 t', .int .i64 i']] w fun e w' => e = .returned (.tuple #[.bool false, .int .i64 0]) ∧
      Ar w' b bw bs W G ws (upd cs g (wrap64 (cs g + 1))) ∧ But bw bs w w' := by
  go_enter Tryz.func138, Tryz.ntmps138
  go_wp2_with (go_at_call 94; refine (step_but (((h.alloc _).alloc _).alloc _) _ _ hg ha).mono ?_; rintro e w1 ⟨rfl, hA, hB⟩; have hw := hA.words.cell ha; have hL := laidB h.lts.1 h.lts.2 hB; obtain ⟨v0, v1, v2⟩ := blk3 hL.1; obtain ⟨c0, c1, f0, f1⟩ := blk2 hL.2.1)
  go_cut [33] (fun s33 wx => s33 = .bool true ∧ Below w1.heap.size w1 wx)
  case first =>
    go_region_held3 (fun w' => w'.cell? ⟨bw, a, none⟩ = some (.int .i64 (ws a)) ∧ w'.cell? ⟨w.heap.size, 2, none⟩ = some (.func (.func 136) #[] #[.pointer (some ⟨bu, 0, none⟩)]) ∧ w'.cell? ⟨w.heap.size + 1, 0, none⟩ = some (.int .i64 t) ∧ w'.cell? ⟨w.heap.size + 1, 1, none⟩ = some (.int .i64 i)) (go_keep) ((go_at_call 136; refine (writeTop1_any t i c z bu _ (hx.but (((((But.refl bw bs w).alloc _).alloc _).alloc _).trans (hB.trans (But.of_below (below_drewN _ 1 _))))).u hz).mono ?_; rintro e w2 ⟨rfl, hb⟩; have hw2 := ((hA.below (below_drewN _ 1 _)).below hb).words.cell ha; have hL2 := laidB h.lts.1 h.lts.2 (hB.trans (But.of_below ((below_drewN _ 1 _).trans hb))); obtain ⟨v0', v1', v2'⟩ := blk3 hL2.1; obtain ⟨c0', c1', f0', f1'⟩ := blk2 hL2.2.1))
    all_goals (as_aux_lemma => (go_wp2_with fail; go_meet; exact ⟨by simp, (below_drewN _ 1 _).trans hb⟩))
  case rest =>
    obtain ⟨rfl, hE⟩ := hcut
    have hA' := hA.below hE
    have hB' := hB.trans (But.of_below hE)
    have hL' := laidB h.lts.1 h.lts.2 hB'
    obtain ⟨v0', v1', v2'⟩ := blk3 hL'.1
    clear hB hA hw hL v0 v1 v2 c0 c1 f0 f1 hE
    go_wp2
    go_ret2
    exact ⟨rfl, hA', ((((But.refl bw bs w).alloc _).alloc _).alloc _).trans hB'⟩
theorem linkPeek_ok {w : World} {b bw bs W G : Nat} {ws cs : Nat → Int} (h : Ar w b bw bs W G ws cs) {bt bu bl : Nat} {c : Int} (hx : Bx w bw bs bt bu bl c) (a : Nat) (ha : a < W) (hi : 0 ≤ ws a) (hj : ws a < c) :
    Calls Tryz.prog 134 #[.agg #[.pointer (some ⟨b, 0, none⟩), .func (.func 137) #[] #[.pointer (some ⟨bl, 0, none⟩)], .func (.func 124) #[] #[]], .int .i64 a] w fun e w' => e = .returned (.tuple #[.int .i64 (ws a), .int .i64 0]) ∧ Below w.heap.size w w' := by
  have hw : ∀ o, (w.alloc o).cell? ⟨bw, a, none⟩ = some (.int .i64 (ws a)) := fun o => (h.words.alloc o).cell ha
  have hB : ∀ o n, ((w.alloc o).drewN n).cell? ⟨bl, 0, none⟩ = some (.int .i64 c) := fun o n => box_cell (hx.alloc o).l
  go_enter Tryz.func134, Tryz.ntmps134
  go_wp2_with (go_at_call 74; refine (word_ok (h.alloc _) _ ha).mono ?_; rintro e w1 ⟨rfl, rfl⟩)
  go_quiet ((go_at_call 137; exact Calls.quiet_of_same (readLink1_in (ws a) c bl _ (hB _ _) hi hj)))
  go_wp2
  go_ret2
  exact ⟨rfl, ((Below.refl _ _).alloc (Nat.le_refl _) _).trans (below_drewN _ _ _)⟩
theorem linkLoad_ok {w : World} {b bw bs W G : Nat} {ws cs : Nat → Int} (h : Ar w b bw bs W G ws cs) {bt bu bl : Nat} {c : Int} (hx : Bx w bw bs bt bu bl c) (g a : Nat) (hg : g < G) (ha : a < W) (z : Int) (hz : (if 0 ≤ ws a ∧ ws a < c then ws a else 0) = z) :
    Calls Tryz.prog 131 #[.agg #[.pointer (some ⟨b, 0, none⟩), .func (.func 137) #[] #[.pointer (some ⟨bl, 0, none⟩)], .func (.func 124) #[] #[]], .int .i64 g, .int .i64 a] w fun e w' => e = .returned (.tuple #[.int .i64 z, .int .i64 0]) ∧
      Ar w' b bw bs W G ws (upd cs g (wrap64 (cs g + 1))) ∧ But bw bs w w' := by
  have hrd : ∀ u : World, u.cell? ⟨bl, 0, none⟩ = some (.int .i64 c) → Calls Tryz.prog 137 #[.int .i64 (ws a), .pointer (some ⟨bl, 0, none⟩)] u fun e w' => e = .returned (.int .i64 z) ∧ w' = u := fun u hu => hz ▸ readLink1_any (ws a) c bl u hu
  clear hz
  go_enter Tryz.func131, Tryz.ntmps131
  go_wp2_with (go_at_call 94; refine (step_but (h.alloc _) _ _ hg ha).mono ?_; rintro e w1 ⟨rfl, hA, hB⟩; have hw := hA.words.cell ha; have hL := laid1 h.lts.1 h.lts.2 hB; obtain ⟨v0, v1, v2⟩ := blk3 hL; have hC := fun n => box_cell ((hx.but (((But.refl bw bs w).alloc _).trans hB)).below (below_drewN w1 n _)).l)
  go_quiet ((go_at_call 137; exact Calls.quiet_of_same (hrd _ (hC _))))
  go_wp2
  go_ret2
  exact ⟨rfl, hA.below (below_drewN _ _ _), (((But.refl bw bs w).alloc _).trans hB).trans (But.of_below (below_drewN _ _ _))⟩
theorem linkStore_ok {w : World} {b bw bs W G : Nat} {ws cs : Nat → Int} (h : Ar w b bw bs W G ws cs) {bl : Nat} (g a : Nat) (v : Int) (hg : g < G) (ha : a < W) :
    Calls Tryz.prog 128 #[.agg #[.pointer (some ⟨b, 0, none⟩), .func (.func 137) #[] #[.pointer (some ⟨bl, 0, none⟩)], .func (.func 124) #[] #[]], .int .i64 g, .int .i64 a, .int .i64 v] w fun e w' => e = .returned (.int .i64 0) ∧
      Ar w' b bw bs W G (upd ws a v) (upd cs g (wrap64 (cs g + 1))) ∧ But bw bs w w' := by
  go_enter Tryz.func128, Tryz.ntmps128
  go_wp2_with (first | (go_at_call 94; refine (step_but (h.alloc _) _ _ hg ha).mono ?_; rintro e w1 ⟨rfl, hA, hB⟩; have hw := hA.words.cell ha; have hf := hA.words.frozen a; have hL := laid1 h.lts.1 h.lts.2 hB; obtain ⟨v0, v1, v2⟩ := blk3 hL) | (go_at_call 124; refine (writeLink_any _ _).mono ?_; rintro e w1 ⟨rfl, rfl⟩))
  go_ret
  exact ⟨rfl, hA.put a v, (((But.refl bw bs w).alloc _).trans hB).setw a _⟩
end Go.Proofs.YtojblddfggoecaaGreat
