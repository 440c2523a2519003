/- The stack's small functions, and its two views of the arena's words: what each answers, what of the arena turns. -/
import Derived.Test.YtojblddfggoecaaGreatAArena
import Derived.TacticsInMore
namespace Go.Proofs.YtojblddfggoecaaGreat
open Go.RowKit

theorem info103 : (Tryz.prog.info? 154).map (·.size) = some 2 := by kernel_rfl
theorem linkTo_any (x : Int) (w : World) (h0 : 0 ≤ x) (h1 : x < 100000) : Calls Tryz.prog 105 #[.int .i64 x] w fun e w' => e = .returned (.int .i64 (x + 1)) ∧ w' = w := by
  go_enter Tryz.func105, Tryz.ntmps105
  go_wp2
  go_ret
  exact ⟨by first | rfl | (rw [IntWalk.wrap64_in]; omega), rfl⟩
theorem number_any (x : Int) (w : World) (h0 : 0 ≤ x) (h1 : x < 100000) : Calls Tryz.prog 132 #[.int .i64 x] w fun e w' => e = .returned (.int .i64 (x - 1)) ∧ w' = w := by
  go_enter Tryz.func132, Tryz.ntmps132
  go_wp2
  go_ret
  exact ⟨by first | rfl | (rw [IntWalk.wrap64_in]; omega), rfl⟩
theorem writeLink_any (x : Int) (w : World) : Calls Tryz.prog 124 #[.int .i64 x] w fun e w' => e = .returned (.int .i64 x) ∧ w' = w := by
  go_enter Tryz.func124, Tryz.ntmps124
  go_wp2
  go_ret
  exact ⟨rfl, rfl⟩
theorem readLink1_in (x c : Int) (bl : Nat) (w : World) (hc : w.cell? ⟨bl, 0, none⟩ = some (.int .i64 c)) (h0 : 0 ≤ x) (h1 : x < c) :
    Calls Tryz.prog 137 #[.int .i64 x, .pointer (some ⟨bl, 0, none⟩)] w fun e w' => e = .returned (.int .i64 x) ∧ w' = w := by
  go_enter Tryz.func137, Tryz.ntmps137
  go_wp2
  go_ret
  exact ⟨rfl, rfl⟩
theorem readLink1_any (x c : Int) (bl : Nat) (w : World) (hc : w.cell? ⟨bl, 0, none⟩ = some (.int .i64 c)) :
    Calls Tryz.prog 137 #[.int .i64 x, .pointer (some ⟨bl, 0, none⟩)] w fun e w' => e = .returned (.int .i64 (if 0 ≤ x ∧ x < c then x else 0)) ∧ w' = w := by
  by_cases hx : 0 ≤ x ∧ x < c
  · rw [if_pos hx]
    exact readLink1_in x c bl w hc hx.1 hx.2
  · rw [if_neg hx]
    by_cases h0 : x < 0
    · clear hx
      go_enter Tryz.func137, Tryz.ntmps137
      go_wp2
      go_ret
      exact ⟨rfl, rfl⟩
    · have h1 : c ≤ x := by omega
      have h2 : 0 ≤ x := by omega
      clear hx h0
      go_enter Tryz.func137, Tryz.ntmps137
      go_wp2
      go_ret
      exact ⟨rfl, rfl⟩
/-- A box of one value. -/
theorem box_cell {w : World} {b ty : Nat} {v : Value} (h : w.heap[b]? = some (.cells #[v] ty (0, 0))) : w.cell? ⟨b, 0, none⟩ = some v := by simp [World.cell?, h]
theorem box_alloc {w : World} {b ty : Nat} {c : Array Value} (h : w.heap[b]? = some (.cells c ty (0, 0))) (o : Obj) : (w.alloc o).heap[b]? = some (.cells c ty (0, 0)) :=
  (Below.heap_alloc _ _ _ (Array.getElem?_eq_some_iff.1 h).1).trans h
theorem box_lt {w : World} {b ty : Nat} {c : Array Value} (h : w.heap[b]? = some (.cells c ty (0, 0))) : b < w.heap.size := (Array.getElem?_eq_some_iff.1 h).1
theorem set_blk {w : World} {b ty : Nat} {c : Array Value} (h : w.heap[b]? = some (.cells c ty (0, 0))) (i : Nat) (v : Value) : (w.setCell ⟨b, i, none⟩ v).heap[b]? = some (.cells (c.setIfInBounds i v) ty (0, 0)) := by
  simp [World.setCell, Array.getElem?_modify, h]
theorem blk2 {w : World} {b ty : Nat} {x y : Value} (h : w.heap[b]? = some (.cells #[x, y] ty (0, 0))) : w.cell? ⟨b, 0, none⟩ = some x ∧ w.cell? ⟨b, 1, none⟩ = some y ∧ w.frozen? ⟨b, 0, none⟩ = false ∧ w.frozen? ⟨b, 1, none⟩ = false := by
  simp [World.cell?, World.frozen?, h]
/-- A block that was laid last but one. -/
theorem laid2 {w w1 : World} {o p : Obj} (hb : Below ((w.alloc o).alloc p).heap.size ((w.alloc o).alloc p).drew w1) : w1.heap[w.heap.size + 1]? = some p := by
  rw [hb.block (w.heap.size + 1) (by simp)]
  have := heap_alloc_new (w.alloc o) p
  rw [Go.Deep.nblk_alloc] at this
  exact this
theorem results_ct {P : Program} {fn : Func} {p u : Tmp} {ty : TypeId} (h : fn.results = #[.cell p ty, .tmp u]) (tmps : Array Value) (w : World) (g : Nat) (t : TypeId) (cs : Array Value) (fr : Nat × Nat) (d : TypeDesc)
    (hp : tmps.getD p undef = .pointer (some ⟨g, 0, none⟩)) (hg : w.heap[g]? = some (.cells cs t fr))
    (hu : P.underlying ty = some d) (hd : (match d with | .struct _ | .array _ _ => true | _ => false) = true) (hi : (P.info? ty).map (·.size) = some cs.size) :
    (results fn tmps).run P w = .ok (.tuple #[.agg cs, tmps.getD u undef]) w := by
  have hp' : tmps[p]?.getD undef = .pointer (some ⟨g, 0, none⟩) := by simpa using hp
  simp [results, h, hp', asAddr, run_loadVar_row w g t ty cs fr d hg hu hd hi]
theorem results_cc {P : Program} {fn : Func} {p q : Tmp} {ty uy : TypeId} (h : fn.results = #[.cell p ty, .cell q uy]) (tmps : Array Value) (w : World) (g k : Nat) (t u : TypeId) (cs ds : Array Value) (fr fs : Nat × Nat) (d e : TypeDesc)
    (hp : tmps.getD p undef = .pointer (some ⟨g, 0, none⟩)) (hg : w.heap[g]? = some (.cells cs t fr))
    (hu : P.underlying ty = some d) (hd : (match d with | .struct _ | .array _ _ => true | _ => false) = true) (hi : (P.info? ty).map (·.size) = some cs.size)
    (hq : tmps.getD q undef = .pointer (some ⟨k, 0, none⟩)) (hk : w.heap[k]? = some (.cells ds u fs))
    (hv : P.underlying uy = some e) (he : (match e with | .struct _ | .array _ _ => true | _ => false) = true) (hj : (P.info? uy).map (·.size) = some ds.size) :
    (results fn tmps).run P w = .ok (.tuple #[.agg cs, .agg ds]) w := by
  have hp' : tmps[p]?.getD undef = .pointer (some ⟨g, 0, none⟩) := by simpa using hp
  have hq' : tmps[q]?.getD undef = .pointer (some ⟨k, 0, none⟩) := by simpa using hq
  simp [results, h, hp', hq', asAddr, run_loadVar_row w g t ty cs fr d hg hu hd hi, run_loadVar_row w k u uy ds fs e hk hv he hj]
theorem drewN_heap (w : World) (n : Nat) : (w.drewN n).heap = w.heap := rfl
theorem writeTop1_any (t i c z : Int) (bu : Nat) (w : World) (hc : w.heap[bu]? = some (.cells #[.int .i64 c] 3 (0, 0))) (hz : wrap64 (wrap64 (t * c) + i) = z) :
    Calls Tryz.prog 136 #[.agg #[.int .i64 t, .int .i64 i], .pointer (some ⟨bu, 0, none⟩)] w fun e w' => e = .returned (.int .i64 z) ∧ Below w.heap.size w w' := by
  subst hz
  have hc' := fun o => box_cell (box_alloc hc o)
  go_enter Tryz.func136, Tryz.ntmps136
  go_wp2
  go_ret
  exact ⟨rfl, (Below.refl _ _).alloc (Nat.le_refl _) _⟩
/-- What readTop's closure makes of a word that is not below zero. -/
theorem readTop1_any (t i c z : Int) (bt : Nat) (w : World) (hc : w.heap[bt]? = some (.cells #[.int .i64 c] 3 (0, 0))) (h1 : 0 < c) (hq : wrap64 (z.tdiv c) = t) (hr : z.tmod c = i) (hi : 0 ≤ i) :
    Calls Tryz.prog 135 #[.int .i64 z, .pointer (some ⟨bt, 0, none⟩)] w fun e w' => e = .returned (.agg #[.int .i64 t, .int .i64 i]) ∧ Below w.heap.size w w' := by
  subst hq hr
  have hc' := fun o => box_cell (box_alloc hc o)
  go_enter Tryz.func135, Tryz.ntmps135
  go_wp2
  go_quiet (fail)
  go_wp2
  refine bodyPost_ret (results_cell_row rfl _ _ w.heap.size 154 #[.int .i64 (wrap64 (z.tdiv c)), .int .i64 (z.tmod c)] (0, 0) _ rfl ?_ Tryz.underlying154 rfl info103) rfl ⟨rfl, ?_⟩
  · exact set_blk (set_blk (heap_alloc_new w _) 0 _) 1 _
  · exact ((((Below.refl w.heap.size w).alloc (Nat.le_refl _) _).trans (below_drewN _ _ _)).setCell (p := ⟨w.heap.size, 0, none⟩) (Nat.le_refl _) _).setCell (p := ⟨w.heap.size, 1, none⟩) (Nat.le_refl _) _

/-- The views' boxes: how many links there are, three times. -/
structure Bx (w : World) (bw bs bt bu bl : Nat) (c : Int) : Prop where
  t : w.heap[bt]? = some (.cells #[.int .i64 c] 3 (0, 0))
  u : w.heap[bu]? = some (.cells #[.int .i64 c] 3 (0, 0))
  l : w.heap[bl]? = some (.cells #[.int .i64 c] 3 (0, 0))
  t1 : bt ≠ bw
  t2 : bt ≠ bs
  u1 : bu ≠ bw
  u2 : bu ≠ bs
  l1 : bl ≠ bw
  l2 : bl ≠ bs
section
variable {w w' : World} {bw bs bt bu bl : Nat} {c : Int}
theorem Bx.but (h : Bx w bw bs bt bu bl c) (k : But bw bs w w') : Bx w' bw bs bt bu bl c :=
  ⟨(k.block _ (box_lt h.t) h.t1 h.t2).trans h.t, (k.block _ (box_lt h.u) h.u1 h.u2).trans h.u, (k.block _ (box_lt h.l) h.l1 h.l2).trans h.l, h.t1, h.t2, h.u1, h.u2, h.l1, h.l2⟩
theorem Bx.below (h : Bx w bw bs bt bu bl c) (k : Below w.heap.size w w') : Bx w' bw bs bt bu bl c := h.but (But.of_below k)
theorem Bx.alloc (h : Bx w bw bs bt bu bl c) (o : Obj) : Bx (w.alloc o) bw bs bt bu bl c := h.below ((Below.refl _ _).alloc (Nat.le_refl _) o)
end

theorem two_in {w w1 : World} {o p : Obj} {u v : Value} (hb : Below ((w.alloc o).alloc p).heap.size ((w.alloc o).alloc p).drew w1) : Below w.heap.size w ((w1.setCell ⟨w.heap.size + 1, 0, none⟩ u).setCell ⟨w.heap.size + 1, 1, none⟩ v) :=
  (((((Below.refl w.heap.size w).alloc (Nat.le_refl _) o).alloc (by simp) p).trans ((below_drewN _ 1 _).trans (hb.mono (by simp; omega)))).setCell (p := ⟨w.heap.size + 1, 0, none⟩) (by simp) _).setCell (p := ⟨w.heap.size + 1, 1, none⟩) (by simp) _
theorem topPeek_ok {w : World} {b bw bs W G : Nat} {ws cs : Nat → Int} (h : Ar w b bw bs W G ws cs) {bt bu bl : Nat} {c t i : Int} (hx : Bx w bw bs bt bu bl c) (a : Nat) (ha : a < W) (h1 : 0 < c) (hq : wrap64 ((ws a).tdiv c) = t) (hr : (ws a).tmod c = i) (hi : 0 ≤ i) :
    Calls Tryz.prog 133 #[.agg #[.pointer (some ⟨b, 0, none⟩), .func (.func 135) #[] #[.pointer (some ⟨bt, 0, none⟩)], .func (.func 136) #[] #[.pointer (some ⟨bu, 0, none⟩)]], .int .i64 a] w fun e w' => e = .returned (.tuple #[.agg #[.int .i64 t, .int .i64 i], .int .i64 0]) ∧ Below w.heap.size w w' := by
  have hw : ∀ o p, ((w.alloc o).alloc p).cell? ⟨bw, a, none⟩ = some (.int .i64 (ws a)) := fun o p => ((h.words.alloc o).alloc p).cell ha
  have hB : ∀ o p, Bx ((w.alloc o).alloc p).drew bw bs bt bu bl c := fun o p => ((hx.alloc o).alloc p).below (below_drewN _ 1 _)
  go_enter Tryz.func133, Tryz.ntmps133
  go_wp2_with (go_at_call 74; refine (word_ok ((h.alloc _).alloc _) _ ha).mono ?_; rintro e w1 ⟨rfl, rfl⟩)
  go_region_with (go_at_call 135; refine (readTop1_any t i c (ws a) bt _ (hB _ _).t h1 hq hr hi).mono ?_; rintro e w1 ⟨rfl, hb⟩; have hk := laid2 hb; obtain ⟨c0, c1, f0, f1⟩ := blk2 hk)
  all_goals go_wp2
  all_goals
    refine bodyPost_ret (results_ct rfl _ _ (w.heap.size + 1) 154 #[.int .i64 t, .int .i64 i] (0, 0) _ rfl ?_ Tryz.underlying154 rfl info103) rfl ⟨rfl, ?_⟩
  all_goals first
    | exact set_blk (set_blk hk 0 _) 1 _
    | exact two_in hb
end Go.Proofs.YtojblddfggoecaaGreat
