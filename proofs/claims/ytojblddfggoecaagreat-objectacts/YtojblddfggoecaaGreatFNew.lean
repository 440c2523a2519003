/- New of a pool: the colours' table, the list of the free ones. -/
import Derived.Test.YtojblddfggoecaaGreatFAlloc
import Derived.Test.YtojblddfggoecaaGreatSApp
namespace Go.Proofs.YtojblddfggoecaaGreat
open Go.RowKit

theorem infoTB : (Tryz.prog.info? 71).map (·.size) = some 5 := by kernel_rfl
theorem blk_sets5 {u : World} {s ty : Nat} {a0 a1 a2 a3 a4 : Value} (h : u.heap[s]? = some (.cells #[a0, a1, a2, a3, a4] ty (0, 0))) (x0 x1 x2 x3 x4 : Value) :
    (((((u.setCell ⟨s, 0, none⟩ x0).setCell ⟨s, 1, none⟩ x1).setCell ⟨s, 2, none⟩ x2).setCell ⟨s, 3, none⟩ x3).setCell ⟨s, 4, none⟩ x4).heap[s]? = some (.cells #[x0, x1, x2, x3, x4] ty (0, 0)) := by
  have h0 : (u.setCell ⟨s, 0, none⟩ x0).heap[s]? = some (.cells #[x0, a1, a2, a3, a4] ty (0, 0)) := set_blk h 0 x0
  have h1 : ((u.setCell ⟨s, 0, none⟩ x0).setCell ⟨s, 1, none⟩ x1).heap[s]? = some (.cells #[x0, x1, a2, a3, a4] ty (0, 0)) := set_blk h0 1 x1
  have h2 : (((u.setCell ⟨s, 0, none⟩ x0).setCell ⟨s, 1, none⟩ x1).setCell ⟨s, 2, none⟩ x2).heap[s]? = some (.cells #[x0, x1, x2, a3, a4] ty (0, 0)) := set_blk h1 2 x2
  have h3 : ((((u.setCell ⟨s, 0, none⟩ x0).setCell ⟨s, 1, none⟩ x1).setCell ⟨s, 2, none⟩ x2).setCell ⟨s, 3, none⟩ x3).heap[s]? = some (.cells #[x0, x1, x2, x3, a4] ty (0, 0)) := set_blk h2 3 x3
  exact set_blk h3 4 x4
theorem oth_sets5 {u : World} {s j : Nat} (hj : j ≠ s) (x0 x1 x2 x3 x4 : Value) :
    (((((u.setCell ⟨s, 0, none⟩ x0).setCell ⟨s, 1, none⟩ x1).setCell ⟨s, 2, none⟩ x2).setCell ⟨s, 3, none⟩ x3).setCell ⟨s, 4, none⟩ x4).heap[j]? = u.heap[j]? := by
  rw [heap_put _ _ hj, heap_put _ _ hj, heap_put _ _ hj, heap_put _ _ hj, heap_put _ _ hj]
theorem bel_sets5 {B : Nat} {w u : World} {s : Nat} (h : Below B w u) (hs : B ≤ s) (x0 x1 x2 x3 x4 : Value) :
    Below B w (((((u.setCell ⟨s, 0, none⟩ x0).setCell ⟨s, 1, none⟩ x1).setCell ⟨s, 2, none⟩ x2).setCell ⟨s, 3, none⟩ x3).setCell ⟨s, 4, none⟩ x4) :=
  ((((h.setCell (p := ⟨s, 0, none⟩) hs _).setCell (p := ⟨s, 1, none⟩) hs _).setCell (p := ⟨s, 2, none⟩) hs _).setCell (p := ⟨s, 3, none⟩) hs _).setCell (p := ⟨s, 4, none⟩) hs _
set_option maxRecDepth 20000 in
set_option maxHeartbeats 2000000 in
theorem newTable_ok {w : World} {b bw bs W G : Nat} {ws cs : Nat → Int} (h : Ar w b bw bs W G ws cs) (x y : Int) (tb n : Nat) (hx : x = tb) (hy : y = n) (h1 : tb + n ≤ W) (hW : W ≤ 65536) :
    Calls Tryz.prog 42 #[.pointer (some ⟨b, 0, none⟩), .int .i64 x, .int .i64 y, .int .i64 3] w fun e w' => ∃ bc, e = .returned (.agg #[.pointer (some ⟨b, 0, none⟩), .func (.func 62) #[] #[.pointer (some ⟨bc, 0, none⟩)], .func (.func 63) #[] #[], .int .i64 tb, .int .i64 n]) ∧ w.heap.size ≤ bc ∧ w'.heap[bc]? = some (.cells #[.int .i64 3] 77 (0, 0)) ∧ Ar w' b bw bs W G (zap ws tb n) cs ∧ But bw bs w w' := by
  subst hx hy
  have hl := h.lts
  go_enter Tryz.func42, Tryz.ntmps42
  go_wp2_with (go_at_call 64; refine (viewC_ok b w.heap.size _).mono ?_; rintro e w1 ⟨rfl, hb1⟩)
  have s1 := hb1.size
  simp only [Go.Deep.nblk_alloc] at s1
  have z0 := ov hb1 (box_alloc (heap_alloc_new w (.cells #[.int .i64 3] 77)) _)
  have z1 := ov hb1 (heap_alloc_new (w.alloc (.cells #[.int .i64 3] 77)) (.cells #[.pointer none, .nilFunc, .nilFunc, .int .i64 0, .int .i64 0] 71))
  rw [Go.Deep.nblk_alloc] at z1
  have hA1 := ((h.alloc _).alloc _).below hb1
  have hB1 := (((But.refl bw bs w).alloc _).alloc _).trans (But.of_below hb1)
  clear hb1
  go_loopw [22] (fun v22 wr => ∃ i : Nat, i ≤ n ∧ v22 = .int .i64 i ∧ Ar wr b bw bs W G (zap ws tb i) cs ∧ But bw bs w wr ∧ wr.heap[w.heap.size]? = some (.cells #[.int .i64 3] 77 (0, 0)) ∧
    wr.heap[w.heap.size + 1]? = some (.cells #[.pointer none, .nilFunc, .nilFunc, .int .i64 0, .int .i64 0] 71 (0, 0)) ∧
    wr.heap[w1.heap.size]? = some (.cells #[.pointer (some ⟨b, 0, none⟩), .func (.func 62) #[] #[.pointer (some ⟨w.heap.size, 0, none⟩)], .func (.func 63) #[] #[], .int .i64 tb, .int .i64 n] 71 (0, 0))) (fun v22 _ => n - (intOf v22).toNat)
  case atStart => exact ⟨0, by omega, rfl, by rw [zap_none]; exact hA1.alloc _, hB1.alloc _, box_alloc z0 _, box_alloc z1 _, heap_alloc_new _ _⟩
  case round =>
    obtain ⟨i, hi, rfl, hA, hB, y0, y1, y2⟩ := hrel
    clear hA1 hB1 z0 z1
    have c2 := blk5 y2
    by_cases hlt : i < n
    · have hpk := cPoke_ok (bc := w.heap.size) hA (tb + i) 0 (by omega)
      rw [zap_next] at hpk
      simp only [Int.natCast_add] at hpk
      have hlt' : (i : Int) < n := by omega
      go_wp2_with (go_at_call 65; refine hpk.mono ?_; rintro e w2 ⟨rfl, hA2, hB2⟩)
      go_roundw
      case rel => exact ⟨i + 1, by omega, by go_num, hA2, hB.trans hB2, (hB2.block _ (box_lt y0) (by omega) (by omega)).trans y0, (hB2.block _ (box_lt y1) (by omega) (by omega)).trans y1, (hB2.block _ (box_lt y2) (by omega) (by omega)).trans y2⟩
      case measure => simp [intOf]; omega
    · obtain rfl : i = n := by omega
      have c1 := blk5 y1
      have f1 := frz y1
      go_wp2
      refine bodyPost_ret (results_cell_row rfl _ _ (w.heap.size + 1) 71 _ (0, 0) _ rfl (blk_sets5 y1 _ _ _ _ _) Tryz.underlying71 rfl infoTB) rfl ⟨w.heap.size, rfl, Nat.le_refl _, (oth_sets5 (by omega) _ _ _ _ _).trans y0, ?_, ?_⟩
      · exact h.fresh (h.fresh (h.fresh (h.fresh (h.fresh hA _ 0 _ (by omega)) _ 1 _ (by omega)) _ 2 _ (by omega)) _ 3 _ (by omega)) _ 4 _ (by omega)
      · exact ((((hB.fresh _ 0 _ (by omega)).fresh _ 1 _ (by omega)).fresh _ 2 _ (by omega)).fresh _ 3 _ (by omega)).fresh _ 4 _ (by omega)

theorem infoLI : (Tryz.prog.info? 74).map (·.size) = some 1 := by kernel_rfl
theorem infoPS : (Tryz.prog.info? 99).map (fun i => (i.zero, i.size, i.bytes)) = some (some (.pointer none), 1, 8) := by kernel_rfl
/-- The first stack of a list. -/
theorem app_stack (W : World) (s : Nat) : ∃ pl k w', (Builtin.append_ #[72, 72] 72 #[.slice none 0 0, .slice (some ⟨W.heap.size, 0, none⟩) 1 1]).run Tryz.prog (W.alloc (.cells #[.pointer (some ⟨s, 0, none⟩)] 99)) = .ok (.slice (some ⟨pl, 0, none⟩) 1 k) w' ∧
    w'.cell? ⟨pl, 0, none⟩ = some (.pointer (some ⟨s, 0, none⟩)) ∧ W.heap.size ≤ pl ∧ Below W.heap.size W w' := by
  obtain ⟨i, hi, hz, hs, hby⟩ := info_parts infoPS
  obtain ⟨v', w', hr, ho, hg, _⟩ := run_append_own_wide (P := Tryz.prog) (W.alloc (.cells #[.pointer (some ⟨s, 0, none⟩)] 99)) W.heap.size 72 72 99 i _ 1 8 Tryz.underlying72 hi hz hs hby rfl (by decide) (.slice none 0 0) 0 [] (World.ownsRow_nil _ _ _ _) ⟨W.heap.size, 0, none⟩ 1 1 [.pointer (some ⟨s, 0, none⟩)] rfl (cell_one_new W (.pointer (some ⟨s, 0, none⟩)) 99) (by intro u hu; simp at hu; subst hu; rfl) (by unfold maxLen; omega) (by omega) (by simp)
  rcases ho.2 with ⟨rfl, q⟩ | ⟨g, cap, cur, rfl, hb, hg', hc, hm, hs', ht⟩
  · simp at q
  · refine ⟨g, cap, w', hr, ?_, hb, ?_⟩
    · simp at ht
      have : cur[0]? = some (.pointer (some ⟨s, 0, none⟩)) := by
        have e := congrArg (fun l : List Value => l[0]?) ht
        simpa using e
      simp [World.cell?, hg', this]
    · exact ((Below.refl _ _).alloc (Nat.le_refl _) _).trans ⟨hg.os, hg.tape, hg.output, hg.size, fun j hj => hg.block j (by simp; omega) (by simp [Value.ownBlock])⟩
theorem wpList_appS {P : Program} {ops : Array Oper} {rest : List Oper} {o : Oper} {a : Act} {Q : Exit → Act → World → Prop} {w w' : World} {v vx v' : Value} (s x : Operand) (hr : (Builtin.append_ #[72, 72] 72 #[v, vx]).run P w = .ok v' w')
    (hgd : o.guard = none) (ho : o.op = .call { callee := .builtin .append, args := #[s, x], argTypes := #[72, 72] }) (hty : o.type = 72) (hs : a.eval s = v) (hx : a.eval x = vx) (h : wpList P ops Q rest (a.put o.dst v') w') : wpList P ops Q (o :: rest) a w := by
  refine wpList_plain hgd fun K hK => ?_
  unfold Oper.wp execOp
  simp only [ho, hty, resolve, invoke, builtin, Sem.run_bind, Sem.run_pure, Result.andThen_ok, List.map_toArray, List.map_cons, List.map_nil, hs, hx, hr]
  exact hK _ _ h
def Listed (w : World) (b bw bs W G tb n : Nat) (ws cs : Nat → Int) (Q : Nat → Prop) (s pl : Nat) (w' : World) : Prop :=
  Good w' Q s ⟨b, W, tb, ws⟩ G n cs calm 0 (up n 1) ∧ Bt (fun j => j = bw ∨ j = bs) w w' ∧ (∀ j, Q j → j = b ∨ j = bw ∨ j = bs ∨ w.heap.size + 2 ≤ j) ∧ w'.cell? ⟨pl, 0, none⟩ = some (.pointer (some ⟨s, 0, none⟩)) ∧ w.heap.size + 2 ≤ pl ∧ ¬ Q pl
theorem Listed.put {w w' : World} {b bw bs W G tb n : Nat} {ws cs : Nat → Int} {Q : Nat → Prop} {s pl : Nat} (h : Listed w b bw bs W G tb n ws cs Q s pl w') (hb : b < w.heap.size ∧ bw < w.heap.size ∧ bs < w.heap.size) (r i : Nat) (v : Value) (h1 : w.heap.size ≤ r) (h2 : r < w.heap.size + 2) : Listed w b bw bs W G tb n ws cs Q s pl (w'.setCell ⟨r, i, none⟩ v) := by
  obtain ⟨hG, hB, hQ, hc, hl, hq⟩ := h
  exact ⟨hG.put (fun q => by rcases hQ r q with e | e | e | e <;> omega) i v, hB.set r i v (.inr h1), hQ, (cell_of (a := ⟨pl, 0, none⟩) (heap_put _ _ (by show pl ≠ r; omega))).trans hc, hl, hq⟩
set_option maxRecDepth 20000 in
set_option maxHeartbeats 2000000 in
theorem newList_ok {w : World} {b bw bs W G : Nat} {ws cs : Nat → Int} (h : Ar w b bw bs W G ws cs) (x y : Int) (tb n : Nat) (hx : x = tb) (hy : y = n) (n1 : 1 ≤ n) (n2 : n ≤ 1000) (h1 : tb + (2 * n + 8) ≤ W) (hW : W ≤ 65536) (hG : G ≤ 12) :
    Calls Tryz.prog 43 #[.pointer (some ⟨b, 0, none⟩), .int .i64 x, .int .i64 y] w fun e w' => ∃ Q s pl k, e = .returned (.agg #[.slice (some ⟨pl, 0, none⟩) 1 k]) ∧ Listed w b bw bs W G tb n ws cs Q s pl w' := by
  subst hx hy
  have hl := h.lts
  have hb := h.lt
  go_enter Tryz.func43, Tryz.ntmps43
  go_wp2
  go_loopw [1, 2] (fun v1 v2 wr => wr.heap[w.heap.size]? = some (.cells #[.slice none 0 0] 74 (0, 0)) ∧ ((v1 = .int .i64 tb ∧ v2 = .int .i64 n ∧ Below w.heap.size w wr ∧ w.heap.size + 2 ≤ wr.heap.size ∧ wr.heap[w.heap.size + 1]? = some (.cells #[.slice none 0 0] 74 (0, 0))) ∨
    (v2 = .int .i64 0 ∧ ∃ Q s pl k, wr.heap[w.heap.size + 1]? = some (.cells #[.slice (some ⟨pl, 0, none⟩) 1 k] 74 (0, 0)) ∧ Listed w b bw bs W G tb n ws cs Q s pl wr))) (fun _ v2 _ => (intOf v2).toNat)
  case atStart =>
    have z1 := heap_alloc_new (w.alloc (.cells #[.slice none 0 0] 74)) (.cells #[.slice none 0 0] 74)
    rw [Go.Deep.nblk_alloc] at z1
    exact ⟨box_alloc (heap_alloc_new w _) _, .inl ⟨rfl, rfl, two_below _ _ _, by simp, z1⟩⟩
  case round =>
    obtain ⟨y0, ⟨rfl, rfl, hb1, hs1, y1⟩ | ⟨rfl, Q, s, pl, k, y1, hL⟩⟩ := hrel
    · have hf := newFull_ok (h.below hb1) tb n n1 n2 h1 hG hW
      have c1 := box_cell y1
      have hmin : min (n : Int) 1000 = n := by omega
      have n1' : (0 : Int) < n := by omega
      go_wp2_with (first | (at_builtin; refine wpList_appS _ _ hrun rfl rfl rfl rfl rfl ?_; clear hrun) | (go_at_call 67; refine (room_ok _ _ (by omega) (by omega)).mono ?_; rintro e w4 ⟨rfl, rfl⟩) | (go_at_call 66; refine hf.mono ?_; rintro e w2 ⟨s, Q, rfl, hG2, hB2, hQ2⟩; obtain ⟨pl, k, w3, hrun, hc3, hl3, hb3⟩ := app_stack w2 s; have z1 := (hB2.block _ (box_lt y1) (by omega)).trans y1; have z1' := box_alloc z1 (.cells #[.pointer (some ⟨s, 0, none⟩)] 99); have z2 := ov hb3 z1; have e1 := box_cell z1; have e2 := box_cell z2; have e3 := frz z2))
      go_roundw
      case rel =>
        have s2 := hB2.size
        have y0' := ov hb3 ((hB2.block _ (box_lt y0) (by omega)).trans y0)
        have hLs : Listed w b bw bs W G tb n ws cs Q s pl w3 := ⟨hG2.below hb3, ((Bt.of_below hb1).trans hB2).trans (Bt.of_below hb3), fun j hj => by rcases hQ2 j hj with e | e | e | e; exact .inl e; exact .inr (.inl e); exact .inr (.inr (.inl e)); exact .inr (.inr (.inr (by omega))), hc3, by omega, fun q => by have := hG2.lt pl q; omega⟩
        exact ⟨(heap_put _ _ (by show w.heap.size ≠ w.heap.size + 1; omega)).trans y0', .inr ⟨by go_num, Q, s, pl, k, set_blk z2 0 _, hLs.put ⟨hb, hl.1, hl.2⟩ _ 0 _ (by omega) (by omega)⟩⟩
      case measure => simp [intOf]; omega
    · have c0 := box_cell y0
      have c1 := box_cell y1
      have f0 := frz y0
      go_wp2
      exact bodyPost_ret (results_cell_row rfl _ _ w.heap.size 74 _ (0, 0) _ rfl (set_blk y0 0 _) Tryz.underlying74 rfl infoLI) rfl ⟨Q, s, pl, k, rfl, hL.put ⟨hb, hl.1, hl.2⟩ _ 0 _ (by omega) (by omega)⟩
end Go.Proofs.YtojblddfggoecaaGreat
