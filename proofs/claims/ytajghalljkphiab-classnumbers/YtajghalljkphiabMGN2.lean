/- Walks of ClassNumbers. -/
import Derived.Test.YtajghalljkphiabMGN1
import Derived.Deep.DeepCutAuto
namespace Go.Proofs.Ytajghalljkphiab
open Go.RowKit

theorem num0_R {w U : World} {bp bc bm bi : Nat} {x : Int} (h : One w U bp bc bm bi) : kPg.R (U.setCell ⟨bp, 0, none⟩ (.int .i64 x)) (fun k => k < (U.setCell ⟨bp, 0, none⟩ (.int .i64 x)).heap.size) (numP 0 x) [.int .i64 x, .slice (some ⟨bc, 0, none⟩) 1 1] ∧ Below w.heap.size w (U.setCell ⟨bp, 0, none⟩ (.int .i64 x)) := by
  obtain ⟨n1, n2, n3, n4, n5, n6⟩ := h.ne
  obtain ⟨l1, l2, l3, l4⟩ := h.low
  have kbp := blk_lt h.prg
  have kbc := blk_lt h.cls
  have kbm := blk_lt h.met
  have kbi := blk_lt h.ins
  have hz0 : (U.setCell ⟨bp, 0, none⟩ (.int .i64 x)).heap.size = U.heap.size := size_set
  have hsz : (U.setCell ⟨bp, 0, none⟩ (.int .i64 x)).heap.size = U.heap.size := hz0
  have fbc : (U.setCell ⟨bp, 0, none⟩ (.int .i64 x)).heap[bc]? = some (.cells #[.string ⟨#[77]⟩, .bool false, .bool false, .int .i64 0, .slice none 0 0, .slice none 0 0, .slice none 0 0, .slice (some ⟨bm, 0, none⟩) 1 1] 37 (0, 0)) := by exact (blk_set (by omega)).trans h.cls
  have fbm : (U.setCell ⟨bp, 0, none⟩ (.int .i64 x)).heap[bm]? = some (.cells #[.string ⟨#[109, 97, 105, 110]⟩, .bool true, .slice none 0 0, .int .i64 0, .int .i64 0, .int .i64 0, .slice (some ⟨bi, 0, none⟩) 1 1, .slice none 0 0, .slice none 0 0] 33 (0, 0)) := by exact (blk_set (by omega)).trans h.met
  have fbi : (U.setCell ⟨bp, 0, none⟩ (.int .i64 x)).heap[bi]? = some (.cells #[.int .i64 29, .int .i64 0, .int .i64 0] 39 (0, 0)) := by exact (blk_set (by omega)).trans h.ins
  refine ⟨one_R fbc fbm (by show bc < _; omega) (by show bm < _; omega) (Sl.nil _ _ _) (Sl.nil _ _ _) (Sl.nil _ _ _) (Sl.nil _ _ _) (Sl.one1 fbi (by show bi < _; omega) rfl) (Sl.nil _ _ _) (Sl.nil _ _ _), ?_⟩
  exact (h.bel.setCell (by show w.heap.size ≤ bp; omega) _)
set_option maxHeartbeats 4000000 in
set_option maxRecDepth 20000 in
theorem num0_y0 {wh x : Int} {b : ByteArray} (w : World) (hk : bits BinOp.and .i64 wh 7 = 0) (d1 : decide (-2147483648 ≤ x) = true) (d2 : decide (x ≤ 2147483647) = true) (he : encP (numP 0 x) = .ok b) : Calls Try.prog 3 #[.int .i64 wh, .int .i64 x] w fun e w' => e = .returned (.bool true) ∧ Below w.heap.size w w' := by
  have hA := awake14 w
  have HE : Hid (encP (numP 0 x) = .ok b) := he
  clear he
  go_enter Try.func3, Try.ntmps3
  go_upto_region 4 with (first
    | (go_at_call 5; refine hA.mono ?_; rintro e w1 ⟨rfl, hb1⟩; clear hA; have hT := TinyM w1; have H1 : Hid (Below w.heap.size w w1) := hb1; clear hb1)
    | (go_at_call 6; refine hT.mono ?_; rintro e w2 ⟨hb2, rfl, hT2⟩; clear hT; have HO : Hid (One w (w2.alloc (.cells #[.int .i64 11, .slice (some ⟨w1.heap.size + 1 + 1 + 1 + 1, 0, none⟩) 1 1] 25)) w2.heap.size (w1.heap.size + 1 + 1 + 1 + 1) (w1.heap.size + 1 + 1 + 1) (w1.heap.size + 1)) := one_of H1.out hb2 hT2; clear hT2 hb2 H1))
  generalize hU : w2.alloc (.cells #[.int .i64 11, .slice (some ⟨w1.heap.size + 1 + 1 + 1 + 1, 0, none⟩) 1 1] 25) = U at *
  clear hU
  generalize hbp : w2.heap.size = bp at *
  clear hbp
  generalize hbc : w1.heap.size + 1 + 1 + 1 + 1 = bc at *
  generalize hbm : w1.heap.size + 1 + 1 + 1 = bm at *
  generalize hbi : w1.heap.size + 1 = bi at *
  clear hbc hbm hbi
  have hO := HO.out
  have p0 : U.cell? ⟨bp, 0, none⟩ = some (.int .i64 11) := by simp [World.cell?, hO.prg]
  have p1 : U.cell? ⟨bp, 1, none⟩ = some (.slice (some ⟨bc, 0, none⟩) 1 1) := by simp [World.cell?, hO.prg]
  have c7 : U.cell? ⟨bc, 7, none⟩ = some (.slice (some ⟨bm, 0, none⟩) 1 1) := by simp [World.cell?, hO.cls]
  have m6 : U.cell? ⟨bm, 6, none⟩ = some (.slice (some ⟨bi, 0, none⟩) 1 1) := by simp [World.cell?, hO.met]
  obtain ⟨n1, n2, n3, n4, n5, n6⟩ := hO.ne
  have kbp := blk_lt hO.prg
  have kbc := blk_lt hO.cls
  have kbm := blk_lt hO.met
  have kbi := blk_lt hO.ins
  have ft : U.frozen? ⟨bp, 0, none⟩ = false := by simp [World.frozen?, hO.prg]
  have ct : U.cell? ⟨bp, 0, none⟩ = some (.int .i64 11) := by simp [World.cell?, hO.prg]
  have HB : Hid (Below w.heap.size w (U.setCell ⟨bp, 0, none⟩ (.int .i64 x))) := (num0_R hO).2
  have hB : Calls Try.prog 7 #[.agg #[.int .i64 x, .slice (some ⟨bc, 0, none⟩) 1 1]] (U.setCell ⟨bp, 0, none⟩ (.int .i64 x)) fun e w' => e = .returned (.bool true) ∧ Below (U.setCell ⟨bp, 0, none⟩ (.int .i64 x)).heap.size (U.setCell ⟨bp, 0, none⟩ (.int .i64 x)) w' := back_yes HE.out (U.setCell ⟨bp, 0, none⟩ (.int .i64 x)) (fun _ h => h) (num0_R hO).1
  clear hO
  go_wp2_with (go_at_call 7; refine hB.mono ?_; rintro e w9 ⟨rfl, hb9⟩; have HF : Hid (Below w.heap.size w w9) := HB.out.trans (hb9.mono HB.out.size); clear hB hb9)
  go_ret
  exact ⟨rfl, HF.out⟩
set_option maxHeartbeats 4000000 in
set_option maxRecDepth 20000 in
theorem num0_n0 {wh x : Int} (w : World) (hk : bits BinOp.and .i64 wh 7 = 0) (d1 : decide (-2147483648 ≤ x) = false) (he : encP (numP 0 x) = .error 1402) : Calls Try.prog 3 #[.int .i64 wh, .int .i64 x] w fun e w' => e = .returned (.bool true) ∧ Below w.heap.size w w' := by
  have hA := awake14 w
  have HE : Hid (encP (numP 0 x) = .error 1402) := he
  clear he
  go_enter Try.func3, Try.ntmps3
  go_upto_region 4 with (first
    | (go_at_call 5; refine hA.mono ?_; rintro e w1 ⟨rfl, hb1⟩; clear hA; have hT := TinyM w1; have H1 : Hid (Below w.heap.size w w1) := hb1; clear hb1)
    | (go_at_call 6; refine hT.mono ?_; rintro e w2 ⟨hb2, rfl, hT2⟩; clear hT; have HO : Hid (One w (w2.alloc (.cells #[.int .i64 11, .slice (some ⟨w1.heap.size + 1 + 1 + 1 + 1, 0, none⟩) 1 1] 25)) w2.heap.size (w1.heap.size + 1 + 1 + 1 + 1) (w1.heap.size + 1 + 1 + 1) (w1.heap.size + 1)) := one_of H1.out hb2 hT2; clear hT2 hb2 H1))
  generalize hU : w2.alloc (.cells #[.int .i64 11, .slice (some ⟨w1.heap.size + 1 + 1 + 1 + 1, 0, none⟩) 1 1] 25) = U at *
  clear hU
  generalize hbp : w2.heap.size = bp at *
  clear hbp
  generalize hbc : w1.heap.size + 1 + 1 + 1 + 1 = bc at *
  generalize hbm : w1.heap.size + 1 + 1 + 1 = bm at *
  generalize hbi : w1.heap.size + 1 = bi at *
  clear hbc hbm hbi
  have hO := HO.out
  have p0 : U.cell? ⟨bp, 0, none⟩ = some (.int .i64 11) := by simp [World.cell?, hO.prg]
  have p1 : U.cell? ⟨bp, 1, none⟩ = some (.slice (some ⟨bc, 0, none⟩) 1 1) := by simp [World.cell?, hO.prg]
  have c7 : U.cell? ⟨bc, 7, none⟩ = some (.slice (some ⟨bm, 0, none⟩) 1 1) := by simp [World.cell?, hO.cls]
  have m6 : U.cell? ⟨bm, 6, none⟩ = some (.slice (some ⟨bi, 0, none⟩) 1 1) := by simp [World.cell?, hO.met]
  obtain ⟨n1, n2, n3, n4, n5, n6⟩ := hO.ne
  have kbp := blk_lt hO.prg
  have kbc := blk_lt hO.cls
  have kbm := blk_lt hO.met
  have kbi := blk_lt hO.ins
  have ft : U.frozen? ⟨bp, 0, none⟩ = false := by simp [World.frozen?, hO.prg]
  have ct : U.cell? ⟨bp, 0, none⟩ = some (.int .i64 11) := by simp [World.cell?, hO.prg]
  have HB : Hid (Below w.heap.size w (U.setCell ⟨bp, 0, none⟩ (.int .i64 x))) := (num0_R hO).2
  have hB : Calls Try.prog 8 #[.agg #[.int .i64 x, .slice (some ⟨bc, 0, none⟩) 1 1], .int .i64 1402] (U.setCell ⟨bp, 0, none⟩ (.int .i64 x)) fun e w' => e = .returned (.bool true) ∧ Below (U.setCell ⟨bp, 0, none⟩ (.int .i64 x)).heap.size (U.setCell ⟨bp, 0, none⟩ (.int .i64 x)) w' := refuses_yes HE.out (U.setCell ⟨bp, 0, none⟩ (.int .i64 x)) (fun _ h => h) (num0_R hO).1
  clear hO
  go_wp2_with (go_at_call 8; refine hB.mono ?_; rintro e w9 ⟨rfl, hb9⟩; have HF : Hid (Below w.heap.size w w9) := HB.out.trans (hb9.mono HB.out.size); clear hB hb9)
  go_ret
  exact ⟨rfl, HF.out⟩
set_option maxHeartbeats 4000000 in
set_option maxRecDepth 20000 in
theorem num0_n1 {wh x : Int} (w : World) (hk : bits BinOp.and .i64 wh 7 = 0) (d1 : decide (-2147483648 ≤ x) = true) (d2 : decide (x ≤ 2147483647) = false) (he : encP (numP 0 x) = .error 1402) : Calls Try.prog 3 #[.int .i64 wh, .int .i64 x] w fun e w' => e = .returned (.bool true) ∧ Below w.heap.size w w' := by
  have hA := awake14 w
  have HE : Hid (encP (numP 0 x) = .error 1402) := he
  clear he
  go_enter Try.func3, Try.ntmps3
  go_upto_region 4 with (first
    | (go_at_call 5; refine hA.mono ?_; rintro e w1 ⟨rfl, hb1⟩; clear hA; have hT := TinyM w1; have H1 : Hid (Below w.heap.size w w1) := hb1; clear hb1)
    | (go_at_call 6; refine hT.mono ?_; rintro e w2 ⟨hb2, rfl, hT2⟩; clear hT; have HO : Hid (One w (w2.alloc (.cells #[.int .i64 11, .slice (some ⟨w1.heap.size + 1 + 1 + 1 + 1, 0, none⟩) 1 1] 25)) w2.heap.size (w1.heap.size + 1 + 1 + 1 + 1) (w1.heap.size + 1 + 1 + 1) (w1.heap.size + 1)) := one_of H1.out hb2 hT2; clear hT2 hb2 H1))
  generalize hU : w2.alloc (.cells #[.int .i64 11, .slice (some ⟨w1.heap.size + 1 + 1 + 1 + 1, 0, none⟩) 1 1] 25) = U at *
  clear hU
  generalize hbp : w2.heap.size = bp at *
  clear hbp
  generalize hbc : w1.heap.size + 1 + 1 + 1 + 1 = bc at *
  generalize hbm : w1.heap.size + 1 + 1 + 1 = bm at *
  generalize hbi : w1.heap.size + 1 = bi at *
  clear hbc hbm hbi
  have hO := HO.out
  have p0 : U.cell? ⟨bp, 0, none⟩ = some (.int .i64 11) := by simp [World.cell?, hO.prg]
  have p1 : U.cell? ⟨bp, 1, none⟩ = some (.slice (some ⟨bc, 0, none⟩) 1 1) := by simp [World.cell?, hO.prg]
  have c7 : U.cell? ⟨bc, 7, none⟩ = some (.slice (some ⟨bm, 0, none⟩) 1 1) := by simp [World.cell?, hO.cls]
  have m6 : U.cell? ⟨bm, 6, none⟩ = some (.slice (some ⟨bi, 0, none⟩) 1 1) := by simp [World.cell?, hO.met]
  obtain ⟨n1, n2, n3, n4, n5, n6⟩ := hO.ne
  have kbp := blk_lt hO.prg
  have kbc := blk_lt hO.cls
  have kbm := blk_lt hO.met
  have kbi := blk_lt hO.ins
  have ft : U.frozen? ⟨bp, 0, none⟩ = false := by simp [World.frozen?, hO.prg]
  have ct : U.cell? ⟨bp, 0, none⟩ = some (.int .i64 11) := by simp [World.cell?, hO.prg]
  have HB : Hid (Below w.heap.size w (U.setCell ⟨bp, 0, none⟩ (.int .i64 x))) := (num0_R hO).2
  have hB : Calls Try.prog 8 #[.agg #[.int .i64 x, .slice (some ⟨bc, 0, none⟩) 1 1], .int .i64 1402] (U.setCell ⟨bp, 0, none⟩ (.int .i64 x)) fun e w' => e = .returned (.bool true) ∧ Below (U.setCell ⟨bp, 0, none⟩ (.int .i64 x)).heap.size (U.setCell ⟨bp, 0, none⟩ (.int .i64 x)) w' := refuses_yes HE.out (U.setCell ⟨bp, 0, none⟩ (.int .i64 x)) (fun _ h => h) (num0_R hO).1
  clear hO
  go_wp2_with (go_at_call 8; refine hB.mono ?_; rintro e w9 ⟨rfl, hb9⟩; have HF : Hid (Below w.heap.size w w9) := HB.out.trans (hb9.mono HB.out.size); clear hB hb9)
  go_ret
  exact ⟨rfl, HF.out⟩
theorem num1_R {w U : World} {bp bc bm bi : Nat} {x : Int} (h : One w U bp bc bm bi) : kPg.R (U.setCell ⟨bc, 3, none⟩ (.int .i64 x)) (fun k => k < (U.setCell ⟨bc, 3, none⟩ (.int .i64 x)).heap.size) (numP 1 x) [.int .i64 11, .slice (some ⟨bc, 0, none⟩) 1 1] ∧ Below w.heap.size w (U.setCell ⟨bc, 3, none⟩ (.int .i64 x)) := by
  obtain ⟨n1, n2, n3, n4, n5, n6⟩ := h.ne
  obtain ⟨l1, l2, l3, l4⟩ := h.low
  have kbp := blk_lt h.prg
  have kbc := blk_lt h.cls
  have kbm := blk_lt h.met
  have kbi := blk_lt h.ins
  have hz0 : (U.setCell ⟨bc, 3, none⟩ (.int .i64 x)).heap.size = U.heap.size := size_set
  have hsz : (U.setCell ⟨bc, 3, none⟩ (.int .i64 x)).heap.size = U.heap.size := hz0
  have fbc : (U.setCell ⟨bc, 3, none⟩ (.int .i64 x)).heap[bc]? = some (.cells #[.string ⟨#[77]⟩, .bool false, .bool false, .int .i64 x, .slice none 0 0, .slice none 0 0, .slice none 0 0, .slice (some ⟨bm, 0, none⟩) 1 1] 37 (0, 0)) := by exact hset h.cls _
  have fbm : (U.setCell ⟨bc, 3, none⟩ (.int .i64 x)).heap[bm]? = some (.cells #[.string ⟨#[109, 97, 105, 110]⟩, .bool true, .slice none 0 0, .int .i64 0, .int .i64 0, .int .i64 0, .slice (some ⟨bi, 0, none⟩) 1 1, .slice none 0 0, .slice none 0 0] 33 (0, 0)) := by exact (blk_set (by omega)).trans h.met
  have fbi : (U.setCell ⟨bc, 3, none⟩ (.int .i64 x)).heap[bi]? = some (.cells #[.int .i64 29, .int .i64 0, .int .i64 0] 39 (0, 0)) := by exact (blk_set (by omega)).trans h.ins
  refine ⟨one_R fbc fbm (by show bc < _; omega) (by show bm < _; omega) (Sl.nil _ _ _) (Sl.nil _ _ _) (Sl.nil _ _ _) (Sl.nil _ _ _) (Sl.one1 fbi (by show bi < _; omega) rfl) (Sl.nil _ _ _) (Sl.nil _ _ _), ?_⟩
  exact (h.bel.setCell (by show w.heap.size ≤ bc; omega) _)
set_option maxHeartbeats 4000000 in
set_option maxRecDepth 20000 in
theorem num1_y0 {wh x : Int} {b : ByteArray} (w : World) (hk : bits BinOp.and .i64 wh 7 = 1) (d1 : decide (-2147483648 ≤ x) = true) (d2 : decide (x ≤ 2147483647) = true) (he : encP (numP 1 x) = .ok b) : Calls Try.prog 3 #[.int .i64 wh, .int .i64 x] w fun e w' => e = .returned (.bool true) ∧ Below w.heap.size w w' := by
  have hA := awake14 w
  have HE : Hid (encP (numP 1 x) = .ok b) := he
  clear he
  go_enter Try.func3, Try.ntmps3
  go_upto_region 4 with (first
    | (go_at_call 5; refine hA.mono ?_; rintro e w1 ⟨rfl, hb1⟩; clear hA; have hT := TinyM w1; have H1 : Hid (Below w.heap.size w w1) := hb1; clear hb1)
    | (go_at_call 6; refine hT.mono ?_; rintro e w2 ⟨hb2, rfl, hT2⟩; clear hT; have HO : Hid (One w (w2.alloc (.cells #[.int .i64 11, .slice (some ⟨w1.heap.size + 1 + 1 + 1 + 1, 0, none⟩) 1 1] 25)) w2.heap.size (w1.heap.size + 1 + 1 + 1 + 1) (w1.heap.size + 1 + 1 + 1) (w1.heap.size + 1)) := one_of H1.out hb2 hT2; clear hT2 hb2 H1))
  generalize hU : w2.alloc (.cells #[.int .i64 11, .slice (some ⟨w1.heap.size + 1 + 1 + 1 + 1, 0, none⟩) 1 1] 25) = U at *
  clear hU
  generalize hbp : w2.heap.size = bp at *
  clear hbp
  generalize hbc : w1.heap.size + 1 + 1 + 1 + 1 = bc at *
  generalize hbm : w1.heap.size + 1 + 1 + 1 = bm at *
  generalize hbi : w1.heap.size + 1 = bi at *
  clear hbc hbm hbi
  have hO := HO.out
  have p0 : U.cell? ⟨bp, 0, none⟩ = some (.int .i64 11) := by simp [World.cell?, hO.prg]
  have p1 : U.cell? ⟨bp, 1, none⟩ = some (.slice (some ⟨bc, 0, none⟩) 1 1) := by simp [World.cell?, hO.prg]
  have c7 : U.cell? ⟨bc, 7, none⟩ = some (.slice (some ⟨bm, 0, none⟩) 1 1) := by simp [World.cell?, hO.cls]
  have m6 : U.cell? ⟨bm, 6, none⟩ = some (.slice (some ⟨bi, 0, none⟩) 1 1) := by simp [World.cell?, hO.met]
  obtain ⟨n1, n2, n3, n4, n5, n6⟩ := hO.ne
  have kbp := blk_lt hO.prg
  have kbc := blk_lt hO.cls
  have kbm := blk_lt hO.met
  have kbi := blk_lt hO.ins
  have ft : U.frozen? ⟨bc, 3, none⟩ = false := by simp [World.frozen?, hO.cls]
  have ct : U.cell? ⟨bc, 3, none⟩ = some (.int .i64 0) := by simp [World.cell?, hO.cls]
  have HB : Hid (Below w.heap.size w (U.setCell ⟨bc, 3, none⟩ (.int .i64 x))) := (num1_R hO).2
  have hB : Calls Try.prog 7 #[.agg #[.int .i64 11, .slice (some ⟨bc, 0, none⟩) 1 1]] (U.setCell ⟨bc, 3, none⟩ (.int .i64 x)) fun e w' => e = .returned (.bool true) ∧ Below (U.setCell ⟨bc, 3, none⟩ (.int .i64 x)).heap.size (U.setCell ⟨bc, 3, none⟩ (.int .i64 x)) w' := back_yes HE.out (U.setCell ⟨bc, 3, none⟩ (.int .i64 x)) (fun _ h => h) (num1_R hO).1
  clear hO
  go_wp2_with (go_at_call 7; refine hB.mono ?_; rintro e w9 ⟨rfl, hb9⟩; have HF : Hid (Below w.heap.size w w9) := HB.out.trans (hb9.mono HB.out.size); clear hB hb9)
  go_ret
  exact ⟨rfl, HF.out⟩
set_option maxHeartbeats 4000000 in
set_option maxRecDepth 20000 in
theorem num1_n0 {wh x : Int} (w : World) (hk : bits BinOp.and .i64 wh 7 = 1) (d1 : decide (-2147483648 ≤ x) = false) (he : encP (numP 1 x) = .error 1402) : Calls Try.prog 3 #[.int .i64 wh, .int .i64 x] w fun e w' => e = .returned (.bool true) ∧ Below w.heap.size w w' := by
  have hA := awake14 w
  have HE : Hid (encP (numP 1 x) = .error 1402) := he
  clear he
  go_enter Try.func3, Try.ntmps3
  go_upto_region 4 with (first
    | (go_at_call 5; refine hA.mono ?_; rintro e w1 ⟨rfl, hb1⟩; clear hA; have hT := TinyM w1; have H1 : Hid (Below w.heap.size w w1) := hb1; clear hb1)
    | (go_at_call 6; refine hT.mono ?_; rintro e w2 ⟨hb2, rfl, hT2⟩; clear hT; have HO : Hid (One w (w2.alloc (.cells #[.int .i64 11, .slice (some ⟨w1.heap.size + 1 + 1 + 1 + 1, 0, none⟩) 1 1] 25)) w2.heap.size (w1.heap.size + 1 + 1 + 1 + 1) (w1.heap.size + 1 + 1 + 1) (w1.heap.size + 1)) := one_of H1.out hb2 hT2; clear hT2 hb2 H1))
  generalize hU : w2.alloc (.cells #[.int .i64 11, .slice (some ⟨w1.heap.size + 1 + 1 + 1 + 1, 0, none⟩) 1 1] 25) = U at *
  clear hU
  generalize hbp : w2.heap.size = bp at *
  clear hbp
  generalize hbc : w1.heap.size + 1 + 1 + 1 + 1 = bc at *
  generalize hbm : w1.heap.size + 1 + 1 + 1 = bm at *
  generalize hbi : w1.heap.size + 1 = bi at *
  clear hbc hbm hbi
  have hO := HO.out
  have p0 : U.cell? ⟨bp, 0, none⟩ = some (.int .i64 11) := by simp [World.cell?, hO.prg]
  have p1 : U.cell? ⟨bp, 1, none⟩ = some (.slice (some ⟨bc, 0, none⟩) 1 1) := by simp [World.cell?, hO.prg]
  have c7 : U.cell? ⟨bc, 7, none⟩ = some (.slice (some ⟨bm, 0, none⟩) 1 1) := by simp [World.cell?, hO.cls]
  have m6 : U.cell? ⟨bm, 6, none⟩ = some (.slice (some ⟨bi, 0, none⟩) 1 1) := by simp [World.cell?, hO.met]
  obtain ⟨n1, n2, n3, n4, n5, n6⟩ := hO.ne
  have kbp := blk_lt hO.prg
  have kbc := blk_lt hO.cls
  have kbm := blk_lt hO.met
  have kbi := blk_lt hO.ins
  have ft : U.frozen? ⟨bc, 3, none⟩ = false := by simp [World.frozen?, hO.cls]
  have ct : U.cell? ⟨bc, 3, none⟩ = some (.int .i64 0) := by simp [World.cell?, hO.cls]
  have HB : Hid (Below w.heap.size w (U.setCell ⟨bc, 3, none⟩ (.int .i64 x))) := (num1_R hO).2
  have hB : Calls Try.prog 8 #[.agg #[.int .i64 11, .slice (some ⟨bc, 0, none⟩) 1 1], .int .i64 1402] (U.setCell ⟨bc, 3, none⟩ (.int .i64 x)) fun e w' => e = .returned (.bool true) ∧ Below (U.setCell ⟨bc, 3, none⟩ (.int .i64 x)).heap.size (U.setCell ⟨bc, 3, none⟩ (.int .i64 x)) w' := refuses_yes HE.out (U.setCell ⟨bc, 3, none⟩ (.int .i64 x)) (fun _ h => h) (num1_R hO).1
  clear hO
  go_wp2_with (go_at_call 8; refine hB.mono ?_; rintro e w9 ⟨rfl, hb9⟩; have HF : Hid (Below w.heap.size w w9) := HB.out.trans (hb9.mono HB.out.size); clear hB hb9)
  go_ret
  exact ⟨rfl, HF.out⟩
set_option maxHeartbeats 4000000 in
set_option maxRecDepth 20000 in
theorem num1_n1 {wh x : Int} (w : World) (hk : bits BinOp.and .i64 wh 7 = 1) (d1 : decide (-2147483648 ≤ x) = true) (d2 : decide (x ≤ 2147483647) = false) (he : encP (numP 1 x) = .error 1402) : Calls Try.prog 3 #[.int .i64 wh, .int .i64 x] w fun e w' => e = .returned (.bool true) ∧ Below w.heap.size w w' := by
  have hA := awake14 w
  have HE : Hid (encP (numP 1 x) = .error 1402) := he
  clear he
  go_enter Try.func3, Try.ntmps3
  go_upto_region 4 with (first
    | (go_at_call 5; refine hA.mono ?_; rintro e w1 ⟨rfl, hb1⟩; clear hA; have hT := TinyM w1; have H1 : Hid (Below w.heap.size w w1) := hb1; clear hb1)
    | (go_at_call 6; refine hT.mono ?_; rintro e w2 ⟨hb2, rfl, hT2⟩; clear hT; have HO : Hid (One w (w2.alloc (.cells #[.int .i64 11, .slice (some ⟨w1.heap.size + 1 + 1 + 1 + 1, 0, none⟩) 1 1] 25)) w2.heap.size (w1.heap.size + 1 + 1 + 1 + 1) (w1.heap.size + 1 + 1 + 1) (w1.heap.size + 1)) := one_of H1.out hb2 hT2; clear hT2 hb2 H1))
  generalize hU : w2.alloc (.cells #[.int .i64 11, .slice (some ⟨w1.heap.size + 1 + 1 + 1 + 1, 0, none⟩) 1 1] 25) = U at *
  clear hU
  generalize hbp : w2.heap.size = bp at *
  clear hbp
  generalize hbc : w1.heap.size + 1 + 1 + 1 + 1 = bc at *
  generalize hbm : w1.heap.size + 1 + 1 + 1 = bm at *
  generalize hbi : w1.heap.size + 1 = bi at *
  clear hbc hbm hbi
  have hO := HO.out
  have p0 : U.cell? ⟨bp, 0, none⟩ = some (.int .i64 11) := by simp [World.cell?, hO.prg]
  have p1 : U.cell? ⟨bp, 1, none⟩ = some (.slice (some ⟨bc, 0, none⟩) 1 1) := by simp [World.cell?, hO.prg]
  have c7 : U.cell? ⟨bc, 7, none⟩ = some (.slice (some ⟨bm, 0, none⟩) 1 1) := by simp [World.cell?, hO.cls]
  have m6 : U.cell? ⟨bm, 6, none⟩ = some (.slice (some ⟨bi, 0, none⟩) 1 1) := by simp [World.cell?, hO.met]
  obtain ⟨n1, n2, n3, n4, n5, n6⟩ := hO.ne
  have kbp := blk_lt hO.prg
  have kbc := blk_lt hO.cls
  have kbm := blk_lt hO.met
  have kbi := blk_lt hO.ins
  have ft : U.frozen? ⟨bc, 3, none⟩ = false := by simp [World.frozen?, hO.cls]
  have ct : U.cell? ⟨bc, 3, none⟩ = some (.int .i64 0) := by simp [World.cell?, hO.cls]
  have HB : Hid (Below w.heap.size w (U.setCell ⟨bc, 3, none⟩ (.int .i64 x))) := (num1_R hO).2
  have hB : Calls Try.prog 8 #[.agg #[.int .i64 11, .slice (some ⟨bc, 0, none⟩) 1 1], .int .i64 1402] (U.setCell ⟨bc, 3, none⟩ (.int .i64 x)) fun e w' => e = .returned (.bool true) ∧ Below (U.setCell ⟨bc, 3, none⟩ (.int .i64 x)).heap.size (U.setCell ⟨bc, 3, none⟩ (.int .i64 x)) w' := refuses_yes HE.out (U.setCell ⟨bc, 3, none⟩ (.int .i64 x)) (fun _ h => h) (num1_R hO).1
  clear hO
  go_wp2_with (go_at_call 8; refine hB.mono ?_; rintro e w9 ⟨rfl, hb9⟩; have HF : Hid (Below w.heap.size w w9) := HB.out.trans (hb9.mono HB.out.size); clear hB hb9)
  go_ret
  exact ⟨rfl, HF.out⟩
theorem num2_R {w U : World} {bp bc bm bi : Nat} {x : Int} (h : One w U bp bc bm bi) : kPg.R (U.setCell ⟨bm, 3, none⟩ (.int .i64 x)) (fun k => k < (U.setCell ⟨bm, 3, none⟩ (.int .i64 x)).heap.size) (numP 2 x) [.int .i64 11, .slice (some ⟨bc, 0, none⟩) 1 1] ∧ Below w.heap.size w (U.setCell ⟨bm, 3, none⟩ (.int .i64 x)) := by
  obtain ⟨n1, n2, n3, n4, n5, n6⟩ := h.ne
  obtain ⟨l1, l2, l3, l4⟩ := h.low
  have kbp := blk_lt h.prg
  have kbc := blk_lt h.cls
  have kbm := blk_lt h.met
  have kbi := blk_lt h.ins
  have hz0 : (U.setCell ⟨bm, 3, none⟩ (.int .i64 x)).heap.size = U.heap.size := size_set
  have hsz : (U.setCell ⟨bm, 3, none⟩ (.int .i64 x)).heap.size = U.heap.size := hz0
  have fbc : (U.setCell ⟨bm, 3, none⟩ (.int .i64 x)).heap[bc]? = some (.cells #[.string ⟨#[77]⟩, .bool false, .bool false, .int .i64 0, .slice none 0 0, .slice none 0 0, .slice none 0 0, .slice (some ⟨bm, 0, none⟩) 1 1] 37 (0, 0)) := by exact (blk_set (by omega)).trans h.cls
  have fbm : (U.setCell ⟨bm, 3, none⟩ (.int .i64 x)).heap[bm]? = some (.cells #[.string ⟨#[109, 97, 105, 110]⟩, .bool true, .slice none 0 0, .int .i64 x, .int .i64 0, .int .i64 0, .slice (some ⟨bi, 0, none⟩) 1 1, .slice none 0 0, .slice none 0 0] 33 (0, 0)) := by exact hset h.met _
  have fbi : (U.setCell ⟨bm, 3, none⟩ (.int .i64 x)).heap[bi]? = some (.cells #[.int .i64 29, .int .i64 0, .int .i64 0] 39 (0, 0)) := by exact (blk_set (by omega)).trans h.ins
  refine ⟨one_R fbc fbm (by show bc < _; omega) (by show bm < _; omega) (Sl.nil _ _ _) (Sl.nil _ _ _) (Sl.nil _ _ _) (Sl.nil _ _ _) (Sl.one1 fbi (by show bi < _; omega) rfl) (Sl.nil _ _ _) (Sl.nil _ _ _), ?_⟩
  exact (h.bel.setCell (by show w.heap.size ≤ bm; omega) _)
set_option maxHeartbeats 4000000 in
set_option maxRecDepth 20000 in
theorem num2_y0 {wh x : Int} {b : ByteArray} (w : World) (hk : bits BinOp.and .i64 wh 7 = 2) (d1 : decide (-2147483648 ≤ x) = true) (d2 : decide (x ≤ 2147483647) = true) (he : encP (numP 2 x) = .ok b) : Calls Try.prog 3 #[.int .i64 wh, .int .i64 x] w fun e w' => e = .returned (.bool true) ∧ Below w.heap.size w w' := by
  have hA := awake14 w
  have HE : Hid (encP (numP 2 x) = .ok b) := he
  clear he
  go_enter Try.func3, Try.ntmps3
  go_upto_region 4 with (first
    | (go_at_call 5; refine hA.mono ?_; rintro e w1 ⟨rfl, hb1⟩; clear hA; have hT := TinyM w1; have H1 : Hid (Below w.heap.size w w1) := hb1; clear hb1)
    | (go_at_call 6; refine hT.mono ?_; rintro e w2 ⟨hb2, rfl, hT2⟩; clear hT; have HO : Hid (One w (w2.alloc (.cells #[.int .i64 11, .slice (some ⟨w1.heap.size + 1 + 1 + 1 + 1, 0, none⟩) 1 1] 25)) w2.heap.size (w1.heap.size + 1 + 1 + 1 + 1) (w1.heap.size + 1 + 1 + 1) (w1.heap.size + 1)) := one_of H1.out hb2 hT2; clear hT2 hb2 H1))
  generalize hU : w2.alloc (.cells #[.int .i64 11, .slice (some ⟨w1.heap.size + 1 + 1 + 1 + 1, 0, none⟩) 1 1] 25) = U at *
  clear hU
  generalize hbp : w2.heap.size = bp at *
  clear hbp
  generalize hbc : w1.heap.size + 1 + 1 + 1 + 1 = bc at *
  generalize hbm : w1.heap.size + 1 + 1 + 1 = bm at *
  generalize hbi : w1.heap.size + 1 = bi at *
  clear hbc hbm hbi
  have hO := HO.out
  have p0 : U.cell? ⟨bp, 0, none⟩ = some (.int .i64 11) := by simp [World.cell?, hO.prg]
  have p1 : U.cell? ⟨bp, 1, none⟩ = some (.slice (some ⟨bc, 0, none⟩) 1 1) := by simp [World.cell?, hO.prg]
  have c7 : U.cell? ⟨bc, 7, none⟩ = some (.slice (some ⟨bm, 0, none⟩) 1 1) := by simp [World.cell?, hO.cls]
  have m6 : U.cell? ⟨bm, 6, none⟩ = some (.slice (some ⟨bi, 0, none⟩) 1 1) := by simp [World.cell?, hO.met]
  obtain ⟨n1, n2, n3, n4, n5, n6⟩ := hO.ne
  have kbp := blk_lt hO.prg
  have kbc := blk_lt hO.cls
  have kbm := blk_lt hO.met
  have kbi := blk_lt hO.ins
  have ft : U.frozen? ⟨bm, 3, none⟩ = false := by simp [World.frozen?, hO.met]
  have ct : U.cell? ⟨bm, 3, none⟩ = some (.int .i64 0) := by simp [World.cell?, hO.met]
  have HB : Hid (Below w.heap.size w (U.setCell ⟨bm, 3, none⟩ (.int .i64 x))) := (num2_R hO).2
  have hB : Calls Try.prog 7 #[.agg #[.int .i64 11, .slice (some ⟨bc, 0, none⟩) 1 1]] (U.setCell ⟨bm, 3, none⟩ (.int .i64 x)) fun e w' => e = .returned (.bool true) ∧ Below (U.setCell ⟨bm, 3, none⟩ (.int .i64 x)).heap.size (U.setCell ⟨bm, 3, none⟩ (.int .i64 x)) w' := back_yes HE.out (U.setCell ⟨bm, 3, none⟩ (.int .i64 x)) (fun _ h => h) (num2_R hO).1
  clear hO
  go_wp2_with (go_at_call 7; refine hB.mono ?_; rintro e w9 ⟨rfl, hb9⟩; have HF : Hid (Below w.heap.size w w9) := HB.out.trans (hb9.mono HB.out.size); clear hB hb9)
  go_ret
  exact ⟨rfl, HF.out⟩
set_option maxHeartbeats 4000000 in
set_option maxRecDepth 20000 in
theorem num2_n0 {wh x : Int} (w : World) (hk : bits BinOp.and .i64 wh 7 = 2) (d1 : decide (-2147483648 ≤ x) = false) (he : encP (numP 2 x) = .error 1402) : Calls Try.prog 3 #[.int .i64 wh, .int .i64 x] w fun e w' => e = .returned (.bool true) ∧ Below w.heap.size w w' := by
  have hA := awake14 w
  have HE : Hid (encP (numP 2 x) = .error 1402) := he
  clear he
  go_enter Try.func3, Try.ntmps3
  go_upto_region 4 with (first
    | (go_at_call 5; refine hA.mono ?_; rintro e w1 ⟨rfl, hb1⟩; clear hA; have hT := TinyM w1; have H1 : Hid (Below w.heap.size w w1) := hb1; clear hb1)
    | (go_at_call 6; refine hT.mono ?_; rintro e w2 ⟨hb2, rfl, hT2⟩; clear hT; have HO : Hid (One w (w2.alloc (.cells #[.int .i64 11, .slice (some ⟨w1.heap.size + 1 + 1 + 1 + 1, 0, none⟩) 1 1] 25)) w2.heap.size (w1.heap.size + 1 + 1 + 1 + 1) (w1.heap.size + 1 + 1 + 1) (w1.heap.size + 1)) := one_of H1.out hb2 hT2; clear hT2 hb2 H1))
  generalize hU : w2.alloc (.cells #[.int .i64 11, .slice (some ⟨w1.heap.size + 1 + 1 + 1 + 1, 0, none⟩) 1 1] 25) = U at *
  clear hU
  generalize hbp : w2.heap.size = bp at *
  clear hbp
  generalize hbc : w1.heap.size + 1 + 1 + 1 + 1 = bc at *
  generalize hbm : w1.heap.size + 1 + 1 + 1 = bm at *
  generalize hbi : w1.heap.size + 1 = bi at *
  clear hbc hbm hbi
  have hO := HO.out
  have p0 : U.cell? ⟨bp, 0, none⟩ = some (.int .i64 11) := by simp [World.cell?, hO.prg]
  have p1 : U.cell? ⟨bp, 1, none⟩ = some (.slice (some ⟨bc, 0, none⟩) 1 1) := by simp [World.cell?, hO.prg]
  have c7 : U.cell? ⟨bc, 7, none⟩ = some (.slice (some ⟨bm, 0, none⟩) 1 1) := by simp [World.cell?, hO.cls]
  have m6 : U.cell? ⟨bm, 6, none⟩ = some (.slice (some ⟨bi, 0, none⟩) 1 1) := by simp [World.cell?, hO.met]
  obtain ⟨n1, n2, n3, n4, n5, n6⟩ := hO.ne
  have kbp := blk_lt hO.prg
  have kbc := blk_lt hO.cls
  have kbm := blk_lt hO.met
  have kbi := blk_lt hO.ins
  have ft : U.frozen? ⟨bm, 3, none⟩ = false := by simp [World.frozen?, hO.met]
  have ct : U.cell? ⟨bm, 3, none⟩ = some (.int .i64 0) := by simp [World.cell?, hO.met]
  have HB : Hid (Below w.heap.size w (U.setCell ⟨bm, 3, none⟩ (.int .i64 x))) := (num2_R hO).2
  have hB : Calls Try.prog 8 #[.agg #[.int .i64 11, .slice (some ⟨bc, 0, none⟩) 1 1], .int .i64 1402] (U.setCell ⟨bm, 3, none⟩ (.int .i64 x)) fun e w' => e = .returned (.bool true) ∧ Below (U.setCell ⟨bm, 3, none⟩ (.int .i64 x)).heap.size (U.setCell ⟨bm, 3, none⟩ (.int .i64 x)) w' := refuses_yes HE.out (U.setCell ⟨bm, 3, none⟩ (.int .i64 x)) (fun _ h => h) (num2_R hO).1
  clear hO
  go_wp2_with (go_at_call 8; refine hB.mono ?_; rintro e w9 ⟨rfl, hb9⟩; have HF : Hid (Below w.heap.size w w9) := HB.out.trans (hb9.mono HB.out.size); clear hB hb9)
  go_ret
  exact ⟨rfl, HF.out⟩
set_option maxHeartbeats 4000000 in
set_option maxRecDepth 20000 in
theorem num2_n1 {wh x : Int} (w : World) (hk : bits BinOp.and .i64 wh 7 = 2) (d1 : decide (-2147483648 ≤ x) = true) (d2 : decide (x ≤ 2147483647) = false) (he : encP (numP 2 x) = .error 1402) : Calls Try.prog 3 #[.int .i64 wh, .int .i64 x] w fun e w' => e = .returned (.bool true) ∧ Below w.heap.size w w' := by
  have hA := awake14 w
  have HE : Hid (encP (numP 2 x) = .error 1402) := he
  clear he
  go_enter Try.func3, Try.ntmps3
  go_upto_region 4 with (first
    | (go_at_call 5; refine hA.mono ?_; rintro e w1 ⟨rfl, hb1⟩; clear hA; have hT := TinyM w1; have H1 : Hid (Below w.heap.size w w1) := hb1; clear hb1)
    | (go_at_call 6; refine hT.mono ?_; rintro e w2 ⟨hb2, rfl, hT2⟩; clear hT; have HO : Hid (One w (w2.alloc (.cells #[.int .i64 11, .slice (some ⟨w1.heap.size + 1 + 1 + 1 + 1, 0, none⟩) 1 1] 25)) w2.heap.size (w1.heap.size + 1 + 1 + 1 + 1) (w1.heap.size + 1 + 1 + 1) (w1.heap.size + 1)) := one_of H1.out hb2 hT2; clear hT2 hb2 H1))
  generalize hU : w2.alloc (.cells #[.int .i64 11, .slice (some ⟨w1.heap.size + 1 + 1 + 1 + 1, 0, none⟩) 1 1] 25) = U at *
  clear hU
  generalize hbp : w2.heap.size = bp at *
  clear hbp
  generalize hbc : w1.heap.size + 1 + 1 + 1 + 1 = bc at *
  generalize hbm : w1.heap.size + 1 + 1 + 1 = bm at *
  generalize hbi : w1.heap.size + 1 = bi at *
  clear hbc hbm hbi
  have hO := HO.out
  have p0 : U.cell? ⟨bp, 0, none⟩ = some (.int .i64 11) := by simp [World.cell?, hO.prg]
  have p1 : U.cell? ⟨bp, 1, none⟩ = some (.slice (some ⟨bc, 0, none⟩) 1 1) := by simp [World.cell?, hO.prg]
  have c7 : U.cell? ⟨bc, 7, none⟩ = some (.slice (some ⟨bm, 0, none⟩) 1 1) := by simp [World.cell?, hO.cls]
  have m6 : U.cell? ⟨bm, 6, none⟩ = some (.slice (some ⟨bi, 0, none⟩) 1 1) := by simp [World.cell?, hO.met]
  obtain ⟨n1, n2, n3, n4, n5, n6⟩ := hO.ne
  have kbp := blk_lt hO.prg
  have kbc := blk_lt hO.cls
  have kbm := blk_lt hO.met
  have kbi := blk_lt hO.ins
  have ft : U.frozen? ⟨bm, 3, none⟩ = false := by simp [World.frozen?, hO.met]
  have ct : U.cell? ⟨bm, 3, none⟩ = some (.int .i64 0) := by simp [World.cell?, hO.met]
  have HB : Hid (Below w.heap.size w (U.setCell ⟨bm, 3, none⟩ (.int .i64 x))) := (num2_R hO).2
  have hB : Calls Try.prog 8 #[.agg #[.int .i64 11, .slice (some ⟨bc, 0, none⟩) 1 1], .int .i64 1402] (U.setCell ⟨bm, 3, none⟩ (.int .i64 x)) fun e w' => e = .returned (.bool true) ∧ Below (U.setCell ⟨bm, 3, none⟩ (.int .i64 x)).heap.size (U.setCell ⟨bm, 3, none⟩ (.int .i64 x)) w' := refuses_yes HE.out (U.setCell ⟨bm, 3, none⟩ (.int .i64 x)) (fun _ h => h) (num2_R hO).1
  clear hO
  go_wp2_with (go_at_call 8; refine hB.mono ?_; rintro e w9 ⟨rfl, hb9⟩; have HF : Hid (Below w.heap.size w w9) := HB.out.trans (hb9.mono HB.out.size); clear hB hb9)
  go_ret
  exact ⟨rfl, HF.out⟩
end Go.Proofs.Ytajghalljkphiab
/- Walks of ClassNumbers. -/
namespace Go.Proofs.Ytajghalljkphiab
open Go.RowKit

theorem num3_R {w U : World} {bp bc bm bi : Nat} {x : Int} (h : One w U bp bc bm bi) : kPg.R (U.setCell ⟨bi, 0, none⟩ (.int .i64 x)) (fun k => k < (U.setCell ⟨bi, 0, none⟩ (.int .i64 x)).heap.size) (numP 3 x) [.int .i64 11, .slice (some ⟨bc, 0, none⟩) 1 1] ∧ Below w.heap.size w (U.setCell ⟨bi, 0, none⟩ (.int .i64 x)) := by
  obtain ⟨n1, n2, n3, n4, n5, n6⟩ := h.ne
  obtain ⟨l1, l2, l3, l4⟩ := h.low
  have kbp := blk_lt h.prg
  have kbc := blk_lt h.cls
  have kbm := blk_lt h.met
  have kbi := blk_lt h.ins
  have hz0 : (U.setCell ⟨bi, 0, none⟩ (.int .i64 x)).heap.size = U.heap.size := size_set
  have hsz : (U.setCell ⟨bi, 0, none⟩ (.int .i64 x)).heap.size = U.heap.size := hz0
  have fbc : (U.setCell ⟨bi, 0, none⟩ (.int .i64 x)).heap[bc]? = some (.cells #[.string ⟨#[77]⟩, .bool false, .bool false, .int .i64 0, .slice none 0 0, .slice none 0 0, .slice none 0 0, .slice (some ⟨bm, 0, none⟩) 1 1] 37 (0, 0)) := by exact (blk_set (by omega)).trans h.cls
  have fbm : (U.setCell ⟨bi, 0, none⟩ (.int .i64 x)).heap[bm]? = some (.cells #[.string ⟨#[109, 97, 105, 110]⟩, .bool true, .slice none 0 0, .int .i64 0, .int .i64 0, .int .i64 0, .slice (some ⟨bi, 0, none⟩) 1 1, .slice none 0 0, .slice none 0 0] 33 (0, 0)) := by exact (blk_set (by omega)).trans h.met
  have fbi : (U.setCell ⟨bi, 0, none⟩ (.int .i64 x)).heap[bi]? = some (.cells #[.int .i64 x, .int .i64 0, .int .i64 0] 39 (0, 0)) := by exact hset h.ins _
  refine ⟨one_R fbc fbm (by show bc < _; omega) (by show bm < _; omega) (Sl.nil _ _ _) (Sl.nil _ _ _) (Sl.nil _ _ _) (Sl.nil _ _ _) (Sl.one1 fbi (by show bi < _; omega) rfl) (Sl.nil _ _ _) (Sl.nil _ _ _), ?_⟩
  exact (h.bel.setCell (by show w.heap.size ≤ bi; omega) _)
set_option maxHeartbeats 4000000 in
set_option maxRecDepth 20000 in
theorem num3_y0 {wh x : Int} {b : ByteArray} (w : World) (hk : bits BinOp.and .i64 wh 7 = 3) (d1 : decide (-2147483648 ≤ x) = true) (d2 : decide (x ≤ 2147483647) = true) (he : encP (numP 3 x) = .ok b) : Calls Try.prog 3 #[.int .i64 wh, .int .i64 x] w fun e w' => e = .returned (.bool true) ∧ Below w.heap.size w w' := by
  have hA := awake14 w
  have HE : Hid (encP (numP 3 x) = .ok b) := he
  clear he
  go_enter Try.func3, Try.ntmps3
  go_upto_region 4 with (first
    | (go_at_call 5; refine hA.mono ?_; rintro e w1 ⟨rfl, hb1⟩; clear hA; have hT := TinyM w1; have H1 : Hid (Below w.heap.size w w1) := hb1; clear hb1)
    | (go_at_call 6; refine hT.mono ?_; rintro e w2 ⟨hb2, rfl, hT2⟩; clear hT; have HO : Hid (One w (w2.alloc (.cells #[.int .i64 11, .slice (some ⟨w1.heap.size + 1 + 1 + 1 + 1, 0, none⟩) 1 1] 25)) w2.heap.size (w1.heap.size + 1 + 1 + 1 + 1) (w1.heap.size + 1 + 1 + 1) (w1.heap.size + 1)) := one_of H1.out hb2 hT2; clear hT2 hb2 H1))
  generalize hU : w2.alloc (.cells #[.int .i64 11, .slice (some ⟨w1.heap.size + 1 + 1 + 1 + 1, 0, none⟩) 1 1] 25) = U at *
  clear hU
  generalize hbp : w2.heap.size = bp at *
  clear hbp
  generalize hbc : w1.heap.size + 1 + 1 + 1 + 1 = bc at *
  generalize hbm : w1.heap.size + 1 + 1 + 1 = bm at *
  generalize hbi : w1.heap.size + 1 = bi at *
  clear hbc hbm hbi
  have hO := HO.out
  have p0 : U.cell? ⟨bp, 0, none⟩ = some (.int .i64 11) := by simp [World.cell?, hO.prg]
  have p1 : U.cell? ⟨bp, 1, none⟩ = some (.slice (some ⟨bc, 0, none⟩) 1 1) := by simp [World.cell?, hO.prg]
  have c7 : U.cell? ⟨bc, 7, none⟩ = some (.slice (some ⟨bm, 0, none⟩) 1 1) := by simp [World.cell?, hO.cls]
  have m6 : U.cell? ⟨bm, 6, none⟩ = some (.slice (some ⟨bi, 0, none⟩) 1 1) := by simp [World.cell?, hO.met]
  obtain ⟨n1, n2, n3, n4, n5, n6⟩ := hO.ne
  have kbp := blk_lt hO.prg
  have kbc := blk_lt hO.cls
  have kbm := blk_lt hO.met
  have kbi := blk_lt hO.ins
  have ft : U.frozen? ⟨bi, 0, none⟩ = false := by simp [World.frozen?, hO.ins]
  have ct : U.cell? ⟨bi, 0, none⟩ = some (.int .i64 29) := by simp [World.cell?, hO.ins]
  have HB : Hid (Below w.heap.size w (U.setCell ⟨bi, 0, none⟩ (.int .i64 x))) := (num3_R hO).2
  have hB : Calls Try.prog 7 #[.agg #[.int .i64 11, .slice (some ⟨bc, 0, none⟩) 1 1]] (U.setCell ⟨bi, 0, none⟩ (.int .i64 x)) fun e w' => e = .returned (.bool true) ∧ Below (U.setCell ⟨bi, 0, none⟩ (.int .i64 x)).heap.size (U.setCell ⟨bi, 0, none⟩ (.int .i64 x)) w' := back_yes HE.out (U.setCell ⟨bi, 0, none⟩ (.int .i64 x)) (fun _ h => h) (num3_R hO).1
  clear hO
  go_wp2_with (go_at_call 7; refine hB.mono ?_; rintro e w9 ⟨rfl, hb9⟩; have HF : Hid (Below w.heap.size w w9) := HB.out.trans (hb9.mono HB.out.size); clear hB hb9)
  go_ret
  exact ⟨rfl, HF.out⟩
set_option maxHeartbeats 4000000 in
set_option maxRecDepth 20000 in
theorem num3_n0 {wh x : Int} (w : World) (hk : bits BinOp.and .i64 wh 7 = 3) (d1 : decide (-2147483648 ≤ x) = false) (he : encP (numP 3 x) = .error 1402) : Calls Try.prog 3 #[.int .i64 wh, .int .i64 x] w fun e w' => e = .returned (.bool true) ∧ Below w.heap.size w w' := by
  have hA := awake14 w
  have HE : Hid (encP (numP 3 x) = .error 1402) := he
  clear he
  go_enter Try.func3, Try.ntmps3
  go_upto_region 4 with (first
    | (go_at_call 5; refine hA.mono ?_; rintro e w1 ⟨rfl, hb1⟩; clear hA; have hT := TinyM w1; have H1 : Hid (Below w.heap.size w w1) := hb1; clear hb1)
    | (go_at_call 6; refine hT.mono ?_; rintro e w2 ⟨hb2, rfl, hT2⟩; clear hT; have HO : Hid (One w (w2.alloc (.cells #[.int .i64 11, .slice (some ⟨w1.heap.size + 1 + 1 + 1 + 1, 0, none⟩) 1 1] 25)) w2.heap.size (w1.heap.size + 1 + 1 + 1 + 1) (w1.heap.size + 1 + 1 + 1) (w1.heap.size + 1)) := one_of H1.out hb2 hT2; clear hT2 hb2 H1))
  generalize hU : w2.alloc (.cells #[.int .i64 11, .slice (some ⟨w1.heap.size + 1 + 1 + 1 + 1, 0, none⟩) 1 1] 25) = U at *
  clear hU
  generalize hbp : w2.heap.size = bp at *
  clear hbp
  generalize hbc : w1.heap.size + 1 + 1 + 1 + 1 = bc at *
  generalize hbm : w1.heap.size + 1 + 1 + 1 = bm at *
  generalize hbi : w1.heap.size + 1 = bi at *
  clear hbc hbm hbi
  have hO := HO.out
  have p0 : U.cell? ⟨bp, 0, none⟩ = some (.int .i64 11) := by simp [World.cell?, hO.prg]
  have p1 : U.cell? ⟨bp, 1, none⟩ = some (.slice (some ⟨bc, 0, none⟩) 1 1) := by simp [World.cell?, hO.prg]
  have c7 : U.cell? ⟨bc, 7, none⟩ = some (.slice (some ⟨bm, 0, none⟩) 1 1) := by simp [World.cell?, hO.cls]
  have m6 : U.cell? ⟨bm, 6, none⟩ = some (.slice (some ⟨bi, 0, none⟩) 1 1) := by simp [World.cell?, hO.met]
  obtain ⟨n1, n2, n3, n4, n5, n6⟩ := hO.ne
  have kbp := blk_lt hO.prg
  have kbc := blk_lt hO.cls
  have kbm := blk_lt hO.met
  have kbi := blk_lt hO.ins
  have ft : U.frozen? ⟨bi, 0, none⟩ = false := by simp [World.frozen?, hO.ins]
  have ct : U.cell? ⟨bi, 0, none⟩ = some (.int .i64 29) := by simp [World.cell?, hO.ins]
  have HB : Hid (Below w.heap.size w (U.setCell ⟨bi, 0, none⟩ (.int .i64 x))) := (num3_R hO).2
  have hB : Calls Try.prog 8 #[.agg #[.int .i64 11, .slice (some ⟨bc, 0, none⟩) 1 1], .int .i64 1402] (U.setCell ⟨bi, 0, none⟩ (.int .i64 x)) fun e w' => e = .returned (.bool true) ∧ Below (U.setCell ⟨bi, 0, none⟩ (.int .i64 x)).heap.size (U.setCell ⟨bi, 0, none⟩ (.int .i64 x)) w' := refuses_yes HE.out (U.setCell ⟨bi, 0, none⟩ (.int .i64 x)) (fun _ h => h) (num3_R hO).1
  clear hO
  go_wp2_with (go_at_call 8; refine hB.mono ?_; rintro e w9 ⟨rfl, hb9⟩; have HF : Hid (Below w.heap.size w w9) := HB.out.trans (hb9.mono HB.out.size); clear hB hb9)
  go_ret
  exact ⟨rfl, HF.out⟩
set_option maxHeartbeats 4000000 in
set_option maxRecDepth 20000 in
theorem num3_n1 {wh x : Int} (w : World) (hk : bits BinOp.and .i64 wh 7 = 3) (d1 : decide (-2147483648 ≤ x) = true) (d2 : decide (x ≤ 2147483647) = false) (he : encP (numP 3 x) = .error 1402) : Calls Try.prog 3 #[.int .i64 wh, .int .i64 x] w fun e w' => e = .returned (.bool true) ∧ Below w.heap.size w w' := by
  have hA := awake14 w
  have HE : Hid (encP (numP 3 x) = .error 1402) := he
  clear he
  go_enter Try.func3, Try.ntmps3
  go_upto_region 4 with (first
    | (go_at_call 5; refine hA.mono ?_; rintro e w1 ⟨rfl, hb1⟩; clear hA; have hT := TinyM w1; have H1 : Hid (Below w.heap.size w w1) := hb1; clear hb1)
    | (go_at_call 6; refine hT.mono ?_; rintro e w2 ⟨hb2, rfl, hT2⟩; clear hT; have HO : Hid (One w (w2.alloc (.cells #[.int .i64 11, .slice (some ⟨w1.heap.size + 1 + 1 + 1 + 1, 0, none⟩) 1 1] 25)) w2.heap.size (w1.heap.size + 1 + 1 + 1 + 1) (w1.heap.size + 1 + 1 + 1) (w1.heap.size + 1)) := one_of H1.out hb2 hT2; clear hT2 hb2 H1))
  generalize hU : w2.alloc (.cells #[.int .i64 11, .slice (some ⟨w1.heap.size + 1 + 1 + 1 + 1, 0, none⟩) 1 1] 25) = U at *
  clear hU
  generalize hbp : w2.heap.size = bp at *
  clear hbp
  generalize hbc : w1.heap.size + 1 + 1 + 1 + 1 = bc at *
  generalize hbm : w1.heap.size + 1 + 1 + 1 = bm at *
  generalize hbi : w1.heap.size + 1 = bi at *
  clear hbc hbm hbi
  have hO := HO.out
  have p0 : U.cell? ⟨bp, 0, none⟩ = some (.int .i64 11) := by simp [World.cell?, hO.prg]
  have p1 : U.cell? ⟨bp, 1, none⟩ = some (.slice (some ⟨bc, 0, none⟩) 1 1) := by simp [World.cell?, hO.prg]
  have c7 : U.cell? ⟨bc, 7, none⟩ = some (.slice (some ⟨bm, 0, none⟩) 1 1) := by simp [World.cell?, hO.cls]
  have m6 : U.cell? ⟨bm, 6, none⟩ = some (.slice (some ⟨bi, 0, none⟩) 1 1) := by simp [World.cell?, hO.met]
  obtain ⟨n1, n2, n3, n4, n5, n6⟩ := hO.ne
  have kbp := blk_lt hO.prg
  have kbc := blk_lt hO.cls
  have kbm := blk_lt hO.met
  have kbi := blk_lt hO.ins
  have ft : U.frozen? ⟨bi, 0, none⟩ = false := by simp [World.frozen?, hO.ins]
  have ct : U.cell? ⟨bi, 0, none⟩ = some (.int .i64 29) := by simp [World.cell?, hO.ins]
  have HB : Hid (Below w.heap.size w (U.setCell ⟨bi, 0, none⟩ (.int .i64 x))) := (num3_R hO).2
  have hB : Calls Try.prog 8 #[.agg #[.int .i64 11, .slice (some ⟨bc, 0, none⟩) 1 1], .int .i64 1402] (U.setCell ⟨bi, 0, none⟩ (.int .i64 x)) fun e w' => e = .returned (.bool true) ∧ Below (U.setCell ⟨bi, 0, none⟩ (.int .i64 x)).heap.size (U.setCell ⟨bi, 0, none⟩ (.int .i64 x)) w' := refuses_yes HE.out (U.setCell ⟨bi, 0, none⟩ (.int .i64 x)) (fun _ h => h) (num3_R hO).1
  clear hO
  go_wp2_with (go_at_call 8; refine hB.mono ?_; rintro e w9 ⟨rfl, hb9⟩; have HF : Hid (Below w.heap.size w w9) := HB.out.trans (hb9.mono HB.out.size); clear hB hb9)
  go_ret
  exact ⟨rfl, HF.out⟩
theorem num4_R {w U : World} {bp bc bm bi : Nat} {x : Int} (h : One w U bp bc bm bi) : kPg.R (((U.setCell ⟨bm, 8, none⟩ (.slice (some ⟨U.heap.size + 1, 0, none⟩) 1 1)).alloc (.cells #[.int .i64 x] 3)).alloc (.cells #[.int .i64 x, .slice none 0 0, .slice (some ⟨U.heap.size, 0, none⟩) 1 1] 41)) (fun k => k < (((U.setCell ⟨bm, 8, none⟩ (.slice (some ⟨U.heap.size + 1, 0, none⟩) 1 1)).alloc (.cells #[.int .i64 x] 3)).alloc (.cells #[.int .i64 x, .slice none 0 0, .slice (some ⟨U.heap.size, 0, none⟩) 1 1] 41)).heap.size) (numP 4 x) [.int .i64 11, .slice (some ⟨bc, 0, none⟩) 1 1] ∧ Below w.heap.size w (((U.setCell ⟨bm, 8, none⟩ (.slice (some ⟨U.heap.size + 1, 0, none⟩) 1 1)).alloc (.cells #[.int .i64 x] 3)).alloc (.cells #[.int .i64 x, .slice none 0 0, .slice (some ⟨U.heap.size, 0, none⟩) 1 1] 41)) := by
  obtain ⟨n1, n2, n3, n4, n5, n6⟩ := h.ne
  obtain ⟨l1, l2, l3, l4⟩ := h.low
  have kbp := blk_lt h.prg
  have kbc := blk_lt h.cls
  have kbm := blk_lt h.met
  have kbi := blk_lt h.ins
  have hz0 : (U.setCell ⟨bm, 8, none⟩ (.slice (some ⟨U.heap.size + 1, 0, none⟩) 1 1)).heap.size = U.heap.size := size_set
  have hz1 : ((U.setCell ⟨bm, 8, none⟩ (.slice (some ⟨U.heap.size + 1, 0, none⟩) 1 1)).alloc (.cells #[.int .i64 x] 3)).heap.size = U.heap.size + 1 := by rw [size_alloc, hz0]
  have hz2 : (((U.setCell ⟨bm, 8, none⟩ (.slice (some ⟨U.heap.size + 1, 0, none⟩) 1 1)).alloc (.cells #[.int .i64 x] 3)).alloc (.cells #[.int .i64 x, .slice none 0 0, .slice (some ⟨U.heap.size, 0, none⟩) 1 1] 41)).heap.size = U.heap.size + 1 + 1 := by rw [size_alloc, hz1]
  have hsz : (((U.setCell ⟨bm, 8, none⟩ (.slice (some ⟨U.heap.size + 1, 0, none⟩) 1 1)).alloc (.cells #[.int .i64 x] 3)).alloc (.cells #[.int .i64 x, .slice none 0 0, .slice (some ⟨U.heap.size, 0, none⟩) 1 1] 41)).heap.size = U.heap.size + 1 + 1 := hz2
  have fbc : (((U.setCell ⟨bm, 8, none⟩ (.slice (some ⟨U.heap.size + 1, 0, none⟩) 1 1)).alloc (.cells #[.int .i64 x] 3)).alloc (.cells #[.int .i64 x, .slice none 0 0, .slice (some ⟨U.heap.size, 0, none⟩) 1 1] 41)).heap[bc]? = some (.cells #[.string ⟨#[77]⟩, .bool false, .bool false, .int .i64 0, .slice none 0 0, .slice none 0 0, .slice none 0 0, .slice (some ⟨bm, 0, none⟩) 1 1] 37 (0, 0)) := by rw [Below.heap_alloc _ _ _ (by omega)]; rw [Below.heap_alloc _ _ _ (by omega)]; exact (blk_set (by omega)).trans h.cls
  have fbm : (((U.setCell ⟨bm, 8, none⟩ (.slice (some ⟨U.heap.size + 1, 0, none⟩) 1 1)).alloc (.cells #[.int .i64 x] 3)).alloc (.cells #[.int .i64 x, .slice none 0 0, .slice (some ⟨U.heap.size, 0, none⟩) 1 1] 41)).heap[bm]? = some (.cells #[.string ⟨#[109, 97, 105, 110]⟩, .bool true, .slice none 0 0, .int .i64 0, .int .i64 0, .int .i64 0, .slice (some ⟨bi, 0, none⟩) 1 1, .slice none 0 0, .slice (some ⟨U.heap.size + 1, 0, none⟩) 1 1] 33 (0, 0)) := by rw [Below.heap_alloc _ _ _ (by omega)]; rw [Below.heap_alloc _ _ _ (by omega)]; exact hset h.met _
  have fbi : (((U.setCell ⟨bm, 8, none⟩ (.slice (some ⟨U.heap.size + 1, 0, none⟩) 1 1)).alloc (.cells #[.int .i64 x] 3)).alloc (.cells #[.int .i64 x, .slice none 0 0, .slice (some ⟨U.heap.size, 0, none⟩) 1 1] 41)).heap[bi]? = some (.cells #[.int .i64 29, .int .i64 0, .int .i64 0] 39 (0, 0)) := by rw [Below.heap_alloc _ _ _ (by omega)]; rw [Below.heap_alloc _ _ _ (by omega)]; exact (blk_set (by omega)).trans h.ins
  have a0 : (((U.setCell ⟨bm, 8, none⟩ (.slice (some ⟨U.heap.size + 1, 0, none⟩) 1 1)).alloc (.cells #[.int .i64 x] 3)).alloc (.cells #[.int .i64 x, .slice none 0 0, .slice (some ⟨U.heap.size, 0, none⟩) 1 1] 41)).heap[U.heap.size]? = some (.cells #[.int .i64 x] 3 (0, 0)) := by
    rw [Below.heap_alloc _ _ _ (by omega)]
    have hn := heap_alloc_new (U.setCell ⟨bm, 8, none⟩ (.slice (some ⟨U.heap.size + 1, 0, none⟩) 1 1)) (.cells #[.int .i64 x] 3)
    rw [hz0] at hn
    exact hn
  have a1 : (((U.setCell ⟨bm, 8, none⟩ (.slice (some ⟨U.heap.size + 1, 0, none⟩) 1 1)).alloc (.cells #[.int .i64 x] 3)).alloc (.cells #[.int .i64 x, .slice none 0 0, .slice (some ⟨U.heap.size, 0, none⟩) 1 1] 41)).heap[U.heap.size + 1]? = some (.cells #[.int .i64 x, .slice none 0 0, .slice (some ⟨U.heap.size, 0, none⟩) 1 1] 41 (0, 0)) := by
    have hn := heap_alloc_new ((U.setCell ⟨bm, 8, none⟩ (.slice (some ⟨U.heap.size + 1, 0, none⟩) 1 1)).alloc (.cells #[.int .i64 x] 3)) (.cells #[.int .i64 x, .slice none 0 0, .slice (some ⟨U.heap.size, 0, none⟩) 1 1] 41)
    rw [hz1] at hn
    exact hn
  refine ⟨one_R fbc fbm (by show bc < _; omega) (by show bm < _; omega) (Sl.nil _ _ _) (Sl.nil _ _ _) (Sl.nil _ _ _) (Sl.nil _ _ _) (Sl.one1 fbi (by show bi < _; omega) rfl) (Sl.nil _ _ _) (Sl.one1 a1 (by show U.heap.size + 1 < _; omega) ⟨_, _, rfl, (Sl.nil _ _ _), Sl.one1 a0 (by show U.heap.size < _; omega) rfl⟩), ?_⟩
  exact (((h.bel.setCell (by show w.heap.size ≤ bm; omega) _).alloc (by omega) _).alloc (by omega) _)
set_option maxHeartbeats 4000000 in
set_option maxRecDepth 20000 in
theorem num4_y0 {wh x : Int} {b : ByteArray} (w : World) (hk : bits BinOp.and .i64 wh 7 = 4) (d1 : decide (-2147483648 ≤ x) = true) (d2 : decide (x ≤ 2147483647) = true) (he : encP (numP 4 x) = .ok b) : Calls Try.prog 3 #[.int .i64 wh, .int .i64 x] w fun e w' => e = .returned (.bool true) ∧ Below w.heap.size w w' := by
  have hA := awake14 w
  have HE : Hid (encP (numP 4 x) = .ok b) := he
  clear he
  go_enter Try.func3, Try.ntmps3
  go_upto_region 4 with (first
    | (go_at_call 5; refine hA.mono ?_; rintro e w1 ⟨rfl, hb1⟩; clear hA; have hT := TinyM w1; have H1 : Hid (Below w.heap.size w w1) := hb1; clear hb1)
    | (go_at_call 6; refine hT.mono ?_; rintro e w2 ⟨hb2, rfl, hT2⟩; clear hT; have HO : Hid (One w (w2.alloc (.cells #[.int .i64 11, .slice (some ⟨w1.heap.size + 1 + 1 + 1 + 1, 0, none⟩) 1 1] 25)) w2.heap.size (w1.heap.size + 1 + 1 + 1 + 1) (w1.heap.size + 1 + 1 + 1) (w1.heap.size + 1)) := one_of H1.out hb2 hT2; clear hT2 hb2 H1))
  generalize hU : w2.alloc (.cells #[.int .i64 11, .slice (some ⟨w1.heap.size + 1 + 1 + 1 + 1, 0, none⟩) 1 1] 25) = U at *
  clear hU
  generalize hbp : w2.heap.size = bp at *
  clear hbp
  generalize hbc : w1.heap.size + 1 + 1 + 1 + 1 = bc at *
  generalize hbm : w1.heap.size + 1 + 1 + 1 = bm at *
  generalize hbi : w1.heap.size + 1 = bi at *
  clear hbc hbm hbi
  have hO := HO.out
  have p0 : U.cell? ⟨bp, 0, none⟩ = some (.int .i64 11) := by simp [World.cell?, hO.prg]
  have p1 : U.cell? ⟨bp, 1, none⟩ = some (.slice (some ⟨bc, 0, none⟩) 1 1) := by simp [World.cell?, hO.prg]
  have c7 : U.cell? ⟨bc, 7, none⟩ = some (.slice (some ⟨bm, 0, none⟩) 1 1) := by simp [World.cell?, hO.cls]
  have m6 : U.cell? ⟨bm, 6, none⟩ = some (.slice (some ⟨bi, 0, none⟩) 1 1) := by simp [World.cell?, hO.met]
  obtain ⟨n1, n2, n3, n4, n5, n6⟩ := hO.ne
  have kbp := blk_lt hO.prg
  have kbc := blk_lt hO.cls
  have kbm := blk_lt hO.met
  have kbi := blk_lt hO.ins
  have ft : U.frozen? ⟨bm, 8, none⟩ = false := by simp [World.frozen?, hO.met]
  have ct : U.cell? ⟨bm, 8, none⟩ = some (.slice none 0 0) := by simp [World.cell?, hO.met]
  have z0 : bm ≠ U.heap.size := by omega
  have z1 : bm ≠ U.heap.size + 1 := by omega
  have y0 : bp ≠ U.heap.size := by omega
  have y1 : bp ≠ U.heap.size + 1 := by omega
  have HB : Hid (Below w.heap.size w (((U.setCell ⟨bm, 8, none⟩ (.slice (some ⟨U.heap.size + 1, 0, none⟩) 1 1)).alloc (.cells #[.int .i64 x] 3)).alloc (.cells #[.int .i64 x, .slice none 0 0, .slice (some ⟨U.heap.size, 0, none⟩) 1 1] 41))) := (num4_R hO).2
  have hB : Calls Try.prog 7 #[.agg #[.int .i64 11, .slice (some ⟨bc, 0, none⟩) 1 1]] (((U.setCell ⟨bm, 8, none⟩ (.slice (some ⟨U.heap.size + 1, 0, none⟩) 1 1)).alloc (.cells #[.int .i64 x] 3)).alloc (.cells #[.int .i64 x, .slice none 0 0, .slice (some ⟨U.heap.size, 0, none⟩) 1 1] 41)) fun e w' => e = .returned (.bool true) ∧ Below (((U.setCell ⟨bm, 8, none⟩ (.slice (some ⟨U.heap.size + 1, 0, none⟩) 1 1)).alloc (.cells #[.int .i64 x] 3)).alloc (.cells #[.int .i64 x, .slice none 0 0, .slice (some ⟨U.heap.size, 0, none⟩) 1 1] 41)).heap.size (((U.setCell ⟨bm, 8, none⟩ (.slice (some ⟨U.heap.size + 1, 0, none⟩) 1 1)).alloc (.cells #[.int .i64 x] 3)).alloc (.cells #[.int .i64 x, .slice none 0 0, .slice (some ⟨U.heap.size, 0, none⟩) 1 1] 41)) w' := back_yes HE.out (((U.setCell ⟨bm, 8, none⟩ (.slice (some ⟨U.heap.size + 1, 0, none⟩) 1 1)).alloc (.cells #[.int .i64 x] 3)).alloc (.cells #[.int .i64 x, .slice none 0 0, .slice (some ⟨U.heap.size, 0, none⟩) 1 1] 41)) (fun _ h => h) (num4_R hO).1
  clear hO
  go_wp2_with (go_at_call 7; refine hB.mono ?_; rintro e w9 ⟨rfl, hb9⟩; have HF : Hid (Below w.heap.size w w9) := HB.out.trans (hb9.mono HB.out.size); clear hB hb9)
  go_ret
  exact ⟨rfl, HF.out⟩
set_option maxHeartbeats 4000000 in
set_option maxRecDepth 20000 in
theorem num4_n0 {wh x : Int} (w : World) (hk : bits BinOp.and .i64 wh 7 = 4) (d1 : decide (-2147483648 ≤ x) = false) (he : encP (numP 4 x) = .error 1402) : Calls Try.prog 3 #[.int .i64 wh, .int .i64 x] w fun e w' => e = .returned (.bool true) ∧ Below w.heap.size w w' := by
  have hA := awake14 w
  have HE : Hid (encP (numP 4 x) = .error 1402) := he
  clear he
  go_enter Try.func3, Try.ntmps3
  go_upto_region 4 with (first
    | (go_at_call 5; refine hA.mono ?_; rintro e w1 ⟨rfl, hb1⟩; clear hA; have hT := TinyM w1; have H1 : Hid (Below w.heap.size w w1) := hb1; clear hb1)
    | (go_at_call 6; refine hT.mono ?_; rintro e w2 ⟨hb2, rfl, hT2⟩; clear hT; have HO : Hid (One w (w2.alloc (.cells #[.int .i64 11, .slice (some ⟨w1.heap.size + 1 + 1 + 1 + 1, 0, none⟩) 1 1] 25)) w2.heap.size (w1.heap.size + 1 + 1 + 1 + 1) (w1.heap.size + 1 + 1 + 1) (w1.heap.size + 1)) := one_of H1.out hb2 hT2; clear hT2 hb2 H1))
  generalize hU : w2.alloc (.cells #[.int .i64 11, .slice (some ⟨w1.heap.size + 1 + 1 + 1 + 1, 0, none⟩) 1 1] 25) = U at *
  clear hU
  generalize hbp : w2.heap.size = bp at *
  clear hbp
  generalize hbc : w1.heap.size + 1 + 1 + 1 + 1 = bc at *
  generalize hbm : w1.heap.size + 1 + 1 + 1 = bm at *
  generalize hbi : w1.heap.size + 1 = bi at *
  clear hbc hbm hbi
  have hO := HO.out
  have p0 : U.cell? ⟨bp, 0, none⟩ = some (.int .i64 11) := by simp [World.cell?, hO.prg]
  have p1 : U.cell? ⟨bp, 1, none⟩ = some (.slice (some ⟨bc, 0, none⟩) 1 1) := by simp [World.cell?, hO.prg]
  have c7 : U.cell? ⟨bc, 7, none⟩ = some (.slice (some ⟨bm, 0, none⟩) 1 1) := by simp [World.cell?, hO.cls]
  have m6 : U.cell? ⟨bm, 6, none⟩ = some (.slice (some ⟨bi, 0, none⟩) 1 1) := by simp [World.cell?, hO.met]
  obtain ⟨n1, n2, n3, n4, n5, n6⟩ := hO.ne
  have kbp := blk_lt hO.prg
  have kbc := blk_lt hO.cls
  have kbm := blk_lt hO.met
  have kbi := blk_lt hO.ins
  have ft : U.frozen? ⟨bm, 8, none⟩ = false := by simp [World.frozen?, hO.met]
  have ct : U.cell? ⟨bm, 8, none⟩ = some (.slice none 0 0) := by simp [World.cell?, hO.met]
  have z0 : bm ≠ U.heap.size := by omega
  have z1 : bm ≠ U.heap.size + 1 := by omega
  have y0 : bp ≠ U.heap.size := by omega
  have y1 : bp ≠ U.heap.size + 1 := by omega
  have HB : Hid (Below w.heap.size w (((U.setCell ⟨bm, 8, none⟩ (.slice (some ⟨U.heap.size + 1, 0, none⟩) 1 1)).alloc (.cells #[.int .i64 x] 3)).alloc (.cells #[.int .i64 x, .slice none 0 0, .slice (some ⟨U.heap.size, 0, none⟩) 1 1] 41))) := (num4_R hO).2
  have hB : Calls Try.prog 8 #[.agg #[.int .i64 11, .slice (some ⟨bc, 0, none⟩) 1 1], .int .i64 1402] (((U.setCell ⟨bm, 8, none⟩ (.slice (some ⟨U.heap.size + 1, 0, none⟩) 1 1)).alloc (.cells #[.int .i64 x] 3)).alloc (.cells #[.int .i64 x, .slice none 0 0, .slice (some ⟨U.heap.size, 0, none⟩) 1 1] 41)) fun e w' => e = .returned (.bool true) ∧ Below (((U.setCell ⟨bm, 8, none⟩ (.slice (some ⟨U.heap.size + 1, 0, none⟩) 1 1)).alloc (.cells #[.int .i64 x] 3)).alloc (.cells #[.int .i64 x, .slice none 0 0, .slice (some ⟨U.heap.size, 0, none⟩) 1 1] 41)).heap.size (((U.setCell ⟨bm, 8, none⟩ (.slice (some ⟨U.heap.size + 1, 0, none⟩) 1 1)).alloc (.cells #[.int .i64 x] 3)).alloc (.cells #[.int .i64 x, .slice none 0 0, .slice (some ⟨U.heap.size, 0, none⟩) 1 1] 41)) w' := refuses_yes HE.out (((U.setCell ⟨bm, 8, none⟩ (.slice (some ⟨U.heap.size + 1, 0, none⟩) 1 1)).alloc (.cells #[.int .i64 x] 3)).alloc (.cells #[.int .i64 x, .slice none 0 0, .slice (some ⟨U.heap.size, 0, none⟩) 1 1] 41)) (fun _ h => h) (num4_R hO).1
  clear hO
  go_wp2_with (go_at_call 8; refine hB.mono ?_; rintro e w9 ⟨rfl, hb9⟩; have HF : Hid (Below w.heap.size w w9) := HB.out.trans (hb9.mono HB.out.size); clear hB hb9)
  go_ret
  exact ⟨rfl, HF.out⟩
set_option maxHeartbeats 4000000 in
set_option maxRecDepth 20000 in
theorem num4_n1 {wh x : Int} (w : World) (hk : bits BinOp.and .i64 wh 7 = 4) (d1 : decide (-2147483648 ≤ x) = true) (d2 : decide (x ≤ 2147483647) = false) (he : encP (numP 4 x) = .error 1402) : Calls Try.prog 3 #[.int .i64 wh, .int .i64 x] w fun e w' => e = .returned (.bool true) ∧ Below w.heap.size w w' := by
  have hA := awake14 w
  have HE : Hid (encP (numP 4 x) = .error 1402) := he
  clear he
  go_enter Try.func3, Try.ntmps3
  go_upto_region 4 with (first
    | (go_at_call 5; refine hA.mono ?_; rintro e w1 ⟨rfl, hb1⟩; clear hA; have hT := TinyM w1; have H1 : Hid (Below w.heap.size w w1) := hb1; clear hb1)
    | (go_at_call 6; refine hT.mono ?_; rintro e w2 ⟨hb2, rfl, hT2⟩; clear hT; have HO : Hid (One w (w2.alloc (.cells #[.int .i64 11, .slice (some ⟨w1.heap.size + 1 + 1 + 1 + 1, 0, none⟩) 1 1] 25)) w2.heap.size (w1.heap.size + 1 + 1 + 1 + 1) (w1.heap.size + 1 + 1 + 1) (w1.heap.size + 1)) := one_of H1.out hb2 hT2; clear hT2 hb2 H1))
  generalize hU : w2.alloc (.cells #[.int .i64 11, .slice (some ⟨w1.heap.size + 1 + 1 + 1 + 1, 0, none⟩) 1 1] 25) = U at *
  clear hU
  generalize hbp : w2.heap.size = bp at *
  clear hbp
  generalize hbc : w1.heap.size + 1 + 1 + 1 + 1 = bc at *
  generalize hbm : w1.heap.size + 1 + 1 + 1 = bm at *
  generalize hbi : w1.heap.size + 1 = bi at *
  clear hbc hbm hbi
  have hO := HO.out
  have p0 : U.cell? ⟨bp, 0, none⟩ = some (.int .i64 11) := by simp [World.cell?, hO.prg]
  have p1 : U.cell? ⟨bp, 1, none⟩ = some (.slice (some ⟨bc, 0, none⟩) 1 1) := by simp [World.cell?, hO.prg]
  have c7 : U.cell? ⟨bc, 7, none⟩ = some (.slice (some ⟨bm, 0, none⟩) 1 1) := by simp [World.cell?, hO.cls]
  have m6 : U.cell? ⟨bm, 6, none⟩ = some (.slice (some ⟨bi, 0, none⟩) 1 1) := by simp [World.cell?, hO.met]
  obtain ⟨n1, n2, n3, n4, n5, n6⟩ := hO.ne
  have kbp := blk_lt hO.prg
  have kbc := blk_lt hO.cls
  have kbm := blk_lt hO.met
  have kbi := blk_lt hO.ins
  have ft : U.frozen? ⟨bm, 8, none⟩ = false := by simp [World.frozen?, hO.met]
  have ct : U.cell? ⟨bm, 8, none⟩ = some (.slice none 0 0) := by simp [World.cell?, hO.met]
  have z0 : bm ≠ U.heap.size := by omega
  have z1 : bm ≠ U.heap.size + 1 := by omega
  have y0 : bp ≠ U.heap.size := by omega
  have y1 : bp ≠ U.heap.size + 1 := by omega
  have HB : Hid (Below w.heap.size w (((U.setCell ⟨bm, 8, none⟩ (.slice (some ⟨U.heap.size + 1, 0, none⟩) 1 1)).alloc (.cells #[.int .i64 x] 3)).alloc (.cells #[.int .i64 x, .slice none 0 0, .slice (some ⟨U.heap.size, 0, none⟩) 1 1] 41))) := (num4_R hO).2
  have hB : Calls Try.prog 8 #[.agg #[.int .i64 11, .slice (some ⟨bc, 0, none⟩) 1 1], .int .i64 1402] (((U.setCell ⟨bm, 8, none⟩ (.slice (some ⟨U.heap.size + 1, 0, none⟩) 1 1)).alloc (.cells #[.int .i64 x] 3)).alloc (.cells #[.int .i64 x, .slice none 0 0, .slice (some ⟨U.heap.size, 0, none⟩) 1 1] 41)) fun e w' => e = .returned (.bool true) ∧ Below (((U.setCell ⟨bm, 8, none⟩ (.slice (some ⟨U.heap.size + 1, 0, none⟩) 1 1)).alloc (.cells #[.int .i64 x] 3)).alloc (.cells #[.int .i64 x, .slice none 0 0, .slice (some ⟨U.heap.size, 0, none⟩) 1 1] 41)).heap.size (((U.setCell ⟨bm, 8, none⟩ (.slice (some ⟨U.heap.size + 1, 0, none⟩) 1 1)).alloc (.cells #[.int .i64 x] 3)).alloc (.cells #[.int .i64 x, .slice none 0 0, .slice (some ⟨U.heap.size, 0, none⟩) 1 1] 41)) w' := refuses_yes HE.out (((U.setCell ⟨bm, 8, none⟩ (.slice (some ⟨U.heap.size + 1, 0, none⟩) 1 1)).alloc (.cells #[.int .i64 x] 3)).alloc (.cells #[.int .i64 x, .slice none 0 0, .slice (some ⟨U.heap.size, 0, none⟩) 1 1] 41)) (fun _ h => h) (num4_R hO).1
  clear hO
  go_wp2_with (go_at_call 8; refine hB.mono ?_; rintro e w9 ⟨rfl, hb9⟩; have HF : Hid (Below w.heap.size w w9) := HB.out.trans (hb9.mono HB.out.size); clear hB hb9)
  go_ret
  exact ⟨rfl, HF.out⟩
theorem num5_R {w U : World} {bp bc bm bi : Nat} {x : Int} (h : One w U bp bc bm bi) : kPg.R ((U.setCell ⟨bm, 7, none⟩ (.slice (some ⟨U.heap.size, 0, none⟩) 1 1)).alloc (.cells #[.int .i64 x, .int .i64 0, .int .i64 0, .int .i64 x] 43)) (fun k => k < ((U.setCell ⟨bm, 7, none⟩ (.slice (some ⟨U.heap.size, 0, none⟩) 1 1)).alloc (.cells #[.int .i64 x, .int .i64 0, .int .i64 0, .int .i64 x] 43)).heap.size) (numP 5 x) [.int .i64 11, .slice (some ⟨bc, 0, none⟩) 1 1] ∧ Below w.heap.size w ((U.setCell ⟨bm, 7, none⟩ (.slice (some ⟨U.heap.size, 0, none⟩) 1 1)).alloc (.cells #[.int .i64 x, .int .i64 0, .int .i64 0, .int .i64 x] 43)) := by
  obtain ⟨n1, n2, n3, n4, n5, n6⟩ := h.ne
  obtain ⟨l1, l2, l3, l4⟩ := h.low
  have kbp := blk_lt h.prg
  have kbc := blk_lt h.cls
  have kbm := blk_lt h.met
  have kbi := blk_lt h.ins
  have hz0 : (U.setCell ⟨bm, 7, none⟩ (.slice (some ⟨U.heap.size, 0, none⟩) 1 1)).heap.size = U.heap.size := size_set
  have hz1 : ((U.setCell ⟨bm, 7, none⟩ (.slice (some ⟨U.heap.size, 0, none⟩) 1 1)).alloc (.cells #[.int .i64 x, .int .i64 0, .int .i64 0, .int .i64 x] 43)).heap.size = U.heap.size + 1 := by rw [size_alloc, hz0]
  have hsz : ((U.setCell ⟨bm, 7, none⟩ (.slice (some ⟨U.heap.size, 0, none⟩) 1 1)).alloc (.cells #[.int .i64 x, .int .i64 0, .int .i64 0, .int .i64 x] 43)).heap.size = U.heap.size + 1 := hz1
  have fbc : ((U.setCell ⟨bm, 7, none⟩ (.slice (some ⟨U.heap.size, 0, none⟩) 1 1)).alloc (.cells #[.int .i64 x, .int .i64 0, .int .i64 0, .int .i64 x] 43)).heap[bc]? = some (.cells #[.string ⟨#[77]⟩, .bool false, .bool false, .int .i64 0, .slice none 0 0, .slice none 0 0, .slice none 0 0, .slice (some ⟨bm, 0, none⟩) 1 1] 37 (0, 0)) := by rw [Below.heap_alloc _ _ _ (by omega)]; exact (blk_set (by omega)).trans h.cls
  have fbm : ((U.setCell ⟨bm, 7, none⟩ (.slice (some ⟨U.heap.size, 0, none⟩) 1 1)).alloc (.cells #[.int .i64 x, .int .i64 0, .int .i64 0, .int .i64 x] 43)).heap[bm]? = some (.cells #[.string ⟨#[109, 97, 105, 110]⟩, .bool true, .slice none 0 0, .int .i64 0, .int .i64 0, .int .i64 0, .slice (some ⟨bi, 0, none⟩) 1 1, .slice (some ⟨U.heap.size, 0, none⟩) 1 1, .slice none 0 0] 33 (0, 0)) := by rw [Below.heap_alloc _ _ _ (by omega)]; exact hset h.met _
  have fbi : ((U.setCell ⟨bm, 7, none⟩ (.slice (some ⟨U.heap.size, 0, none⟩) 1 1)).alloc (.cells #[.int .i64 x, .int .i64 0, .int .i64 0, .int .i64 x] 43)).heap[bi]? = some (.cells #[.int .i64 29, .int .i64 0, .int .i64 0] 39 (0, 0)) := by rw [Below.heap_alloc _ _ _ (by omega)]; exact (blk_set (by omega)).trans h.ins
  have a0 : ((U.setCell ⟨bm, 7, none⟩ (.slice (some ⟨U.heap.size, 0, none⟩) 1 1)).alloc (.cells #[.int .i64 x, .int .i64 0, .int .i64 0, .int .i64 x] 43)).heap[U.heap.size]? = some (.cells #[.int .i64 x, .int .i64 0, .int .i64 0, .int .i64 x] 43 (0, 0)) := by
    have hn := heap_alloc_new (U.setCell ⟨bm, 7, none⟩ (.slice (some ⟨U.heap.size, 0, none⟩) 1 1)) (.cells #[.int .i64 x, .int .i64 0, .int .i64 0, .int .i64 x] 43)
    rw [hz0] at hn
    exact hn
  refine ⟨one_R fbc fbm (by show bc < _; omega) (by show bm < _; omega) (Sl.nil _ _ _) (Sl.nil _ _ _) (Sl.nil _ _ _) (Sl.nil _ _ _) (Sl.one1 fbi (by show bi < _; omega) rfl) (Sl.one1 a0 (by show U.heap.size < _; omega) rfl) (Sl.nil _ _ _), ?_⟩
  exact ((h.bel.setCell (by show w.heap.size ≤ bm; omega) _).alloc (by omega) _)
set_option maxHeartbeats 4000000 in
set_option maxRecDepth 20000 in
theorem num5_y0 {wh x : Int} {b : ByteArray} (w : World) (hk : bits BinOp.and .i64 wh 7 = 5) (d1 : decide (-2147483648 ≤ x) = true) (d2 : decide (x ≤ 2147483647) = true) (he : encP (numP 5 x) = .ok b) : Calls Try.prog 3 #[.int .i64 wh, .int .i64 x] w fun e w' => e = .returned (.bool true) ∧ Below w.heap.size w w' := by
  have hA := awake14 w
  have HE : Hid (encP (numP 5 x) = .ok b) := he
  clear he
  go_enter Try.func3, Try.ntmps3
  go_upto_region 4 with (first
    | (go_at_call 5; refine hA.mono ?_; rintro e w1 ⟨rfl, hb1⟩; clear hA; have hT := TinyM w1; have H1 : Hid (Below w.heap.size w w1) := hb1; clear hb1)
    | (go_at_call 6; refine hT.mono ?_; rintro e w2 ⟨hb2, rfl, hT2⟩; clear hT; have HO : Hid (One w (w2.alloc (.cells #[.int .i64 11, .slice (some ⟨w1.heap.size + 1 + 1 + 1 + 1, 0, none⟩) 1 1] 25)) w2.heap.size (w1.heap.size + 1 + 1 + 1 + 1) (w1.heap.size + 1 + 1 + 1) (w1.heap.size + 1)) := one_of H1.out hb2 hT2; clear hT2 hb2 H1))
  generalize hU : w2.alloc (.cells #[.int .i64 11, .slice (some ⟨w1.heap.size + 1 + 1 + 1 + 1, 0, none⟩) 1 1] 25) = U at *
  clear hU
  generalize hbp : w2.heap.size = bp at *
  clear hbp
  generalize hbc : w1.heap.size + 1 + 1 + 1 + 1 = bc at *
  generalize hbm : w1.heap.size + 1 + 1 + 1 = bm at *
  generalize hbi : w1.heap.size + 1 = bi at *
  clear hbc hbm hbi
  have hO := HO.out
  have p0 : U.cell? ⟨bp, 0, none⟩ = some (.int .i64 11) := by simp [World.cell?, hO.prg]
  have p1 : U.cell? ⟨bp, 1, none⟩ = some (.slice (some ⟨bc, 0, none⟩) 1 1) := by simp [World.cell?, hO.prg]
  have c7 : U.cell? ⟨bc, 7, none⟩ = some (.slice (some ⟨bm, 0, none⟩) 1 1) := by simp [World.cell?, hO.cls]
  have m6 : U.cell? ⟨bm, 6, none⟩ = some (.slice (some ⟨bi, 0, none⟩) 1 1) := by simp [World.cell?, hO.met]
  obtain ⟨n1, n2, n3, n4, n5, n6⟩ := hO.ne
  have kbp := blk_lt hO.prg
  have kbc := blk_lt hO.cls
  have kbm := blk_lt hO.met
  have kbi := blk_lt hO.ins
  have ft : U.frozen? ⟨bm, 7, none⟩ = false := by simp [World.frozen?, hO.met]
  have ct : U.cell? ⟨bm, 7, none⟩ = some (.slice none 0 0) := by simp [World.cell?, hO.met]
  have z0 : bm ≠ U.heap.size := by omega
  have y0 : bp ≠ U.heap.size := by omega
  have HB : Hid (Below w.heap.size w ((U.setCell ⟨bm, 7, none⟩ (.slice (some ⟨U.heap.size, 0, none⟩) 1 1)).alloc (.cells #[.int .i64 x, .int .i64 0, .int .i64 0, .int .i64 x] 43))) := (num5_R hO).2
  have hB : Calls Try.prog 7 #[.agg #[.int .i64 11, .slice (some ⟨bc, 0, none⟩) 1 1]] ((U.setCell ⟨bm, 7, none⟩ (.slice (some ⟨U.heap.size, 0, none⟩) 1 1)).alloc (.cells #[.int .i64 x, .int .i64 0, .int .i64 0, .int .i64 x] 43)) fun e w' => e = .returned (.bool true) ∧ Below ((U.setCell ⟨bm, 7, none⟩ (.slice (some ⟨U.heap.size, 0, none⟩) 1 1)).alloc (.cells #[.int .i64 x, .int .i64 0, .int .i64 0, .int .i64 x] 43)).heap.size ((U.setCell ⟨bm, 7, none⟩ (.slice (some ⟨U.heap.size, 0, none⟩) 1 1)).alloc (.cells #[.int .i64 x, .int .i64 0, .int .i64 0, .int .i64 x] 43)) w' := back_yes HE.out ((U.setCell ⟨bm, 7, none⟩ (.slice (some ⟨U.heap.size, 0, none⟩) 1 1)).alloc (.cells #[.int .i64 x, .int .i64 0, .int .i64 0, .int .i64 x] 43)) (fun _ h => h) (num5_R hO).1
  clear hO
  go_wp2_with (go_at_call 7; refine hB.mono ?_; rintro e w9 ⟨rfl, hb9⟩; have HF : Hid (Below w.heap.size w w9) := HB.out.trans (hb9.mono HB.out.size); clear hB hb9)
  go_ret
  exact ⟨rfl, HF.out⟩
set_option maxHeartbeats 4000000 in
set_option maxRecDepth 20000 in
theorem num5_n0 {wh x : Int} (w : World) (hk : bits BinOp.and .i64 wh 7 = 5) (d1 : decide (-2147483648 ≤ x) = false) (he : encP (numP 5 x) = .error 1402) : Calls Try.prog 3 #[.int .i64 wh, .int .i64 x] w fun e w' => e = .returned (.bool true) ∧ Below w.heap.size w w' := by
  have hA := awake14 w
  have HE : Hid (encP (numP 5 x) = .error 1402) := he
  clear he
  go_enter Try.func3, Try.ntmps3
  go_upto_region 4 with (first
    | (go_at_call 5; refine hA.mono ?_; rintro e w1 ⟨rfl, hb1⟩; clear hA; have hT := TinyM w1; have H1 : Hid (Below w.heap.size w w1) := hb1; clear hb1)
    | (go_at_call 6; refine hT.mono ?_; rintro e w2 ⟨hb2, rfl, hT2⟩; clear hT; have HO : Hid (One w (w2.alloc (.cells #[.int .i64 11, .slice (some ⟨w1.heap.size + 1 + 1 + 1 + 1, 0, none⟩) 1 1] 25)) w2.heap.size (w1.heap.size + 1 + 1 + 1 + 1) (w1.heap.size + 1 + 1 + 1) (w1.heap.size + 1)) := one_of H1.out hb2 hT2; clear hT2 hb2 H1))
  generalize hU : w2.alloc (.cells #[.int .i64 11, .slice (some ⟨w1.heap.size + 1 + 1 + 1 + 1, 0, none⟩) 1 1] 25) = U at *
  clear hU
  generalize hbp : w2.heap.size = bp at *
  clear hbp
  generalize hbc : w1.heap.size + 1 + 1 + 1 + 1 = bc at *
  generalize hbm : w1.heap.size + 1 + 1 + 1 = bm at *
  generalize hbi : w1.heap.size + 1 = bi at *
  clear hbc hbm hbi
  have hO := HO.out
  have p0 : U.cell? ⟨bp, 0, none⟩ = some (.int .i64 11) := by simp [World.cell?, hO.prg]
  have p1 : U.cell? ⟨bp, 1, none⟩ = some (.slice (some ⟨bc, 0, none⟩) 1 1) := by simp [World.cell?, hO.prg]
  have c7 : U.cell? ⟨bc, 7, none⟩ = some (.slice (some ⟨bm, 0, none⟩) 1 1) := by simp [World.cell?, hO.cls]
  have m6 : U.cell? ⟨bm, 6, none⟩ = some (.slice (some ⟨bi, 0, none⟩) 1 1) := by simp [World.cell?, hO.met]
  obtain ⟨n1, n2, n3, n4, n5, n6⟩ := hO.ne
  have kbp := blk_lt hO.prg
  have kbc := blk_lt hO.cls
  have kbm := blk_lt hO.met
  have kbi := blk_lt hO.ins
  have ft : U.frozen? ⟨bm, 7, none⟩ = false := by simp [World.frozen?, hO.met]
  have ct : U.cell? ⟨bm, 7, none⟩ = some (.slice none 0 0) := by simp [World.cell?, hO.met]
  have z0 : bm ≠ U.heap.size := by omega
  have y0 : bp ≠ U.heap.size := by omega
  have HB : Hid (Below w.heap.size w ((U.setCell ⟨bm, 7, none⟩ (.slice (some ⟨U.heap.size, 0, none⟩) 1 1)).alloc (.cells #[.int .i64 x, .int .i64 0, .int .i64 0, .int .i64 x] 43))) := (num5_R hO).2
  have hB : Calls Try.prog 8 #[.agg #[.int .i64 11, .slice (some ⟨bc, 0, none⟩) 1 1], .int .i64 1402] ((U.setCell ⟨bm, 7, none⟩ (.slice (some ⟨U.heap.size, 0, none⟩) 1 1)).alloc (.cells #[.int .i64 x, .int .i64 0, .int .i64 0, .int .i64 x] 43)) fun e w' => e = .returned (.bool true) ∧ Below ((U.setCell ⟨bm, 7, none⟩ (.slice (some ⟨U.heap.size, 0, none⟩) 1 1)).alloc (.cells #[.int .i64 x, .int .i64 0, .int .i64 0, .int .i64 x] 43)).heap.size ((U.setCell ⟨bm, 7, none⟩ (.slice (some ⟨U.heap.size, 0, none⟩) 1 1)).alloc (.cells #[.int .i64 x, .int .i64 0, .int .i64 0, .int .i64 x] 43)) w' := refuses_yes HE.out ((U.setCell ⟨bm, 7, none⟩ (.slice (some ⟨U.heap.size, 0, none⟩) 1 1)).alloc (.cells #[.int .i64 x, .int .i64 0, .int .i64 0, .int .i64 x] 43)) (fun _ h => h) (num5_R hO).1
  clear hO
  go_wp2_with (go_at_call 8; refine hB.mono ?_; rintro e w9 ⟨rfl, hb9⟩; have HF : Hid (Below w.heap.size w w9) := HB.out.trans (hb9.mono HB.out.size); clear hB hb9)
  go_ret
  exact ⟨rfl, HF.out⟩
set_option maxHeartbeats 4000000 in
set_option maxRecDepth 20000 in
theorem num5_n1 {wh x : Int} (w : World) (hk : bits BinOp.and .i64 wh 7 = 5) (d1 : decide (-2147483648 ≤ x) = true) (d2 : decide (x ≤ 2147483647) = false) (he : encP (numP 5 x) = .error 1402) : Calls Try.prog 3 #[.int .i64 wh, .int .i64 x] w fun e w' => e = .returned (.bool true) ∧ Below w.heap.size w w' := by
  have hA := awake14 w
  have HE : Hid (encP (numP 5 x) = .error 1402) := he
  clear he
  go_enter Try.func3, Try.ntmps3
  go_upto_region 4 with (first
    | (go_at_call 5; refine hA.mono ?_; rintro e w1 ⟨rfl, hb1⟩; clear hA; have hT := TinyM w1; have H1 : Hid (Below w.heap.size w w1) := hb1; clear hb1)
    | (go_at_call 6; refine hT.mono ?_; rintro e w2 ⟨hb2, rfl, hT2⟩; clear hT; have HO : Hid (One w (w2.alloc (.cells #[.int .i64 11, .slice (some ⟨w1.heap.size + 1 + 1 + 1 + 1, 0, none⟩) 1 1] 25)) w2.heap.size (w1.heap.size + 1 + 1 + 1 + 1) (w1.heap.size + 1 + 1 + 1) (w1.heap.size + 1)) := one_of H1.out hb2 hT2; clear hT2 hb2 H1))
  generalize hU : w2.alloc (.cells #[.int .i64 11, .slice (some ⟨w1.heap.size + 1 + 1 + 1 + 1, 0, none⟩) 1 1] 25) = U at *
  clear hU
  generalize hbp : w2.heap.size = bp at *
  clear hbp
  generalize hbc : w1.heap.size + 1 + 1 + 1 + 1 = bc at *
  generalize hbm : w1.heap.size + 1 + 1 + 1 = bm at *
  generalize hbi : w1.heap.size + 1 = bi at *
  clear hbc hbm hbi
  have hO := HO.out
  have p0 : U.cell? ⟨bp, 0, none⟩ = some (.int .i64 11) := by simp [World.cell?, hO.prg]
  have p1 : U.cell? ⟨bp, 1, none⟩ = some (.slice (some ⟨bc, 0, none⟩) 1 1) := by simp [World.cell?, hO.prg]
  have c7 : U.cell? ⟨bc, 7, none⟩ = some (.slice (some ⟨bm, 0, none⟩) 1 1) := by simp [World.cell?, hO.cls]
  have m6 : U.cell? ⟨bm, 6, none⟩ = some (.slice (some ⟨bi, 0, none⟩) 1 1) := by simp [World.cell?, hO.met]
  obtain ⟨n1, n2, n3, n4, n5, n6⟩ := hO.ne
  have kbp := blk_lt hO.prg
  have kbc := blk_lt hO.cls
  have kbm := blk_lt hO.met
  have kbi := blk_lt hO.ins
  have ft : U.frozen? ⟨bm, 7, none⟩ = false := by simp [World.frozen?, hO.met]
  have ct : U.cell? ⟨bm, 7, none⟩ = some (.slice none 0 0) := by simp [World.cell?, hO.met]
  have z0 : bm ≠ U.heap.size := by omega
  have y0 : bp ≠ U.heap.size := by omega
  have HB : Hid (Below w.heap.size w ((U.setCell ⟨bm, 7, none⟩ (.slice (some ⟨U.heap.size, 0, none⟩) 1 1)).alloc (.cells #[.int .i64 x, .int .i64 0, .int .i64 0, .int .i64 x] 43))) := (num5_R hO).2
  have hB : Calls Try.prog 8 #[.agg #[.int .i64 11, .slice (some ⟨bc, 0, none⟩) 1 1], .int .i64 1402] ((U.setCell ⟨bm, 7, none⟩ (.slice (some ⟨U.heap.size, 0, none⟩) 1 1)).alloc (.cells #[.int .i64 x, .int .i64 0, .int .i64 0, .int .i64 x] 43)) fun e w' => e = .returned (.bool true) ∧ Below ((U.setCell ⟨bm, 7, none⟩ (.slice (some ⟨U.heap.size, 0, none⟩) 1 1)).alloc (.cells #[.int .i64 x, .int .i64 0, .int .i64 0, .int .i64 x] 43)).heap.size ((U.setCell ⟨bm, 7, none⟩ (.slice (some ⟨U.heap.size, 0, none⟩) 1 1)).alloc (.cells #[.int .i64 x, .int .i64 0, .int .i64 0, .int .i64 x] 43)) w' := refuses_yes HE.out ((U.setCell ⟨bm, 7, none⟩ (.slice (some ⟨U.heap.size, 0, none⟩) 1 1)).alloc (.cells #[.int .i64 x, .int .i64 0, .int .i64 0, .int .i64 x] 43)) (fun _ h => h) (num5_R hO).1
  clear hO
  go_wp2_with (go_at_call 8; refine hB.mono ?_; rintro e w9 ⟨rfl, hb9⟩; have HF : Hid (Below w.heap.size w w9) := HB.out.trans (hb9.mono HB.out.size); clear hB hb9)
  go_ret
  exact ⟨rfl, HF.out⟩
end Go.Proofs.Ytajghalljkphiab
/- Walks of ClassNumbers. -/
namespace Go.Proofs.Ytajghalljkphiab
open Go.RowKit

theorem num6_R {w U : World} {bp bc bm bi : Nat} {x : Int} (h : One w U bp bc bm bi) : kPg.R (U.setCell ⟨bm, 4, none⟩ (.int .i64 x)) (fun k => k < (U.setCell ⟨bm, 4, none⟩ (.int .i64 x)).heap.size) (numP 6 x) [.int .i64 11, .slice (some ⟨bc, 0, none⟩) 1 1] ∧ Below w.heap.size w (U.setCell ⟨bm, 4, none⟩ (.int .i64 x)) := by
  obtain ⟨n1, n2, n3, n4, n5, n6⟩ := h.ne
  obtain ⟨l1, l2, l3, l4⟩ := h.low
  have kbp := blk_lt h.prg
  have kbc := blk_lt h.cls
  have kbm := blk_lt h.met
  have kbi := blk_lt h.ins
  have hz0 : (U.setCell ⟨bm, 4, none⟩ (.int .i64 x)).heap.size = U.heap.size := size_set
  have hsz : (U.setCell ⟨bm, 4, none⟩ (.int .i64 x)).heap.size = U.heap.size := hz0
  have fbc : (U.setCell ⟨bm, 4, none⟩ (.int .i64 x)).heap[bc]? = some (.cells #[.string ⟨#[77]⟩, .bool false, .bool false, .int .i64 0, .slice none 0 0, .slice none 0 0, .slice none 0 0, .slice (some ⟨bm, 0, none⟩) 1 1] 37 (0, 0)) := by exact (blk_set (by omega)).trans h.cls
  have fbm : (U.setCell ⟨bm, 4, none⟩ (.int .i64 x)).heap[bm]? = some (.cells #[.string ⟨#[109, 97, 105, 110]⟩, .bool true, .slice none 0 0, .int .i64 0, .int .i64 x, .int .i64 0, .slice (some ⟨bi, 0, none⟩) 1 1, .slice none 0 0, .slice none 0 0] 33 (0, 0)) := by exact hset h.met _
  have fbi : (U.setCell ⟨bm, 4, none⟩ (.int .i64 x)).heap[bi]? = some (.cells #[.int .i64 29, .int .i64 0, .int .i64 0] 39 (0, 0)) := by exact (blk_set (by omega)).trans h.ins
  refine ⟨one_R fbc fbm (by show bc < _; omega) (by show bm < _; omega) (Sl.nil _ _ _) (Sl.nil _ _ _) (Sl.nil _ _ _) (Sl.nil _ _ _) (Sl.one1 fbi (by show bi < _; omega) rfl) (Sl.nil _ _ _) (Sl.nil _ _ _), ?_⟩
  exact (h.bel.setCell (by show w.heap.size ≤ bm; omega) _)
set_option maxHeartbeats 4000000 in
set_option maxRecDepth 20000 in
theorem num6_y0 {wh x : Int} {b : ByteArray} (w : World) (hk : bits BinOp.and .i64 wh 7 = 6) (d1 : decide (-2147483648 ≤ x) = true) (d2 : decide (x ≤ 2147483647) = true) (e1 : decide (0 ≤ x) = true) (e2 : decide (x ≤ 24) = true) (he : encP (numP 6 x) = .ok b) : Calls Try.prog 3 #[.int .i64 wh, .int .i64 x] w fun e w' => e = .returned (.bool true) ∧ Below w.heap.size w w' := by
  have hA := awake14 w
  have HE : Hid (encP (numP 6 x) = .ok b) := he
  clear he
  go_enter Try.func3, Try.ntmps3
  go_upto_region 4 with (first
    | (go_at_call 5; refine hA.mono ?_; rintro e w1 ⟨rfl, hb1⟩; clear hA; have hT := TinyM w1; have H1 : Hid (Below w.heap.size w w1) := hb1; clear hb1)
    | (go_at_call 6; refine hT.mono ?_; rintro e w2 ⟨hb2, rfl, hT2⟩; clear hT; have HO : Hid (One w (w2.alloc (.cells #[.int .i64 11, .slice (some ⟨w1.heap.size + 1 + 1 + 1 + 1, 0, none⟩) 1 1] 25)) w2.heap.size (w1.heap.size + 1 + 1 + 1 + 1) (w1.heap.size + 1 + 1 + 1) (w1.heap.size + 1)) := one_of H1.out hb2 hT2; clear hT2 hb2 H1))
  generalize hU : w2.alloc (.cells #[.int .i64 11, .slice (some ⟨w1.heap.size + 1 + 1 + 1 + 1, 0, none⟩) 1 1] 25) = U at *
  clear hU
  generalize hbp : w2.heap.size = bp at *
  clear hbp
  generalize hbc : w1.heap.size + 1 + 1 + 1 + 1 = bc at *
  generalize hbm : w1.heap.size + 1 + 1 + 1 = bm at *
  generalize hbi : w1.heap.size + 1 = bi at *
  clear hbc hbm hbi
  have hO := HO.out
  have p0 : U.cell? ⟨bp, 0, none⟩ = some (.int .i64 11) := by simp [World.cell?, hO.prg]
  have p1 : U.cell? ⟨bp, 1, none⟩ = some (.slice (some ⟨bc, 0, none⟩) 1 1) := by simp [World.cell?, hO.prg]
  have c7 : U.cell? ⟨bc, 7, none⟩ = some (.slice (some ⟨bm, 0, none⟩) 1 1) := by simp [World.cell?, hO.cls]
  have m6 : U.cell? ⟨bm, 6, none⟩ = some (.slice (some ⟨bi, 0, none⟩) 1 1) := by simp [World.cell?, hO.met]
  obtain ⟨n1, n2, n3, n4, n5, n6⟩ := hO.ne
  have kbp := blk_lt hO.prg
  have kbc := blk_lt hO.cls
  have kbm := blk_lt hO.met
  have kbi := blk_lt hO.ins
  have ft : U.frozen? ⟨bm, 4, none⟩ = false := by simp [World.frozen?, hO.met]
  have ct : U.cell? ⟨bm, 4, none⟩ = some (.int .i64 0) := by simp [World.cell?, hO.met]
  have HB : Hid (Below w.heap.size w (U.setCell ⟨bm, 4, none⟩ (.int .i64 x))) := (num6_R hO).2
  have hB : Calls Try.prog 7 #[.agg #[.int .i64 11, .slice (some ⟨bc, 0, none⟩) 1 1]] (U.setCell ⟨bm, 4, none⟩ (.int .i64 x)) fun e w' => e = .returned (.bool true) ∧ Below (U.setCell ⟨bm, 4, none⟩ (.int .i64 x)).heap.size (U.setCell ⟨bm, 4, none⟩ (.int .i64 x)) w' := back_yes HE.out (U.setCell ⟨bm, 4, none⟩ (.int .i64 x)) (fun _ h => h) (num6_R hO).1
  clear hO
  go_wp2_with (go_at_call 7; refine hB.mono ?_; rintro e w9 ⟨rfl, hb9⟩; have HF : Hid (Below w.heap.size w w9) := HB.out.trans (hb9.mono HB.out.size); clear hB hb9)
  go_ret
  exact ⟨rfl, HF.out⟩
set_option maxHeartbeats 4000000 in
set_option maxRecDepth 20000 in
theorem num6_n0 {wh x : Int} (w : World) (hk : bits BinOp.and .i64 wh 7 = 6) (d1 : decide (-2147483648 ≤ x) = false) (e1 : decide (0 ≤ x) = false) (he : encP (numP 6 x) = .error 1402) : Calls Try.prog 3 #[.int .i64 wh, .int .i64 x] w fun e w' => e = .returned (.bool true) ∧ Below w.heap.size w w' := by
  have hA := awake14 w
  have HE : Hid (encP (numP 6 x) = .error 1402) := he
  clear he
  go_enter Try.func3, Try.ntmps3
  go_upto_region 4 with (first
    | (go_at_call 5; refine hA.mono ?_; rintro e w1 ⟨rfl, hb1⟩; clear hA; have hT := TinyM w1; have H1 : Hid (Below w.heap.size w w1) := hb1; clear hb1)
    | (go_at_call 6; refine hT.mono ?_; rintro e w2 ⟨hb2, rfl, hT2⟩; clear hT; have HO : Hid (One w (w2.alloc (.cells #[.int .i64 11, .slice (some ⟨w1.heap.size + 1 + 1 + 1 + 1, 0, none⟩) 1 1] 25)) w2.heap.size (w1.heap.size + 1 + 1 + 1 + 1) (w1.heap.size + 1 + 1 + 1) (w1.heap.size + 1)) := one_of H1.out hb2 hT2; clear hT2 hb2 H1))
  generalize hU : w2.alloc (.cells #[.int .i64 11, .slice (some ⟨w1.heap.size + 1 + 1 + 1 + 1, 0, none⟩) 1 1] 25) = U at *
  clear hU
  generalize hbp : w2.heap.size = bp at *
  clear hbp
  generalize hbc : w1.heap.size + 1 + 1 + 1 + 1 = bc at *
  generalize hbm : w1.heap.size + 1 + 1 + 1 = bm at *
  generalize hbi : w1.heap.size + 1 = bi at *
  clear hbc hbm hbi
  have hO := HO.out
  have p0 : U.cell? ⟨bp, 0, none⟩ = some (.int .i64 11) := by simp [World.cell?, hO.prg]
  have p1 : U.cell? ⟨bp, 1, none⟩ = some (.slice (some ⟨bc, 0, none⟩) 1 1) := by simp [World.cell?, hO.prg]
  have c7 : U.cell? ⟨bc, 7, none⟩ = some (.slice (some ⟨bm, 0, none⟩) 1 1) := by simp [World.cell?, hO.cls]
  have m6 : U.cell? ⟨bm, 6, none⟩ = some (.slice (some ⟨bi, 0, none⟩) 1 1) := by simp [World.cell?, hO.met]
  obtain ⟨n1, n2, n3, n4, n5, n6⟩ := hO.ne
  have kbp := blk_lt hO.prg
  have kbc := blk_lt hO.cls
  have kbm := blk_lt hO.met
  have kbi := blk_lt hO.ins
  have ft : U.frozen? ⟨bm, 4, none⟩ = false := by simp [World.frozen?, hO.met]
  have ct : U.cell? ⟨bm, 4, none⟩ = some (.int .i64 0) := by simp [World.cell?, hO.met]
  have HB : Hid (Below w.heap.size w (U.setCell ⟨bm, 4, none⟩ (.int .i64 x))) := (num6_R hO).2
  have hB : Calls Try.prog 8 #[.agg #[.int .i64 11, .slice (some ⟨bc, 0, none⟩) 1 1], .int .i64 1402] (U.setCell ⟨bm, 4, none⟩ (.int .i64 x)) fun e w' => e = .returned (.bool true) ∧ Below (U.setCell ⟨bm, 4, none⟩ (.int .i64 x)).heap.size (U.setCell ⟨bm, 4, none⟩ (.int .i64 x)) w' := refuses_yes HE.out (U.setCell ⟨bm, 4, none⟩ (.int .i64 x)) (fun _ h => h) (num6_R hO).1
  clear hO
  go_wp2_with (go_at_call 8; refine hB.mono ?_; rintro e w9 ⟨rfl, hb9⟩; have HF : Hid (Below w.heap.size w w9) := HB.out.trans (hb9.mono HB.out.size); clear hB hb9)
  go_ret
  exact ⟨rfl, HF.out⟩
set_option maxHeartbeats 4000000 in
set_option maxRecDepth 20000 in
theorem num6_n1 {wh x : Int} (w : World) (hk : bits BinOp.and .i64 wh 7 = 6) (d1 : decide (-2147483648 ≤ x) = true) (d2 : decide (x ≤ 2147483647) = true) (e1 : decide (0 ≤ x) = false) (he : encP (numP 6 x) = .error 1402) : Calls Try.prog 3 #[.int .i64 wh, .int .i64 x] w fun e w' => e = .returned (.bool true) ∧ Below w.heap.size w w' := by
  have hA := awake14 w
  have HE : Hid (encP (numP 6 x) = .error 1402) := he
  clear he
  go_enter Try.func3, Try.ntmps3
  go_upto_region 4 with (first
    | (go_at_call 5; refine hA.mono ?_; rintro e w1 ⟨rfl, hb1⟩; clear hA; have hT := TinyM w1; have H1 : Hid (Below w.heap.size w w1) := hb1; clear hb1)
    | (go_at_call 6; refine hT.mono ?_; rintro e w2 ⟨hb2, rfl, hT2⟩; clear hT; have HO : Hid (One w (w2.alloc (.cells #[.int .i64 11, .slice (some ⟨w1.heap.size + 1 + 1 + 1 + 1, 0, none⟩) 1 1] 25)) w2.heap.size (w1.heap.size + 1 + 1 + 1 + 1) (w1.heap.size + 1 + 1 + 1) (w1.heap.size + 1)) := one_of H1.out hb2 hT2; clear hT2 hb2 H1))
  generalize hU : w2.alloc (.cells #[.int .i64 11, .slice (some ⟨w1.heap.size + 1 + 1 + 1 + 1, 0, none⟩) 1 1] 25) = U at *
  clear hU
  generalize hbp : w2.heap.size = bp at *
  clear hbp
  generalize hbc : w1.heap.size + 1 + 1 + 1 + 1 = bc at *
  generalize hbm : w1.heap.size + 1 + 1 + 1 = bm at *
  generalize hbi : w1.heap.size + 1 = bi at *
  clear hbc hbm hbi
  have hO := HO.out
  have p0 : U.cell? ⟨bp, 0, none⟩ = some (.int .i64 11) := by simp [World.cell?, hO.prg]
  have p1 : U.cell? ⟨bp, 1, none⟩ = some (.slice (some ⟨bc, 0, none⟩) 1 1) := by simp [World.cell?, hO.prg]
  have c7 : U.cell? ⟨bc, 7, none⟩ = some (.slice (some ⟨bm, 0, none⟩) 1 1) := by simp [World.cell?, hO.cls]
  have m6 : U.cell? ⟨bm, 6, none⟩ = some (.slice (some ⟨bi, 0, none⟩) 1 1) := by simp [World.cell?, hO.met]
  obtain ⟨n1, n2, n3, n4, n5, n6⟩ := hO.ne
  have kbp := blk_lt hO.prg
  have kbc := blk_lt hO.cls
  have kbm := blk_lt hO.met
  have kbi := blk_lt hO.ins
  have ft : U.frozen? ⟨bm, 4, none⟩ = false := by simp [World.frozen?, hO.met]
  have ct : U.cell? ⟨bm, 4, none⟩ = some (.int .i64 0) := by simp [World.cell?, hO.met]
  have HB : Hid (Below w.heap.size w (U.setCell ⟨bm, 4, none⟩ (.int .i64 x))) := (num6_R hO).2
  have hB : Calls Try.prog 8 #[.agg #[.int .i64 11, .slice (some ⟨bc, 0, none⟩) 1 1], .int .i64 1402] (U.setCell ⟨bm, 4, none⟩ (.int .i64 x)) fun e w' => e = .returned (.bool true) ∧ Below (U.setCell ⟨bm, 4, none⟩ (.int .i64 x)).heap.size (U.setCell ⟨bm, 4, none⟩ (.int .i64 x)) w' := refuses_yes HE.out (U.setCell ⟨bm, 4, none⟩ (.int .i64 x)) (fun _ h => h) (num6_R hO).1
  clear hO
  go_wp2_with (go_at_call 8; refine hB.mono ?_; rintro e w9 ⟨rfl, hb9⟩; have HF : Hid (Below w.heap.size w w9) := HB.out.trans (hb9.mono HB.out.size); clear hB hb9)
  go_ret
  exact ⟨rfl, HF.out⟩
set_option maxHeartbeats 4000000 in
set_option maxRecDepth 20000 in
theorem num6_n2 {wh x : Int} (w : World) (hk : bits BinOp.and .i64 wh 7 = 6) (d1 : decide (-2147483648 ≤ x) = true) (d2 : decide (x ≤ 2147483647) = true) (e1 : decide (0 ≤ x) = true) (e2 : decide (x ≤ 24) = false) (he : encP (numP 6 x) = .error 1402) : Calls Try.prog 3 #[.int .i64 wh, .int .i64 x] w fun e w' => e = .returned (.bool true) ∧ Below w.heap.size w w' := by
  have hA := awake14 w
  have HE : Hid (encP (numP 6 x) = .error 1402) := he
  clear he
  go_enter Try.func3, Try.ntmps3
  go_upto_region 4 with (first
    | (go_at_call 5; refine hA.mono ?_; rintro e w1 ⟨rfl, hb1⟩; clear hA; have hT := TinyM w1; have H1 : Hid (Below w.heap.size w w1) := hb1; clear hb1)
    | (go_at_call 6; refine hT.mono ?_; rintro e w2 ⟨hb2, rfl, hT2⟩; clear hT; have HO : Hid (One w (w2.alloc (.cells #[.int .i64 11, .slice (some ⟨w1.heap.size + 1 + 1 + 1 + 1, 0, none⟩) 1 1] 25)) w2.heap.size (w1.heap.size + 1 + 1 + 1 + 1) (w1.heap.size + 1 + 1 + 1) (w1.heap.size + 1)) := one_of H1.out hb2 hT2; clear hT2 hb2 H1))
  generalize hU : w2.alloc (.cells #[.int .i64 11, .slice (some ⟨w1.heap.size + 1 + 1 + 1 + 1, 0, none⟩) 1 1] 25) = U at *
  clear hU
  generalize hbp : w2.heap.size = bp at *
  clear hbp
  generalize hbc : w1.heap.size + 1 + 1 + 1 + 1 = bc at *
  generalize hbm : w1.heap.size + 1 + 1 + 1 = bm at *
  generalize hbi : w1.heap.size + 1 = bi at *
  clear hbc hbm hbi
  have hO := HO.out
  have p0 : U.cell? ⟨bp, 0, none⟩ = some (.int .i64 11) := by simp [World.cell?, hO.prg]
  have p1 : U.cell? ⟨bp, 1, none⟩ = some (.slice (some ⟨bc, 0, none⟩) 1 1) := by simp [World.cell?, hO.prg]
  have c7 : U.cell? ⟨bc, 7, none⟩ = some (.slice (some ⟨bm, 0, none⟩) 1 1) := by simp [World.cell?, hO.cls]
  have m6 : U.cell? ⟨bm, 6, none⟩ = some (.slice (some ⟨bi, 0, none⟩) 1 1) := by simp [World.cell?, hO.met]
  obtain ⟨n1, n2, n3, n4, n5, n6⟩ := hO.ne
  have kbp := blk_lt hO.prg
  have kbc := blk_lt hO.cls
  have kbm := blk_lt hO.met
  have kbi := blk_lt hO.ins
  have ft : U.frozen? ⟨bm, 4, none⟩ = false := by simp [World.frozen?, hO.met]
  have ct : U.cell? ⟨bm, 4, none⟩ = some (.int .i64 0) := by simp [World.cell?, hO.met]
  have HB : Hid (Below w.heap.size w (U.setCell ⟨bm, 4, none⟩ (.int .i64 x))) := (num6_R hO).2
  have hB : Calls Try.prog 8 #[.agg #[.int .i64 11, .slice (some ⟨bc, 0, none⟩) 1 1], .int .i64 1402] (U.setCell ⟨bm, 4, none⟩ (.int .i64 x)) fun e w' => e = .returned (.bool true) ∧ Below (U.setCell ⟨bm, 4, none⟩ (.int .i64 x)).heap.size (U.setCell ⟨bm, 4, none⟩ (.int .i64 x)) w' := refuses_yes HE.out (U.setCell ⟨bm, 4, none⟩ (.int .i64 x)) (fun _ h => h) (num6_R hO).1
  clear hO
  go_wp2_with (go_at_call 8; refine hB.mono ?_; rintro e w9 ⟨rfl, hb9⟩; have HF : Hid (Below w.heap.size w w9) := HB.out.trans (hb9.mono HB.out.size); clear hB hb9)
  go_ret
  exact ⟨rfl, HF.out⟩
set_option maxHeartbeats 4000000 in
set_option maxRecDepth 20000 in
theorem num6_n3 {wh x : Int} (w : World) (hk : bits BinOp.and .i64 wh 7 = 6) (d1 : decide (-2147483648 ≤ x) = true) (d2 : decide (x ≤ 2147483647) = false) (e1 : decide (0 ≤ x) = true) (e2 : decide (x ≤ 24) = false) (he : encP (numP 6 x) = .error 1402) : Calls Try.prog 3 #[.int .i64 wh, .int .i64 x] w fun e w' => e = .returned (.bool true) ∧ Below w.heap.size w w' := by
  have hA := awake14 w
  have HE : Hid (encP (numP 6 x) = .error 1402) := he
  clear he
  go_enter Try.func3, Try.ntmps3
  go_upto_region 4 with (first
    | (go_at_call 5; refine hA.mono ?_; rintro e w1 ⟨rfl, hb1⟩; clear hA; have hT := TinyM w1; have H1 : Hid (Below w.heap.size w w1) := hb1; clear hb1)
    | (go_at_call 6; refine hT.mono ?_; rintro e w2 ⟨hb2, rfl, hT2⟩; clear hT; have HO : Hid (One w (w2.alloc (.cells #[.int .i64 11, .slice (some ⟨w1.heap.size + 1 + 1 + 1 + 1, 0, none⟩) 1 1] 25)) w2.heap.size (w1.heap.size + 1 + 1 + 1 + 1) (w1.heap.size + 1 + 1 + 1) (w1.heap.size + 1)) := one_of H1.out hb2 hT2; clear hT2 hb2 H1))
  generalize hU : w2.alloc (.cells #[.int .i64 11, .slice (some ⟨w1.heap.size + 1 + 1 + 1 + 1, 0, none⟩) 1 1] 25) = U at *
  clear hU
  generalize hbp : w2.heap.size = bp at *
  clear hbp
  generalize hbc : w1.heap.size + 1 + 1 + 1 + 1 = bc at *
  generalize hbm : w1.heap.size + 1 + 1 + 1 = bm at *
  generalize hbi : w1.heap.size + 1 = bi at *
  clear hbc hbm hbi
  have hO := HO.out
  have p0 : U.cell? ⟨bp, 0, none⟩ = some (.int .i64 11) := by simp [World.cell?, hO.prg]
  have p1 : U.cell? ⟨bp, 1, none⟩ = some (.slice (some ⟨bc, 0, none⟩) 1 1) := by simp [World.cell?, hO.prg]
  have c7 : U.cell? ⟨bc, 7, none⟩ = some (.slice (some ⟨bm, 0, none⟩) 1 1) := by simp [World.cell?, hO.cls]
  have m6 : U.cell? ⟨bm, 6, none⟩ = some (.slice (some ⟨bi, 0, none⟩) 1 1) := by simp [World.cell?, hO.met]
  obtain ⟨n1, n2, n3, n4, n5, n6⟩ := hO.ne
  have kbp := blk_lt hO.prg
  have kbc := blk_lt hO.cls
  have kbm := blk_lt hO.met
  have kbi := blk_lt hO.ins
  have ft : U.frozen? ⟨bm, 4, none⟩ = false := by simp [World.frozen?, hO.met]
  have ct : U.cell? ⟨bm, 4, none⟩ = some (.int .i64 0) := by simp [World.cell?, hO.met]
  have HB : Hid (Below w.heap.size w (U.setCell ⟨bm, 4, none⟩ (.int .i64 x))) := (num6_R hO).2
  have hB : Calls Try.prog 8 #[.agg #[.int .i64 11, .slice (some ⟨bc, 0, none⟩) 1 1], .int .i64 1402] (U.setCell ⟨bm, 4, none⟩ (.int .i64 x)) fun e w' => e = .returned (.bool true) ∧ Below (U.setCell ⟨bm, 4, none⟩ (.int .i64 x)).heap.size (U.setCell ⟨bm, 4, none⟩ (.int .i64 x)) w' := refuses_yes HE.out (U.setCell ⟨bm, 4, none⟩ (.int .i64 x)) (fun _ h => h) (num6_R hO).1
  clear hO
  go_wp2_with (go_at_call 8; refine hB.mono ?_; rintro e w9 ⟨rfl, hb9⟩; have HF : Hid (Below w.heap.size w w9) := HB.out.trans (hb9.mono HB.out.size); clear hB hb9)
  go_ret
  exact ⟨rfl, HF.out⟩
theorem num7_R {w U : World} {bp bc bm bi : Nat} {x : Int} (h : One w U bp bc bm bi) : kPg.R (U.setCell ⟨bm, 5, none⟩ (.int .i64 x)) (fun k => k < (U.setCell ⟨bm, 5, none⟩ (.int .i64 x)).heap.size) (numP 7 x) [.int .i64 11, .slice (some ⟨bc, 0, none⟩) 1 1] ∧ Below w.heap.size w (U.setCell ⟨bm, 5, none⟩ (.int .i64 x)) := by
  obtain ⟨n1, n2, n3, n4, n5, n6⟩ := h.ne
  obtain ⟨l1, l2, l3, l4⟩ := h.low
  have kbp := blk_lt h.prg
  have kbc := blk_lt h.cls
  have kbm := blk_lt h.met
  have kbi := blk_lt h.ins
  have hz0 : (U.setCell ⟨bm, 5, none⟩ (.int .i64 x)).heap.size = U.heap.size := size_set
  have hsz : (U.setCell ⟨bm, 5, none⟩ (.int .i64 x)).heap.size = U.heap.size := hz0
  have fbc : (U.setCell ⟨bm, 5, none⟩ (.int .i64 x)).heap[bc]? = some (.cells #[.string ⟨#[77]⟩, .bool false, .bool false, .int .i64 0, .slice none 0 0, .slice none 0 0, .slice none 0 0, .slice (some ⟨bm, 0, none⟩) 1 1] 37 (0, 0)) := by exact (blk_set (by omega)).trans h.cls
  have fbm : (U.setCell ⟨bm, 5, none⟩ (.int .i64 x)).heap[bm]? = some (.cells #[.string ⟨#[109, 97, 105, 110]⟩, .bool true, .slice none 0 0, .int .i64 0, .int .i64 0, .int .i64 x, .slice (some ⟨bi, 0, none⟩) 1 1, .slice none 0 0, .slice none 0 0] 33 (0, 0)) := by exact hset h.met _
  have fbi : (U.setCell ⟨bm, 5, none⟩ (.int .i64 x)).heap[bi]? = some (.cells #[.int .i64 29, .int .i64 0, .int .i64 0] 39 (0, 0)) := by exact (blk_set (by omega)).trans h.ins
  refine ⟨one_R fbc fbm (by show bc < _; omega) (by show bm < _; omega) (Sl.nil _ _ _) (Sl.nil _ _ _) (Sl.nil _ _ _) (Sl.nil _ _ _) (Sl.one1 fbi (by show bi < _; omega) rfl) (Sl.nil _ _ _) (Sl.nil _ _ _), ?_⟩
  exact (h.bel.setCell (by show w.heap.size ≤ bm; omega) _)
set_option maxHeartbeats 4000000 in
set_option maxRecDepth 20000 in
theorem num7_y0 {wh x : Int} {b : ByteArray} (w : World) (hk : bits BinOp.and .i64 wh 7 = 7) (d1 : decide (-2147483648 ≤ x) = true) (d2 : decide (x ≤ 2147483647) = true) (e1 : decide (0 ≤ x) = true) (e2 : decide (x ≤ 24) = true) (he : encP (numP 7 x) = .ok b) : Calls Try.prog 3 #[.int .i64 wh, .int .i64 x] w fun e w' => e = .returned (.bool true) ∧ Below w.heap.size w w' := by
  have hA := awake14 w
  have HE : Hid (encP (numP 7 x) = .ok b) := he
  clear he
  go_enter Try.func3, Try.ntmps3
  go_upto_region 4 with (first
    | (go_at_call 5; refine hA.mono ?_; rintro e w1 ⟨rfl, hb1⟩; clear hA; have hT := TinyM w1; have H1 : Hid (Below w.heap.size w w1) := hb1; clear hb1)
    | (go_at_call 6; refine hT.mono ?_; rintro e w2 ⟨hb2, rfl, hT2⟩; clear hT; have HO : Hid (One w (w2.alloc (.cells #[.int .i64 11, .slice (some ⟨w1.heap.size + 1 + 1 + 1 + 1, 0, none⟩) 1 1] 25)) w2.heap.size (w1.heap.size + 1 + 1 + 1 + 1) (w1.heap.size + 1 + 1 + 1) (w1.heap.size + 1)) := one_of H1.out hb2 hT2; clear hT2 hb2 H1))
  generalize hU : w2.alloc (.cells #[.int .i64 11, .slice (some ⟨w1.heap.size + 1 + 1 + 1 + 1, 0, none⟩) 1 1] 25) = U at *
  clear hU
  generalize hbp : w2.heap.size = bp at *
  clear hbp
  generalize hbc : w1.heap.size + 1 + 1 + 1 + 1 = bc at *
  generalize hbm : w1.heap.size + 1 + 1 + 1 = bm at *
  generalize hbi : w1.heap.size + 1 = bi at *
  clear hbc hbm hbi
  have hO := HO.out
  have p0 : U.cell? ⟨bp, 0, none⟩ = some (.int .i64 11) := by simp [World.cell?, hO.prg]
  have p1 : U.cell? ⟨bp, 1, none⟩ = some (.slice (some ⟨bc, 0, none⟩) 1 1) := by simp [World.cell?, hO.prg]
  have c7 : U.cell? ⟨bc, 7, none⟩ = some (.slice (some ⟨bm, 0, none⟩) 1 1) := by simp [World.cell?, hO.cls]
  have m6 : U.cell? ⟨bm, 6, none⟩ = some (.slice (some ⟨bi, 0, none⟩) 1 1) := by simp [World.cell?, hO.met]
  obtain ⟨n1, n2, n3, n4, n5, n6⟩ := hO.ne
  have kbp := blk_lt hO.prg
  have kbc := blk_lt hO.cls
  have kbm := blk_lt hO.met
  have kbi := blk_lt hO.ins
  have ft : U.frozen? ⟨bm, 5, none⟩ = false := by simp [World.frozen?, hO.met]
  have ct : U.cell? ⟨bm, 5, none⟩ = some (.int .i64 0) := by simp [World.cell?, hO.met]
  have HB : Hid (Below w.heap.size w (U.setCell ⟨bm, 5, none⟩ (.int .i64 x))) := (num7_R hO).2
  have hB : Calls Try.prog 7 #[.agg #[.int .i64 11, .slice (some ⟨bc, 0, none⟩) 1 1]] (U.setCell ⟨bm, 5, none⟩ (.int .i64 x)) fun e w' => e = .returned (.bool true) ∧ Below (U.setCell ⟨bm, 5, none⟩ (.int .i64 x)).heap.size (U.setCell ⟨bm, 5, none⟩ (.int .i64 x)) w' := back_yes HE.out (U.setCell ⟨bm, 5, none⟩ (.int .i64 x)) (fun _ h => h) (num7_R hO).1
  clear hO
  go_wp2_with (go_at_call 7; refine hB.mono ?_; rintro e w9 ⟨rfl, hb9⟩; have HF : Hid (Below w.heap.size w w9) := HB.out.trans (hb9.mono HB.out.size); clear hB hb9)
  go_ret
  exact ⟨rfl, HF.out⟩
set_option maxHeartbeats 4000000 in
set_option maxRecDepth 20000 in
theorem num7_n0 {wh x : Int} (w : World) (hk : bits BinOp.and .i64 wh 7 = 7) (d1 : decide (-2147483648 ≤ x) = false) (e1 : decide (0 ≤ x) = false) (he : encP (numP 7 x) = .error 1402) : Calls Try.prog 3 #[.int .i64 wh, .int .i64 x] w fun e w' => e = .returned (.bool true) ∧ Below w.heap.size w w' := by
  have hA := awake14 w
  have HE : Hid (encP (numP 7 x) = .error 1402) := he
  clear he
  go_enter Try.func3, Try.ntmps3
  go_upto_region 4 with (first
    | (go_at_call 5; refine hA.mono ?_; rintro e w1 ⟨rfl, hb1⟩; clear hA; have hT := TinyM w1; have H1 : Hid (Below w.heap.size w w1) := hb1; clear hb1)
    | (go_at_call 6; refine hT.mono ?_; rintro e w2 ⟨hb2, rfl, hT2⟩; clear hT; have HO : Hid (One w (w2.alloc (.cells #[.int .i64 11, .slice (some ⟨w1.heap.size + 1 + 1 + 1 + 1, 0, none⟩) 1 1] 25)) w2.heap.size (w1.heap.size + 1 + 1 + 1 + 1) (w1.heap.size + 1 + 1 + 1) (w1.heap.size + 1)) := one_of H1.out hb2 hT2; clear hT2 hb2 H1))
  generalize hU : w2.alloc (.cells #[.int .i64 11, .slice (some ⟨w1.heap.size + 1 + 1 + 1 + 1, 0, none⟩) 1 1] 25) = U at *
  clear hU
  generalize hbp : w2.heap.size = bp at *
  clear hbp
  generalize hbc : w1.heap.size + 1 + 1 + 1 + 1 = bc at *
  generalize hbm : w1.heap.size + 1 + 1 + 1 = bm at *
  generalize hbi : w1.heap.size + 1 = bi at *
  clear hbc hbm hbi
  have hO := HO.out
  have p0 : U.cell? ⟨bp, 0, none⟩ = some (.int .i64 11) := by simp [World.cell?, hO.prg]
  have p1 : U.cell? ⟨bp, 1, none⟩ = some (.slice (some ⟨bc, 0, none⟩) 1 1) := by simp [World.cell?, hO.prg]
  have c7 : U.cell? ⟨bc, 7, none⟩ = some (.slice (some ⟨bm, 0, none⟩) 1 1) := by simp [World.cell?, hO.cls]
  have m6 : U.cell? ⟨bm, 6, none⟩ = some (.slice (some ⟨bi, 0, none⟩) 1 1) := by simp [World.cell?, hO.met]
  obtain ⟨n1, n2, n3, n4, n5, n6⟩ := hO.ne
  have kbp := blk_lt hO.prg
  have kbc := blk_lt hO.cls
  have kbm := blk_lt hO.met
  have kbi := blk_lt hO.ins
  have ft : U.frozen? ⟨bm, 5, none⟩ = false := by simp [World.frozen?, hO.met]
  have ct : U.cell? ⟨bm, 5, none⟩ = some (.int .i64 0) := by simp [World.cell?, hO.met]
  have HB : Hid (Below w.heap.size w (U.setCell ⟨bm, 5, none⟩ (.int .i64 x))) := (num7_R hO).2
  have hB : Calls Try.prog 8 #[.agg #[.int .i64 11, .slice (some ⟨bc, 0, none⟩) 1 1], .int .i64 1402] (U.setCell ⟨bm, 5, none⟩ (.int .i64 x)) fun e w' => e = .returned (.bool true) ∧ Below (U.setCell ⟨bm, 5, none⟩ (.int .i64 x)).heap.size (U.setCell ⟨bm, 5, none⟩ (.int .i64 x)) w' := refuses_yes HE.out (U.setCell ⟨bm, 5, none⟩ (.int .i64 x)) (fun _ h => h) (num7_R hO).1
  clear hO
  go_wp2_with (go_at_call 8; refine hB.mono ?_; rintro e w9 ⟨rfl, hb9⟩; have HF : Hid (Below w.heap.size w w9) := HB.out.trans (hb9.mono HB.out.size); clear hB hb9)
  go_ret
  exact ⟨rfl, HF.out⟩
set_option maxHeartbeats 4000000 in
set_option maxRecDepth 20000 in
theorem num7_n1 {wh x : Int} (w : World) (hk : bits BinOp.and .i64 wh 7 = 7) (d1 : decide (-2147483648 ≤ x) = true) (d2 : decide (x ≤ 2147483647) = true) (e1 : decide (0 ≤ x) = false) (he : encP (numP 7 x) = .error 1402) : Calls Try.prog 3 #[.int .i64 wh, .int .i64 x] w fun e w' => e = .returned (.bool true) ∧ Below w.heap.size w w' := by
  have hA := awake14 w
  have HE : Hid (encP (numP 7 x) = .error 1402) := he
  clear he
  go_enter Try.func3, Try.ntmps3
  go_upto_region 4 with (first
    | (go_at_call 5; refine hA.mono ?_; rintro e w1 ⟨rfl, hb1⟩; clear hA; have hT := TinyM w1; have H1 : Hid (Below w.heap.size w w1) := hb1; clear hb1)
    | (go_at_call 6; refine hT.mono ?_; rintro e w2 ⟨hb2, rfl, hT2⟩; clear hT; have HO : Hid (One w (w2.alloc (.cells #[.int .i64 11, .slice (some ⟨w1.heap.size + 1 + 1 + 1 + 1, 0, none⟩) 1 1] 25)) w2.heap.size (w1.heap.size + 1 + 1 + 1 + 1) (w1.heap.size + 1 + 1 + 1) (w1.heap.size + 1)) := one_of H1.out hb2 hT2; clear hT2 hb2 H1))
  generalize hU : w2.alloc (.cells #[.int .i64 11, .slice (some ⟨w1.heap.size + 1 + 1 + 1 + 1, 0, none⟩) 1 1] 25) = U at *
  clear hU
  generalize hbp : w2.heap.size = bp at *
  clear hbp
  generalize hbc : w1.heap.size + 1 + 1 + 1 + 1 = bc at *
  generalize hbm : w1.heap.size + 1 + 1 + 1 = bm at *
  generalize hbi : w1.heap.size + 1 = bi at *
  clear hbc hbm hbi
  have hO := HO.out
  have p0 : U.cell? ⟨bp, 0, none⟩ = some (.int .i64 11) := by simp [World.cell?, hO.prg]
  have p1 : U.cell? ⟨bp, 1, none⟩ = some (.slice (some ⟨bc, 0, none⟩) 1 1) := by simp [World.cell?, hO.prg]
  have c7 : U.cell? ⟨bc, 7, none⟩ = some (.slice (some ⟨bm, 0, none⟩) 1 1) := by simp [World.cell?, hO.cls]
  have m6 : U.cell? ⟨bm, 6, none⟩ = some (.slice (some ⟨bi, 0, none⟩) 1 1) := by simp [World.cell?, hO.met]
  obtain ⟨n1, n2, n3, n4, n5, n6⟩ := hO.ne
  have kbp := blk_lt hO.prg
  have kbc := blk_lt hO.cls
  have kbm := blk_lt hO.met
  have kbi := blk_lt hO.ins
  have ft : U.frozen? ⟨bm, 5, none⟩ = false := by simp [World.frozen?, hO.met]
  have ct : U.cell? ⟨bm, 5, none⟩ = some (.int .i64 0) := by simp [World.cell?, hO.met]
  have HB : Hid (Below w.heap.size w (U.setCell ⟨bm, 5, none⟩ (.int .i64 x))) := (num7_R hO).2
  have hB : Calls Try.prog 8 #[.agg #[.int .i64 11, .slice (some ⟨bc, 0, none⟩) 1 1], .int .i64 1402] (U.setCell ⟨bm, 5, none⟩ (.int .i64 x)) fun e w' => e = .returned (.bool true) ∧ Below (U.setCell ⟨bm, 5, none⟩ (.int .i64 x)).heap.size (U.setCell ⟨bm, 5, none⟩ (.int .i64 x)) w' := refuses_yes HE.out (U.setCell ⟨bm, 5, none⟩ (.int .i64 x)) (fun _ h => h) (num7_R hO).1
  clear hO
  go_wp2_with (go_at_call 8; refine hB.mono ?_; rintro e w9 ⟨rfl, hb9⟩; have HF : Hid (Below w.heap.size w w9) := HB.out.trans (hb9.mono HB.out.size); clear hB hb9)
  go_ret
  exact ⟨rfl, HF.out⟩
set_option maxHeartbeats 4000000 in
set_option maxRecDepth 20000 in
theorem num7_n2 {wh x : Int} (w : World) (hk : bits BinOp.and .i64 wh 7 = 7) (d1 : decide (-2147483648 ≤ x) = true) (d2 : decide (x ≤ 2147483647) = true) (e1 : decide (0 ≤ x) = true) (e2 : decide (x ≤ 24) = false) (he : encP (numP 7 x) = .error 1402) : Calls Try.prog 3 #[.int .i64 wh, .int .i64 x] w fun e w' => e = .returned (.bool true) ∧ Below w.heap.size w w' := by
  have hA := awake14 w
  have HE : Hid (encP (numP 7 x) = .error 1402) := he
  clear he
  go_enter Try.func3, Try.ntmps3
  go_upto_region 4 with (first
    | (go_at_call 5; refine hA.mono ?_; rintro e w1 ⟨rfl, hb1⟩; clear hA; have hT := TinyM w1; have H1 : Hid (Below w.heap.size w w1) := hb1; clear hb1)
    | (go_at_call 6; refine hT.mono ?_; rintro e w2 ⟨hb2, rfl, hT2⟩; clear hT; have HO : Hid (One w (w2.alloc (.cells #[.int .i64 11, .slice (some ⟨w1.heap.size + 1 + 1 + 1 + 1, 0, none⟩) 1 1] 25)) w2.heap.size (w1.heap.size + 1 + 1 + 1 + 1) (w1.heap.size + 1 + 1 + 1) (w1.heap.size + 1)) := one_of H1.out hb2 hT2; clear hT2 hb2 H1))
  generalize hU : w2.alloc (.cells #[.int .i64 11, .slice (some ⟨w1.heap.size + 1 + 1 + 1 + 1, 0, none⟩) 1 1] 25) = U at *
  clear hU
  generalize hbp : w2.heap.size = bp at *
  clear hbp
  generalize hbc : w1.heap.size + 1 + 1 + 1 + 1 = bc at *
  generalize hbm : w1.heap.size + 1 + 1 + 1 = bm at *
  generalize hbi : w1.heap.size + 1 = bi at *
  clear hbc hbm hbi
  have hO := HO.out
  have p0 : U.cell? ⟨bp, 0, none⟩ = some (.int .i64 11) := by simp [World.cell?, hO.prg]
  have p1 : U.cell? ⟨bp, 1, none⟩ = some (.slice (some ⟨bc, 0, none⟩) 1 1) := by simp [World.cell?, hO.prg]
  have c7 : U.cell? ⟨bc, 7, none⟩ = some (.slice (some ⟨bm, 0, none⟩) 1 1) := by simp [World.cell?, hO.cls]
  have m6 : U.cell? ⟨bm, 6, none⟩ = some (.slice (some ⟨bi, 0, none⟩) 1 1) := by simp [World.cell?, hO.met]
  obtain ⟨n1, n2, n3, n4, n5, n6⟩ := hO.ne
  have kbp := blk_lt hO.prg
  have kbc := blk_lt hO.cls
  have kbm := blk_lt hO.met
  have kbi := blk_lt hO.ins
  have ft : U.frozen? ⟨bm, 5, none⟩ = false := by simp [World.frozen?, hO.met]
  have ct : U.cell? ⟨bm, 5, none⟩ = some (.int .i64 0) := by simp [World.cell?, hO.met]
  have HB : Hid (Below w.heap.size w (U.setCell ⟨bm, 5, none⟩ (.int .i64 x))) := (num7_R hO).2
  have hB : Calls Try.prog 8 #[.agg #[.int .i64 11, .slice (some ⟨bc, 0, none⟩) 1 1], .int .i64 1402] (U.setCell ⟨bm, 5, none⟩ (.int .i64 x)) fun e w' => e = .returned (.bool true) ∧ Below (U.setCell ⟨bm, 5, none⟩ (.int .i64 x)).heap.size (U.setCell ⟨bm, 5, none⟩ (.int .i64 x)) w' := refuses_yes HE.out (U.setCell ⟨bm, 5, none⟩ (.int .i64 x)) (fun _ h => h) (num7_R hO).1
  clear hO
  go_wp2_with (go_at_call 8; refine hB.mono ?_; rintro e w9 ⟨rfl, hb9⟩; have HF : Hid (Below w.heap.size w w9) := HB.out.trans (hb9.mono HB.out.size); clear hB hb9)
  go_ret
  exact ⟨rfl, HF.out⟩
set_option maxHeartbeats 4000000 in
set_option maxRecDepth 20000 in
theorem num7_n3 {wh x : Int} (w : World) (hk : bits BinOp.and .i64 wh 7 = 7) (d1 : decide (-2147483648 ≤ x) = true) (d2 : decide (x ≤ 2147483647) = false) (e1 : decide (0 ≤ x) = true) (e2 : decide (x ≤ 24) = false) (he : encP (numP 7 x) = .error 1402) : Calls Try.prog 3 #[.int .i64 wh, .int .i64 x] w fun e w' => e = .returned (.bool true) ∧ Below w.heap.size w w' := by
  have hA := awake14 w
  have HE : Hid (encP (numP 7 x) = .error 1402) := he
  clear he
  go_enter Try.func3, Try.ntmps3
  go_upto_region 4 with (first
    | (go_at_call 5; refine hA.mono ?_; rintro e w1 ⟨rfl, hb1⟩; clear hA; have hT := TinyM w1; have H1 : Hid (Below w.heap.size w w1) := hb1; clear hb1)
    | (go_at_call 6; refine hT.mono ?_; rintro e w2 ⟨hb2, rfl, hT2⟩; clear hT; have HO : Hid (One w (w2.alloc (.cells #[.int .i64 11, .slice (some ⟨w1.heap.size + 1 + 1 + 1 + 1, 0, none⟩) 1 1] 25)) w2.heap.size (w1.heap.size + 1 + 1 + 1 + 1) (w1.heap.size + 1 + 1 + 1) (w1.heap.size + 1)) := one_of H1.out hb2 hT2; clear hT2 hb2 H1))
  generalize hU : w2.alloc (.cells #[.int .i64 11, .slice (some ⟨w1.heap.size + 1 + 1 + 1 + 1, 0, none⟩) 1 1] 25) = U at *
  clear hU
  generalize hbp : w2.heap.size = bp at *
  clear hbp
  generalize hbc : w1.heap.size + 1 + 1 + 1 + 1 = bc at *
  generalize hbm : w1.heap.size + 1 + 1 + 1 = bm at *
  generalize hbi : w1.heap.size + 1 = bi at *
  clear hbc hbm hbi
  have hO := HO.out
  have p0 : U.cell? ⟨bp, 0, none⟩ = some (.int .i64 11) := by simp [World.cell?, hO.prg]
  have p1 : U.cell? ⟨bp, 1, none⟩ = some (.slice (some ⟨bc, 0, none⟩) 1 1) := by simp [World.cell?, hO.prg]
  have c7 : U.cell? ⟨bc, 7, none⟩ = some (.slice (some ⟨bm, 0, none⟩) 1 1) := by simp [World.cell?, hO.cls]
  have m6 : U.cell? ⟨bm, 6, none⟩ = some (.slice (some ⟨bi, 0, none⟩) 1 1) := by simp [World.cell?, hO.met]
  obtain ⟨n1, n2, n3, n4, n5, n6⟩ := hO.ne
  have kbp := blk_lt hO.prg
  have kbc := blk_lt hO.cls
  have kbm := blk_lt hO.met
  have kbi := blk_lt hO.ins
  have ft : U.frozen? ⟨bm, 5, none⟩ = false := by simp [World.frozen?, hO.met]
  have ct : U.cell? ⟨bm, 5, none⟩ = some (.int .i64 0) := by simp [World.cell?, hO.met]
  have HB : Hid (Below w.heap.size w (U.setCell ⟨bm, 5, none⟩ (.int .i64 x))) := (num7_R hO).2
  have hB : Calls Try.prog 8 #[.agg #[.int .i64 11, .slice (some ⟨bc, 0, none⟩) 1 1], .int .i64 1402] (U.setCell ⟨bm, 5, none⟩ (.int .i64 x)) fun e w' => e = .returned (.bool true) ∧ Below (U.setCell ⟨bm, 5, none⟩ (.int .i64 x)).heap.size (U.setCell ⟨bm, 5, none⟩ (.int .i64 x)) w' := refuses_yes HE.out (U.setCell ⟨bm, 5, none⟩ (.int .i64 x)) (fun _ h => h) (num7_R hO).1
  clear hO
  go_wp2_with (go_at_call 8; refine hB.mono ?_; rintro e w9 ⟨rfl, hb9⟩; have HF : Hid (Below w.heap.size w w9) := HB.out.trans (hb9.mono HB.out.size); clear hB hb9)
  go_ret
  exact ⟨rfl, HF.out⟩
end Go.Proofs.Ytajghalljkphiab
/- The walk of ClassNumbers. -/
namespace Go.Proofs.Ytajghalljkphiab
open Go.RowKit

theorem mask7l (n : Int) : bits BinOp.and .i64 n 7 = n % 8 := by
  have e : (BitVec.ofInt 64 n &&& BitVec.ofInt 64 7).toNat = (n % 18446744073709551616).toNat % 8 := by
    rw [BitVec.toNat_and, BitVec.toNat_ofInt, show (BitVec.ofInt 64 7).toNat = 2 ^ 3 - 1 from by decide, Nat.and_two_pow_sub_one_eq_mod]; rfl
  show IntKind.i64.wrap ((BitVec.ofInt 64 n &&& BitVec.ofInt 64 7).toNat : Nat) = n % 8
  rw [e, IntKind.wrap_i64]; omega
theorem numbers_walk (wh x : Int) (w : World) : Calls Try.prog 3 #[.int .i64 wh, .int .i64 x] w fun e w' => e = .returned (.bool true) ∧ Below w.heap.size w w' := by
  have hm := mask7l wh
  have hr : wh % 8 = 0 ∨ wh % 8 = 1 ∨ wh % 8 = 2 ∨ wh % 8 = 3 ∨ wh % 8 = 4 ∨ wh % 8 = 5 ∨ wh % 8 = 6 ∨ wh % 8 = 7 := by omega
  rcases hr with h | h | h | h | h | h | h | h <;> rw [h] at hm
  · cases hf : numF 0 x with
    | true =>
      obtain ⟨b, he⟩ := num_yes (k := 0) (by decide) hf
      have hi := inR_iff.1 (show inR x = true from hf)
      exact num0_y0 w hm (decide_eq_true hi.1) (decide_eq_true hi.2) he
    | false =>
      have he := num_no (k := 0) (by decide) hf
      have hi : ¬ (-2147483648 ≤ x ∧ x ≤ 2147483647) := fun h => by
        have h2 : inR x = true := inR_iff.2 h
        rw [show inR x = false from hf] at h2; cases h2
      by_cases h1 : -2147483648 ≤ x
      · exact num0_n1 w hm (decide_eq_true h1) (decide_eq_false (by omega)) he
      · exact num0_n0 w hm (decide_eq_false h1) he
  · cases hf : numF 1 x with
    | true =>
      obtain ⟨b, he⟩ := num_yes (k := 1) (by decide) hf
      have hi := inR_iff.1 (show inR x = true from hf)
      exact num1_y0 w hm (decide_eq_true hi.1) (decide_eq_true hi.2) he
    | false =>
      have he := num_no (k := 1) (by decide) hf
      have hi : ¬ (-2147483648 ≤ x ∧ x ≤ 2147483647) := fun h => by
        have h2 : inR x = true := inR_iff.2 h
        rw [show inR x = false from hf] at h2; cases h2
      by_cases h1 : -2147483648 ≤ x
      · exact num1_n1 w hm (decide_eq_true h1) (decide_eq_false (by omega)) he
      · exact num1_n0 w hm (decide_eq_false h1) he
  · cases hf : numF 2 x with
    | true =>
      obtain ⟨b, he⟩ := num_yes (k := 2) (by decide) hf
      have hi := inR_iff.1 (show inR x = true from hf)
      exact num2_y0 w hm (decide_eq_true hi.1) (decide_eq_true hi.2) he
    | false =>
      have he := num_no (k := 2) (by decide) hf
      have hi : ¬ (-2147483648 ≤ x ∧ x ≤ 2147483647) := fun h => by
        have h2 : inR x = true := inR_iff.2 h
        rw [show inR x = false from hf] at h2; cases h2
      by_cases h1 : -2147483648 ≤ x
      · exact num2_n1 w hm (decide_eq_true h1) (decide_eq_false (by omega)) he
      · exact num2_n0 w hm (decide_eq_false h1) he
  · cases hf : numF 3 x with
    | true =>
      obtain ⟨b, he⟩ := num_yes (k := 3) (by decide) hf
      have hi := inR_iff.1 (show inR x = true from hf)
      exact num3_y0 w hm (decide_eq_true hi.1) (decide_eq_true hi.2) he
    | false =>
      have he := num_no (k := 3) (by decide) hf
      have hi : ¬ (-2147483648 ≤ x ∧ x ≤ 2147483647) := fun h => by
        have h2 : inR x = true := inR_iff.2 h
        rw [show inR x = false from hf] at h2; cases h2
      by_cases h1 : -2147483648 ≤ x
      · exact num3_n1 w hm (decide_eq_true h1) (decide_eq_false (by omega)) he
      · exact num3_n0 w hm (decide_eq_false h1) he
  · cases hf : numF 4 x with
    | true =>
      obtain ⟨b, he⟩ := num_yes (k := 4) (by decide) hf
      have hi := inR_iff.1 (show inR x = true from hf)
      exact num4_y0 w hm (decide_eq_true hi.1) (decide_eq_true hi.2) he
    | false =>
      have he := num_no (k := 4) (by decide) hf
      have hi : ¬ (-2147483648 ≤ x ∧ x ≤ 2147483647) := fun h => by
        have h2 : inR x = true := inR_iff.2 h
        rw [show inR x = false from hf] at h2; cases h2
      by_cases h1 : -2147483648 ≤ x
      · exact num4_n1 w hm (decide_eq_true h1) (decide_eq_false (by omega)) he
      · exact num4_n0 w hm (decide_eq_false h1) he
  · cases hf : numF 5 x with
    | true =>
      obtain ⟨b, he⟩ := num_yes (k := 5) (by decide) hf
      have hi := inR_iff.1 (show inR x = true from hf)
      exact num5_y0 w hm (decide_eq_true hi.1) (decide_eq_true hi.2) he
    | false =>
      have he := num_no (k := 5) (by decide) hf
      have hi : ¬ (-2147483648 ≤ x ∧ x ≤ 2147483647) := fun h => by
        have h2 : inR x = true := inR_iff.2 h
        rw [show inR x = false from hf] at h2; cases h2
      by_cases h1 : -2147483648 ≤ x
      · exact num5_n1 w hm (decide_eq_true h1) (decide_eq_false (by omega)) he
      · exact num5_n0 w hm (decide_eq_false h1) he
  · cases hf : numF 6 x with
    | true =>
      obtain ⟨b, he⟩ := num_yes (k := 6) (by decide) hf
      have hi : 0 ≤ x ∧ x ≤ 24 := by have h2 : (decide (0 ≤ x) && decide (x ≤ 24)) = true := hf; simpa using h2
      exact num6_y0 w hm (decide_eq_true (by omega)) (decide_eq_true (by omega)) (decide_eq_true hi.1) (decide_eq_true hi.2) he
    | false =>
      have he := num_no (k := 6) (by decide) hf
      have hi : ¬ (0 ≤ x ∧ x ≤ 24) := fun h => by
        have h2 : (decide (0 ≤ x) && decide (x ≤ 24)) = false := hf
        rw [decide_eq_true h.1, decide_eq_true h.2] at h2; cases h2
      by_cases h1 : 0 ≤ x
      · by_cases h2 : x ≤ 2147483647
        · exact num6_n2 w hm (decide_eq_true (by omega)) (decide_eq_true h2) (decide_eq_true h1) (decide_eq_false (by omega)) he
        · exact num6_n3 w hm (decide_eq_true (by omega)) (decide_eq_false h2) (decide_eq_true h1) (decide_eq_false (by omega)) he
      · by_cases h2 : -2147483648 ≤ x
        · exact num6_n1 w hm (decide_eq_true h2) (decide_eq_true (by omega)) (decide_eq_false h1) he
        · exact num6_n0 w hm (decide_eq_false h2) (decide_eq_false h1) he
  · cases hf : numF 7 x with
    | true =>
      obtain ⟨b, he⟩ := num_yes (k := 7) (by decide) hf
      have hi : 0 ≤ x ∧ x ≤ 24 := by have h2 : (decide (0 ≤ x) && decide (x ≤ 24)) = true := hf; simpa using h2
      exact num7_y0 w hm (decide_eq_true (by omega)) (decide_eq_true (by omega)) (decide_eq_true hi.1) (decide_eq_true hi.2) he
    | false =>
      have he := num_no (k := 7) (by decide) hf
      have hi : ¬ (0 ≤ x ∧ x ≤ 24) := fun h => by
        have h2 : (decide (0 ≤ x) && decide (x ≤ 24)) = false := hf
        rw [decide_eq_true h.1, decide_eq_true h.2] at h2; cases h2
      by_cases h1 : 0 ≤ x
      · by_cases h2 : x ≤ 2147483647
        · exact num7_n2 w hm (decide_eq_true (by omega)) (decide_eq_true h2) (decide_eq_true h1) (decide_eq_false (by omega)) he
        · exact num7_n3 w hm (decide_eq_true (by omega)) (decide_eq_false h2) (decide_eq_true h1) (decide_eq_false (by omega)) he
      · by_cases h2 : -2147483648 ≤ x
        · exact num7_n1 w hm (decide_eq_true h2) (decide_eq_true (by omega)) (decide_eq_false h1) he
        · exact num7_n0 w hm (decide_eq_false h2) (decide_eq_false h1) he
end Go.Proofs.Ytajghalljkphiab
