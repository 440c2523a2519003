/- Walks of ClassCounts: rows that are made. -/
import Derived.Test.YtajghalljkphiaaMGC1
import Derived.Test.YtajghalljkphiaaMLLC
import Derived.Deep.DeepCutAuto
import Derived.Test.YtajghalljkphiaaMGC2
namespace Go.Proofs.Ytajghalljkphiaa
open Go.RowKit

theorem cnt1_8_R {w U : World} {bp bc bm bi : Nat}  (h : One w U bp bc bm bi) : kPg.R (((U.setCell ⟨bc, 4, none⟩ (.slice (some ⟨U.heap.size + 1, 0, none⟩) 8 8)).alloc (.cells #[.int .i64 40, .int .i64 8, .int .i64 24, .int .i64 24, .int .i64 24, .int .i64 8, .int .i64 300, .int .i64 16] 3)).alloc (.cells (madeCells #[.int .i64 0] (8 * 1)) 3)) (fun k => k < (((U.setCell ⟨bc, 4, none⟩ (.slice (some ⟨U.heap.size + 1, 0, none⟩) 8 8)).alloc (.cells #[.int .i64 40, .int .i64 8, .int .i64 24, .int .i64 24, .int .i64 24, .int .i64 8, .int .i64 300, .int .i64 16] 3)).alloc (.cells (madeCells #[.int .i64 0] (8 * 1)) 3)).heap.size) (cntP 1 8) [.int .i64 11, .slice (some ⟨bc, 0, none⟩) 1 1] ∧ Below w.heap.size w (((U.setCell ⟨bc, 4, none⟩ (.slice (some ⟨U.heap.size + 1, 0, none⟩) 8 8)).alloc (.cells #[.int .i64 40, .int .i64 8, .int .i64 24, .int .i64 24, .int .i64 24, .int .i64 8, .int .i64 300, .int .i64 16] 3)).alloc (.cells (madeCells #[.int .i64 0] (8 * 1)) 3)) := by
  obtain ⟨n1, n2, n3, n4, n5, n6⟩ := h.ne
  obtain ⟨l1, l2, l3, l4⟩ := h.low
  have kbp := blk_lt h.prg
  have kbc := blk_lt h.cls
  have kbm := blk_lt h.met
  have kbi := blk_lt h.ins
  have hz0 : (U.setCell ⟨bc, 4, none⟩ (.slice (some ⟨U.heap.size + 1, 0, none⟩) 8 8)).heap.size = U.heap.size := size_set
  have hz1 : ((U.setCell ⟨bc, 4, none⟩ (.slice (some ⟨U.heap.size + 1, 0, none⟩) 8 8)).alloc (.cells #[.int .i64 40, .int .i64 8, .int .i64 24, .int .i64 24, .int .i64 24, .int .i64 8, .int .i64 300, .int .i64 16] 3)).heap.size = U.heap.size + 1 := by rw [size_alloc, hz0]
  have hz2 : (((U.setCell ⟨bc, 4, none⟩ (.slice (some ⟨U.heap.size + 1, 0, none⟩) 8 8)).alloc (.cells #[.int .i64 40, .int .i64 8, .int .i64 24, .int .i64 24, .int .i64 24, .int .i64 8, .int .i64 300, .int .i64 16] 3)).alloc (.cells (madeCells #[.int .i64 0] (8 * 1)) 3)).heap.size = U.heap.size + 1 + 1 := by rw [size_alloc, hz1]
  have hsz : (((U.setCell ⟨bc, 4, none⟩ (.slice (some ⟨U.heap.size + 1, 0, none⟩) 8 8)).alloc (.cells #[.int .i64 40, .int .i64 8, .int .i64 24, .int .i64 24, .int .i64 24, .int .i64 8, .int .i64 300, .int .i64 16] 3)).alloc (.cells (madeCells #[.int .i64 0] (8 * 1)) 3)).heap.size = U.heap.size + 1 + 1 := hz2
  have fbc : (((U.setCell ⟨bc, 4, none⟩ (.slice (some ⟨U.heap.size + 1, 0, none⟩) 8 8)).alloc (.cells #[.int .i64 40, .int .i64 8, .int .i64 24, .int .i64 24, .int .i64 24, .int .i64 8, .int .i64 300, .int .i64 16] 3)).alloc (.cells (madeCells #[.int .i64 0] (8 * 1)) 3)).heap[bc]? = some (.cells #[.string ⟨#[77]⟩, .bool false, .bool false, .int .i64 0, .slice (some ⟨U.heap.size + 1, 0, none⟩) 8 8, .slice none 0 0, .slice none 0 0, .slice (some ⟨bm, 0, none⟩) 1 1] 42 (0, 0)) := by rw [Below.heap_alloc _ _ _ (by omega)]; rw [Below.heap_alloc _ _ _ (by omega)]; exact hset h.cls _
  have fbm : (((U.setCell ⟨bc, 4, none⟩ (.slice (some ⟨U.heap.size + 1, 0, none⟩) 8 8)).alloc (.cells #[.int .i64 40, .int .i64 8, .int .i64 24, .int .i64 24, .int .i64 24, .int .i64 8, .int .i64 300, .int .i64 16] 3)).alloc (.cells (madeCells #[.int .i64 0] (8 * 1)) 3)).heap[bm]? = some (.cells #[.string ⟨#[109, 97, 105, 110]⟩, .bool true, .slice none 0 0, .int .i64 0, .int .i64 0, .int .i64 0, .slice (some ⟨bi, 0, none⟩) 1 1, .slice none 0 0, .slice none 0 0] 49 (0, 0)) := by rw [Below.heap_alloc _ _ _ (by omega)]; rw [Below.heap_alloc _ _ _ (by omega)]; exact (blk_set (by omega)).trans h.met
  have fbi : (((U.setCell ⟨bc, 4, none⟩ (.slice (some ⟨U.heap.size + 1, 0, none⟩) 8 8)).alloc (.cells #[.int .i64 40, .int .i64 8, .int .i64 24, .int .i64 24, .int .i64 24, .int .i64 8, .int .i64 300, .int .i64 16] 3)).alloc (.cells (madeCells #[.int .i64 0] (8 * 1)) 3)).heap[bi]? = some (.cells #[.int .i64 29, .int .i64 0, .int .i64 0] 63 (0, 0)) := by rw [Below.heap_alloc _ _ _ (by omega)]; rw [Below.heap_alloc _ _ _ (by omega)]; exact (blk_set (by omega)).trans h.ins
  have a0 : (((U.setCell ⟨bc, 4, none⟩ (.slice (some ⟨U.heap.size + 1, 0, none⟩) 8 8)).alloc (.cells #[.int .i64 40, .int .i64 8, .int .i64 24, .int .i64 24, .int .i64 24, .int .i64 8, .int .i64 300, .int .i64 16] 3)).alloc (.cells (madeCells #[.int .i64 0] (8 * 1)) 3)).heap[U.heap.size]? = some (.cells #[.int .i64 40, .int .i64 8, .int .i64 24, .int .i64 24, .int .i64 24, .int .i64 8, .int .i64 300, .int .i64 16] 3 (0, 0)) := by
    rw [Below.heap_alloc _ _ _ (by omega)]
    have hn := heap_alloc_new (U.setCell ⟨bc, 4, none⟩ (.slice (some ⟨U.heap.size + 1, 0, none⟩) 8 8)) (.cells #[.int .i64 40, .int .i64 8, .int .i64 24, .int .i64 24, .int .i64 24, .int .i64 8, .int .i64 300, .int .i64 16] 3)
    rw [hz0] at hn
    exact hn
  have a1 : (((U.setCell ⟨bc, 4, none⟩ (.slice (some ⟨U.heap.size + 1, 0, none⟩) 8 8)).alloc (.cells #[.int .i64 40, .int .i64 8, .int .i64 24, .int .i64 24, .int .i64 24, .int .i64 8, .int .i64 300, .int .i64 16] 3)).alloc (.cells (madeCells #[.int .i64 0] (8 * 1)) 3)).heap[U.heap.size + 1]? = some (.cells (madeCells #[.int .i64 0] (8 * 1)) 3 (0, 0)) := by
    have hn := heap_alloc_new ((U.setCell ⟨bc, 4, none⟩ (.slice (some ⟨U.heap.size + 1, 0, none⟩) 8 8)).alloc (.cells #[.int .i64 40, .int .i64 8, .int .i64 24, .int .i64 24, .int .i64 24, .int .i64 8, .int .i64 300, .int .i64 16] 3)) (.cells (madeCells #[.int .i64 0] (8 * 1)) 3)
    rw [hz1] at hn
    exact hn
  refine ⟨one_R fbc fbm (by show bc < _; omega) (by show bm < _; omega) (made_sl (K := kI) a1 rfl (by show U.heap.size + 1 < _; omega) (by decide)) (Sl.nil _ _ _) (Sl.nil _ _ _) (Sl.nil _ _ _) (Sl.one1 fbi (by show bi < _; omega) rfl) (Sl.nil _ _ _) (Sl.nil _ _ _), ?_⟩
  exact (((h.bel.setCell (by show w.heap.size ≤ bc; omega) _).alloc (by omega) _).alloc (by omega) _)
theorem cnt1_8_mk (u : World) : (Instr.makeSlice 38 (.int .i64 8) (.int .i64 8)).run Try.prog u = .ok (.slice (some ⟨u.heap.size, 0, none⟩) 8 8) (u.alloc (.cells (madeCells #[.int .i64 0] (8 * 1)) 3)) := by
  obtain ⟨i0, hi, hz0, hz1, hz2⟩ := info_parts infoLI
  have h := run_make (P := Try.prog) u 38 3 i0 (.int .i64 0) Try.underlying38 hi hz0 .i64 .i64 8 8 (by decide) (by decide) (by rw [hz2]; decide) (by decide)
  rw [hz1] at h
  exact h
set_option maxHeartbeats 4000000 in
set_option maxRecDepth 20000 in
theorem cnt1_y {wh : Int} (w : World) (hk : bits BinOp.and .i64 wh 7 = 1) : Calls Try.prog 5 #[.int .i64 wh, .bool false] w fun e w' => e = .returned (.bool true) ∧ Below w.heap.size w w' := by
  have hA := awake14 w
  have hmk := cnt1_8_mk
  obtain ⟨b, he⟩ := cnt_yes (k := 1) (by decide)
  have HE : Hid (encP (cntP 1 8) = .ok b) := he
  clear he
  go_enter Try.func5, Try.ntmps5
  go_upto_region 4 with (first
    | (go_at_call 7; refine hA.mono ?_; rintro e w1 ⟨rfl, hb1⟩; clear hA; have hT := TinyM w1; have H1 : Hid (Below w.heap.size w w1) := hb1; clear hb1)
    | (go_at_call 12; refine hT.mono ?_; rintro e w2 ⟨hb2, rfl, hT2⟩; clear hT; have HO : Hid (One w (w2.alloc (.cells #[.int .i64 11, .slice (some ⟨w1.heap.size + 1 + 1 + 1 + 1, 0, none⟩) 1 1] 24)) w2.heap.size (w1.heap.size + 1 + 1 + 1 + 1) (w1.heap.size + 1 + 1 + 1) (w1.heap.size + 1)) := one_of H1.out hb2 hT2; clear hT2 hb2 H1))
  generalize hU : w2.alloc (.cells #[.int .i64 11, .slice (some ⟨w1.heap.size + 1 + 1 + 1 + 1, 0, none⟩) 1 1] 24) = U at *
  clear hU
  generalize hbp : w2.heap.size = bp at *
  clear hbp
  generalize hbc : w1.heap.size + 1 + 1 + 1 + 1 = bc at *
  generalize hbm : w1.heap.size + 1 + 1 + 1 = bm at *
  generalize hbi : w1.heap.size + 1 = bi at *
  clear hbc hbm hbi
  have hO := HO.out
  have p0 : U.cell? ⟨bp, 0, none⟩ = some (.int .i64 11) := by simp [World.cell?, hO.prg]
  have p1 : U.cell? ⟨bp, 1, none⟩ = some (.slice (some ⟨bc, 0, none⟩) 1 1) := by simp [World.cell?, hO.prg]
  have c7 : U.cell? ⟨bc, 7, none⟩ = some (.slice (some ⟨bm, 0, none⟩) 1 1) := by simp [World.cell?, hO.cls]
  have m6 : U.cell? ⟨bm, 6, none⟩ = some (.slice (some ⟨bi, 0, none⟩) 1 1) := by simp [World.cell?, hO.met]
  obtain ⟨n1, n2, n3, n4, n5, n6⟩ := hO.ne
  have kbp := blk_lt hO.prg
  have kbc := blk_lt hO.cls
  have kbm := blk_lt hO.met
  have kbi := blk_lt hO.ins
  have ft : U.frozen? ⟨bc, 4, none⟩ = false := by simp [World.frozen?, hO.cls]
  have ct : U.cell? ⟨bc, 4, none⟩ = some (.slice none 0 0) := by simp [World.cell?, hO.cls]
  have zbc0 : bc ≠ U.heap.size := by omega
  have zbc1 : bc ≠ U.heap.size + 1 := by omega
  have zbm0 : bm ≠ U.heap.size := by omega
  have zbm1 : bm ≠ U.heap.size + 1 := by omega
  have zbp0 : bp ≠ U.heap.size := by omega
  have zbp1 : bp ≠ U.heap.size + 1 := by omega
  have HB : Hid (Below w.heap.size w (((U.setCell ⟨bc, 4, none⟩ (.slice (some ⟨U.heap.size + 1, 0, none⟩) 8 8)).alloc (.cells #[.int .i64 40, .int .i64 8, .int .i64 24, .int .i64 24, .int .i64 24, .int .i64 8, .int .i64 300, .int .i64 16] 3)).alloc (.cells (madeCells #[.int .i64 0] (8 * 1)) 3))) := (cnt1_8_R hO).2
  have hB : Calls Try.prog 14 #[.agg #[.int .i64 11, .slice (some ⟨bc, 0, none⟩) 1 1]] (((U.setCell ⟨bc, 4, none⟩ (.slice (some ⟨U.heap.size + 1, 0, none⟩) 8 8)).alloc (.cells #[.int .i64 40, .int .i64 8, .int .i64 24, .int .i64 24, .int .i64 24, .int .i64 8, .int .i64 300, .int .i64 16] 3)).alloc (.cells (madeCells #[.int .i64 0] (8 * 1)) 3)) fun e w' => e = .returned (.bool true) ∧ Below (((U.setCell ⟨bc, 4, none⟩ (.slice (some ⟨U.heap.size + 1, 0, none⟩) 8 8)).alloc (.cells #[.int .i64 40, .int .i64 8, .int .i64 24, .int .i64 24, .int .i64 24, .int .i64 8, .int .i64 300, .int .i64 16] 3)).alloc (.cells (madeCells #[.int .i64 0] (8 * 1)) 3)).heap.size (((U.setCell ⟨bc, 4, none⟩ (.slice (some ⟨U.heap.size + 1, 0, none⟩) 8 8)).alloc (.cells #[.int .i64 40, .int .i64 8, .int .i64 24, .int .i64 24, .int .i64 24, .int .i64 8, .int .i64 300, .int .i64 16] 3)).alloc (.cells (madeCells #[.int .i64 0] (8 * 1)) 3)) w' := back_yes HE.out (((U.setCell ⟨bc, 4, none⟩ (.slice (some ⟨U.heap.size + 1, 0, none⟩) 8 8)).alloc (.cells #[.int .i64 40, .int .i64 8, .int .i64 24, .int .i64 24, .int .i64 24, .int .i64 8, .int .i64 300, .int .i64 16] 3)).alloc (.cells (madeCells #[.int .i64 0] (8 * 1)) 3)) (fun _ h => h) (cnt1_8_R hO).1
  clear hO HO
  go_wp2_with (go_at_call 14; refine hB.mono ?_; rintro e w9 ⟨rfl, hb9⟩; have HF : Hid (Below w.heap.size w w9) := HB.out.trans (hb9.mono HB.out.size); clear hB hb9)
  go_ret
  exact ⟨rfl, HF.out⟩
theorem cnt1_9_R {w U : World} {bp bc bm bi : Nat}  (h : One w U bp bc bm bi) : kPg.R (((U.setCell ⟨bc, 4, none⟩ (.slice (some ⟨U.heap.size + 1, 0, none⟩) 9 9)).alloc (.cells #[.int .i64 40, .int .i64 8, .int .i64 24, .int .i64 24, .int .i64 24, .int .i64 8, .int .i64 300, .int .i64 16] 3)).alloc (.cells (madeCells #[.int .i64 0] (9 * 1)) 3)) (fun k => k < (((U.setCell ⟨bc, 4, none⟩ (.slice (some ⟨U.heap.size + 1, 0, none⟩) 9 9)).alloc (.cells #[.int .i64 40, .int .i64 8, .int .i64 24, .int .i64 24, .int .i64 24, .int .i64 8, .int .i64 300, .int .i64 16] 3)).alloc (.cells (madeCells #[.int .i64 0] (9 * 1)) 3)).heap.size) (cntP 1 9) [.int .i64 11, .slice (some ⟨bc, 0, none⟩) 1 1] ∧ Below w.heap.size w (((U.setCell ⟨bc, 4, none⟩ (.slice (some ⟨U.heap.size + 1, 0, none⟩) 9 9)).alloc (.cells #[.int .i64 40, .int .i64 8, .int .i64 24, .int .i64 24, .int .i64 24, .int .i64 8, .int .i64 300, .int .i64 16] 3)).alloc (.cells (madeCells #[.int .i64 0] (9 * 1)) 3)) := by
  obtain ⟨n1, n2, n3, n4, n5, n6⟩ := h.ne
  obtain ⟨l1, l2, l3, l4⟩ := h.low
  have kbp := blk_lt h.prg
  have kbc := blk_lt h.cls
  have kbm := blk_lt h.met
  have kbi := blk_lt h.ins
  have hz0 : (U.setCell ⟨bc, 4, none⟩ (.slice (some ⟨U.heap.size + 1, 0, none⟩) 9 9)).heap.size = U.heap.size := size_set
  have hz1 : ((U.setCell ⟨bc, 4, none⟩ (.slice (some ⟨U.heap.size + 1, 0, none⟩) 9 9)).alloc (.cells #[.int .i64 40, .int .i64 8, .int .i64 24, .int .i64 24, .int .i64 24, .int .i64 8, .int .i64 300, .int .i64 16] 3)).heap.size = U.heap.size + 1 := by rw [size_alloc, hz0]
  have hz2 : (((U.setCell ⟨bc, 4, none⟩ (.slice (some ⟨U.heap.size + 1, 0, none⟩) 9 9)).alloc (.cells #[.int .i64 40, .int .i64 8, .int .i64 24, .int .i64 24, .int .i64 24, .int .i64 8, .int .i64 300, .int .i64 16] 3)).alloc (.cells (madeCells #[.int .i64 0] (9 * 1)) 3)).heap.size = U.heap.size + 1 + 1 := by rw [size_alloc, hz1]
  have hsz : (((U.setCell ⟨bc, 4, none⟩ (.slice (some ⟨U.heap.size + 1, 0, none⟩) 9 9)).alloc (.cells #[.int .i64 40, .int .i64 8, .int .i64 24, .int .i64 24, .int .i64 24, .int .i64 8, .int .i64 300, .int .i64 16] 3)).alloc (.cells (madeCells #[.int .i64 0] (9 * 1)) 3)).heap.size = U.heap.size + 1 + 1 := hz2
  have fbc : (((U.setCell ⟨bc, 4, none⟩ (.slice (some ⟨U.heap.size + 1, 0, none⟩) 9 9)).alloc (.cells #[.int .i64 40, .int .i64 8, .int .i64 24, .int .i64 24, .int .i64 24, .int .i64 8, .int .i64 300, .int .i64 16] 3)).alloc (.cells (madeCells #[.int .i64 0] (9 * 1)) 3)).heap[bc]? = some (.cells #[.string ⟨#[77]⟩, .bool false, .bool false, .int .i64 0, .slice (some ⟨U.heap.size + 1, 0, none⟩) 9 9, .slice none 0 0, .slice none 0 0, .slice (some ⟨bm, 0, none⟩) 1 1] 42 (0, 0)) := by rw [Below.heap_alloc _ _ _ (by omega)]; rw [Below.heap_alloc _ _ _ (by omega)]; exact hset h.cls _
  have fbm : (((U.setCell ⟨bc, 4, none⟩ (.slice (some ⟨U.heap.size + 1, 0, none⟩) 9 9)).alloc (.cells #[.int .i64 40, .int .i64 8, .int .i64 24, .int .i64 24, .int .i64 24, .int .i64 8, .int .i64 300, .int .i64 16] 3)).alloc (.cells (madeCells #[.int .i64 0] (9 * 1)) 3)).heap[bm]? = some (.cells #[.string ⟨#[109, 97, 105, 110]⟩, .bool true, .slice none 0 0, .int .i64 0, .int .i64 0, .int .i64 0, .slice (some ⟨bi, 0, none⟩) 1 1, .slice none 0 0, .slice none 0 0] 49 (0, 0)) := by rw [Below.heap_alloc _ _ _ (by omega)]; rw [Below.heap_alloc _ _ _ (by omega)]; exact (blk_set (by omega)).trans h.met
  have fbi : (((U.setCell ⟨bc, 4, none⟩ (.slice (some ⟨U.heap.size + 1, 0, none⟩) 9 9)).alloc (.cells #[.int .i64 40, .int .i64 8, .int .i64 24, .int .i64 24, .int .i64 24, .int .i64 8, .int .i64 300, .int .i64 16] 3)).alloc (.cells (madeCells #[.int .i64 0] (9 * 1)) 3)).heap[bi]? = some (.cells #[.int .i64 29, .int .i64 0, .int .i64 0] 63 (0, 0)) := by rw [Below.heap_alloc _ _ _ (by omega)]; rw [Below.heap_alloc _ _ _ (by omega)]; exact (blk_set (by omega)).trans h.ins
  have a0 : (((U.setCell ⟨bc, 4, none⟩ (.slice (some ⟨U.heap.size + 1, 0, none⟩) 9 9)).alloc (.cells #[.int .i64 40, .int .i64 8, .int .i64 24, .int .i64 24, .int .i64 24, .int .i64 8, .int .i64 300, .int .i64 16] 3)).alloc (.cells (madeCells #[.int .i64 0] (9 * 1)) 3)).heap[U.heap.size]? = some (.cells #[.int .i64 40, .int .i64 8, .int .i64 24, .int .i64 24, .int .i64 24, .int .i64 8, .int .i64 300, .int .i64 16] 3 (0, 0)) := by
    rw [Below.heap_alloc _ _ _ (by omega)]
    have hn := heap_alloc_new (U.setCell ⟨bc, 4, none⟩ (.slice (some ⟨U.heap.size + 1, 0, none⟩) 9 9)) (.cells #[.int .i64 40, .int .i64 8, .int .i64 24, .int .i64 24, .int .i64 24, .int .i64 8, .int .i64 300, .int .i64 16] 3)
    rw [hz0] at hn
    exact hn
  have a1 : (((U.setCell ⟨bc, 4, none⟩ (.slice (some ⟨U.heap.size + 1, 0, none⟩) 9 9)).alloc (.cells #[.int .i64 40, .int .i64 8, .int .i64 24, .int .i64 24, .int .i64 24, .int .i64 8, .int .i64 300, .int .i64 16] 3)).alloc (.cells (madeCells #[.int .i64 0] (9 * 1)) 3)).heap[U.heap.size + 1]? = some (.cells (madeCells #[.int .i64 0] (9 * 1)) 3 (0, 0)) := by
    have hn := heap_alloc_new ((U.setCell ⟨bc, 4, none⟩ (.slice (some ⟨U.heap.size + 1, 0, none⟩) 9 9)).alloc (.cells #[.int .i64 40, .int .i64 8, .int .i64 24, .int .i64 24, .int .i64 24, .int .i64 8, .int .i64 300, .int .i64 16] 3)) (.cells (madeCells #[.int .i64 0] (9 * 1)) 3)
    rw [hz1] at hn
    exact hn
  refine ⟨one_R fbc fbm (by show bc < _; omega) (by show bm < _; omega) (made_sl (K := kI) a1 rfl (by show U.heap.size + 1 < _; omega) (by decide)) (Sl.nil _ _ _) (Sl.nil _ _ _) (Sl.nil _ _ _) (Sl.one1 fbi (by show bi < _; omega) rfl) (Sl.nil _ _ _) (Sl.nil _ _ _), ?_⟩
  exact (((h.bel.setCell (by show w.heap.size ≤ bc; omega) _).alloc (by omega) _).alloc (by omega) _)
theorem cnt1_9_mk (u : World) : (Instr.makeSlice 38 (.int .i64 9) (.int .i64 9)).run Try.prog u = .ok (.slice (some ⟨u.heap.size, 0, none⟩) 9 9) (u.alloc (.cells (madeCells #[.int .i64 0] (9 * 1)) 3)) := by
  obtain ⟨i0, hi, hz0, hz1, hz2⟩ := info_parts infoLI
  have h := run_make (P := Try.prog) u 38 3 i0 (.int .i64 0) Try.underlying38 hi hz0 .i64 .i64 9 9 (by decide) (by decide) (by rw [hz2]; decide) (by decide)
  rw [hz1] at h
  exact h
set_option maxHeartbeats 4000000 in
set_option maxRecDepth 20000 in
theorem cnt1_n {wh : Int} (w : World) (hk : bits BinOp.and .i64 wh 7 = 1) : Calls Try.prog 5 #[.int .i64 wh, .bool true] w fun e w' => e = .returned (.bool true) ∧ Below w.heap.size w w' := by
  have hA := awake14 w
  have hmk := cnt1_9_mk
  have HE : Hid (encP (cntP 1 9) = .error 1404) := cnt_no (k := 1) (by decide)
  go_enter Try.func5, Try.ntmps5
  go_upto_region 4 with (first
    | (go_at_call 7; refine hA.mono ?_; rintro e w1 ⟨rfl, hb1⟩; clear hA; have hT := TinyM w1; have H1 : Hid (Below w.heap.size w w1) := hb1; clear hb1)
    | (go_at_call 12; refine hT.mono ?_; rintro e w2 ⟨hb2, rfl, hT2⟩; clear hT; have HO : Hid (One w (w2.alloc (.cells #[.int .i64 11, .slice (some ⟨w1.heap.size + 1 + 1 + 1 + 1, 0, none⟩) 1 1] 24)) w2.heap.size (w1.heap.size + 1 + 1 + 1 + 1) (w1.heap.size + 1 + 1 + 1) (w1.heap.size + 1)) := one_of H1.out hb2 hT2; clear hT2 hb2 H1))
  generalize hU : w2.alloc (.cells #[.int .i64 11, .slice (some ⟨w1.heap.size + 1 + 1 + 1 + 1, 0, none⟩) 1 1] 24) = U at *
  clear hU
  generalize hbp : w2.heap.size = bp at *
  clear hbp
  generalize hbc : w1.heap.size + 1 + 1 + 1 + 1 = bc at *
  generalize hbm : w1.heap.size + 1 + 1 + 1 = bm at *
  generalize hbi : w1.heap.size + 1 = bi at *
  clear hbc hbm hbi
  have hO := HO.out
  have p0 : U.cell? ⟨bp, 0, none⟩ = some (.int .i64 11) := by simp [World.cell?, hO.prg]
  have p1 : U.cell? ⟨bp, 1, none⟩ = some (.slice (some ⟨bc, 0, none⟩) 1 1) := by simp [World.cell?, hO.prg]
  have c7 : U.cell? ⟨bc, 7, none⟩ = some (.slice (some ⟨bm, 0, none⟩) 1 1) := by simp [World.cell?, hO.cls]
  have m6 : U.cell? ⟨bm, 6, none⟩ = some (.slice (some ⟨bi, 0, none⟩) 1 1) := by simp [World.cell?, hO.met]
  obtain ⟨n1, n2, n3, n4, n5, n6⟩ := hO.ne
  have kbp := blk_lt hO.prg
  have kbc := blk_lt hO.cls
  have kbm := blk_lt hO.met
  have kbi := blk_lt hO.ins
  have ft : U.frozen? ⟨bc, 4, none⟩ = false := by simp [World.frozen?, hO.cls]
  have ct : U.cell? ⟨bc, 4, none⟩ = some (.slice none 0 0) := by simp [World.cell?, hO.cls]
  have zbc0 : bc ≠ U.heap.size := by omega
  have zbc1 : bc ≠ U.heap.size + 1 := by omega
  have zbm0 : bm ≠ U.heap.size := by omega
  have zbm1 : bm ≠ U.heap.size + 1 := by omega
  have zbp0 : bp ≠ U.heap.size := by omega
  have zbp1 : bp ≠ U.heap.size + 1 := by omega
  have HB : Hid (Below w.heap.size w (((U.setCell ⟨bc, 4, none⟩ (.slice (some ⟨U.heap.size + 1, 0, none⟩) 9 9)).alloc (.cells #[.int .i64 40, .int .i64 8, .int .i64 24, .int .i64 24, .int .i64 24, .int .i64 8, .int .i64 300, .int .i64 16] 3)).alloc (.cells (madeCells #[.int .i64 0] (9 * 1)) 3))) := (cnt1_9_R hO).2
  have hB : Calls Try.prog 13 #[.agg #[.int .i64 11, .slice (some ⟨bc, 0, none⟩) 1 1], .int .i64 1404] (((U.setCell ⟨bc, 4, none⟩ (.slice (some ⟨U.heap.size + 1, 0, none⟩) 9 9)).alloc (.cells #[.int .i64 40, .int .i64 8, .int .i64 24, .int .i64 24, .int .i64 24, .int .i64 8, .int .i64 300, .int .i64 16] 3)).alloc (.cells (madeCells #[.int .i64 0] (9 * 1)) 3)) fun e w' => e = .returned (.bool true) ∧ Below (((U.setCell ⟨bc, 4, none⟩ (.slice (some ⟨U.heap.size + 1, 0, none⟩) 9 9)).alloc (.cells #[.int .i64 40, .int .i64 8, .int .i64 24, .int .i64 24, .int .i64 24, .int .i64 8, .int .i64 300, .int .i64 16] 3)).alloc (.cells (madeCells #[.int .i64 0] (9 * 1)) 3)).heap.size (((U.setCell ⟨bc, 4, none⟩ (.slice (some ⟨U.heap.size + 1, 0, none⟩) 9 9)).alloc (.cells #[.int .i64 40, .int .i64 8, .int .i64 24, .int .i64 24, .int .i64 24, .int .i64 8, .int .i64 300, .int .i64 16] 3)).alloc (.cells (madeCells #[.int .i64 0] (9 * 1)) 3)) w' := refuses_yes HE.out (((U.setCell ⟨bc, 4, none⟩ (.slice (some ⟨U.heap.size + 1, 0, none⟩) 9 9)).alloc (.cells #[.int .i64 40, .int .i64 8, .int .i64 24, .int .i64 24, .int .i64 24, .int .i64 8, .int .i64 300, .int .i64 16] 3)).alloc (.cells (madeCells #[.int .i64 0] (9 * 1)) 3)) (fun _ h => h) (cnt1_9_R hO).1
  clear hO HO
  go_wp2_with (go_at_call 13; refine hB.mono ?_; rintro e w9 ⟨rfl, hb9⟩; have HF : Hid (Below w.heap.size w w9) := HB.out.trans (hb9.mono HB.out.size); clear hB hb9)
  go_ret
  exact ⟨rfl, HF.out⟩
theorem cnt5_8_R {w U : World} {bp bc bm bi : Nat}  (h : One w U bp bc bm bi) : kPg.R (((U.setCell ⟨bm, 2, none⟩ (.slice (some ⟨U.heap.size + 1, 0, none⟩) 8 8)).alloc (.cells #[.int .i64 40, .int .i64 8, .int .i64 24, .int .i64 24, .int .i64 24, .int .i64 8, .int .i64 300, .int .i64 16] 3)).alloc (.cells (madeCells #[.int .i64 0] (8 * 1)) 3)) (fun k => k < (((U.setCell ⟨bm, 2, none⟩ (.slice (some ⟨U.heap.size + 1, 0, none⟩) 8 8)).alloc (.cells #[.int .i64 40, .int .i64 8, .int .i64 24, .int .i64 24, .int .i64 24, .int .i64 8, .int .i64 300, .int .i64 16] 3)).alloc (.cells (madeCells #[.int .i64 0] (8 * 1)) 3)).heap.size) (cntP 5 8) [.int .i64 11, .slice (some ⟨bc, 0, none⟩) 1 1] ∧ Below w.heap.size w (((U.setCell ⟨bm, 2, none⟩ (.slice (some ⟨U.heap.size + 1, 0, none⟩) 8 8)).alloc (.cells #[.int .i64 40, .int .i64 8, .int .i64 24, .int .i64 24, .int .i64 24, .int .i64 8, .int .i64 300, .int .i64 16] 3)).alloc (.cells (madeCells #[.int .i64 0] (8 * 1)) 3)) := by
  obtain ⟨n1, n2, n3, n4, n5, n6⟩ := h.ne
  obtain ⟨l1, l2, l3, l4⟩ := h.low
  have kbp := blk_lt h.prg
  have kbc := blk_lt h.cls
  have kbm := blk_lt h.met
  have kbi := blk_lt h.ins
  have hz0 : (U.setCell ⟨bm, 2, none⟩ (.slice (some ⟨U.heap.size + 1, 0, none⟩) 8 8)).heap.size = U.heap.size := size_set
  have hz1 : ((U.setCell ⟨bm, 2, none⟩ (.slice (some ⟨U.heap.size + 1, 0, none⟩) 8 8)).alloc (.cells #[.int .i64 40, .int .i64 8, .int .i64 24, .int .i64 24, .int .i64 24, .int .i64 8, .int .i64 300, .int .i64 16] 3)).heap.size = U.heap.size + 1 := by rw [size_alloc, hz0]
  have hz2 : (((U.setCell ⟨bm, 2, none⟩ (.slice (some ⟨U.heap.size + 1, 0, none⟩) 8 8)).alloc (.cells #[.int .i64 40, .int .i64 8, .int .i64 24, .int .i64 24, .int .i64 24, .int .i64 8, .int .i64 300, .int .i64 16] 3)).alloc (.cells (madeCells #[.int .i64 0] (8 * 1)) 3)).heap.size = U.heap.size + 1 + 1 := by rw [size_alloc, hz1]
  have hsz : (((U.setCell ⟨bm, 2, none⟩ (.slice (some ⟨U.heap.size + 1, 0, none⟩) 8 8)).alloc (.cells #[.int .i64 40, .int .i64 8, .int .i64 24, .int .i64 24, .int .i64 24, .int .i64 8, .int .i64 300, .int .i64 16] 3)).alloc (.cells (madeCells #[.int .i64 0] (8 * 1)) 3)).heap.size = U.heap.size + 1 + 1 := hz2
  have fbc : (((U.setCell ⟨bm, 2, none⟩ (.slice (some ⟨U.heap.size + 1, 0, none⟩) 8 8)).alloc (.cells #[.int .i64 40, .int .i64 8, .int .i64 24, .int .i64 24, .int .i64 24, .int .i64 8, .int .i64 300, .int .i64 16] 3)).alloc (.cells (madeCells #[.int .i64 0] (8 * 1)) 3)).heap[bc]? = some (.cells #[.string ⟨#[77]⟩, .bool false, .bool false, .int .i64 0, .slice none 0 0, .slice none 0 0, .slice none 0 0, .slice (some ⟨bm, 0, none⟩) 1 1] 42 (0, 0)) := by rw [Below.heap_alloc _ _ _ (by omega)]; rw [Below.heap_alloc _ _ _ (by omega)]; exact (blk_set (by omega)).trans h.cls
  have fbm : (((U.setCell ⟨bm, 2, none⟩ (.slice (some ⟨U.heap.size + 1, 0, none⟩) 8 8)).alloc (.cells #[.int .i64 40, .int .i64 8, .int .i64 24, .int .i64 24, .int .i64 24, .int .i64 8, .int .i64 300, .int .i64 16] 3)).alloc (.cells (madeCells #[.int .i64 0] (8 * 1)) 3)).heap[bm]? = some (.cells #[.string ⟨#[109, 97, 105, 110]⟩, .bool true, .slice (some ⟨U.heap.size + 1, 0, none⟩) 8 8, .int .i64 0, .int .i64 0, .int .i64 0, .slice (some ⟨bi, 0, none⟩) 1 1, .slice none 0 0, .slice none 0 0] 49 (0, 0)) := by rw [Below.heap_alloc _ _ _ (by omega)]; rw [Below.heap_alloc _ _ _ (by omega)]; exact hset h.met _
  have fbi : (((U.setCell ⟨bm, 2, none⟩ (.slice (some ⟨U.heap.size + 1, 0, none⟩) 8 8)).alloc (.cells #[.int .i64 40, .int .i64 8, .int .i64 24, .int .i64 24, .int .i64 24, .int .i64 8, .int .i64 300, .int .i64 16] 3)).alloc (.cells (madeCells #[.int .i64 0] (8 * 1)) 3)).heap[bi]? = some (.cells #[.int .i64 29, .int .i64 0, .int .i64 0] 63 (0, 0)) := by rw [Below.heap_alloc _ _ _ (by omega)]; rw [Below.heap_alloc _ _ _ (by omega)]; exact (blk_set (by omega)).trans h.ins
  have a0 : (((U.setCell ⟨bm, 2, none⟩ (.slice (some ⟨U.heap.size + 1, 0, none⟩) 8 8)).alloc (.cells #[.int .i64 40, .int .i64 8, .int .i64 24, .int .i64 24, .int .i64 24, .int .i64 8, .int .i64 300, .int .i64 16] 3)).alloc (.cells (madeCells #[.int .i64 0] (8 * 1)) 3)).heap[U.heap.size]? = some (.cells #[.int .i64 40, .int .i64 8, .int .i64 24, .int .i64 24, .int .i64 24, .int .i64 8, .int .i64 300, .int .i64 16] 3 (0, 0)) := by
    rw [Below.heap_alloc _ _ _ (by omega)]
    have hn := heap_alloc_new (U.setCell ⟨bm, 2, none⟩ (.slice (some ⟨U.heap.size + 1, 0, none⟩) 8 8)) (.cells #[.int .i64 40, .int .i64 8, .int .i64 24, .int .i64 24, .int .i64 24, .int .i64 8, .int .i64 300, .int .i64 16] 3)
    rw [hz0] at hn
    exact hn
  have a1 : (((U.setCell ⟨bm, 2, none⟩ (.slice (some ⟨U.heap.size + 1, 0, none⟩) 8 8)).alloc (.cells #[.int .i64 40, .int .i64 8, .int .i64 24, .int .i64 24, .int .i64 24, .int .i64 8, .int .i64 300, .int .i64 16] 3)).alloc (.cells (madeCells #[.int .i64 0] (8 * 1)) 3)).heap[U.heap.size + 1]? = some (.cells (madeCells #[.int .i64 0] (8 * 1)) 3 (0, 0)) := by
    have hn := heap_alloc_new ((U.setCell ⟨bm, 2, none⟩ (.slice (some ⟨U.heap.size + 1, 0, none⟩) 8 8)).alloc (.cells #[.int .i64 40, .int .i64 8, .int .i64 24, .int .i64 24, .int .i64 24, .int .i64 8, .int .i64 300, .int .i64 16] 3)) (.cells (madeCells #[.int .i64 0] (8 * 1)) 3)
    rw [hz1] at hn
    exact hn
  refine ⟨one_R fbc fbm (by show bc < _; omega) (by show bm < _; omega) (Sl.nil _ _ _) (Sl.nil _ _ _) (Sl.nil _ _ _) ((made_sl (K := kI) a1 rfl (by show U.heap.size + 1 < _; omega) (by decide))) (Sl.one1 fbi (by show bi < _; omega) rfl) (Sl.nil _ _ _) (Sl.nil _ _ _), ?_⟩
  exact (((h.bel.setCell (by show w.heap.size ≤ bm; omega) _).alloc (by omega) _).alloc (by omega) _)
theorem cnt5_8_mk (u : World) : (Instr.makeSlice 38 (.int .i64 8) (.int .i64 8)).run Try.prog u = .ok (.slice (some ⟨u.heap.size, 0, none⟩) 8 8) (u.alloc (.cells (madeCells #[.int .i64 0] (8 * 1)) 3)) := by
  obtain ⟨i0, hi, hz0, hz1, hz2⟩ := info_parts infoLI
  have h := run_make (P := Try.prog) u 38 3 i0 (.int .i64 0) Try.underlying38 hi hz0 .i64 .i64 8 8 (by decide) (by decide) (by rw [hz2]; decide) (by decide)
  rw [hz1] at h
  exact h
set_option maxHeartbeats 4000000 in
set_option maxRecDepth 20000 in
theorem cnt5_y {wh : Int} (w : World) (hk : bits BinOp.and .i64 wh 7 = 5) : Calls Try.prog 5 #[.int .i64 wh, .bool false] w fun e w' => e = .returned (.bool true) ∧ Below w.heap.size w w' := by
  have hA := awake14 w
  have hmk := cnt5_8_mk
  obtain ⟨b, he⟩ := cnt_yes (k := 5) (by decide)
  have HE : Hid (encP (cntP 5 8) = .ok b) := he
  clear he
  go_enter Try.func5, Try.ntmps5
  go_upto_region 4 with (first
    | (go_at_call 7; refine hA.mono ?_; rintro e w1 ⟨rfl, hb1⟩; clear hA; have hT := TinyM w1; have H1 : Hid (Below w.heap.size w w1) := hb1; clear hb1)
    | (go_at_call 12; refine hT.mono ?_; rintro e w2 ⟨hb2, rfl, hT2⟩; clear hT; have HO : Hid (One w (w2.alloc (.cells #[.int .i64 11, .slice (some ⟨w1.heap.size + 1 + 1 + 1 + 1, 0, none⟩) 1 1] 24)) w2.heap.size (w1.heap.size + 1 + 1 + 1 + 1) (w1.heap.size + 1 + 1 + 1) (w1.heap.size + 1)) := one_of H1.out hb2 hT2; clear hT2 hb2 H1))
  generalize hU : w2.alloc (.cells #[.int .i64 11, .slice (some ⟨w1.heap.size + 1 + 1 + 1 + 1, 0, none⟩) 1 1] 24) = U at *
  clear hU
  generalize hbp : w2.heap.size = bp at *
  clear hbp
  generalize hbc : w1.heap.size + 1 + 1 + 1 + 1 = bc at *
  generalize hbm : w1.heap.size + 1 + 1 + 1 = bm at *
  generalize hbi : w1.heap.size + 1 = bi at *
  clear hbc hbm hbi
  have hO := HO.out
  have p0 : U.cell? ⟨bp, 0, none⟩ = some (.int .i64 11) := by simp [World.cell?, hO.prg]
  have p1 : U.cell? ⟨bp, 1, none⟩ = some (.slice (some ⟨bc, 0, none⟩) 1 1) := by simp [World.cell?, hO.prg]
  have c7 : U.cell? ⟨bc, 7, none⟩ = some (.slice (some ⟨bm, 0, none⟩) 1 1) := by simp [World.cell?, hO.cls]
  have m6 : U.cell? ⟨bm, 6, none⟩ = some (.slice (some ⟨bi, 0, none⟩) 1 1) := by simp [World.cell?, hO.met]
  obtain ⟨n1, n2, n3, n4, n5, n6⟩ := hO.ne
  have kbp := blk_lt hO.prg
  have kbc := blk_lt hO.cls
  have kbm := blk_lt hO.met
  have kbi := blk_lt hO.ins
  have ft : U.frozen? ⟨bm, 2, none⟩ = false := by simp [World.frozen?, hO.met]
  have ct : U.cell? ⟨bm, 2, none⟩ = some (.slice none 0 0) := by simp [World.cell?, hO.met]
  have zbc0 : bc ≠ U.heap.size := by omega
  have zbc1 : bc ≠ U.heap.size + 1 := by omega
  have zbm0 : bm ≠ U.heap.size := by omega
  have zbm1 : bm ≠ U.heap.size + 1 := by omega
  have zbp0 : bp ≠ U.heap.size := by omega
  have zbp1 : bp ≠ U.heap.size + 1 := by omega
  have HB : Hid (Below w.heap.size w (((U.setCell ⟨bm, 2, none⟩ (.slice (some ⟨U.heap.size + 1, 0, none⟩) 8 8)).alloc (.cells #[.int .i64 40, .int .i64 8, .int .i64 24, .int .i64 24, .int .i64 24, .int .i64 8, .int .i64 300, .int .i64 16] 3)).alloc (.cells (madeCells #[.int .i64 0] (8 * 1)) 3)).drew) := (cnt5_8_R hO).2.drew
  have hB : Calls Try.prog 14 #[.agg #[.int .i64 11, .slice (some ⟨bc, 0, none⟩) 1 1]] (((U.setCell ⟨bm, 2, none⟩ (.slice (some ⟨U.heap.size + 1, 0, none⟩) 8 8)).alloc (.cells #[.int .i64 40, .int .i64 8, .int .i64 24, .int .i64 24, .int .i64 24, .int .i64 8, .int .i64 300, .int .i64 16] 3)).alloc (.cells (madeCells #[.int .i64 0] (8 * 1)) 3)).drew fun e w' => e = .returned (.bool true) ∧ Below (((U.setCell ⟨bm, 2, none⟩ (.slice (some ⟨U.heap.size + 1, 0, none⟩) 8 8)).alloc (.cells #[.int .i64 40, .int .i64 8, .int .i64 24, .int .i64 24, .int .i64 24, .int .i64 8, .int .i64 300, .int .i64 16] 3)).alloc (.cells (madeCells #[.int .i64 0] (8 * 1)) 3)).drew.heap.size (((U.setCell ⟨bm, 2, none⟩ (.slice (some ⟨U.heap.size + 1, 0, none⟩) 8 8)).alloc (.cells #[.int .i64 40, .int .i64 8, .int .i64 24, .int .i64 24, .int .i64 24, .int .i64 8, .int .i64 300, .int .i64 16] 3)).alloc (.cells (madeCells #[.int .i64 0] (8 * 1)) 3)).drew w' := back_yes HE.out (((U.setCell ⟨bm, 2, none⟩ (.slice (some ⟨U.heap.size + 1, 0, none⟩) 8 8)).alloc (.cells #[.int .i64 40, .int .i64 8, .int .i64 24, .int .i64 24, .int .i64 24, .int .i64 8, .int .i64 300, .int .i64 16] 3)).alloc (.cells (madeCells #[.int .i64 0] (8 * 1)) 3)).drew (fun _ h => h) (kPg.keep (w' := (((U.setCell ⟨bm, 2, none⟩ (.slice (some ⟨U.heap.size + 1, 0, none⟩) 8 8)).alloc (.cells #[.int .i64 40, .int .i64 8, .int .i64 24, .int .i64 24, .int .i64 24, .int .i64 8, .int .i64 300, .int .i64 16] 3)).alloc (.cells (madeCells #[.int .i64 0] (8 * 1)) 3)).drew) (fun _ _ => rfl) (cnt5_8_R hO).1)
  clear hO HO
  go_upto_region 29 with (fail)
  go_region
  all_goals
    go_wp2_with (go_at_call 14; refine hB.mono ?_; rintro e w9 ⟨rfl, hb9⟩; have HF : Hid (Below w.heap.size w w9) := HB.out.trans (hb9.mono HB.out.size); clear hB hb9)
    go_ret
    exact ⟨rfl, HF.out⟩
theorem cnt5_9_R {w U : World} {bp bc bm bi : Nat}  (h : One w U bp bc bm bi) : kPg.R (((U.setCell ⟨bm, 2, none⟩ (.slice (some ⟨U.heap.size + 1, 0, none⟩) 9 9)).alloc (.cells #[.int .i64 40, .int .i64 8, .int .i64 24, .int .i64 24, .int .i64 24, .int .i64 8, .int .i64 300, .int .i64 16] 3)).alloc (.cells (madeCells #[.int .i64 0] (9 * 1)) 3)) (fun k => k < (((U.setCell ⟨bm, 2, none⟩ (.slice (some ⟨U.heap.size + 1, 0, none⟩) 9 9)).alloc (.cells #[.int .i64 40, .int .i64 8, .int .i64 24, .int .i64 24, .int .i64 24, .int .i64 8, .int .i64 300, .int .i64 16] 3)).alloc (.cells (madeCells #[.int .i64 0] (9 * 1)) 3)).heap.size) (cntP 5 9) [.int .i64 11, .slice (some ⟨bc, 0, none⟩) 1 1] ∧ Below w.heap.size w (((U.setCell ⟨bm, 2, none⟩ (.slice (some ⟨U.heap.size + 1, 0, none⟩) 9 9)).alloc (.cells #[.int .i64 40, .int .i64 8, .int .i64 24, .int .i64 24, .int .i64 24, .int .i64 8, .int .i64 300, .int .i64 16] 3)).alloc (.cells (madeCells #[.int .i64 0] (9 * 1)) 3)) := by
  obtain ⟨n1, n2, n3, n4, n5, n6⟩ := h.ne
  obtain ⟨l1, l2, l3, l4⟩ := h.low
  have kbp := blk_lt h.prg
  have kbc := blk_lt h.cls
  have kbm := blk_lt h.met
  have kbi := blk_lt h.ins
  have hz0 : (U.setCell ⟨bm, 2, none⟩ (.slice (some ⟨U.heap.size + 1, 0, none⟩) 9 9)).heap.size = U.heap.size := size_set
  have hz1 : ((U.setCell ⟨bm, 2, none⟩ (.slice (some ⟨U.heap.size + 1, 0, none⟩) 9 9)).alloc (.cells #[.int .i64 40, .int .i64 8, .int .i64 24, .int .i64 24, .int .i64 24, .int .i64 8, .int .i64 300, .int .i64 16] 3)).heap.size = U.heap.size + 1 := by rw [size_alloc, hz0]
  have hz2 : (((U.setCell ⟨bm, 2, none⟩ (.slice (some ⟨U.heap.size + 1, 0, none⟩) 9 9)).alloc (.cells #[.int .i64 40, .int .i64 8, .int .i64 24, .int .i64 24, .int .i64 24, .int .i64 8, .int .i64 300, .int .i64 16] 3)).alloc (.cells (madeCells #[.int .i64 0] (9 * 1)) 3)).heap.size = U.heap.size + 1 + 1 := by rw [size_alloc, hz1]
  have hsz : (((U.setCell ⟨bm, 2, none⟩ (.slice (some ⟨U.heap.size + 1, 0, none⟩) 9 9)).alloc (.cells #[.int .i64 40, .int .i64 8, .int .i64 24, .int .i64 24, .int .i64 24, .int .i64 8, .int .i64 300, .int .i64 16] 3)).alloc (.cells (madeCells #[.int .i64 0] (9 * 1)) 3)).heap.size = U.heap.size + 1 + 1 := hz2
  have fbc : (((U.setCell ⟨bm, 2, none⟩ (.slice (some ⟨U.heap.size + 1, 0, none⟩) 9 9)).alloc (.cells #[.int .i64 40, .int .i64 8, .int .i64 24, .int .i64 24, .int .i64 24, .int .i64 8, .int .i64 300, .int .i64 16] 3)).alloc (.cells (madeCells #[.int .i64 0] (9 * 1)) 3)).heap[bc]? = some (.cells #[.string ⟨#[77]⟩, .bool false, .bool false, .int .i64 0, .slice none 0 0, .slice none 0 0, .slice none 0 0, .slice (some ⟨bm, 0, none⟩) 1 1] 42 (0, 0)) := by rw [Below.heap_alloc _ _ _ (by omega)]; rw [Below.heap_alloc _ _ _ (by omega)]; exact (blk_set (by omega)).trans h.cls
  have fbm : (((U.setCell ⟨bm, 2, none⟩ (.slice (some ⟨U.heap.size + 1, 0, none⟩) 9 9)).alloc (.cells #[.int .i64 40, .int .i64 8, .int .i64 24, .int .i64 24, .int .i64 24, .int .i64 8, .int .i64 300, .int .i64 16] 3)).alloc (.cells (madeCells #[.int .i64 0] (9 * 1)) 3)).heap[bm]? = some (.cells #[.string ⟨#[109, 97, 105, 110]⟩, .bool true, .slice (some ⟨U.heap.size + 1, 0, none⟩) 9 9, .int .i64 0, .int .i64 0, .int .i64 0, .slice (some ⟨bi, 0, none⟩) 1 1, .slice none 0 0, .slice none 0 0] 49 (0, 0)) := by rw [Below.heap_alloc _ _ _ (by omega)]; rw [Below.heap_alloc _ _ _ (by omega)]; exact hset h.met _
  have fbi : (((U.setCell ⟨bm, 2, none⟩ (.slice (some ⟨U.heap.size + 1, 0, none⟩) 9 9)).alloc (.cells #[.int .i64 40, .int .i64 8, .int .i64 24, .int .i64 24, .int .i64 24, .int .i64 8, .int .i64 300, .int .i64 16] 3)).alloc (.cells (madeCells #[.int .i64 0] (9 * 1)) 3)).heap[bi]? = some (.cells #[.int .i64 29, .int .i64 0, .int .i64 0] 63 (0, 0)) := by rw [Below.heap_alloc _ _ _ (by omega)]; rw [Below.heap_alloc _ _ _ (by omega)]; exact (blk_set (by omega)).trans h.ins
  have a0 : (((U.setCell ⟨bm, 2, none⟩ (.slice (some ⟨U.heap.size + 1, 0, none⟩) 9 9)).alloc (.cells #[.int .i64 40, .int .i64 8, .int .i64 24, .int .i64 24, .int .i64 24, .int .i64 8, .int .i64 300, .int .i64 16] 3)).alloc (.cells (madeCells #[.int .i64 0] (9 * 1)) 3)).heap[U.heap.size]? = some (.cells #[.int .i64 40, .int .i64 8, .int .i64 24, .int .i64 24, .int .i64 24, .int .i64 8, .int .i64 300, .int .i64 16] 3 (0, 0)) := by
    rw [Below.heap_alloc _ _ _ (by omega)]
    have hn := heap_alloc_new (U.setCell ⟨bm, 2, none⟩ (.slice (some ⟨U.heap.size + 1, 0, none⟩) 9 9)) (.cells #[.int .i64 40, .int .i64 8, .int .i64 24, .int .i64 24, .int .i64 24, .int .i64 8, .int .i64 300, .int .i64 16] 3)
    rw [hz0] at hn
    exact hn
  have a1 : (((U.setCell ⟨bm, 2, none⟩ (.slice (some ⟨U.heap.size + 1, 0, none⟩) 9 9)).alloc (.cells #[.int .i64 40, .int .i64 8, .int .i64 24, .int .i64 24, .int .i64 24, .int .i64 8, .int .i64 300, .int .i64 16] 3)).alloc (.cells (madeCells #[.int .i64 0] (9 * 1)) 3)).heap[U.heap.size + 1]? = some (.cells (madeCells #[.int .i64 0] (9 * 1)) 3 (0, 0)) := by
    have hn := heap_alloc_new ((U.setCell ⟨bm, 2, none⟩ (.slice (some ⟨U.heap.size + 1, 0, none⟩) 9 9)).alloc (.cells #[.int .i64 40, .int .i64 8, .int .i64 24, .int .i64 24, .int .i64 24, .int .i64 8, .int .i64 300, .int .i64 16] 3)) (.cells (madeCells #[.int .i64 0] (9 * 1)) 3)
    rw [hz1] at hn
    exact hn
  refine ⟨one_R fbc fbm (by show bc < _; omega) (by show bm < _; omega) (Sl.nil _ _ _) (Sl.nil _ _ _) (Sl.nil _ _ _) ((made_sl (K := kI) a1 rfl (by show U.heap.size + 1 < _; omega) (by decide))) (Sl.one1 fbi (by show bi < _; omega) rfl) (Sl.nil _ _ _) (Sl.nil _ _ _), ?_⟩
  exact (((h.bel.setCell (by show w.heap.size ≤ bm; omega) _).alloc (by omega) _).alloc (by omega) _)
theorem cnt5_9_mk (u : World) : (Instr.makeSlice 38 (.int .i64 9) (.int .i64 9)).run Try.prog u = .ok (.slice (some ⟨u.heap.size, 0, none⟩) 9 9) (u.alloc (.cells (madeCells #[.int .i64 0] (9 * 1)) 3)) := by
  obtain ⟨i0, hi, hz0, hz1, hz2⟩ := info_parts infoLI
  have h := run_make (P := Try.prog) u 38 3 i0 (.int .i64 0) Try.underlying38 hi hz0 .i64 .i64 9 9 (by decide) (by decide) (by rw [hz2]; decide) (by decide)
  rw [hz1] at h
  exact h
set_option maxHeartbeats 4000000 in
set_option maxRecDepth 20000 in
theorem cnt5_n {wh : Int} (w : World) (hk : bits BinOp.and .i64 wh 7 = 5) : Calls Try.prog 5 #[.int .i64 wh, .bool true] w fun e w' => e = .returned (.bool true) ∧ Below w.heap.size w w' := by
  have hA := awake14 w
  have hmk := cnt5_9_mk
  have HE : Hid (encP (cntP 5 9) = .error 1404) := cnt_no (k := 5) (by decide)
  go_enter Try.func5, Try.ntmps5
  go_upto_region 4 with (first
    | (go_at_call 7; refine hA.mono ?_; rintro e w1 ⟨rfl, hb1⟩; clear hA; have hT := TinyM w1; have H1 : Hid (Below w.heap.size w w1) := hb1; clear hb1)
    | (go_at_call 12; refine hT.mono ?_; rintro e w2 ⟨hb2, rfl, hT2⟩; clear hT; have HO : Hid (One w (w2.alloc (.cells #[.int .i64 11, .slice (some ⟨w1.heap.size + 1 + 1 + 1 + 1, 0, none⟩) 1 1] 24)) w2.heap.size (w1.heap.size + 1 + 1 + 1 + 1) (w1.heap.size + 1 + 1 + 1) (w1.heap.size + 1)) := one_of H1.out hb2 hT2; clear hT2 hb2 H1))
  generalize hU : w2.alloc (.cells #[.int .i64 11, .slice (some ⟨w1.heap.size + 1 + 1 + 1 + 1, 0, none⟩) 1 1] 24) = U at *
  clear hU
  generalize hbp : w2.heap.size = bp at *
  clear hbp
  generalize hbc : w1.heap.size + 1 + 1 + 1 + 1 = bc at *
  generalize hbm : w1.heap.size + 1 + 1 + 1 = bm at *
  generalize hbi : w1.heap.size + 1 = bi at *
  clear hbc hbm hbi
  have hO := HO.out
  have p0 : U.cell? ⟨bp, 0, none⟩ = some (.int .i64 11) := by simp [World.cell?, hO.prg]
  have p1 : U.cell? ⟨bp, 1, none⟩ = some (.slice (some ⟨bc, 0, none⟩) 1 1) := by simp [World.cell?, hO.prg]
  have c7 : U.cell? ⟨bc, 7, none⟩ = some (.slice (some ⟨bm, 0, none⟩) 1 1) := by simp [World.cell?, hO.cls]
  have m6 : U.cell? ⟨bm, 6, none⟩ = some (.slice (some ⟨bi, 0, none⟩) 1 1) := by simp [World.cell?, hO.met]
  obtain ⟨n1, n2, n3, n4, n5, n6⟩ := hO.ne
  have kbp := blk_lt hO.prg
  have kbc := blk_lt hO.cls
  have kbm := blk_lt hO.met
  have kbi := blk_lt hO.ins
  have ft : U.frozen? ⟨bm, 2, none⟩ = false := by simp [World.frozen?, hO.met]
  have ct : U.cell? ⟨bm, 2, none⟩ = some (.slice none 0 0) := by simp [World.cell?, hO.met]
  have zbc0 : bc ≠ U.heap.size := by omega
  have zbc1 : bc ≠ U.heap.size + 1 := by omega
  have zbm0 : bm ≠ U.heap.size := by omega
  have zbm1 : bm ≠ U.heap.size + 1 := by omega
  have zbp0 : bp ≠ U.heap.size := by omega
  have zbp1 : bp ≠ U.heap.size + 1 := by omega
  have HB : Hid (Below w.heap.size w (((U.setCell ⟨bm, 2, none⟩ (.slice (some ⟨U.heap.size + 1, 0, none⟩) 9 9)).alloc (.cells #[.int .i64 40, .int .i64 8, .int .i64 24, .int .i64 24, .int .i64 24, .int .i64 8, .int .i64 300, .int .i64 16] 3)).alloc (.cells (madeCells #[.int .i64 0] (9 * 1)) 3)).drew) := (cnt5_9_R hO).2.drew
  have hB : Calls Try.prog 13 #[.agg #[.int .i64 11, .slice (some ⟨bc, 0, none⟩) 1 1], .int .i64 1404] (((U.setCell ⟨bm, 2, none⟩ (.slice (some ⟨U.heap.size + 1, 0, none⟩) 9 9)).alloc (.cells #[.int .i64 40, .int .i64 8, .int .i64 24, .int .i64 24, .int .i64 24, .int .i64 8, .int .i64 300, .int .i64 16] 3)).alloc (.cells (madeCells #[.int .i64 0] (9 * 1)) 3)).drew fun e w' => e = .returned (.bool true) ∧ Below (((U.setCell ⟨bm, 2, none⟩ (.slice (some ⟨U.heap.size + 1, 0, none⟩) 9 9)).alloc (.cells #[.int .i64 40, .int .i64 8, .int .i64 24, .int .i64 24, .int .i64 24, .int .i64 8, .int .i64 300, .int .i64 16] 3)).alloc (.cells (madeCells #[.int .i64 0] (9 * 1)) 3)).drew.heap.size (((U.setCell ⟨bm, 2, none⟩ (.slice (some ⟨U.heap.size + 1, 0, none⟩) 9 9)).alloc (.cells #[.int .i64 40, .int .i64 8, .int .i64 24, .int .i64 24, .int .i64 24, .int .i64 8, .int .i64 300, .int .i64 16] 3)).alloc (.cells (madeCells #[.int .i64 0] (9 * 1)) 3)).drew w' := refuses_yes HE.out (((U.setCell ⟨bm, 2, none⟩ (.slice (some ⟨U.heap.size + 1, 0, none⟩) 9 9)).alloc (.cells #[.int .i64 40, .int .i64 8, .int .i64 24, .int .i64 24, .int .i64 24, .int .i64 8, .int .i64 300, .int .i64 16] 3)).alloc (.cells (madeCells #[.int .i64 0] (9 * 1)) 3)).drew (fun _ h => h) (kPg.keep (w' := (((U.setCell ⟨bm, 2, none⟩ (.slice (some ⟨U.heap.size + 1, 0, none⟩) 9 9)).alloc (.cells #[.int .i64 40, .int .i64 8, .int .i64 24, .int .i64 24, .int .i64 24, .int .i64 8, .int .i64 300, .int .i64 16] 3)).alloc (.cells (madeCells #[.int .i64 0] (9 * 1)) 3)).drew) (fun _ _ => rfl) (cnt5_9_R hO).1)
  clear hO HO
  go_upto_region 29 with (fail)
  go_region
  all_goals
    go_wp2_with (go_at_call 13; refine hB.mono ?_; rintro e w9 ⟨rfl, hb9⟩; have HF : Hid (Below w.heap.size w w9) := HB.out.trans (hb9.mono HB.out.size); clear hB hb9)
    go_ret
    exact ⟨rfl, HF.out⟩
end Go.Proofs.Ytajghalljkphiaa
/- Walks of ClassCounts: rows that are made. -/
namespace Go.Proofs.Ytajghalljkphiaa
open Go.RowKit

theorem cnt6_300_R {w U : World} {bp bc bm bi : Nat}  (h : One w U bp bc bm bi) : kPg.R (((U.setCell ⟨bm, 6, none⟩ (.slice (some ⟨U.heap.size + 1, 0, none⟩) 300 300)).alloc (.cells #[.int .i64 40, .int .i64 8, .int .i64 24, .int .i64 24, .int .i64 24, .int .i64 8, .int .i64 300, .int .i64 16] 3)).alloc (.cells (madeCells #[.int .i64 0, .int .i64 0, .int .i64 0] (300 * 3)) 63)) (fun k => k < (((U.setCell ⟨bm, 6, none⟩ (.slice (some ⟨U.heap.size + 1, 0, none⟩) 300 300)).alloc (.cells #[.int .i64 40, .int .i64 8, .int .i64 24, .int .i64 24, .int .i64 24, .int .i64 8, .int .i64 300, .int .i64 16] 3)).alloc (.cells (madeCells #[.int .i64 0, .int .i64 0, .int .i64 0] (300 * 3)) 63)).heap.size) (cntP 6 300) [.int .i64 11, .slice (some ⟨bc, 0, none⟩) 1 1] ∧ Below w.heap.size w (((U.setCell ⟨bm, 6, none⟩ (.slice (some ⟨U.heap.size + 1, 0, none⟩) 300 300)).alloc (.cells #[.int .i64 40, .int .i64 8, .int .i64 24, .int .i64 24, .int .i64 24, .int .i64 8, .int .i64 300, .int .i64 16] 3)).alloc (.cells (madeCells #[.int .i64 0, .int .i64 0, .int .i64 0] (300 * 3)) 63)) := by
  obtain ⟨n1, n2, n3, n4, n5, n6⟩ := h.ne
  obtain ⟨l1, l2, l3, l4⟩ := h.low
  have kbp := blk_lt h.prg
  have kbc := blk_lt h.cls
  have kbm := blk_lt h.met
  have kbi := blk_lt h.ins
  have hz0 : (U.setCell ⟨bm, 6, none⟩ (.slice (some ⟨U.heap.size + 1, 0, none⟩) 300 300)).heap.size = U.heap.size := size_set
  have hz1 : ((U.setCell ⟨bm, 6, none⟩ (.slice (some ⟨U.heap.size + 1, 0, none⟩) 300 300)).alloc (.cells #[.int .i64 40, .int .i64 8, .int .i64 24, .int .i64 24, .int .i64 24, .int .i64 8, .int .i64 300, .int .i64 16] 3)).heap.size = U.heap.size + 1 := by rw [size_alloc, hz0]
  have hz2 : (((U.setCell ⟨bm, 6, none⟩ (.slice (some ⟨U.heap.size + 1, 0, none⟩) 300 300)).alloc (.cells #[.int .i64 40, .int .i64 8, .int .i64 24, .int .i64 24, .int .i64 24, .int .i64 8, .int .i64 300, .int .i64 16] 3)).alloc (.cells (madeCells #[.int .i64 0, .int .i64 0, .int .i64 0] (300 * 3)) 63)).heap.size = U.heap.size + 1 + 1 := by rw [size_alloc, hz1]
  have hsz : (((U.setCell ⟨bm, 6, none⟩ (.slice (some ⟨U.heap.size + 1, 0, none⟩) 300 300)).alloc (.cells #[.int .i64 40, .int .i64 8, .int .i64 24, .int .i64 24, .int .i64 24, .int .i64 8, .int .i64 300, .int .i64 16] 3)).alloc (.cells (madeCells #[.int .i64 0, .int .i64 0, .int .i64 0] (300 * 3)) 63)).heap.size = U.heap.size + 1 + 1 := hz2
  have fbc : (((U.setCell ⟨bm, 6, none⟩ (.slice (some ⟨U.heap.size + 1, 0, none⟩) 300 300)).alloc (.cells #[.int .i64 40, .int .i64 8, .int .i64 24, .int .i64 24, .int .i64 24, .int .i64 8, .int .i64 300, .int .i64 16] 3)).alloc (.cells (madeCells #[.int .i64 0, .int .i64 0, .int .i64 0] (300 * 3)) 63)).heap[bc]? = some (.cells #[.string ⟨#[77]⟩, .bool false, .bool false, .int .i64 0, .slice none 0 0, .slice none 0 0, .slice none 0 0, .slice (some ⟨bm, 0, none⟩) 1 1] 42 (0, 0)) := by rw [Below.heap_alloc _ _ _ (by omega)]; rw [Below.heap_alloc _ _ _ (by omega)]; exact (blk_set (by omega)).trans h.cls
  have fbm : (((U.setCell ⟨bm, 6, none⟩ (.slice (some ⟨U.heap.size + 1, 0, none⟩) 300 300)).alloc (.cells #[.int .i64 40, .int .i64 8, .int .i64 24, .int .i64 24, .int .i64 24, .int .i64 8, .int .i64 300, .int .i64 16] 3)).alloc (.cells (madeCells #[.int .i64 0, .int .i64 0, .int .i64 0] (300 * 3)) 63)).heap[bm]? = some (.cells #[.string ⟨#[109, 97, 105, 110]⟩, .bool true, .slice none 0 0, .int .i64 0, .int .i64 0, .int .i64 0, .slice (some ⟨U.heap.size + 1, 0, none⟩) 300 300, .slice none 0 0, .slice none 0 0] 49 (0, 0)) := by rw [Below.heap_alloc _ _ _ (by omega)]; rw [Below.heap_alloc _ _ _ (by omega)]; exact hset h.met _
  have fbi : (((U.setCell ⟨bm, 6, none⟩ (.slice (some ⟨U.heap.size + 1, 0, none⟩) 300 300)).alloc (.cells #[.int .i64 40, .int .i64 8, .int .i64 24, .int .i64 24, .int .i64 24, .int .i64 8, .int .i64 300, .int .i64 16] 3)).alloc (.cells (madeCells #[.int .i64 0, .int .i64 0, .int .i64 0] (300 * 3)) 63)).heap[bi]? = some (.cells #[.int .i64 29, .int .i64 0, .int .i64 0] 63 (0, 0)) := by rw [Below.heap_alloc _ _ _ (by omega)]; rw [Below.heap_alloc _ _ _ (by omega)]; exact (blk_set (by omega)).trans h.ins
  have a0 : (((U.setCell ⟨bm, 6, none⟩ (.slice (some ⟨U.heap.size + 1, 0, none⟩) 300 300)).alloc (.cells #[.int .i64 40, .int .i64 8, .int .i64 24, .int .i64 24, .int .i64 24, .int .i64 8, .int .i64 300, .int .i64 16] 3)).alloc (.cells (madeCells #[.int .i64 0, .int .i64 0, .int .i64 0] (300 * 3)) 63)).heap[U.heap.size]? = some (.cells #[.int .i64 40, .int .i64 8, .int .i64 24, .int .i64 24, .int .i64 24, .int .i64 8, .int .i64 300, .int .i64 16] 3 (0, 0)) := by
    rw [Below.heap_alloc _ _ _ (by omega)]
    have hn := heap_alloc_new (U.setCell ⟨bm, 6, none⟩ (.slice (some ⟨U.heap.size + 1, 0, none⟩) 300 300)) (.cells #[.int .i64 40, .int .i64 8, .int .i64 24, .int .i64 24, .int .i64 24, .int .i64 8, .int .i64 300, .int .i64 16] 3)
    rw [hz0] at hn
    exact hn
  have a1 : (((U.setCell ⟨bm, 6, none⟩ (.slice (some ⟨U.heap.size + 1, 0, none⟩) 300 300)).alloc (.cells #[.int .i64 40, .int .i64 8, .int .i64 24, .int .i64 24, .int .i64 24, .int .i64 8, .int .i64 300, .int .i64 16] 3)).alloc (.cells (madeCells #[.int .i64 0, .int .i64 0, .int .i64 0] (300 * 3)) 63)).heap[U.heap.size + 1]? = some (.cells (madeCells #[.int .i64 0, .int .i64 0, .int .i64 0] (300 * 3)) 63 (0, 0)) := by
    have hn := heap_alloc_new ((U.setCell ⟨bm, 6, none⟩ (.slice (some ⟨U.heap.size + 1, 0, none⟩) 300 300)).alloc (.cells #[.int .i64 40, .int .i64 8, .int .i64 24, .int .i64 24, .int .i64 24, .int .i64 8, .int .i64 300, .int .i64 16] 3)) (.cells (madeCells #[.int .i64 0, .int .i64 0, .int .i64 0] (300 * 3)) 63)
    rw [hz1] at hn
    exact hn
  refine ⟨one_R fbc fbm (by show bc < _; omega) (by show bm < _; omega) (Sl.nil _ _ _) (Sl.nil _ _ _) (Sl.nil _ _ _) (Sl.nil _ _ _) (made_sl (K := kIs) a1 rfl (by show U.heap.size + 1 < _; omega) (by decide)) (Sl.nil _ _ _) (Sl.nil _ _ _), ?_⟩
  exact (((h.bel.setCell (by show w.heap.size ≤ bm; omega) _).alloc (by omega) _).alloc (by omega) _)
theorem cnt6_300_mk (u : World) : (Instr.makeSlice 45 (.int .i64 300) (.int .i64 300)).run Try.prog u = .ok (.slice (some ⟨u.heap.size, 0, none⟩) 300 300) (u.alloc (.cells (madeCells #[.int .i64 0, .int .i64 0, .int .i64 0] (300 * 3)) 63)) := by
  obtain ⟨i0, hi, hz0, hz1, hz2⟩ := info_parts infoLS
  have h := run_make (P := Try.prog) u 45 63 i0 (.agg #[.int .i64 0, .int .i64 0, .int .i64 0]) Try.underlying45 hi hz0 .i64 .i64 300 300 (by decide) (by decide) (by rw [hz2]; decide) (by decide)
  rw [hz1] at h
  exact h
set_option maxHeartbeats 4000000 in
set_option maxRecDepth 20000 in
theorem cnt6_y {wh : Int} (w : World) (hk : bits BinOp.and .i64 wh 7 = 6) : Calls Try.prog 5 #[.int .i64 wh, .bool false] w fun e w' => e = .returned (.bool true) ∧ Below w.heap.size w w' := by
  have hA := awake14 w
  have hmk := cnt6_300_mk
  obtain ⟨b, he⟩ := cnt_yes (k := 6) (by decide)
  have HE : Hid (encP (cntP 6 300) = .ok b) := he
  clear he
  go_enter Try.func5, Try.ntmps5
  go_upto_region 4 with (first
    | (go_at_call 7; refine hA.mono ?_; rintro e w1 ⟨rfl, hb1⟩; clear hA; have hT := TinyM w1; have H1 : Hid (Below w.heap.size w w1) := hb1; clear hb1)
    | (go_at_call 12; refine hT.mono ?_; rintro e w2 ⟨hb2, rfl, hT2⟩; clear hT; have HO : Hid (One w (w2.alloc (.cells #[.int .i64 11, .slice (some ⟨w1.heap.size + 1 + 1 + 1 + 1, 0, none⟩) 1 1] 24)) w2.heap.size (w1.heap.size + 1 + 1 + 1 + 1) (w1.heap.size + 1 + 1 + 1) (w1.heap.size + 1)) := one_of H1.out hb2 hT2; clear hT2 hb2 H1))
  generalize hU : w2.alloc (.cells #[.int .i64 11, .slice (some ⟨w1.heap.size + 1 + 1 + 1 + 1, 0, none⟩) 1 1] 24) = U at *
  clear hU
  generalize hbp : w2.heap.size = bp at *
  clear hbp
  generalize hbc : w1.heap.size + 1 + 1 + 1 + 1 = bc at *
  generalize hbm : w1.heap.size + 1 + 1 + 1 = bm at *
  generalize hbi : w1.heap.size + 1 = bi at *
  clear hbc hbm hbi
  have hO := HO.out
  have p0 : U.cell? ⟨bp, 0, none⟩ = some (.int .i64 11) := by simp [World.cell?, hO.prg]
  have p1 : U.cell? ⟨bp, 1, none⟩ = some (.slice (some ⟨bc, 0, none⟩) 1 1) := by simp [World.cell?, hO.prg]
  have c7 : U.cell? ⟨bc, 7, none⟩ = some (.slice (some ⟨bm, 0, none⟩) 1 1) := by simp [World.cell?, hO.cls]
  have m6 : U.cell? ⟨bm, 6, none⟩ = some (.slice (some ⟨bi, 0, none⟩) 1 1) := by simp [World.cell?, hO.met]
  obtain ⟨n1, n2, n3, n4, n5, n6⟩ := hO.ne
  have kbp := blk_lt hO.prg
  have kbc := blk_lt hO.cls
  have kbm := blk_lt hO.met
  have kbi := blk_lt hO.ins
  have ft : U.frozen? ⟨bm, 6, none⟩ = false := by simp [World.frozen?, hO.met]
  have ct : U.cell? ⟨bm, 6, none⟩ = some (.slice (some ⟨bi, 0, none⟩) 1 1) := by simp [World.cell?, hO.met]
  have zbc0 : bc ≠ U.heap.size := by omega
  have zbc1 : bc ≠ U.heap.size + 1 := by omega
  have zbm0 : bm ≠ U.heap.size := by omega
  have zbm1 : bm ≠ U.heap.size + 1 := by omega
  have zbp0 : bp ≠ U.heap.size := by omega
  have zbp1 : bp ≠ U.heap.size + 1 := by omega
  have HB : Hid (Below w.heap.size w (((U.setCell ⟨bm, 6, none⟩ (.slice (some ⟨U.heap.size + 1, 0, none⟩) 300 300)).alloc (.cells #[.int .i64 40, .int .i64 8, .int .i64 24, .int .i64 24, .int .i64 24, .int .i64 8, .int .i64 300, .int .i64 16] 3)).alloc (.cells (madeCells #[.int .i64 0, .int .i64 0, .int .i64 0] (300 * 3)) 63)).drew) := (cnt6_300_R hO).2.drew
  have hB : Calls Try.prog 14 #[.agg #[.int .i64 11, .slice (some ⟨bc, 0, none⟩) 1 1]] (((U.setCell ⟨bm, 6, none⟩ (.slice (some ⟨U.heap.size + 1, 0, none⟩) 300 300)).alloc (.cells #[.int .i64 40, .int .i64 8, .int .i64 24, .int .i64 24, .int .i64 24, .int .i64 8, .int .i64 300, .int .i64 16] 3)).alloc (.cells (madeCells #[.int .i64 0, .int .i64 0, .int .i64 0] (300 * 3)) 63)).drew fun e w' => e = .returned (.bool true) ∧ Below (((U.setCell ⟨bm, 6, none⟩ (.slice (some ⟨U.heap.size + 1, 0, none⟩) 300 300)).alloc (.cells #[.int .i64 40, .int .i64 8, .int .i64 24, .int .i64 24, .int .i64 24, .int .i64 8, .int .i64 300, .int .i64 16] 3)).alloc (.cells (madeCells #[.int .i64 0, .int .i64 0, .int .i64 0] (300 * 3)) 63)).drew.heap.size (((U.setCell ⟨bm, 6, none⟩ (.slice (some ⟨U.heap.size + 1, 0, none⟩) 300 300)).alloc (.cells #[.int .i64 40, .int .i64 8, .int .i64 24, .int .i64 24, .int .i64 24, .int .i64 8, .int .i64 300, .int .i64 16] 3)).alloc (.cells (madeCells #[.int .i64 0, .int .i64 0, .int .i64 0] (300 * 3)) 63)).drew w' := back_yes HE.out (((U.setCell ⟨bm, 6, none⟩ (.slice (some ⟨U.heap.size + 1, 0, none⟩) 300 300)).alloc (.cells #[.int .i64 40, .int .i64 8, .int .i64 24, .int .i64 24, .int .i64 24, .int .i64 8, .int .i64 300, .int .i64 16] 3)).alloc (.cells (madeCells #[.int .i64 0, .int .i64 0, .int .i64 0] (300 * 3)) 63)).drew (fun _ h => h) (kPg.keep (w' := (((U.setCell ⟨bm, 6, none⟩ (.slice (some ⟨U.heap.size + 1, 0, none⟩) 300 300)).alloc (.cells #[.int .i64 40, .int .i64 8, .int .i64 24, .int .i64 24, .int .i64 24, .int .i64 8, .int .i64 300, .int .i64 16] 3)).alloc (.cells (madeCells #[.int .i64 0, .int .i64 0, .int .i64 0] (300 * 3)) 63)).drew) (fun _ _ => rfl) (cnt6_300_R hO).1)
  clear hO HO
  go_upto_region 31 with (fail)
  go_region
  all_goals
    go_wp2_with (go_at_call 14; refine hB.mono ?_; rintro e w9 ⟨rfl, hb9⟩; have HF : Hid (Below w.heap.size w w9) := HB.out.trans (hb9.mono HB.out.size); clear hB hb9)
    go_ret
    exact ⟨rfl, HF.out⟩
theorem cnt6_301_R {w U : World} {bp bc bm bi : Nat}  (h : One w U bp bc bm bi) : kPg.R (((U.setCell ⟨bm, 6, none⟩ (.slice (some ⟨U.heap.size + 1, 0, none⟩) 301 301)).alloc (.cells #[.int .i64 40, .int .i64 8, .int .i64 24, .int .i64 24, .int .i64 24, .int .i64 8, .int .i64 300, .int .i64 16] 3)).alloc (.cells (madeCells #[.int .i64 0, .int .i64 0, .int .i64 0] (301 * 3)) 63)) (fun k => k < (((U.setCell ⟨bm, 6, none⟩ (.slice (some ⟨U.heap.size + 1, 0, none⟩) 301 301)).alloc (.cells #[.int .i64 40, .int .i64 8, .int .i64 24, .int .i64 24, .int .i64 24, .int .i64 8, .int .i64 300, .int .i64 16] 3)).alloc (.cells (madeCells #[.int .i64 0, .int .i64 0, .int .i64 0] (301 * 3)) 63)).heap.size) (cntP 6 301) [.int .i64 11, .slice (some ⟨bc, 0, none⟩) 1 1] ∧ Below w.heap.size w (((U.setCell ⟨bm, 6, none⟩ (.slice (some ⟨U.heap.size + 1, 0, none⟩) 301 301)).alloc (.cells #[.int .i64 40, .int .i64 8, .int .i64 24, .int .i64 24, .int .i64 24, .int .i64 8, .int .i64 300, .int .i64 16] 3)).alloc (.cells (madeCells #[.int .i64 0, .int .i64 0, .int .i64 0] (301 * 3)) 63)) := by
  obtain ⟨n1, n2, n3, n4, n5, n6⟩ := h.ne
  obtain ⟨l1, l2, l3, l4⟩ := h.low
  have kbp := blk_lt h.prg
  have kbc := blk_lt h.cls
  have kbm := blk_lt h.met
  have kbi := blk_lt h.ins
  have hz0 : (U.setCell ⟨bm, 6, none⟩ (.slice (some ⟨U.heap.size + 1, 0, none⟩) 301 301)).heap.size = U.heap.size := size_set
  have hz1 : ((U.setCell ⟨bm, 6, none⟩ (.slice (some ⟨U.heap.size + 1, 0, none⟩) 301 301)).alloc (.cells #[.int .i64 40, .int .i64 8, .int .i64 24, .int .i64 24, .int .i64 24, .int .i64 8, .int .i64 300, .int .i64 16] 3)).heap.size = U.heap.size + 1 := by rw [size_alloc, hz0]
  have hz2 : (((U.setCell ⟨bm, 6, none⟩ (.slice (some ⟨U.heap.size + 1, 0, none⟩) 301 301)).alloc (.cells #[.int .i64 40, .int .i64 8, .int .i64 24, .int .i64 24, .int .i64 24, .int .i64 8, .int .i64 300, .int .i64 16] 3)).alloc (.cells (madeCells #[.int .i64 0, .int .i64 0, .int .i64 0] (301 * 3)) 63)).heap.size = U.heap.size + 1 + 1 := by rw [size_alloc, hz1]
  have hsz : (((U.setCell ⟨bm, 6, none⟩ (.slice (some ⟨U.heap.size + 1, 0, none⟩) 301 301)).alloc (.cells #[.int .i64 40, .int .i64 8, .int .i64 24, .int .i64 24, .int .i64 24, .int .i64 8, .int .i64 300, .int .i64 16] 3)).alloc (.cells (madeCells #[.int .i64 0, .int .i64 0, .int .i64 0] (301 * 3)) 63)).heap.size = U.heap.size + 1 + 1 := hz2
  have fbc : (((U.setCell ⟨bm, 6, none⟩ (.slice (some ⟨U.heap.size + 1, 0, none⟩) 301 301)).alloc (.cells #[.int .i64 40, .int .i64 8, .int .i64 24, .int .i64 24, .int .i64 24, .int .i64 8, .int .i64 300, .int .i64 16] 3)).alloc (.cells (madeCells #[.int .i64 0, .int .i64 0, .int .i64 0] (301 * 3)) 63)).heap[bc]? = some (.cells #[.string ⟨#[77]⟩, .bool false, .bool false, .int .i64 0, .slice none 0 0, .slice none 0 0, .slice none 0 0, .slice (some ⟨bm, 0, none⟩) 1 1] 42 (0, 0)) := by rw [Below.heap_alloc _ _ _ (by omega)]; rw [Below.heap_alloc _ _ _ (by omega)]; exact (blk_set (by omega)).trans h.cls
  have fbm : (((U.setCell ⟨bm, 6, none⟩ (.slice (some ⟨U.heap.size + 1, 0, none⟩) 301 301)).alloc (.cells #[.int .i64 40, .int .i64 8, .int .i64 24, .int .i64 24, .int .i64 24, .int .i64 8, .int .i64 300, .int .i64 16] 3)).alloc (.cells (madeCells #[.int .i64 0, .int .i64 0, .int .i64 0] (301 * 3)) 63)).heap[bm]? = some (.cells #[.string ⟨#[109, 97, 105, 110]⟩, .bool true, .slice none 0 0, .int .i64 0, .int .i64 0, .int .i64 0, .slice (some ⟨U.heap.size + 1, 0, none⟩) 301 301, .slice none 0 0, .slice none 0 0] 49 (0, 0)) := by rw [Below.heap_alloc _ _ _ (by omega)]; rw [Below.heap_alloc _ _ _ (by omega)]; exact hset h.met _
  have fbi : (((U.setCell ⟨bm, 6, none⟩ (.slice (some ⟨U.heap.size + 1, 0, none⟩) 301 301)).alloc (.cells #[.int .i64 40, .int .i64 8, .int .i64 24, .int .i64 24, .int .i64 24, .int .i64 8, .int .i64 300, .int .i64 16] 3)).alloc (.cells (madeCells #[.int .i64 0, .int .i64 0, .int .i64 0] (301 * 3)) 63)).heap[bi]? = some (.cells #[.int .i64 29, .int .i64 0, .int .i64 0] 63 (0, 0)) := by rw [Below.heap_alloc _ _ _ (by omega)]; rw [Below.heap_alloc _ _ _ (by omega)]; exact (blk_set (by omega)).trans h.ins
  have a0 : (((U.setCell ⟨bm, 6, none⟩ (.slice (some ⟨U.heap.size + 1, 0, none⟩) 301 301)).alloc (.cells #[.int .i64 40, .int .i64 8, .int .i64 24, .int .i64 24, .int .i64 24, .int .i64 8, .int .i64 300, .int .i64 16] 3)).alloc (.cells (madeCells #[.int .i64 0, .int .i64 0, .int .i64 0] (301 * 3)) 63)).heap[U.heap.size]? = some (.cells #[.int .i64 40, .int .i64 8, .int .i64 24, .int .i64 24, .int .i64 24, .int .i64 8, .int .i64 300, .int .i64 16] 3 (0, 0)) := by
    rw [Below.heap_alloc _ _ _ (by omega)]
    have hn := heap_alloc_new (U.setCell ⟨bm, 6, none⟩ (.slice (some ⟨U.heap.size + 1, 0, none⟩) 301 301)) (.cells #[.int .i64 40, .int .i64 8, .int .i64 24, .int .i64 24, .int .i64 24, .int .i64 8, .int .i64 300, .int .i64 16] 3)
    rw [hz0] at hn
    exact hn
  have a1 : (((U.setCell ⟨bm, 6, none⟩ (.slice (some ⟨U.heap.size + 1, 0, none⟩) 301 301)).alloc (.cells #[.int .i64 40, .int .i64 8, .int .i64 24, .int .i64 24, .int .i64 24, .int .i64 8, .int .i64 300, .int .i64 16] 3)).alloc (.cells (madeCells #[.int .i64 0, .int .i64 0, .int .i64 0] (301 * 3)) 63)).heap[U.heap.size + 1]? = some (.cells (madeCells #[.int .i64 0, .int .i64 0, .int .i64 0] (301 * 3)) 63 (0, 0)) := by
    have hn := heap_alloc_new ((U.setCell ⟨bm, 6, none⟩ (.slice (some ⟨U.heap.size + 1, 0, none⟩) 301 301)).alloc (.cells #[.int .i64 40, .int .i64 8, .int .i64 24, .int .i64 24, .int .i64 24, .int .i64 8, .int .i64 300, .int .i64 16] 3)) (.cells (madeCells #[.int .i64 0, .int .i64 0, .int .i64 0] (301 * 3)) 63)
    rw [hz1] at hn
    exact hn
  refine ⟨one_R fbc fbm (by show bc < _; omega) (by show bm < _; omega) (Sl.nil _ _ _) (Sl.nil _ _ _) (Sl.nil _ _ _) (Sl.nil _ _ _) (made_sl (K := kIs) a1 rfl (by show U.heap.size + 1 < _; omega) (by decide)) (Sl.nil _ _ _) (Sl.nil _ _ _), ?_⟩
  exact (((h.bel.setCell (by show w.heap.size ≤ bm; omega) _).alloc (by omega) _).alloc (by omega) _)
theorem cnt6_301_mk (u : World) : (Instr.makeSlice 45 (.int .i64 301) (.int .i64 301)).run Try.prog u = .ok (.slice (some ⟨u.heap.size, 0, none⟩) 301 301) (u.alloc (.cells (madeCells #[.int .i64 0, .int .i64 0, .int .i64 0] (301 * 3)) 63)) := by
  obtain ⟨i0, hi, hz0, hz1, hz2⟩ := info_parts infoLS
  have h := run_make (P := Try.prog) u 45 63 i0 (.agg #[.int .i64 0, .int .i64 0, .int .i64 0]) Try.underlying45 hi hz0 .i64 .i64 301 301 (by decide) (by decide) (by rw [hz2]; decide) (by decide)
  rw [hz1] at h
  exact h
set_option maxHeartbeats 4000000 in
set_option maxRecDepth 20000 in
theorem cnt6_n {wh : Int} (w : World) (hk : bits BinOp.and .i64 wh 7 = 6) : Calls Try.prog 5 #[.int .i64 wh, .bool true] w fun e w' => e = .returned (.bool true) ∧ Below w.heap.size w w' := by
  have hA := awake14 w
  have hmk := cnt6_301_mk
  have HE : Hid (encP (cntP 6 301) = .error 1404) := cnt_no (k := 6) (by decide)
  go_enter Try.func5, Try.ntmps5
  go_upto_region 4 with (first
    | (go_at_call 7; refine hA.mono ?_; rintro e w1 ⟨rfl, hb1⟩; clear hA; have hT := TinyM w1; have H1 : Hid (Below w.heap.size w w1) := hb1; clear hb1)
    | (go_at_call 12; refine hT.mono ?_; rintro e w2 ⟨hb2, rfl, hT2⟩; clear hT; have HO : Hid (One w (w2.alloc (.cells #[.int .i64 11, .slice (some ⟨w1.heap.size + 1 + 1 + 1 + 1, 0, none⟩) 1 1] 24)) w2.heap.size (w1.heap.size + 1 + 1 + 1 + 1) (w1.heap.size + 1 + 1 + 1) (w1.heap.size + 1)) := one_of H1.out hb2 hT2; clear hT2 hb2 H1))
  generalize hU : w2.alloc (.cells #[.int .i64 11, .slice (some ⟨w1.heap.size + 1 + 1 + 1 + 1, 0, none⟩) 1 1] 24) = U at *
  clear hU
  generalize hbp : w2.heap.size = bp at *
  clear hbp
  generalize hbc : w1.heap.size + 1 + 1 + 1 + 1 = bc at *
  generalize hbm : w1.heap.size + 1 + 1 + 1 = bm at *
  generalize hbi : w1.heap.size + 1 = bi at *
  clear hbc hbm hbi
  have hO := HO.out
  have p0 : U.cell? ⟨bp, 0, none⟩ = some (.int .i64 11) := by simp [World.cell?, hO.prg]
  have p1 : U.cell? ⟨bp, 1, none⟩ = some (.slice (some ⟨bc, 0, none⟩) 1 1) := by simp [World.cell?, hO.prg]
  have c7 : U.cell? ⟨bc, 7, none⟩ = some (.slice (some ⟨bm, 0, none⟩) 1 1) := by simp [World.cell?, hO.cls]
  have m6 : U.cell? ⟨bm, 6, none⟩ = some (.slice (some ⟨bi, 0, none⟩) 1 1) := by simp [World.cell?, hO.met]
  obtain ⟨n1, n2, n3, n4, n5, n6⟩ := hO.ne
  have kbp := blk_lt hO.prg
  have kbc := blk_lt hO.cls
  have kbm := blk_lt hO.met
  have kbi := blk_lt hO.ins
  have ft : U.frozen? ⟨bm, 6, none⟩ = false := by simp [World.frozen?, hO.met]
  have ct : U.cell? ⟨bm, 6, none⟩ = some (.slice (some ⟨bi, 0, none⟩) 1 1) := by simp [World.cell?, hO.met]
  have zbc0 : bc ≠ U.heap.size := by omega
  have zbc1 : bc ≠ U.heap.size + 1 := by omega
  have zbm0 : bm ≠ U.heap.size := by omega
  have zbm1 : bm ≠ U.heap.size + 1 := by omega
  have zbp0 : bp ≠ U.heap.size := by omega
  have zbp1 : bp ≠ U.heap.size + 1 := by omega
  have HB : Hid (Below w.heap.size w (((U.setCell ⟨bm, 6, none⟩ (.slice (some ⟨U.heap.size + 1, 0, none⟩) 301 301)).alloc (.cells #[.int .i64 40, .int .i64 8, .int .i64 24, .int .i64 24, .int .i64 24, .int .i64 8, .int .i64 300, .int .i64 16] 3)).alloc (.cells (madeCells #[.int .i64 0, .int .i64 0, .int .i64 0] (301 * 3)) 63)).drew) := (cnt6_301_R hO).2.drew
  have hB : Calls Try.prog 13 #[.agg #[.int .i64 11, .slice (some ⟨bc, 0, none⟩) 1 1], .int .i64 1404] (((U.setCell ⟨bm, 6, none⟩ (.slice (some ⟨U.heap.size + 1, 0, none⟩) 301 301)).alloc (.cells #[.int .i64 40, .int .i64 8, .int .i64 24, .int .i64 24, .int .i64 24, .int .i64 8, .int .i64 300, .int .i64 16] 3)).alloc (.cells (madeCells #[.int .i64 0, .int .i64 0, .int .i64 0] (301 * 3)) 63)).drew fun e w' => e = .returned (.bool true) ∧ Below (((U.setCell ⟨bm, 6, none⟩ (.slice (some ⟨U.heap.size + 1, 0, none⟩) 301 301)).alloc (.cells #[.int .i64 40, .int .i64 8, .int .i64 24, .int .i64 24, .int .i64 24, .int .i64 8, .int .i64 300, .int .i64 16] 3)).alloc (.cells (madeCells #[.int .i64 0, .int .i64 0, .int .i64 0] (301 * 3)) 63)).drew.heap.size (((U.setCell ⟨bm, 6, none⟩ (.slice (some ⟨U.heap.size + 1, 0, none⟩) 301 301)).alloc (.cells #[.int .i64 40, .int .i64 8, .int .i64 24, .int .i64 24, .int .i64 24, .int .i64 8, .int .i64 300, .int .i64 16] 3)).alloc (.cells (madeCells #[.int .i64 0, .int .i64 0, .int .i64 0] (301 * 3)) 63)).drew w' := refuses_yes HE.out (((U.setCell ⟨bm, 6, none⟩ (.slice (some ⟨U.heap.size + 1, 0, none⟩) 301 301)).alloc (.cells #[.int .i64 40, .int .i64 8, .int .i64 24, .int .i64 24, .int .i64 24, .int .i64 8, .int .i64 300, .int .i64 16] 3)).alloc (.cells (madeCells #[.int .i64 0, .int .i64 0, .int .i64 0] (301 * 3)) 63)).drew (fun _ h => h) (kPg.keep (w' := (((U.setCell ⟨bm, 6, none⟩ (.slice (some ⟨U.heap.size + 1, 0, none⟩) 301 301)).alloc (.cells #[.int .i64 40, .int .i64 8, .int .i64 24, .int .i64 24, .int .i64 24, .int .i64 8, .int .i64 300, .int .i64 16] 3)).alloc (.cells (madeCells #[.int .i64 0, .int .i64 0, .int .i64 0] (301 * 3)) 63)).drew) (fun _ _ => rfl) (cnt6_301_R hO).1)
  clear hO HO
  go_upto_region 31 with (fail)
  go_region
  all_goals
    go_wp2_with (go_at_call 13; refine hB.mono ?_; rintro e w9 ⟨rfl, hb9⟩; have HF : Hid (Below w.heap.size w w9) := HB.out.trans (hb9.mono HB.out.size); clear hB hb9)
    go_ret
    exact ⟨rfl, HF.out⟩
end Go.Proofs.Ytajghalljkphiaa
/- Walks of ClassCounts: rows that are made. -/
namespace Go.Proofs.Ytajghalljkphiaa
open Go.RowKit

theorem cnt7_16_R {w U : World} {bp bc bm bi : Nat}  (h : One w U bp bc bm bi) : kPg.R (((U.setCell ⟨bm, 7, none⟩ (.slice (some ⟨U.heap.size + 1, 0, none⟩) 16 16)).alloc (.cells #[.int .i64 40, .int .i64 8, .int .i64 24, .int .i64 24, .int .i64 24, .int .i64 8, .int .i64 300, .int .i64 16] 3)).alloc (.cells (madeCells #[.int .i64 0, .int .i64 0, .int .i64 0, .int .i64 0] (16 * 4)) 88)) (fun k => k < (((U.setCell ⟨bm, 7, none⟩ (.slice (some ⟨U.heap.size + 1, 0, none⟩) 16 16)).alloc (.cells #[.int .i64 40, .int .i64 8, .int .i64 24, .int .i64 24, .int .i64 24, .int .i64 8, .int .i64 300, .int .i64 16] 3)).alloc (.cells (madeCells #[.int .i64 0, .int .i64 0, .int .i64 0, .int .i64 0] (16 * 4)) 88)).heap.size) (cntP 7 16) [.int .i64 11, .slice (some ⟨bc, 0, none⟩) 1 1] ∧ Below w.heap.size w (((U.setCell ⟨bm, 7, none⟩ (.slice (some ⟨U.heap.size + 1, 0, none⟩) 16 16)).alloc (.cells #[.int .i64 40, .int .i64 8, .int .i64 24, .int .i64 24, .int .i64 24, .int .i64 8, .int .i64 300, .int .i64 16] 3)).alloc (.cells (madeCells #[.int .i64 0, .int .i64 0, .int .i64 0, .int .i64 0] (16 * 4)) 88)) := by
  obtain ⟨n1, n2, n3, n4, n5, n6⟩ := h.ne
  obtain ⟨l1, l2, l3, l4⟩ := h.low
  have kbp := blk_lt h.prg
  have kbc := blk_lt h.cls
  have kbm := blk_lt h.met
  have kbi := blk_lt h.ins
  have hz0 : (U.setCell ⟨bm, 7, none⟩ (.slice (some ⟨U.heap.size + 1, 0, none⟩) 16 16)).heap.size = U.heap.size := size_set
  have hz1 : ((U.setCell ⟨bm, 7, none⟩ (.slice (some ⟨U.heap.size + 1, 0, none⟩) 16 16)).alloc (.cells #[.int .i64 40, .int .i64 8, .int .i64 24, .int .i64 24, .int .i64 24, .int .i64 8, .int .i64 300, .int .i64 16] 3)).heap.size = U.heap.size + 1 := by rw [size_alloc, hz0]
  have hz2 : (((U.setCell ⟨bm, 7, none⟩ (.slice (some ⟨U.heap.size + 1, 0, none⟩) 16 16)).alloc (.cells #[.int .i64 40, .int .i64 8, .int .i64 24, .int .i64 24, .int .i64 24, .int .i64 8, .int .i64 300, .int .i64 16] 3)).alloc (.cells (madeCells #[.int .i64 0, .int .i64 0, .int .i64 0, .int .i64 0] (16 * 4)) 88)).heap.size = U.heap.size + 1 + 1 := by rw [size_alloc, hz1]
  have hsz : (((U.setCell ⟨bm, 7, none⟩ (.slice (some ⟨U.heap.size + 1, 0, none⟩) 16 16)).alloc (.cells #[.int .i64 40, .int .i64 8, .int .i64 24, .int .i64 24, .int .i64 24, .int .i64 8, .int .i64 300, .int .i64 16] 3)).alloc (.cells (madeCells #[.int .i64 0, .int .i64 0, .int .i64 0, .int .i64 0] (16 * 4)) 88)).heap.size = U.heap.size + 1 + 1 := hz2
  have fbc : (((U.setCell ⟨bm, 7, none⟩ (.slice (some ⟨U.heap.size + 1, 0, none⟩) 16 16)).alloc (.cells #[.int .i64 40, .int .i64 8, .int .i64 24, .int .i64 24, .int .i64 24, .int .i64 8, .int .i64 300, .int .i64 16] 3)).alloc (.cells (madeCells #[.int .i64 0, .int .i64 0, .int .i64 0, .int .i64 0] (16 * 4)) 88)).heap[bc]? = some (.cells #[.string ⟨#[77]⟩, .bool false, .bool false, .int .i64 0, .slice none 0 0, .slice none 0 0, .slice none 0 0, .slice (some ⟨bm, 0, none⟩) 1 1] 42 (0, 0)) := by rw [Below.heap_alloc _ _ _ (by omega)]; rw [Below.heap_alloc _ _ _ (by omega)]; exact (blk_set (by omega)).trans h.cls
  have fbm : (((U.setCell ⟨bm, 7, none⟩ (.slice (some ⟨U.heap.size + 1, 0, none⟩) 16 16)).alloc (.cells #[.int .i64 40, .int .i64 8, .int .i64 24, .int .i64 24, .int .i64 24, .int .i64 8, .int .i64 300, .int .i64 16] 3)).alloc (.cells (madeCells #[.int .i64 0, .int .i64 0, .int .i64 0, .int .i64 0] (16 * 4)) 88)).heap[bm]? = some (.cells #[.string ⟨#[109, 97, 105, 110]⟩, .bool true, .slice none 0 0, .int .i64 0, .int .i64 0, .int .i64 0, .slice (some ⟨bi, 0, none⟩) 1 1, .slice (some ⟨U.heap.size + 1, 0, none⟩) 16 16, .slice none 0 0] 49 (0, 0)) := by rw [Below.heap_alloc _ _ _ (by omega)]; rw [Below.heap_alloc _ _ _ (by omega)]; exact hset h.met _
  have fbi : (((U.setCell ⟨bm, 7, none⟩ (.slice (some ⟨U.heap.size + 1, 0, none⟩) 16 16)).alloc (.cells #[.int .i64 40, .int .i64 8, .int .i64 24, .int .i64 24, .int .i64 24, .int .i64 8, .int .i64 300, .int .i64 16] 3)).alloc (.cells (madeCells #[.int .i64 0, .int .i64 0, .int .i64 0, .int .i64 0] (16 * 4)) 88)).heap[bi]? = some (.cells #[.int .i64 29, .int .i64 0, .int .i64 0] 63 (0, 0)) := by rw [Below.heap_alloc _ _ _ (by omega)]; rw [Below.heap_alloc _ _ _ (by omega)]; exact (blk_set (by omega)).trans h.ins
  have a0 : (((U.setCell ⟨bm, 7, none⟩ (.slice (some ⟨U.heap.size + 1, 0, none⟩) 16 16)).alloc (.cells #[.int .i64 40, .int .i64 8, .int .i64 24, .int .i64 24, .int .i64 24, .int .i64 8, .int .i64 300, .int .i64 16] 3)).alloc (.cells (madeCells #[.int .i64 0, .int .i64 0, .int .i64 0, .int .i64 0] (16 * 4)) 88)).heap[U.heap.size]? = some (.cells #[.int .i64 40, .int .i64 8, .int .i64 24, .int .i64 24, .int .i64 24, .int .i64 8, .int .i64 300, .int .i64 16] 3 (0, 0)) := by
    rw [Below.heap_alloc _ _ _ (by omega)]
    have hn := heap_alloc_new (U.setCell ⟨bm, 7, none⟩ (.slice (some ⟨U.heap.size + 1, 0, none⟩) 16 16)) (.cells #[.int .i64 40, .int .i64 8, .int .i64 24, .int .i64 24, .int .i64 24, .int .i64 8, .int .i64 300, .int .i64 16] 3)
    rw [hz0] at hn
    exact hn
  have a1 : (((U.setCell ⟨bm, 7, none⟩ (.slice (some ⟨U.heap.size + 1, 0, none⟩) 16 16)).alloc (.cells #[.int .i64 40, .int .i64 8, .int .i64 24, .int .i64 24, .int .i64 24, .int .i64 8, .int .i64 300, .int .i64 16] 3)).alloc (.cells (madeCells #[.int .i64 0, .int .i64 0, .int .i64 0, .int .i64 0] (16 * 4)) 88)).heap[U.heap.size + 1]? = some (.cells (madeCells #[.int .i64 0, .int .i64 0, .int .i64 0, .int .i64 0] (16 * 4)) 88 (0, 0)) := by
    have hn := heap_alloc_new ((U.setCell ⟨bm, 7, none⟩ (.slice (some ⟨U.heap.size + 1, 0, none⟩) 16 16)).alloc (.cells #[.int .i64 40, .int .i64 8, .int .i64 24, .int .i64 24, .int .i64 24, .int .i64 8, .int .i64 300, .int .i64 16] 3)) (.cells (madeCells #[.int .i64 0, .int .i64 0, .int .i64 0, .int .i64 0] (16 * 4)) 88)
    rw [hz1] at hn
    exact hn
  refine ⟨one_R fbc fbm (by show bc < _; omega) (by show bm < _; omega) (Sl.nil _ _ _) (Sl.nil _ _ _) (Sl.nil _ _ _) (Sl.nil _ _ _) (Sl.one1 fbi (by show bi < _; omega) rfl) (made_sl (K := kHd) a1 rfl (by show U.heap.size + 1 < _; omega) (by decide)) (Sl.nil _ _ _), ?_⟩
  exact (((h.bel.setCell (by show w.heap.size ≤ bm; omega) _).alloc (by omega) _).alloc (by omega) _)
theorem cnt7_16_mk (u : World) : (Instr.makeSlice 46 (.int .i64 16) (.int .i64 16)).run Try.prog u = .ok (.slice (some ⟨u.heap.size, 0, none⟩) 16 16) (u.alloc (.cells (madeCells #[.int .i64 0, .int .i64 0, .int .i64 0, .int .i64 0] (16 * 4)) 88)) := by
  obtain ⟨i0, hi, hz0, hz1, hz2⟩ := info_parts infoLH
  have h := run_make (P := Try.prog) u 46 88 i0 (.agg #[.int .i64 0, .int .i64 0, .int .i64 0, .int .i64 0]) Try.underlying46 hi hz0 .i64 .i64 16 16 (by decide) (by decide) (by rw [hz2]; decide) (by decide)
  rw [hz1] at h
  exact h
set_option maxHeartbeats 4000000 in
set_option maxRecDepth 20000 in
theorem cnt7_y {wh : Int} (w : World) (hk : bits BinOp.and .i64 wh 7 = 7) : Calls Try.prog 5 #[.int .i64 wh, .bool false] w fun e w' => e = .returned (.bool true) ∧ Below w.heap.size w w' := by
  have hA := awake14 w
  have hmk := cnt7_16_mk
  obtain ⟨b, he⟩ := cnt_yes (k := 7) (by decide)
  have HE : Hid (encP (cntP 7 16) = .ok b) := he
  clear he
  go_enter Try.func5, Try.ntmps5
  go_upto_region 4 with (first
    | (go_at_call 7; refine hA.mono ?_; rintro e w1 ⟨rfl, hb1⟩; clear hA; have hT := TinyM w1; have H1 : Hid (Below w.heap.size w w1) := hb1; clear hb1)
    | (go_at_call 12; refine hT.mono ?_; rintro e w2 ⟨hb2, rfl, hT2⟩; clear hT; have HO : Hid (One w (w2.alloc (.cells #[.int .i64 11, .slice (some ⟨w1.heap.size + 1 + 1 + 1 + 1, 0, none⟩) 1 1] 24)) w2.heap.size (w1.heap.size + 1 + 1 + 1 + 1) (w1.heap.size + 1 + 1 + 1) (w1.heap.size + 1)) := one_of H1.out hb2 hT2; clear hT2 hb2 H1))
  generalize hU : w2.alloc (.cells #[.int .i64 11, .slice (some ⟨w1.heap.size + 1 + 1 + 1 + 1, 0, none⟩) 1 1] 24) = U at *
  clear hU
  generalize hbp : w2.heap.size = bp at *
  clear hbp
  generalize hbc : w1.heap.size + 1 + 1 + 1 + 1 = bc at *
  generalize hbm : w1.heap.size + 1 + 1 + 1 = bm at *
  generalize hbi : w1.heap.size + 1 = bi at *
  clear hbc hbm hbi
  have hO := HO.out
  have p0 : U.cell? ⟨bp, 0, none⟩ = some (.int .i64 11) := by simp [World.cell?, hO.prg]
  have p1 : U.cell? ⟨bp, 1, none⟩ = some (.slice (some ⟨bc, 0, none⟩) 1 1) := by simp [World.cell?, hO.prg]
  have c7 : U.cell? ⟨bc, 7, none⟩ = some (.slice (some ⟨bm, 0, none⟩) 1 1) := by simp [World.cell?, hO.cls]
  have m6 : U.cell? ⟨bm, 6, none⟩ = some (.slice (some ⟨bi, 0, none⟩) 1 1) := by simp [World.cell?, hO.met]
  obtain ⟨n1, n2, n3, n4, n5, n6⟩ := hO.ne
  have kbp := blk_lt hO.prg
  have kbc := blk_lt hO.cls
  have kbm := blk_lt hO.met
  have kbi := blk_lt hO.ins
  have ft : U.frozen? ⟨bm, 7, none⟩ = false := by simp [World.frozen?, hO.met]
  have ct : U.cell? ⟨bm, 7, none⟩ = some (.slice none 0 0) := by simp [World.cell?, hO.met]
  have zbc0 : bc ≠ U.heap.size := by omega
  have zbc1 : bc ≠ U.heap.size + 1 := by omega
  have zbm0 : bm ≠ U.heap.size := by omega
  have zbm1 : bm ≠ U.heap.size + 1 := by omega
  have zbp0 : bp ≠ U.heap.size := by omega
  have zbp1 : bp ≠ U.heap.size + 1 := by omega
  have HB : Hid (Below w.heap.size w (((U.setCell ⟨bm, 7, none⟩ (.slice (some ⟨U.heap.size + 1, 0, none⟩) 16 16)).alloc (.cells #[.int .i64 40, .int .i64 8, .int .i64 24, .int .i64 24, .int .i64 24, .int .i64 8, .int .i64 300, .int .i64 16] 3)).alloc (.cells (madeCells #[.int .i64 0, .int .i64 0, .int .i64 0, .int .i64 0] (16 * 4)) 88)).drew) := (cnt7_16_R hO).2.drew
  have hB : Calls Try.prog 14 #[.agg #[.int .i64 11, .slice (some ⟨bc, 0, none⟩) 1 1]] (((U.setCell ⟨bm, 7, none⟩ (.slice (some ⟨U.heap.size + 1, 0, none⟩) 16 16)).alloc (.cells #[.int .i64 40, .int .i64 8, .int .i64 24, .int .i64 24, .int .i64 24, .int .i64 8, .int .i64 300, .int .i64 16] 3)).alloc (.cells (madeCells #[.int .i64 0, .int .i64 0, .int .i64 0, .int .i64 0] (16 * 4)) 88)).drew fun e w' => e = .returned (.bool true) ∧ Below (((U.setCell ⟨bm, 7, none⟩ (.slice (some ⟨U.heap.size + 1, 0, none⟩) 16 16)).alloc (.cells #[.int .i64 40, .int .i64 8, .int .i64 24, .int .i64 24, .int .i64 24, .int .i64 8, .int .i64 300, .int .i64 16] 3)).alloc (.cells (madeCells #[.int .i64 0, .int .i64 0, .int .i64 0, .int .i64 0] (16 * 4)) 88)).drew.heap.size (((U.setCell ⟨bm, 7, none⟩ (.slice (some ⟨U.heap.size + 1, 0, none⟩) 16 16)).alloc (.cells #[.int .i64 40, .int .i64 8, .int .i64 24, .int .i64 24, .int .i64 24, .int .i64 8, .int .i64 300, .int .i64 16] 3)).alloc (.cells (madeCells #[.int .i64 0, .int .i64 0, .int .i64 0, .int .i64 0] (16 * 4)) 88)).drew w' := back_yes HE.out (((U.setCell ⟨bm, 7, none⟩ (.slice (some ⟨U.heap.size + 1, 0, none⟩) 16 16)).alloc (.cells #[.int .i64 40, .int .i64 8, .int .i64 24, .int .i64 24, .int .i64 24, .int .i64 8, .int .i64 300, .int .i64 16] 3)).alloc (.cells (madeCells #[.int .i64 0, .int .i64 0, .int .i64 0, .int .i64 0] (16 * 4)) 88)).drew (fun _ h => h) (kPg.keep (w' := (((U.setCell ⟨bm, 7, none⟩ (.slice (some ⟨U.heap.size + 1, 0, none⟩) 16 16)).alloc (.cells #[.int .i64 40, .int .i64 8, .int .i64 24, .int .i64 24, .int .i64 24, .int .i64 8, .int .i64 300, .int .i64 16] 3)).alloc (.cells (madeCells #[.int .i64 0, .int .i64 0, .int .i64 0, .int .i64 0] (16 * 4)) 88)).drew) (fun _ _ => rfl) (cnt7_16_R hO).1)
  clear hO HO
  go_upto_region 9 with (fail)
  go_region
  all_goals
    go_wp2_with (go_at_call 14; refine hB.mono ?_; rintro e w9 ⟨rfl, hb9⟩; have HF : Hid (Below w.heap.size w w9) := HB.out.trans (hb9.mono HB.out.size); clear hB hb9)
    go_ret
    exact ⟨rfl, HF.out⟩
theorem cnt7_17_R {w U : World} {bp bc bm bi : Nat}  (h : One w U bp bc bm bi) : kPg.R (((U.setCell ⟨bm, 7, none⟩ (.slice (some ⟨U.heap.size + 1, 0, none⟩) 17 17)).alloc (.cells #[.int .i64 40, .int .i64 8, .int .i64 24, .int .i64 24, .int .i64 24, .int .i64 8, .int .i64 300, .int .i64 16] 3)).alloc (.cells (madeCells #[.int .i64 0, .int .i64 0, .int .i64 0, .int .i64 0] (17 * 4)) 88)) (fun k => k < (((U.setCell ⟨bm, 7, none⟩ (.slice (some ⟨U.heap.size + 1, 0, none⟩) 17 17)).alloc (.cells #[.int .i64 40, .int .i64 8, .int .i64 24, .int .i64 24, .int .i64 24, .int .i64 8, .int .i64 300, .int .i64 16] 3)).alloc (.cells (madeCells #[.int .i64 0, .int .i64 0, .int .i64 0, .int .i64 0] (17 * 4)) 88)).heap.size) (cntP 7 17) [.int .i64 11, .slice (some ⟨bc, 0, none⟩) 1 1] ∧ Below w.heap.size w (((U.setCell ⟨bm, 7, none⟩ (.slice (some ⟨U.heap.size + 1, 0, none⟩) 17 17)).alloc (.cells #[.int .i64 40, .int .i64 8, .int .i64 24, .int .i64 24, .int .i64 24, .int .i64 8, .int .i64 300, .int .i64 16] 3)).alloc (.cells (madeCells #[.int .i64 0, .int .i64 0, .int .i64 0, .int .i64 0] (17 * 4)) 88)) := by
  obtain ⟨n1, n2, n3, n4, n5, n6⟩ := h.ne
  obtain ⟨l1, l2, l3, l4⟩ := h.low
  have kbp := blk_lt h.prg
  have kbc := blk_lt h.cls
  have kbm := blk_lt h.met
  have kbi := blk_lt h.ins
  have hz0 : (U.setCell ⟨bm, 7, none⟩ (.slice (some ⟨U.heap.size + 1, 0, none⟩) 17 17)).heap.size = U.heap.size := size_set
  have hz1 : ((U.setCell ⟨bm, 7, none⟩ (.slice (some ⟨U.heap.size + 1, 0, none⟩) 17 17)).alloc (.cells #[.int .i64 40, .int .i64 8, .int .i64 24, .int .i64 24, .int .i64 24, .int .i64 8, .int .i64 300, .int .i64 16] 3)).heap.size = U.heap.size + 1 := by rw [size_alloc, hz0]
  have hz2 : (((U.setCell ⟨bm, 7, none⟩ (.slice (some ⟨U.heap.size + 1, 0, none⟩) 17 17)).alloc (.cells #[.int .i64 40, .int .i64 8, .int .i64 24, .int .i64 24, .int .i64 24, .int .i64 8, .int .i64 300, .int .i64 16] 3)).alloc (.cells (madeCells #[.int .i64 0, .int .i64 0, .int .i64 0, .int .i64 0] (17 * 4)) 88)).heap.size = U.heap.size + 1 + 1 := by rw [size_alloc, hz1]
  have hsz : (((U.setCell ⟨bm, 7, none⟩ (.slice (some ⟨U.heap.size + 1, 0, none⟩) 17 17)).alloc (.cells #[.int .i64 40, .int .i64 8, .int .i64 24, .int .i64 24, .int .i64 24, .int .i64 8, .int .i64 300, .int .i64 16] 3)).alloc (.cells (madeCells #[.int .i64 0, .int .i64 0, .int .i64 0, .int .i64 0] (17 * 4)) 88)).heap.size = U.heap.size + 1 + 1 := hz2
  have fbc : (((U.setCell ⟨bm, 7, none⟩ (.slice (some ⟨U.heap.size + 1, 0, none⟩) 17 17)).alloc (.cells #[.int .i64 40, .int .i64 8, .int .i64 24, .int .i64 24, .int .i64 24, .int .i64 8, .int .i64 300, .int .i64 16] 3)).alloc (.cells (madeCells #[.int .i64 0, .int .i64 0, .int .i64 0, .int .i64 0] (17 * 4)) 88)).heap[bc]? = some (.cells #[.string ⟨#[77]⟩, .bool false, .bool false, .int .i64 0, .slice none 0 0, .slice none 0 0, .slice none 0 0, .slice (some ⟨bm, 0, none⟩) 1 1] 42 (0, 0)) := by rw [Below.heap_alloc _ _ _ (by omega)]; rw [Below.heap_alloc _ _ _ (by omega)]; exact (blk_set (by omega)).trans h.cls
  have fbm : (((U.setCell ⟨bm, 7, none⟩ (.slice (some ⟨U.heap.size + 1, 0, none⟩) 17 17)).alloc (.cells #[.int .i64 40, .int .i64 8, .int .i64 24, .int .i64 24, .int .i64 24, .int .i64 8, .int .i64 300, .int .i64 16] 3)).alloc (.cells (madeCells #[.int .i64 0, .int .i64 0, .int .i64 0, .int .i64 0] (17 * 4)) 88)).heap[bm]? = some (.cells #[.string ⟨#[109, 97, 105, 110]⟩, .bool true, .slice none 0 0, .int .i64 0, .int .i64 0, .int .i64 0, .slice (some ⟨bi, 0, none⟩) 1 1, .slice (some ⟨U.heap.size + 1, 0, none⟩) 17 17, .slice none 0 0] 49 (0, 0)) := by rw [Below.heap_alloc _ _ _ (by omega)]; rw [Below.heap_alloc _ _ _ (by omega)]; exact hset h.met _
  have fbi : (((U.setCell ⟨bm, 7, none⟩ (.slice (some ⟨U.heap.size + 1, 0, none⟩) 17 17)).alloc (.cells #[.int .i64 40, .int .i64 8, .int .i64 24, .int .i64 24, .int .i64 24, .int .i64 8, .int .i64 300, .int .i64 16] 3)).alloc (.cells (madeCells #[.int .i64 0, .int .i64 0, .int .i64 0, .int .i64 0] (17 * 4)) 88)).heap[bi]? = some (.cells #[.int .i64 29, .int .i64 0, .int .i64 0] 63 (0, 0)) := by rw [Below.heap_alloc _ _ _ (by omega)]; rw [Below.heap_alloc _ _ _ (by omega)]; exact (blk_set (by omega)).trans h.ins
  have a0 : (((U.setCell ⟨bm, 7, none⟩ (.slice (some ⟨U.heap.size + 1, 0, none⟩) 17 17)).alloc (.cells #[.int .i64 40, .int .i64 8, .int .i64 24, .int .i64 24, .int .i64 24, .int .i64 8, .int .i64 300, .int .i64 16] 3)).alloc (.cells (madeCells #[.int .i64 0, .int .i64 0, .int .i64 0, .int .i64 0] (17 * 4)) 88)).heap[U.heap.size]? = some (.cells #[.int .i64 40, .int .i64 8, .int .i64 24, .int .i64 24, .int .i64 24, .int .i64 8, .int .i64 300, .int .i64 16] 3 (0, 0)) := by
    rw [Below.heap_alloc _ _ _ (by omega)]
    have hn := heap_alloc_new (U.setCell ⟨bm, 7, none⟩ (.slice (some ⟨U.heap.size + 1, 0, none⟩) 17 17)) (.cells #[.int .i64 40, .int .i64 8, .int .i64 24, .int .i64 24, .int .i64 24, .int .i64 8, .int .i64 300, .int .i64 16] 3)
    rw [hz0] at hn
    exact hn
  have a1 : (((U.setCell ⟨bm, 7, none⟩ (.slice (some ⟨U.heap.size + 1, 0, none⟩) 17 17)).alloc (.cells #[.int .i64 40, .int .i64 8, .int .i64 24, .int .i64 24, .int .i64 24, .int .i64 8, .int .i64 300, .int .i64 16] 3)).alloc (.cells (madeCells #[.int .i64 0, .int .i64 0, .int .i64 0, .int .i64 0] (17 * 4)) 88)).heap[U.heap.size + 1]? = some (.cells (madeCells #[.int .i64 0, .int .i64 0, .int .i64 0, .int .i64 0] (17 * 4)) 88 (0, 0)) := by
    have hn := heap_alloc_new ((U.setCell ⟨bm, 7, none⟩ (.slice (some ⟨U.heap.size + 1, 0, none⟩) 17 17)).alloc (.cells #[.int .i64 40, .int .i64 8, .int .i64 24, .int .i64 24, .int .i64 24, .int .i64 8, .int .i64 300, .int .i64 16] 3)) (.cells (madeCells #[.int .i64 0, .int .i64 0, .int .i64 0, .int .i64 0] (17 * 4)) 88)
    rw [hz1] at hn
    exact hn
  refine ⟨one_R fbc fbm (by show bc < _; omega) (by show bm < _; omega) (Sl.nil _ _ _) (Sl.nil _ _ _) (Sl.nil _ _ _) (Sl.nil _ _ _) (Sl.one1 fbi (by show bi < _; omega) rfl) (made_sl (K := kHd) a1 rfl (by show U.heap.size + 1 < _; omega) (by decide)) (Sl.nil _ _ _), ?_⟩
  exact (((h.bel.setCell (by show w.heap.size ≤ bm; omega) _).alloc (by omega) _).alloc (by omega) _)
theorem cnt7_17_mk (u : World) : (Instr.makeSlice 46 (.int .i64 17) (.int .i64 17)).run Try.prog u = .ok (.slice (some ⟨u.heap.size, 0, none⟩) 17 17) (u.alloc (.cells (madeCells #[.int .i64 0, .int .i64 0, .int .i64 0, .int .i64 0] (17 * 4)) 88)) := by
  obtain ⟨i0, hi, hz0, hz1, hz2⟩ := info_parts infoLH
  have h := run_make (P := Try.prog) u 46 88 i0 (.agg #[.int .i64 0, .int .i64 0, .int .i64 0, .int .i64 0]) Try.underlying46 hi hz0 .i64 .i64 17 17 (by decide) (by decide) (by rw [hz2]; decide) (by decide)
  rw [hz1] at h
  exact h
set_option maxHeartbeats 4000000 in
set_option maxRecDepth 20000 in
theorem cnt7_n {wh : Int} (w : World) (hk : bits BinOp.and .i64 wh 7 = 7) : Calls Try.prog 5 #[.int .i64 wh, .bool true] w fun e w' => e = .returned (.bool true) ∧ Below w.heap.size w w' := by
  have hA := awake14 w
  have hmk := cnt7_17_mk
  have HE : Hid (encP (cntP 7 17) = .error 1404) := cnt_no (k := 7) (by decide)
  go_enter Try.func5, Try.ntmps5
  go_upto_region 4 with (first
    | (go_at_call 7; refine hA.mono ?_; rintro e w1 ⟨rfl, hb1⟩; clear hA; have hT := TinyM w1; have H1 : Hid (Below w.heap.size w w1) := hb1; clear hb1)
    | (go_at_call 12; refine hT.mono ?_; rintro e w2 ⟨hb2, rfl, hT2⟩; clear hT; have HO : Hid (One w (w2.alloc (.cells #[.int .i64 11, .slice (some ⟨w1.heap.size + 1 + 1 + 1 + 1, 0, none⟩) 1 1] 24)) w2.heap.size (w1.heap.size + 1 + 1 + 1 + 1) (w1.heap.size + 1 + 1 + 1) (w1.heap.size + 1)) := one_of H1.out hb2 hT2; clear hT2 hb2 H1))
  generalize hU : w2.alloc (.cells #[.int .i64 11, .slice (some ⟨w1.heap.size + 1 + 1 + 1 + 1, 0, none⟩) 1 1] 24) = U at *
  clear hU
  generalize hbp : w2.heap.size = bp at *
  clear hbp
  generalize hbc : w1.heap.size + 1 + 1 + 1 + 1 = bc at *
  generalize hbm : w1.heap.size + 1 + 1 + 1 = bm at *
  generalize hbi : w1.heap.size + 1 = bi at *
  clear hbc hbm hbi
  have hO := HO.out
  have p0 : U.cell? ⟨bp, 0, none⟩ = some (.int .i64 11) := by simp [World.cell?, hO.prg]
  have p1 : U.cell? ⟨bp, 1, none⟩ = some (.slice (some ⟨bc, 0, none⟩) 1 1) := by simp [World.cell?, hO.prg]
  have c7 : U.cell? ⟨bc, 7, none⟩ = some (.slice (some ⟨bm, 0, none⟩) 1 1) := by simp [World.cell?, hO.cls]
  have m6 : U.cell? ⟨bm, 6, none⟩ = some (.slice (some ⟨bi, 0, none⟩) 1 1) := by simp [World.cell?, hO.met]
  obtain ⟨n1, n2, n3, n4, n5, n6⟩ := hO.ne
  have kbp := blk_lt hO.prg
  have kbc := blk_lt hO.cls
  have kbm := blk_lt hO.met
  have kbi := blk_lt hO.ins
  have ft : U.frozen? ⟨bm, 7, none⟩ = false := by simp [World.frozen?, hO.met]
  have ct : U.cell? ⟨bm, 7, none⟩ = some (.slice none 0 0) := by simp [World.cell?, hO.met]
  have zbc0 : bc ≠ U.heap.size := by omega
  have zbc1 : bc ≠ U.heap.size + 1 := by omega
  have zbm0 : bm ≠ U.heap.size := by omega
  have zbm1 : bm ≠ U.heap.size + 1 := by omega
  have zbp0 : bp ≠ U.heap.size := by omega
  have zbp1 : bp ≠ U.heap.size + 1 := by omega
  have HB : Hid (Below w.heap.size w (((U.setCell ⟨bm, 7, none⟩ (.slice (some ⟨U.heap.size + 1, 0, none⟩) 17 17)).alloc (.cells #[.int .i64 40, .int .i64 8, .int .i64 24, .int .i64 24, .int .i64 24, .int .i64 8, .int .i64 300, .int .i64 16] 3)).alloc (.cells (madeCells #[.int .i64 0, .int .i64 0, .int .i64 0, .int .i64 0] (17 * 4)) 88)).drew) := (cnt7_17_R hO).2.drew
  have hB : Calls Try.prog 13 #[.agg #[.int .i64 11, .slice (some ⟨bc, 0, none⟩) 1 1], .int .i64 1404] (((U.setCell ⟨bm, 7, none⟩ (.slice (some ⟨U.heap.size + 1, 0, none⟩) 17 17)).alloc (.cells #[.int .i64 40, .int .i64 8, .int .i64 24, .int .i64 24, .int .i64 24, .int .i64 8, .int .i64 300, .int .i64 16] 3)).alloc (.cells (madeCells #[.int .i64 0, .int .i64 0, .int .i64 0, .int .i64 0] (17 * 4)) 88)).drew fun e w' => e = .returned (.bool true) ∧ Below (((U.setCell ⟨bm, 7, none⟩ (.slice (some ⟨U.heap.size + 1, 0, none⟩) 17 17)).alloc (.cells #[.int .i64 40, .int .i64 8, .int .i64 24, .int .i64 24, .int .i64 24, .int .i64 8, .int .i64 300, .int .i64 16] 3)).alloc (.cells (madeCells #[.int .i64 0, .int .i64 0, .int .i64 0, .int .i64 0] (17 * 4)) 88)).drew.heap.size (((U.setCell ⟨bm, 7, none⟩ (.slice (some ⟨U.heap.size + 1, 0, none⟩) 17 17)).alloc (.cells #[.int .i64 40, .int .i64 8, .int .i64 24, .int .i64 24, .int .i64 24, .int .i64 8, .int .i64 300, .int .i64 16] 3)).alloc (.cells (madeCells #[.int .i64 0, .int .i64 0, .int .i64 0, .int .i64 0] (17 * 4)) 88)).drew w' := refuses_yes HE.out (((U.setCell ⟨bm, 7, none⟩ (.slice (some ⟨U.heap.size + 1, 0, none⟩) 17 17)).alloc (.cells #[.int .i64 40, .int .i64 8, .int .i64 24, .int .i64 24, .int .i64 24, .int .i64 8, .int .i64 300, .int .i64 16] 3)).alloc (.cells (madeCells #[.int .i64 0, .int .i64 0, .int .i64 0, .int .i64 0] (17 * 4)) 88)).drew (fun _ h => h) (kPg.keep (w' := (((U.setCell ⟨bm, 7, none⟩ (.slice (some ⟨U.heap.size + 1, 0, none⟩) 17 17)).alloc (.cells #[.int .i64 40, .int .i64 8, .int .i64 24, .int .i64 24, .int .i64 24, .int .i64 8, .int .i64 300, .int .i64 16] 3)).alloc (.cells (madeCells #[.int .i64 0, .int .i64 0, .int .i64 0, .int .i64 0] (17 * 4)) 88)).drew) (fun _ _ => rfl) (cnt7_17_R hO).1)
  clear hO HO
  go_upto_region 9 with (fail)
  go_region
  all_goals
    go_wp2_with (go_at_call 13; refine hB.mono ?_; rintro e w9 ⟨rfl, hb9⟩; have HF : Hid (Below w.heap.size w w9) := HB.out.trans (hb9.mono HB.out.size); clear hB hb9)
    go_ret
    exact ⟨rfl, HF.out⟩
end Go.Proofs.Ytajghalljkphiaa
/- The walk of ClassCounts. -/
namespace Go.Proofs.Ytajghalljkphiaa
open Go.RowKit

theorem counts_walk (wh : Int) (over : Bool) (w : World) : Calls Try.prog 5 #[.int .i64 wh, .bool over] w fun e w' => e = .returned (.bool true) ∧ Below w.heap.size w w' := by
  have hm := mask7l wh
  have hr : wh % 8 = 0 ∨ wh % 8 = 1 ∨ wh % 8 = 2 ∨ wh % 8 = 3 ∨ wh % 8 = 4 ∨ wh % 8 = 5 ∨ wh % 8 = 6 ∨ wh % 8 = 7 := by omega
  rcases hr with h | h | h | h | h | h | h | h <;> rw [h] at hm <;> cases over
  · exact cnt0_y w hm
  · exact cnt0_n w hm
  · exact cnt1_y w hm
  · exact cnt1_n w hm
  · exact cnt2_y w hm
  · exact cnt2_n w hm
  · exact cnt3_y w hm
  · exact cnt3_n w hm
  · exact cnt4_y w hm
  · exact cnt4_n w hm
  · exact cnt5_y w hm
  · exact cnt5_n w hm
  · exact cnt6_y w hm
  · exact cnt6_n w hm
  · exact cnt7_y w hm
  · exact cnt7_n w hm
end Go.Proofs.Ytajghalljkphiaa
