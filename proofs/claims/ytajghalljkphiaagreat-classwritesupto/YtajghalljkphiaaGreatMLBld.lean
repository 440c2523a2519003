/- The strings.Builder that the bytes are gathered in: what its methods do here (the copy check's last row is refused by the loader: so its walk is written anew), and that nothing else turns. -/
import Derived.Test.YtajghalljkphiaaGreatMLChk
import Derived.Shelf.Strings.Builder1
namespace Go.Proofs.YtajghalljkphiaaGreat
open Go.RowKit Go.Shelf

def bldL_ren : Go.Shelf.Ren := ⟨fun | 170 => 52 | n => n, fun | 70 => 101 | 3 => 3 | 0 => 0 | 72 => 103 | 37 => 77 | 5 => 5 | n => n, fun | n => n⟩
theorem bldL : Go.Proofs.Lays.n170 Tryz.prog bldL_ren := {
  mixed := by kernel_rfl
  f170 := Tryz.func52.trans (congrArg some (by kernel_rfl))
  t0 := Tryz.underlying0
  a0 := Tryz.isAgg0
  z0 := Tryz.sizeOf0
  v0 := Tryz.zeroValue0
  t3 := Tryz.underlying3
  a3 := Tryz.isAgg3
  z3 := Tryz.sizeOf3
  v3 := Tryz.zeroValue3
  t37 := Tryz.underlying77
  a37 := Tryz.isAgg77
  z37 := Tryz.sizeOf77
  v37 := Tryz.zeroValue77
  t70 := Tryz.underlying101
  a70 := Tryz.isAgg101
  z70 := Tryz.sizeOf101
  v70 := Tryz.zeroValue101
  t72 := Tryz.underlying103
  a72 := Tryz.isAgg103
  z72 := Tryz.sizeOf103
  v72 := Tryz.zeroValue103 }
def bldS_ren : Go.Shelf.Ren := ⟨fun | 169 => 53 | n => n, fun | 70 => 101 | 9 => 9 | 0 => 0 | 72 => 103 | 37 => 77 | 127 => 125 | 3 => 3 | 5 => 5 | n => n, fun | n => n⟩
theorem bldS : Go.Proofs.Lays.n169 Tryz.prog bldS_ren := {
  mixed := by kernel_rfl
  f169 := Tryz.func53.trans (congrArg some (by kernel_rfl))
  t0 := Tryz.underlying0
  a0 := Tryz.isAgg0
  z0 := Tryz.sizeOf0
  v0 := Tryz.zeroValue0
  t3 := Tryz.underlying3
  a3 := Tryz.isAgg3
  z3 := Tryz.sizeOf3
  v3 := Tryz.zeroValue3
  t9 := Tryz.underlying9
  a9 := Tryz.isAgg9
  z9 := Tryz.sizeOf9
  v9 := Tryz.zeroValue9
  t37 := Tryz.underlying77
  a37 := Tryz.isAgg77
  z37 := Tryz.sizeOf77
  v37 := Tryz.zeroValue77
  t70 := Tryz.underlying101
  a70 := Tryz.isAgg101
  z70 := Tryz.sizeOf101
  v70 := Tryz.zeroValue101
  t72 := Tryz.underlying103
  a72 := Tryz.isAgg103
  z72 := Tryz.sizeOf103
  v72 := Tryz.zeroValue103
  t127 := Tryz.underlying125
  a127 := Tryz.isAgg125
  z127 := Tryz.sizeOf125
  v127 := Tryz.zeroValue125 }
theorem bldSX : Builder.Extra Tryz.prog bldS_ren where
  sizeBuilder := by kernel_rfl
  liesBuilder := by kernel_rfl
  t5 := Tryz.underlying5
  a5 := Tryz.isAgg5
  z5 := Tryz.sizeOf5
  v5 := Tryz.zeroValue5
  infoByte := by kernel_rfl
  cellsByte := by kernel_rfl
  sizeByte := by kernel_rfl
  neB5 := by decide
theorem len_ok (B b : Nat) (bs : List Value) (w : World) (h : Lib.IsBuilder 103 5 B b bs w) :
    Calls Tryz.prog 52 #[.pointer (some ⟨b, 0, none⟩)] w fun e w' => e = .returned (.int .i64 bs.length) ∧ w' = w :=
  Any.Builder_Len bldL B b bs w h
theorem str_ok (B b : Nat) (l : List UInt8) (w : World) (h : Lib.IsBuilder 103 5 B b (Lib.byteCells l) w) (hBw : B ≤ w.heap.size) :
    Calls Tryz.prog 53 #[.pointer (some ⟨b, 0, none⟩)] w fun e w' => e = .returned (.string ⟨l.toArray⟩) ∧ Below B w w' :=
  Any.Builder_String_any bldS bldSX B b l w h hBw

set_option maxHeartbeats 1000000 in
set_option maxRecDepth 100000 in
theorem copy_used (b : Nat) (w : World) (h0 : w.cell? ⟨b, 0, none⟩ = some (.pointer (some ⟨b, 0, none⟩))) :
    Calls Tryz.prog 73 #[.pointer (some ⟨b, 0, none⟩)] w fun e w' => e = .returned (.tuple #[]) ∧ w' = w := by
  obtain ⟨j, hj, _⟩ := Option.map_eq_some_iff.1 bldSX.sizeBuilder
  go_enter Tryz.func73, Tryz.ntmps73
  go_wp2
  rw [Lib.run_neq_ptr_same w _ Tryz.underlying101 hj]
  go_wp2
  go_end0
  exact ⟨rfl, rfl⟩
set_option maxHeartbeats 1000000 in
set_option maxRecDepth 100000 in
theorem copy_fresh (b : Nat) (w : World) (h0 : w.cell? ⟨b, 0, none⟩ = some (.pointer none)) (hsh : w.shape? b = some (103, 2)) (hfz : w.frozen? ⟨b, 0, none⟩ = false) :
    Calls Tryz.prog 73 #[.pointer (some ⟨b, 0, none⟩)] w fun e w' => e = .returned (.tuple #[]) ∧ w' = w.setCell ⟨b, 0, none⟩ (.pointer (some ⟨b, 0, none⟩)) := by
  obtain ⟨j, hj, hjs⟩ := Option.map_eq_some_iff.1 bldSX.sizeBuilder
  have hlt : b < w.heap.size := by
    rcases Nat.lt_or_ge b w.heap.size with h' | h'
    · exact h'
    · simp [World.cell?, Array.getElem?_eq_none h'] at h0
  go_enter Tryz.func73, Tryz.ntmps73
  go_wp2
  rw [Lib.run_to_unsafe w ⟨b, 0, none⟩ Tryz.underlying101 Tryz.underlying149 hj (by rw [hjs]; decide) hsh (Nat.zero_lt_succ 1)]
  simp only [Result.andThen]
  rw [Oper.upon_value]
  go_wp2
  rw [run_callFunc_extern Tryz.func96 (by kernel_rfl) (by kernel_rfl) (by kernel_rfl) (e := Extern.AbiNoEscape.same) (by kernel_rfl)]
  rw [Lib.run_noEscape]
  simp only [Result.andThen]
  rw [Oper.upon_value]
  go_wp2
  rw [Lib.run_from_unsafe w ⟨b, 0, none⟩ Tryz.underlying149 Tryz.underlying101 hj hsh bldSX.liesBuilder]
  simp only [Result.andThen]
  rw [Oper.upon_value]
  go_wp2
  go_end0
  exact ⟨rfl, rfl⟩

/-- The builder's own blocks: its struct; of the rest from B on, the rows of bytes. -/
def ownB (B hb : Nat) (w : World) (k : Nat) : Prop := B ≤ k ∧ k < w.heap.size ∧ (k = hb ∨ ∃ c fz, w.heap[k]? = some (.cells c 5 fz))
set_option maxHeartbeats 2000000 in
set_option maxRecDepth 100000 in
theorem write_ok (B b : Nat) (bs : List Value) (s : ByteArray) (w : World) (h : Lib.IsBuilder 103 5 B b bs w) (hlen : bs.length + s.size ≤ 140737488355328) (hBw : B ≤ w.heap.size) :
    Calls Tryz.prog 49 #[.pointer (some ⟨b, 0, none⟩), .string s] w fun e w' => e = .returned (.tuple #[.int .i64 s.size, .nilIface]) ∧ Lib.IsBuilder 103 5 B b (bs ++ Lib.strCells s) w' ∧ Fb (ownB B b) w w' := by
  obtain ⟨i0, hi, hz0, hz1, hz2⟩ := info_parts info5
  have hC : ∃ w1, Calls Tryz.prog 73 #[.pointer (some ⟨b, 0, none⟩)] w (fun e w' => e = .returned (.tuple #[]) ∧ w' = w1) ∧ Lib.BuilderAt 103 5 B b (.pointer (some ⟨b, 0, none⟩)) bs w1 ∧ w1.heap.size = w.heap.size ∧ w1.os = w.os ∧ w1.tape = w.tape ∧ w1.output = w.output ∧ (∀ k, k ≠ b → w1.heap[k]? = w.heap[k]?) ∧ w1.cell? ⟨b, 1, none⟩ = w.cell? ⟨b, 1, none⟩ := by
    rcases h with h | h
    · refine ⟨_, copy_fresh b w h.cell0 h.shape h.frozen0, h.used _, by simp [World.setCell], rfl, rfl, rfl, fun k hk => Below.heap_setCell _ _ _ _ hk, ?_⟩
      exact World.cell?_setCell_other _ _ _ _ (by simp)
    · exact ⟨_, copy_used b w h.cell0, h, rfl, rfl, rfl, rfl, fun _ _ => rfl, rfl⟩
  obtain ⟨w1, hC, h1, z1, o1, o2, o3, k1, k2⟩ := hC
  obtain ⟨hB, v, hbk, hown, hne⟩ := h1
  have c0 : w1.cell? ⟨b, 0, none⟩ = some (.pointer (some ⟨b, 0, none⟩)) := by rw [Lib.cell_of_heap hbk]; rfl
  have c1 : w1.cell? ⟨b, 1, none⟩ = some v := by rw [Lib.cell_of_heap hbk]; rfl
  have hlt : b < w1.heap.size := (Array.getElem?_eq_some_iff.1 hbk).1
  have hBw1 : B ≤ w1.heap.size := by omega
  have HK : Hid (w1.heap.size = w.heap.size ∧ w1.os = w.os ∧ w1.tape = w.tape ∧ w1.output = w.output ∧ (∀ k, k ≠ b → w1.heap[k]? = w.heap[k]?)) := ⟨z1, o1, o2, o3, k1⟩
  clear z1 o1 o2 o3 k1 k2
  go_enter Tryz.func49, Tryz.ntmps49
  go_wp2_with (first
    | (go_at_call 73; refine hC.mono ?_; rintro e w9 ⟨rfl, rfl⟩)
    | (at_builtin; refine Lib.wpList_append_own_string _ rfl _ _ 77 9 rfl B 5 i0 Tryz.underlying77 Tryz.underlying9 hi hz0 hz1 hz2 _ _ _ rfl hown s rfl (by unfold maxLen; omega) (by omega) (by omega) ?_; intro v' w2 hown' hgrow hnil; obtain ⟨ao, n', cap, rfl⟩ : ∃ ao n' cap, v' = .slice ao n' cap := (hown'.2.elim (fun q => ⟨_, _, _, q.1⟩) (fun q => by obtain ⟨g, cap, cur, hv, _⟩ := q; exact ⟨_, _, _, hv⟩)); have hb2 : w2.heap[b]? = some (.cells #[.pointer (some ⟨b, 0, none⟩), v] 103 (0, 0)) := (by rw [hgrow.block b hlt (fun e => hne e.symm)]; exact hbk); have d0 : w2.cell? ⟨b, 0, none⟩ = some (.pointer (some ⟨b, 0, none⟩)) := (by rw [Lib.cell_of_heap hb2]; rfl); have d1 : w2.cell? ⟨b, 1, none⟩ = some v := (by rw [Lib.cell_of_heap hb2]; rfl); have f1 : w2.frozen? ⟨b, 1, none⟩ = false := Lib.frozen_of_heap hb2 1; have hlt2 : b < w2.heap.size := Nat.lt_of_lt_of_le hlt hgrow.size))
  go_ret2
  obtain ⟨z1, o1, o2, o3, k1⟩ := HK.out
  have hP := Lib.BuilderAt.put (T := 103) (e := 5) hB hb2 (bs' := bs ++ Lib.strCells s) (by simpa [Lib.strCells_length] using hown') (by decide)
  have hv : ∀ k, v.ownBlock = some k → B ≤ k ∧ k < w.heap.size ∧ ∃ c fz, w9.heap[k]? = some (.cells c 5 fz) := fun k hk => by
    rcases hown.2 with ⟨e, _⟩ | ⟨g, cp, cur, e, e1, e2, _⟩
    · rw [e] at hk; cases hk
    · rw [e] at hk
      have : g = k := by simpa [Value.ownBlock] using hk
      subst this
      exact ⟨e1, by rw [← z1]; exact (Array.getElem?_eq_some_iff.1 e2).1, _, _, e2⟩
  have hsame : ∀ k, k < w.heap.size → ¬ ownB B b w k → (w2.setCell ⟨b, 1, none⟩ (.slice ao n' cap)).heap[k]? = w.heap[k]? := fun k hk hn => by
    have hkb : k ≠ b := fun e => hn ⟨by omega, hk, .inl e⟩
    have hkv : some k ≠ v.ownBlock := fun e => by
      obtain ⟨q1, q2, c, fz, q3⟩ := hv k e.symm
      exact hn ⟨q1, q2, .inr ⟨c, fz, by rw [← k1 k hkb]; exact q3⟩⟩
    rw [Below.heap_setCell _ _ _ _ hkb, hgrow.block k (by omega) hkv, k1 k hkb]
  refine ⟨rfl, .inr hP, ⟨hgrow.os.trans o1, hgrow.tape.trans o2, hgrow.output.trans o3, ?_, hsame, fun k o => ?_⟩⟩
  · have := hgrow.size; simp only [World.setCell, Array.size_modify]; omega
  · by_cases hk : k < w.heap.size
    · left
      apply Classical.byContradiction
      intro hn
      obtain ⟨p1, p2, p3⟩ := o
      rcases p3 with p3 | ⟨c, fz, p3⟩
      · exact hn ⟨p1, hk, .inl p3⟩
      · rw [hsame k hk hn] at p3
        exact hn ⟨p1, hk, .inr ⟨c, fz, p3⟩⟩
    · right; omega
end Go.Proofs.YtajghalljkphiaaGreat
