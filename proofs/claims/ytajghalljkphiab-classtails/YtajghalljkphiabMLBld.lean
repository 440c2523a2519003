/- The strings.Builder that the bytes are gathered in: what its methods do here (the copy check's last row is refused by the loader: so its walk is written anew), and that nothing else turns. -/
import Derived.Test.YtajghalljkphiabMLChk
import Derived.Shelf.Strings.Builder1
namespace Go.Proofs.Ytajghalljkphiab
open Go.RowKit Go.Shelf

def bldL_ren : Go.Shelf.Ren := ⟨fun | 170 => 30 | n => n, fun | 70 => 70 | 3 => 3 | 0 => 0 | 72 => 73 | 37 => 71 | 5 => 5 | n => n, fun | n => n⟩
theorem bldL : Go.Proofs.Lays.n170 Try.prog bldL_ren := {
  mixed := by kernel_rfl
  f170 := Try.func30.trans (congrArg some (by kernel_rfl))
  t0 := Try.underlying0
  a0 := Try.isAgg0
  z0 := Try.sizeOf0
  v0 := Try.zeroValue0
  t3 := Try.underlying3
  a3 := Try.isAgg3
  z3 := Try.sizeOf3
  v3 := Try.zeroValue3
  t37 := Try.underlying71
  a37 := Try.isAgg71
  z37 := Try.sizeOf71
  v37 := Try.zeroValue71
  t70 := Try.underlying70
  a70 := Try.isAgg70
  z70 := Try.sizeOf70
  v70 := Try.zeroValue70
  t72 := Try.underlying73
  a72 := Try.isAgg73
  z72 := Try.sizeOf73
  v72 := Try.zeroValue73 }
def bldS_ren : Go.Shelf.Ren := ⟨fun | 169 => 32 | n => n, fun | 70 => 70 | 9 => 9 | 0 => 0 | 72 => 73 | 37 => 71 | 127 => 96 | 3 => 3 | 5 => 5 | n => n, fun | n => n⟩
theorem bldS : Go.Proofs.Lays.n169 Try.prog bldS_ren := {
  mixed := by kernel_rfl
  f169 := Try.func32.trans (congrArg some (by kernel_rfl))
  t0 := Try.underlying0
  a0 := Try.isAgg0
  z0 := Try.sizeOf0
  v0 := Try.zeroValue0
  t3 := Try.underlying3
  a3 := Try.isAgg3
  z3 := Try.sizeOf3
  v3 := Try.zeroValue3
  t9 := Try.underlying9
  a9 := Try.isAgg9
  z9 := Try.sizeOf9
  v9 := Try.zeroValue9
  t37 := Try.underlying71
  a37 := Try.isAgg71
  z37 := Try.sizeOf71
  v37 := Try.zeroValue71
  t70 := Try.underlying70
  a70 := Try.isAgg70
  z70 := Try.sizeOf70
  v70 := Try.zeroValue70
  t72 := Try.underlying73
  a72 := Try.isAgg73
  z72 := Try.sizeOf73
  v72 := Try.zeroValue73
  t127 := Try.underlying96
  a127 := Try.isAgg96
  z127 := Try.sizeOf96
  v127 := Try.zeroValue96 }
theorem bldSX : Builder.Extra Try.prog bldS_ren where
  sizeBuilder := by kernel_rfl
  liesBuilder := by kernel_rfl
  t5 := Try.underlying5
  a5 := Try.isAgg5
  z5 := Try.sizeOf5
  v5 := Try.zeroValue5
  infoByte := by kernel_rfl
  cellsByte := by kernel_rfl
  sizeByte := by kernel_rfl
  neB5 := by decide
theorem len_ok (B b : Nat) (bs : List Value) (w : World) (h : Lib.IsBuilder 73 5 B b bs w) :
    Calls Try.prog 30 #[.pointer (some ⟨b, 0, none⟩)] w fun e w' => e = .returned (.int .i64 bs.length) ∧ w' = w :=
  Any.Builder_Len bldL B b bs w h
theorem str_ok (B b : Nat) (l : List UInt8) (w : World) (h : Lib.IsBuilder 73 5 B b (Lib.byteCells l) w) (hBw : B ≤ w.heap.size) :
    Calls Try.prog 32 #[.pointer (some ⟨b, 0, none⟩)] w fun e w' => e = .returned (.string ⟨l.toArray⟩) ∧ Below B w w' :=
  Any.Builder_String_any bldS bldSX B b l w h hBw

set_option maxHeartbeats 1000000 in
set_option maxRecDepth 100000 in
theorem copy_used (b : Nat) (w : World) (h0 : w.cell? ⟨b, 0, none⟩ = some (.pointer (some ⟨b, 0, none⟩))) :
    Calls Try.prog 41 #[.pointer (some ⟨b, 0, none⟩)] w fun e w' => e = .returned (.tuple #[]) ∧ w' = w := by
  obtain ⟨j, hj, _⟩ := Option.map_eq_some_iff.1 bldSX.sizeBuilder
  go_enter Try.func41, Try.ntmps41
  go_wp2
  rw [Lib.run_neq_ptr_same w _ Try.underlying70 hj]
  go_wp2
  go_end0
  exact ⟨rfl, rfl⟩
set_option maxHeartbeats 1000000 in
set_option maxRecDepth 100000 in
theorem copy_fresh (b : Nat) (w : World) (h0 : w.cell? ⟨b, 0, none⟩ = some (.pointer none)) (hsh : w.shape? b = some (73, 2)) (hfz : w.frozen? ⟨b, 0, none⟩ = false) :
    Calls Try.prog 41 #[.pointer (some ⟨b, 0, none⟩)] w fun e w' => e = .returned (.tuple #[]) ∧ w' = w.setCell ⟨b, 0, none⟩ (.pointer (some ⟨b, 0, none⟩)) := by
  obtain ⟨j, hj, hjs⟩ := Option.map_eq_some_iff.1 bldSX.sizeBuilder
  have hlt : b < w.heap.size := by
    rcases Nat.lt_or_ge b w.heap.size with h' | h'
    · exact h'
    · simp [World.cell?, Array.getElem?_eq_none h'] at h0
  go_enter Try.func41, Try.ntmps41
  go_wp2
  rw [Lib.run_to_unsafe w ⟨b, 0, none⟩ Try.underlying70 Try.underlying114 hj (by rw [hjs]; decide) hsh (Nat.zero_lt_succ 1)]
  simp only [Result.andThen]
  rw [Oper.upon_value]
  go_wp2
  rw [run_callFunc_extern Try.func58 (by kernel_rfl) (by kernel_rfl) (by kernel_rfl) (e := Extern.AbiNoEscape.same) (by kernel_rfl)]
  rw [Lib.run_noEscape]
  simp only [Result.andThen]
  rw [Oper.upon_value]
  go_wp2
  rw [Lib.run_from_unsafe w ⟨b, 0, none⟩ Try.underlying114 Try.underlying70 hj hsh bldSX.liesBuilder]
  simp only [Result.andThen]
  rw [Oper.upon_value]
  go_wp2
  go_end0
  exact ⟨rfl, rfl⟩

/-- The builder's own blocks: its struct; of the rest from B on, the rows of bytes. -/
def ownB (B hb : Nat) (w : World) (k : Nat) : Prop := B ≤ k ∧ k < w.heap.size ∧ (k = hb ∨ ∃ c fz, w.heap[k]? = some (.cells c 5 fz))
set_option maxHeartbeats 2000000 in
set_option maxRecDepth 100000 in
theorem write_ok (B b : Nat) (bs : List Value) (s : ByteArray) (w : World) (h : Lib.IsBuilder 73 5 B b bs w) (hlen : bs.length + s.size ≤ 140737488355328) (hBw : B ≤ w.heap.size) :
    Calls Try.prog 27 #[.pointer (some ⟨b, 0, none⟩), .string s] w fun e w' => e = .returned (.tuple #[.int .i64 s.size, .nilIface]) ∧ Lib.IsBuilder 73 5 B b (bs ++ Lib.strCells s) w' ∧ Fb (ownB B b) w w' := by
  obtain ⟨i0, hi, hz0, hz1, hz2⟩ := info_parts info5
  have hC : ∃ w1, Calls Try.prog 41 #[.pointer (some ⟨b, 0, none⟩)] w (fun e w' => e = .returned (.tuple #[]) ∧ w' = w1) ∧ Lib.BuilderAt 73 5 B b (.pointer (some ⟨b, 0, none⟩)) bs w1 ∧ w1.heap.size = w.heap.size ∧ w1.os = w.os ∧ w1.tape = w.tape ∧ w1.output = w.output ∧ (∀ k, k ≠ b → w1.heap[k]? = w.heap[k]?) ∧ w1.cell? ⟨b, 1, none⟩ = w.cell? ⟨b, 1, none⟩ := by
    rcases h with h | h
    · refine ⟨_, copy_fresh b w h.cell0 h.shape h.frozen0, h.used _, by simp [World.setCell], rfl, rfl, rfl, fun k hk => Below.heap_setCell _ _ _ _ hk, ?_⟩
      exact World.cell?_setCell_other _ _ _ _ (by simp)
    · exact ⟨_, copy_used b w h.cell0, h, rfl, rfl, rfl, rfl, fun _ _ => rfl, rfl⟩
  obtain ⟨w1, hC, h1, z1, o1, o2, o3, k1, k2⟩ := hC
  obtain ⟨hB, v, hbk, hown, hne⟩ := h1
  have c0 : w1.cell? ⟨b, 0, none⟩ = some (.pointer (some ⟨b, 0, none⟩)) := by rw [Lib.cell_of_heap hbk]; rfl
  have c1 : w1.cell? ⟨b, 1, none⟩ = some v := by rw [Lib.cell_of_heap hbk]; rfl
  have hlt : b < w1.heap.size := (Array.getElem?_eq_some_iff.1 hbk).1
  have hBw1 : B ≤ w1.heap.size := by omega
  have HK : Hid (w1.heap.size = w.heap.size ∧ w1.os = w.os ∧ w1.tape = w.tape ∧ w1.output = w.output ∧ (∀ k, k ≠ b → w1.heap[k]? = w.heap[k]?)) := ⟨z1, o1, o2, o3, k1⟩
  clear z1 o1 o2 o3 k1 k2
  go_enter Try.func27, Try.ntmps27
  go_wp2_with (first
    | (go_at_call 41; refine hC.mono ?_; rintro e w9 ⟨rfl, rfl⟩)
    | (at_builtin; refine Lib.wpList_append_own_string _ rfl _ _ 71 9 rfl B 5 i0 Try.underlying71 Try.underlying9 hi hz0 hz1 hz2 _ _ _ rfl hown s rfl (by unfold maxLen; omega) (by omega) (by omega) ?_; intro v' w2 hown' hgrow hnil; obtain ⟨ao, n', cap, rfl⟩ : ∃ ao n' cap, v' = .slice ao n' cap := (hown'.2.elim (fun q => ⟨_, _, _, q.1⟩) (fun q => by obtain ⟨g, cap, cur, hv, _⟩ := q; exact ⟨_, _, _, hv⟩)); have hb2 : w2.heap[b]? = some (.cells #[.pointer (some ⟨b, 0, none⟩), v] 73 (0, 0)) := (by rw [hgrow.block b hlt (fun e => hne e.symm)]; exact hbk); have d0 : w2.cell? ⟨b, 0, none⟩ = some (.pointer (some ⟨b, 0, none⟩)) := (by rw [Lib.cell_of_heap hb2]; rfl); have d1 : w2.cell? ⟨b, 1, none⟩ = some v := (by rw [Lib.cell_of_heap hb2]; rfl); have f1 : w2.frozen? ⟨b, 1, none⟩ = false := Lib.frozen_of_heap hb2 1; have hlt2 : b < w2.heap.size := Nat.lt_of_lt_of_le hlt hgrow.size))
  go_ret2
  obtain ⟨z1, o1, o2, o3, k1⟩ := HK.out
  have hP := Lib.BuilderAt.put (T := 73) (e := 5) hB hb2 (bs' := bs ++ Lib.strCells s) (by simpa [Lib.strCells_length] using hown') (by decide)
  have hv : ∀ k, v.ownBlock = some k → B ≤ k ∧ k < w.heap.size ∧ ∃ c fz, w9.heap[k]? = some (.cells c 5 fz) := fun k hk => by
    rcases hown.2 with ⟨e, _⟩ | ⟨g, cp, cur, e, e1, e2, _⟩
    · rw [e] at hk; cases hk
    · rw [e] at hk
      have : g = k := by simpa [Value.ownBlock] using hk
      subst this
      exact ⟨e1, by rw [← z1]; exact (Array.getElem?_eq_some_iff.1 e2).1, _, _, e2⟩
  have hsame : ∀ k, k < w.heap.size → ¬ ownB B b w k → (w2.setCell ⟨b, 1, none⟩ (.slice ao n' cap)).heap[k]? = w.heap[k]? := fun k hk hn => by
    have hkb : k ≠ b := fun e => hn ⟨by omega, hk, .inl e⟩
    have hkv : some k ≠ v.ownBlock := fun e => by
      obtain ⟨q1, q2, c, fz, q3⟩ := hv k e.symm
      exact hn ⟨q1, q2, .inr ⟨c, fz, by rw [← k1 k hkb]; exact q3⟩⟩
    rw [Below.heap_setCell _ _ _ _ hkb, hgrow.block k (by omega) hkv, k1 k hkb]
  refine ⟨rfl, .inr hP, ⟨hgrow.os.trans o1, hgrow.tape.trans o2, hgrow.output.trans o3, ?_, hsame, fun k o => ?_⟩⟩
  · have := hgrow.size; simp only [World.setCell, Array.size_modify]; omega
  · by_cases hk : k < w.heap.size
    · left
      apply Classical.byContradiction
      intro hn
      obtain ⟨p1, p2, p3⟩ := o
      rcases p3 with p3 | ⟨c, fz, p3⟩
      · exact hn ⟨p1, hk, .inl p3⟩
      · rw [hsame k hk hn] at p3
        exact hn ⟨p1, hk, .inr ⟨c, fz, p3⟩⟩
    · right; omega
end Go.Proofs.Ytajghalljkphiab
