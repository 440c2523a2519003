/- The document's own writer: its box; num, text, count, flag. -/
import Derived.Test.YtdgndglinkcdbaaDoorMGD0
import Derived.Test.YtdgndglinkcdbaaDoorMLGro
import Derived.Test.YtdgndglinkcdbaaDoorMY9
import Derived.Test.YtdgndglinkcdbaaDoorMY34
import Derived.Lib.SlBytesConst
import Derived.Test.YtdgndglinkcdbaaDoorMLMem
import Derived.Deep.LoopGhost
import Derived.Deep.DeepCutAuto
import Derived.Test.YtdgndglinkcdbaaDoorMY38
namespace Go.Proofs.YtdgndglinkcdbaaDoor
open Go.RowKit

theorem infoW8 : (Tryd.prog.info? 5).map (fun i => (i.zero, i.size, i.bytes)) = some (some (.int .u8 0), 1, 1) := by kernel_rfl
theorem byts_N (x : Int) : byts [ptN x] = (putB x).data.toList := by simp [byts, bts, ptN]
theorem byts_T (s : ByteArray) : byts [ptT s] = (txtB s).data.toList := by simp [byts, bts, ptT]
theorem bel_un {B : Nat} {w w' : World} (h : Below B w.drew w') : Below B w w' := ⟨h.os, h.tape, h.output, h.size, h.block⟩
def appW (ats : Array TypeId) (ty : TypeId) (args : Array Value) := Builtin.append_ ats ty args
theorem app_W (ats : Array TypeId) (ty : TypeId) (args : Array Value) : Builtin.append_ ats ty args = appW ats ty args := rfl
theorem own_other {w w' : World} {B n : Nat} {v : Value} {xs : List Value} {T : TypeId} {k : Nat} (h : w.ownsRow B T k v n xs) (hk : ∀ (g : Nat) (cur : Array Value), w.heap[g]? = some (Obj.cells cur T (0, 0)) → w'.heap[g]? = w.heap[g]?) : w'.ownsRow B T k v n xs := by
  refine ⟨h.1, h.2.imp_right ?_⟩
  rintro ⟨g, cap, cur, e1, e2, e3, e4⟩
  exact ⟨g, cap, cur, e1, e2, (hk g cur e3).trans e3, e4⟩
/-- Bytes that v owns: a row of the call's own, or the literal's row, behind whose last cell the mark of a string lies. -/
def OwnB (w : World) (B : Nat) (v : Value) (l : List UInt8) : Prop := w.ownsRow B 5 1 v l.length (Lib.byteCells l) ∨ ∃ g, v = .slice (some ⟨g, 0, none⟩) 4 4 ∧ B ≤ g ∧ l = mag ∧ w.heap[g]? = some (.cells #[.int .u8 71, .int .u8 78, .int .u8 83, .int .u8 83] 5 (4, 5))
theorem OwnB.other {w w' : World} {B : Nat} {v : Value} {l : List UInt8} (h : OwnB w B v l) (hk : ∀ (g : Nat) (cur : Array Value) (fr : Nat × Nat), w.heap[g]? = some (Obj.cells cur 5 fr) → w'.heap[g]? = w.heap[g]?) : OwnB w' B v l := by
  rcases h with h | ⟨g, e1, e2, e3, e4⟩
  · exact .inl (own_other h fun g cur hg => hk g cur _ hg)
  · exact .inr ⟨g, e1, e2, e3, (hk g _ _ e4).trans e4⟩
theorem OwnB.form {w : World} {B : Nat} {v : Value} {l : List UInt8} (h : OwnB w B v l) (hp : 0 < l.length) : ∃ g cap, v = .slice (some ⟨g, 0, none⟩) l.length cap ∧ B ≤ g ∧ ∃ cur fr, w.heap[g]? = some (Obj.cells cur 5 fr) := by
  rcases h with h | ⟨g, e1, e2, e3, e4⟩
  · rcases h.2 with ⟨_, h0⟩ | ⟨g, cap, cur, e, hb, hg, _⟩
    · omega
    · exact ⟨g, cap, e, hb, cur, _, hg⟩
  · subst e3
    exact ⟨g, 4, e1, e2, _, _, e4⟩
theorem mag_cells : Lib.byteCells mag = [.int .u8 71, .int .u8 78, .int .u8 83, .int .u8 83] := rfl
theorem OwnB.str {w : World} {B g cap : Nat} {l : List UInt8} (h : OwnB w B (.slice (some ⟨g, 0, none⟩) l.length cap) l) : (convert 54 9 (.slice (some ⟨g, 0, none⟩) l.length cap)).run Tryd.prog w = .ok (.string ⟨l.toArray⟩) w := by
  rcases h with h | ⟨g2, e1, e2, e3, e4⟩
  · exact to_string rfl h
  · subst e3
    cases e1
    refine run_convert_bytes_back (P := Tryd.prog) w 54 9 5 ⟨g, 0, none⟩ 4 mag Tryd.underlying54 Tryd.underlying5 Tryd.underlying9 ?_
    intro j hj
    have hadd : (⟨g, 0, none⟩ : Addr).add j = ⟨g, j, none⟩ := by unfold Addr.add; split <;> simp_all
    rw [hadd]
    simp only [World.cell?]
    rw [e4]
    have hj4 : j < 4 := hj
    match j, hj4 with
    | 0, _ => rfl
    | 1, _ => rfl
    | 2, _ => rfl
    | 3, _ => rfl
theorem appB {w : World} {B : Nat} {v : Value} {l : List UInt8} (h : OwnB w B v l) (s : ByteArray) (hl : l.length + s.size ≤ 1099511627776) (hB : B ≤ w.heap.size) : ∃ ao n' cap w', (Builtin.append_ #[54, 9] 54 #[v, .string s]).run Tryd.prog w = .ok (.slice ao n' cap) w' ∧ OwnB w' B (.slice ao n' cap) (l ++ s.data.toList) ∧ w.grownBy w' v.ownBlock := by
  obtain ⟨i0, hi, hz0, hz1, hz2⟩ := info_parts infoW8
  have hsl : s.data.toList.length = s.size := Array.length_toList
  rcases h with h | ⟨g, rfl, e2, rfl, e4⟩
  · obtain ⟨v', w3, hrun, how3, hg3, -⟩ := Lib.run_append_own_string (P := Tryd.prog) (w := w) B 54 9 54 5 i0 Tryd.underlying54 Tryd.underlying9 hi hz0 hz1 hz2 _ l.length _ h s (by unfold maxLen; omega) (by omega) hB
    obtain ⟨ao, n', cap', rfl⟩ : ∃ ao n' cap', v' = .slice ao n' cap' := by
      rcases how3.2 with ⟨e, _⟩ | ⟨_, _, _, e, _⟩
      · exact ⟨_, _, _, e⟩
      · exact ⟨_, _, _, e⟩
    refine ⟨ao, n', cap', w3, hrun, .inl ?_, hg3⟩
    rw [List.length_append, hsl, Lib.byteCells_append]; exact how3
  · by_cases hm : s.size = 0
    · have hn : s.data.toList = [] := List.eq_nil_of_length_eq_zero (by rw [hsl]; exact hm)
      refine ⟨some ⟨g, 0, none⟩, 4, 4, w, ?_, .inr ⟨g, rfl, e2, by rw [hn, List.append_nil], e4⟩, ⟨rfl, rfl, rfl, Nat.le_refl _, fun _ _ _ => rfl⟩⟩
      have hf := Lib.run_firstCells_string (P := Tryd.prog) w 1 s
      have hsc : Lib.strCells s = [] := by unfold Lib.strCells; rw [hn]; rfl
      rw [hm] at hf
      rw [hsc] at hf
      simp [Builtin.append_, run_underlying Tryd.underlying54, run_underlying Tryd.underlying9, sizeOf, typeInfo, hi, hz1, Builtin.lenOf, hm, hf]
      rfl
    · have holds : ∀ j u, ([.int .u8 71, .int .u8 78, .int .u8 83, .int .u8 83] : List Value)[j]? = some u → w.cell? ((⟨g, 0, none⟩ : Addr).add j) = some u := fun j u hu => by
        have hadd : (⟨g, 0, none⟩ : Addr).add j = ⟨g, j, none⟩ := by unfold Addr.add; split <;> simp_all
        rw [hadd]
        simp only [World.cell?]
        rw [e4]
        simpa using hu
      have h4 : mag.length = 4 := rfl
      have hr := Lib.run_append_grow_string (P := Tryd.prog) w 54 9 54 5 i0 (.int .u8 0) Tryd.underlying54 Tryd.underlying9 hi hz0 ⟨g, 0, none⟩ 4 4 [.int .u8 71, .int .u8 78, .int .u8 83, .int .u8 83] (by rw [hz1]; rfl) holds s (by omega) (by omega) (by rw [hz2]; exact growslice_fits (by omega) (by omega))
      have hge := grownCap_ge w (4 + s.size) 4 5
      have hcm : grownCap w (4 + s.size) 4 5 ≤ maxLen := grownCap_le_maxLen w (4 + s.size) 4 5 (by unfold maxLen; omega)
      refine ⟨_, _, _, _, hr, .inl ⟨?_, .inr ⟨w.heap.size, _, _, ?_, hB, heap_alloc_new w.drew _, ?_, hcm, ?_, ?_⟩⟩, ⟨rfl, rfl, rfl, by simp, fun k hk _ => Below.heap_alloc _ _ _ hk⟩⟩
      · rw [Lib.byteCells_length, Nat.mul_one]
      · rw [List.length_append, hsl, h4]
      · rw [List.length_append, hsl, h4]; exact hge
      · have hz1 : (Value.int IntKind.u8 0).cells.size = 1 := rfl
        simp only [Array.size_append, List.size_toArray, size_zeroCells, hz1, Lib.strCells_length]
        simp only [List.length_cons, List.length_nil]
        omega
      · rw [Lib.byteCells_append, mag_cells, List.length_append, hsl, h4]
        have hsc : Lib.byteCells s.data.toList = Lib.strCells s := rfl
        rw [hsc]
        simp only [Array.toList_append, List.append_assoc]
        have e : (4 + s.size) * 1 = ([.int .u8 71, .int .u8 78, .int .u8 83, .int .u8 83] ++ Lib.strCells s : List Value).length := by rw [List.length_append, Lib.strCells_length]; simp
        rw [← List.append_assoc, e]
        exact List.take_left
/-- The writer's box: bytes, and what may not be. -/
structure Wf (w : World) (wb B : Nat) (l : List UInt8) (M N F : Bool) : Prop where
  box : ∃ v, w.heap[wb]? = some (.cells #[v, .bool M, .bool N, .bool F] 56 (0, 0)) ∧ OwnB w B v l
  lo : B ≤ wb
  pos : 0 < l.length
/-- What a call of the writer's leaves as it was. -/
structure Fw (wb B : Nat) (w w' : World) : Prop where
  bel : Below B w w'
  oth : ∀ k, k < w.heap.size → k ≠ wb → (∀ cur fr, w.heap[k]? ≠ some (.cells cur 5 fr)) → w'.heap[k]? = w.heap[k]?
theorem Fw.refl (wb B : Nat) (w : World) : Fw wb B w w := ⟨Below.refl _ _, fun _ _ _ _ => rfl⟩
theorem Fw.trans {wb B : Nat} {a b c : World} (h : Fw wb B a b) (k : Fw wb B b c) : Fw wb B a c :=
  ⟨h.bel.trans k.bel, fun i hi hn ht => by
    have e := h.oth i hi hn ht
    rw [k.oth i (Nat.lt_of_lt_of_le hi h.bel.size) hn (by rw [e]; exact ht), e]⟩
/-- The same behind the parts L; X: something is wrong besides. -/
def Wb (w : World) (wb B : Nat) (L : List Pt) (X : Bool) : Prop := Wf w wb B (mag ++ byts L) (!L.all okC) (!L.all okT) (!L.all okN || X)
/-- What is written is not too long. -/
def Shr (L : List Pt) : Prop := (mag ++ byts L).length ≤ 1099511627776
theorem Shr.pre {L R : List Pt} (h : Shr (L ++ R)) : Shr L := by
  unfold Shr at h ⊢
  rw [byts_append, ← List.append_assoc, List.length_append] at h; omega
theorem number_any (x : Int) (w : World) : Calls Tryd.prog 56 #[.int .i64 x] w fun e w' => e = .returned (.bool (inR x)) ∧ w' = w := by
  cases h : inR x
  · exact number_no x w (inR_not h)
  · obtain ⟨h1, h2⟩ := inR_iff.1 h; exact number_yes x w h1 h2
attribute [local go_sem ↓] app_W
set_option maxHeartbeats 2000000 in
set_option maxRecDepth 20000 in
theorem wnumF_ok {w : World} {wb B : Nat} {l : List UInt8} {M N F : Bool} (H : Wf w wb B l M N F) (x : Int) (hl : l.length + (putB x).size ≤ 1099511627776) : Calls Tryd.prog 37 #[.pointer (some ⟨wb, 0, none⟩), .int .i64 x] w fun e w' => e = .returned (.tuple #[]) ∧ Wf w' wb B (l ++ (putB x).data.toList) M N (F || !inR x) ∧ Fw wb B w w' := by
  obtain ⟨⟨v, hbox, hown⟩, hlo, hpos⟩ := H
  obtain ⟨g, cap, rfl, hgB, gcur, gfr, hgc⟩ := hown.form hpos
  have HFIN : Hid (∀ (w3 : World) (v' : Value), w3.heap[wb]? = some (.cells #[v', .bool M, .bool N, .bool (F || !inR x)] 56 (0, 0)) → OwnB w3 B v' (l ++ (putB x).data.toList) → Wf w3 wb B (l ++ (putB x).data.toList) M N (F || !inR x)) := fun w3 v' h1 h2 => ⟨⟨v', h1, h2⟩, hlo, by rw [List.length_append]; omega⟩
  obtain ⟨n, hn⟩ : ∃ n, l.length = n := ⟨_, rfl⟩
  have hl9 := hl
  have HOW : Hid (OwnB w B (.slice (some ⟨g, 0, none⟩) n cap) l) := by rw [hn] at hown; exact hown
  rw [hn] at hbox hl
  clear hpos hown
  have hlt : wb < w.heap.size := (Array.getElem?_eq_some_iff.1 hbox).1
  have hu3 := hset (k := 3) hbox (.bool (F || !inR x))
  have HP : Hid (∀ u1, Below (w.setCell ⟨wb, 3, none⟩ (.bool (F || !inR x))).heap.size (w.setCell ⟨wb, 3, none⟩ (.bool (F || !inR x))) u1 → ∃ ao n' cap' w3, (appW #[54, 9] 54 #[.slice (some ⟨g, 0, none⟩) n cap, .string (putB x)]).run Tryd.prog u1 = .ok (.slice ao n' cap') w3 ∧ u1.cell? ⟨wb, 0, none⟩ = some (.slice (some ⟨g, 0, none⟩) n cap) ∧ w3.cell? ⟨wb, 0, none⟩ = some (.slice (some ⟨g, 0, none⟩) n cap) ∧ w3.frozen? ⟨wb, 0, none⟩ = false ∧ wb < w3.heap.size ∧ Wf (w3.setCell ⟨wb, 0, none⟩ (.slice ao n' cap')) wb B (l ++ (putB x).data.toList) M N (F || !inR x) ∧ Fw wb B w (w3.setCell ⟨wb, 0, none⟩ (.slice ao n' cap'))) := fun u1 hb => by
    have hus : (w.setCell ⟨wb, 3, none⟩ (.bool (F || !inR x))).heap.size = w.heap.size := by simp [World.setCell]
    have hx1 := (hb.block wb (by rw [hus]; exact hlt)).trans hu3
    have how1 : OwnB u1 B (.slice (some ⟨g, 0, none⟩) n cap) l := HOW.out.other fun k cur fr hk => by
      have hkl : k < w.heap.size := (Array.getElem?_eq_some_iff.1 hk).1
      have hkw : k ≠ wb := fun e => by subst e; rw [hbox] at hk; simp at hk
      rw [hb.block k (by rw [hus]; exact hkl), Below.heap_setCell _ _ _ _ hkw]
    have hub : B ≤ u1.heap.size := by have := hb.size; rw [hus] at this; omega
    obtain ⟨ao, n', cap', w3, hrun, how3, hg3⟩ := appB how1 (putB x) hl9 hub
    have hul : wb < u1.heap.size := (Array.getElem?_eq_some_iff.1 hx1).1
    have hgw : g ≠ wb := fun e => by subst e; rw [hbox] at hgc; simp at hgc
    have hx3 := (hg3.block wb hul (fun e => hgw (by simpa [Value.ownBlock] using e.symm))).trans hx1
    refine ⟨ao, n', cap', w3, hrun, by simp [World.cell?, hx1], by simp [World.cell?, hx3], by simp [World.frozen?, hx3], (Array.getElem?_eq_some_iff.1 hx3).1, HFIN.out _ _ (hset (k := 0) hx3 _) (how3.other fun k cur fr hk => Below.heap_setCell _ _ _ _ (fun e => by subst e; rw [hx3] at hk; simp at hk)), ?_⟩
    refine ⟨⟨hg3.os.trans hb.os, hg3.tape.trans hb.tape, hg3.output.trans hb.output, ?_, fun k hk => ?_⟩, fun k hk hne hty => ?_⟩
    · show _ ≤ (w3.setCell _ _).heap.size
      have h1 := hg3.size
      have h2 := hb.size
      rw [hus] at h2
      simp only [World.setCell, Array.size_modify]; omega
    · show (w3.setCell _ _).heap[k]? = _
      rw [Below.heap_setCell _ _ _ _ (show k ≠ wb by omega), hg3.block k (by omega) (fun e => by have q : g = k := (by simpa [Value.ownBlock] using e.symm); omega), hb.block k (by rw [hus]; omega), Below.heap_setCell _ _ _ _ (show k ≠ wb by omega)]
    · show (w3.setCell _ _).heap[k]? = _
      have hkg : g ≠ k := fun e => by subst e; exact hty _ _ hgc
      have hu1 := hb.size
      rw [hus] at hu1
      rw [Below.heap_setCell _ _ _ _ hne, hg3.block k (by omega) (fun e => hkg (by simpa [Value.ownBlock] using e.symm)), hb.block k (by rw [hus]; exact hk), Below.heap_setCell _ _ _ _ hne]
  have HPC : Hid (∀ u : World, Calls Tryd.prog 57 #[.int .i64 x] u fun e w' => e = .returned (.string (putB x)) ∧ Below u.heap.size u w') := fun u => refput_any x u
  have c0 : w.cell? ⟨wb, 0, none⟩ = some (.slice (some ⟨g, 0, none⟩) n cap) := by simp [World.cell?, hbox]
  have c3' : w.cell? ⟨wb, 3, none⟩ = some (.bool F) := by simp [World.cell?, hbox]
  have f3' : w.frozen? ⟨wb, 3, none⟩ = false := by simp [World.frozen?, hbox]
  clear hbox hu3 HFIN hl hlo HOW hl9 hn hgc hgB
  cases F with
  | true =>
    simp only [Bool.true_or] at HP
    go_enter Tryd.func37, Tryd.ntmps37
    go_upto_region 1 with (first
      | (go_at_call 56; refine (number_any x _).mono ?_; rintro e w9 ⟨rfl, hw9⟩; replace hw9 := hw9.symm; subst hw9))
    go_region_with (go_at_call 57; refine (HPC.out _).mono ?_; rintro e u1 ⟨rfl, hb⟩; obtain ⟨ao, n', cap', w3, hrun, d0, c3, f3, l3, hW⟩ := HP.out u1 (bel_un hb); have HW : Hid _ := hW; clear HP HPC hb hW)
    all_goals (go_wp2; go_end0; exact ⟨rfl, HW.out⟩)
  | false =>
    simp only [Bool.false_or] at HP
    go_enter Tryd.func37, Tryd.ntmps37
    go_upto_region 1 with (first
      | (go_at_call 56; refine (number_any x _).mono ?_; rintro e w9 ⟨rfl, hw9⟩; replace hw9 := hw9.symm; subst hw9))
    go_region_with (go_at_call 57; refine (HPC.out _).mono ?_; rintro e u1 ⟨rfl, hb⟩; obtain ⟨ao, n', cap', w3, hrun, d0, c3, f3, l3, hW⟩ := HP.out u1 (bel_un hb); have HW : Hid _ := hW; clear HP HPC hb hW)
    all_goals (go_wp2; go_end0; exact ⟨rfl, HW.out⟩)
set_option maxHeartbeats 2000000 in
set_option maxRecDepth 20000 in
theorem wtxtF_ok {w : World} {wb B : Nat} {l : List UInt8} {M N F : Bool} (H : Wf w wb B l M N F) (s : ByteArray) (hs : s.size ≤ maxLen) (hl : l.length + (txtB s).size ≤ 1099511627776) : Calls Tryd.prog 58 #[.pointer (some ⟨wb, 0, none⟩), .string s] w fun e w' => e = .returned (.tuple #[]) ∧ Wf w' wb B (l ++ (txtB s).data.toList) M (N || !isNm s) F ∧ Fw wb B w w' := by
  obtain ⟨⟨v, hbox, hown⟩, hlo, hpos⟩ := H
  obtain ⟨g, cap, rfl, hgB, gcur, gfr, hgc⟩ := hown.form hpos
  have HFIN : Hid (∀ (w3 : World) (v' : Value), w3.heap[wb]? = some (.cells #[v', .bool M, .bool (N || !isNm s), .bool F] 56 (0, 0)) → OwnB w3 B v' (l ++ (txtB s).data.toList) → Wf w3 wb B (l ++ (txtB s).data.toList) M (N || !isNm s) F) := fun w3 v' h1 h2 => ⟨⟨v', h1, h2⟩, hlo, by rw [List.length_append]; omega⟩
  obtain ⟨n, hn⟩ : ∃ n, l.length = n := ⟨_, rfl⟩
  have hl9 := hl
  have HOW : Hid (OwnB w B (.slice (some ⟨g, 0, none⟩) n cap) l) := by rw [hn] at hown; exact hown
  rw [hn] at hbox hl
  clear hpos hown
  have hlt : wb < w.heap.size := (Array.getElem?_eq_some_iff.1 hbox).1
  have hu3 := hset (k := 2) hbox (.bool (N || !isNm s))
  have HP : Hid (∀ u1, Below (w.setCell ⟨wb, 2, none⟩ (.bool (N || !isNm s))).heap.size (w.setCell ⟨wb, 2, none⟩ (.bool (N || !isNm s))) u1 → ∃ ao n' cap' w3, (appW #[54, 9] 54 #[.slice (some ⟨g, 0, none⟩) n cap, .string (txtB s)]).run Tryd.prog u1 = .ok (.slice ao n' cap') w3 ∧ u1.cell? ⟨wb, 0, none⟩ = some (.slice (some ⟨g, 0, none⟩) n cap) ∧ w3.cell? ⟨wb, 0, none⟩ = some (.slice (some ⟨g, 0, none⟩) n cap) ∧ w3.frozen? ⟨wb, 0, none⟩ = false ∧ wb < w3.heap.size ∧ Wf (w3.setCell ⟨wb, 0, none⟩ (.slice ao n' cap')) wb B (l ++ (txtB s).data.toList) M (N || !isNm s) F ∧ Fw wb B w (w3.setCell ⟨wb, 0, none⟩ (.slice ao n' cap'))) := fun u1 hb => by
    have hus : (w.setCell ⟨wb, 2, none⟩ (.bool (N || !isNm s))).heap.size = w.heap.size := by simp [World.setCell]
    have hx1 := (hb.block wb (by rw [hus]; exact hlt)).trans hu3
    have how1 : OwnB u1 B (.slice (some ⟨g, 0, none⟩) n cap) l := HOW.out.other fun k cur fr hk => by
      have hkl : k < w.heap.size := (Array.getElem?_eq_some_iff.1 hk).1
      have hkw : k ≠ wb := fun e => by subst e; rw [hbox] at hk; simp at hk
      rw [hb.block k (by rw [hus]; exact hkl), Below.heap_setCell _ _ _ _ hkw]
    have hub : B ≤ u1.heap.size := by have := hb.size; rw [hus] at this; omega
    obtain ⟨ao, n', cap', w3, hrun, how3, hg3⟩ := appB how1 (txtB s) hl9 hub
    have hul : wb < u1.heap.size := (Array.getElem?_eq_some_iff.1 hx1).1
    have hgw : g ≠ wb := fun e => by subst e; rw [hbox] at hgc; simp at hgc
    have hx3 := (hg3.block wb hul (fun e => hgw (by simpa [Value.ownBlock] using e.symm))).trans hx1
    refine ⟨ao, n', cap', w3, hrun, by simp [World.cell?, hx1], by simp [World.cell?, hx3], by simp [World.frozen?, hx3], (Array.getElem?_eq_some_iff.1 hx3).1, HFIN.out _ _ (hset (k := 0) hx3 _) (how3.other fun k cur fr hk => Below.heap_setCell _ _ _ _ (fun e => by subst e; rw [hx3] at hk; simp at hk)), ?_⟩
    refine ⟨⟨hg3.os.trans hb.os, hg3.tape.trans hb.tape, hg3.output.trans hb.output, ?_, fun k hk => ?_⟩, fun k hk hne hty => ?_⟩
    · show _ ≤ (w3.setCell _ _).heap.size
      have h1 := hg3.size
      have h2 := hb.size
      rw [hus] at h2
      simp only [World.setCell, Array.size_modify]; omega
    · show (w3.setCell _ _).heap[k]? = _
      rw [Below.heap_setCell _ _ _ _ (show k ≠ wb by omega), hg3.block k (by omega) (fun e => by have q : g = k := (by simpa [Value.ownBlock] using e.symm); omega), hb.block k (by rw [hus]; omega), Below.heap_setCell _ _ _ _ (show k ≠ wb by omega)]
    · show (w3.setCell _ _).heap[k]? = _
      have hkg : g ≠ k := fun e => by subst e; exact hty _ _ hgc
      have hu1 := hb.size
      rw [hus] at hu1
      rw [Below.heap_setCell _ _ _ _ hne, hg3.block k (by omega) (fun e => hkg (by simpa [Value.ownBlock] using e.symm)), hb.block k (by rw [hus]; exact hk), Below.heap_setCell _ _ _ _ hne]
  have HPC : Hid (∀ u : World, Calls Tryd.prog 69 #[.string s] u fun e w' => e = .returned (.string (txtB s)) ∧ Below u.heap.size u w') := fun u => refputtext_any s u hs (Below.refl _ _)
  have c0 : w.cell? ⟨wb, 0, none⟩ = some (.slice (some ⟨g, 0, none⟩) n cap) := by simp [World.cell?, hbox]
  have c3' : w.cell? ⟨wb, 2, none⟩ = some (.bool N) := by simp [World.cell?, hbox]
  have f3' : w.frozen? ⟨wb, 2, none⟩ = false := by simp [World.frozen?, hbox]
  clear hbox hu3 HFIN hl hlo HOW hl9 hn hgc hgB
  cases N with
  | true =>
    simp only [Bool.true_or] at HP
    go_enter Tryd.func58, Tryd.ntmps58
    go_upto_region 1 with (first
      | (go_at_call 68; refine (Name_any s _).mono ?_; rintro e w9 ⟨rfl, hw9⟩; replace hw9 := hw9.symm; subst hw9))
    go_region_with (go_at_call 69; refine (HPC.out _).mono ?_; rintro e u1 ⟨rfl, hb⟩; obtain ⟨ao, n', cap', w3, hrun, d0, c3, f3, l3, hW⟩ := HP.out u1 (bel_un hb); have HW : Hid _ := hW; clear HP HPC hb hW)
    all_goals (go_wp2; go_end0; exact ⟨rfl, HW.out⟩)
  | false =>
    simp only [Bool.false_or] at HP
    go_enter Tryd.func58, Tryd.ntmps58
    go_upto_region 1 with (first
      | (go_at_call 68; refine (Name_any s _).mono ?_; rintro e w9 ⟨rfl, hw9⟩; replace hw9 := hw9.symm; subst hw9))
    go_region_with (go_at_call 69; refine (HPC.out _).mono ?_; rintro e u1 ⟨rfl, hb⟩; obtain ⟨ao, n', cap', w3, hrun, d0, c3, f3, l3, hW⟩ := HP.out u1 (bel_un hb); have HW : Hid _ := hW; clear HP HPC hb hW)
    all_goals (go_wp2; go_end0; exact ⟨rfl, HW.out⟩)
theorem shr_one {L : List Pt} {q : Pt} {s : ByteArray} (e : bts q = s.data.toList) (h : Shr (L ++ [q])) : (mag ++ byts L).length + s.size ≤ 1099511627776 := by
  unfold Shr at h
  rw [byts_append, ← List.append_assoc, List.length_append, byts_cons, byts_nil, List.append_nil, e] at h
  have e2 : s.data.toList.length = s.size := Array.length_toList
  rw [e2] at h; exact h
theorem byts_snoc (L : List Pt) (q : Pt) : mag ++ byts (L ++ [q]) = (mag ++ byts L) ++ bts q := by rw [byts_append, ← List.append_assoc, byts_cons, byts_nil, List.append_nil]
theorem bts_N (x : Int) : bts (ptN x) = (putB x).data.toList := by simp [bts, ptN]
theorem bts_C (k : Nat) (m : Int) : bts (ptC k m) = (putB k).data.toList := by simp [bts, ptC]
theorem bts_T (s : ByteArray) : bts (ptT s) = (txtB s).data.toList := by simp [bts, ptT]
theorem wnum_ok {w : World} {wb B : Nat} {L : List Pt} {X : Bool} (H : Wb w wb B L X) (x : Int) (hl : Shr (L ++ [ptN x])) : Calls Tryd.prog 37 #[.pointer (some ⟨wb, 0, none⟩), .int .i64 x] w fun e w' => e = .returned (.tuple #[]) ∧ Wb w' wb B (L ++ [ptN x]) X ∧ Fw wb B w w' := by
  refine (wnumF_ok H x (shr_one (bts_N x) hl)).mono ?_
  rintro e w' ⟨rfl, h, hb⟩
  refine ⟨rfl, ?_, hb⟩
  unfold Wb
  rw [byts_snoc, bts_N]
  have e1 : (!(L ++ [ptN x]).all okC) = (!L.all okC) := by simp [okC, ptN]
  have e2 : (!(L ++ [ptN x]).all okT) = (!L.all okT) := by simp [okT, ptN]
  have e3 : (!(L ++ [ptN x]).all okN || X) = ((!L.all okN || X) || !inR x) := by
    rw [List.all_append]
    have : [ptN x].all okN = inR x := by simp [okN, ptN]
    rw [this]; cases L.all okN <;> cases X <;> cases inR x <;> rfl
  rw [e1, e2, e3]; exact h
theorem wtxt_ok {w : World} {wb B : Nat} {L : List Pt} {X : Bool} (H : Wb w wb B L X) (s : ByteArray) (hs : s.size ≤ maxLen) (hl : Shr (L ++ [ptT s])) : Calls Tryd.prog 58 #[.pointer (some ⟨wb, 0, none⟩), .string s] w fun e w' => e = .returned (.tuple #[]) ∧ Wb w' wb B (L ++ [ptT s]) X ∧ Fw wb B w w' := by
  refine (wtxtF_ok H s hs (shr_one (bts_T s) hl)).mono ?_
  rintro e w' ⟨rfl, h, hb⟩
  refine ⟨rfl, ?_, hb⟩
  unfold Wb
  rw [byts_snoc, bts_T]
  have e1 : (!(L ++ [ptT s]).all okC) = (!L.all okC) := by simp [okC, ptT]
  have e2 : (!(L ++ [ptT s]).all okT) = (!L.all okT || !isNm s) := by simp [okT, ptT]
  have e3 : (!(L ++ [ptT s]).all okN || X) = (!L.all okN || X) := by
    rw [List.all_append]
    have : [ptT s].all okN = true := by simp [okN, ptT, inR]
    rw [this, Bool.and_true]
  rw [e1, e2, e3]; exact h
set_option maxHeartbeats 1000000 in
set_option maxRecDepth 20000 in
theorem wcnt_ok {w : World} {wb B : Nat} {L : List Pt} {X : Bool} (H : Wb w wb B L X) (k : Nat) (most : Int) (hl : Shr (L ++ [ptC k most])) : Calls Tryd.prog 38 #[.pointer (some ⟨wb, 0, none⟩), .int .i64 k, .int .i64 most] w fun e w' => e = .returned (.tuple #[]) ∧ Wb w' wb B (L ++ [ptC k most]) X ∧ Fw wb B w w' := by
  obtain ⟨⟨v, hbox, hown⟩, hlo, hpos⟩ := H
  have hl2 := shr_one (bts_C k most) hl
  have e1 : (!(L ++ [ptC k most]).all okC) = (!L.all okC || decide (most < k)) := by simp [okC, ptC]
  have e2 : (!(L ++ [ptC k most]).all okT) = (!L.all okT) := by simp [okT, ptC]
  have e3 : (!(L ++ [ptC k most]).all okN || X) = ((!L.all okN || X) || !inR k) := by
    rw [List.all_append]
    have : [ptC k most].all okN = inR k := by simp [okN, ptC]
    rw [this]; cases L.all okN <;> cases X <;> cases inR k <;> rfl
  have HFIN : Hid (∀ w', Wf w' wb B ((mag ++ byts L) ++ (putB k).data.toList) (!L.all okC || decide (most < k)) (!L.all okT) ((!L.all okN || X) || !inR k) → Wb w' wb B (L ++ [ptC k most]) X) := fun w' h => by
    unfold Wb; rw [byts_snoc, bts_C, e1, e2, e3]; exact h
  clear e1 e2 e3 hl
  generalize (!L.all okC) = M at *
  generalize (!L.all okT) = N at *
  generalize (!L.all okN || X) = F at *
  generalize mag ++ byts L = l at *
  have c1 : w.cell? ⟨wb, 1, none⟩ = some (.bool M) := by simp [World.cell?, hbox]
  have f1 : w.frozen? ⟨wb, 1, none⟩ = false := by simp [World.frozen?, hbox]
  have hlt : wb < w.heap.size := (Array.getElem?_eq_some_iff.1 hbox).1
  have HF1 : Hid (Wf (w.setCell ⟨wb, 1, none⟩ (.bool (M || decide (most < k)))) wb B l (M || decide (most < k)) N F ∧ Fw wb B w (w.setCell ⟨wb, 1, none⟩ (.bool (M || decide (most < k))))) := ⟨⟨⟨v, hset hbox _, hown.other fun g cur fr hk => Below.heap_setCell _ _ _ _ (fun e => by subst e; rw [hbox] at hk; simp at hk)⟩, hlo, hpos⟩, ⟨⟨rfl, rfl, rfl, by simp [World.setCell], fun j hj => Below.heap_setCell _ _ _ _ (show j ≠ wb by omega)⟩, fun j _ hne _ => Below.heap_setCell _ _ _ _ hne⟩⟩
  have HC : Hid (∀ Y, Y = (M || decide (most < k)) → Calls Tryd.prog 37 #[.pointer (some ⟨wb, 0, none⟩), .int .i64 k] (w.setCell ⟨wb, 1, none⟩ (.bool Y)) fun e w' => e = .returned (.tuple #[]) ∧ Wb w' wb B (L ++ [ptC k most]) X ∧ Fw wb B w w') := fun Y hY => by
    subst hY
    refine (wnumF_ok HF1.out.1 k hl2).mono ?_
    rintro e w' ⟨rfl, h, hb⟩
    exact ⟨rfl, HFIN.out _ h, HF1.out.2.trans hb⟩
  clear hbox hown hlo hpos HF1 HFIN hl2
  cases M with
  | true =>
    go_enter Tryd.func38, Tryd.ntmps38
    go_wp2_with (go_at_call 37; refine (HC.out _ rfl).mono ?_; rintro e w' ⟨rfl, h⟩; have HH : Hid _ := h; clear HC h)
    go_end0
    exact ⟨rfl, HH.out⟩
  | false =>
    go_enter Tryd.func38, Tryd.ntmps38
    go_wp2_with (go_at_call 37; refine (HC.out _ rfl).mono ?_; rintro e w' ⟨rfl, h⟩; have HH : Hid _ := h; clear HC h)
    go_end0
    exact ⟨rfl, HH.out⟩
end Go.Proofs.YtdgndglinkcdbaaDoor
/- The document's own writer: list, fields, flag. -/
namespace Go.Proofs.YtdgndglinkcdbaaDoor
open Go.RowKit

/-- What is written of a row's first elements. -/
def pre {α : Type} (L : List Pt) (most : Int) (g : α → List Pt) (xs : List α) (i : Nat) : List Pt := L ++ ptC xs.length most :: (xs.take i).flatMap g
theorem pre_zero {α : Type} (L : List Pt) (most : Int) (g : α → List Pt) (xs : List α) : pre L most g xs 0 = L ++ [ptC xs.length most] := by simp [pre]
theorem pre_all {α : Type} (L : List Pt) (most : Int) (g : α → List Pt) (xs : List α) : pre L most g xs xs.length = L ++ ptL most g xs := by simp [pre, ptL]
theorem pre_succ {α : Type} (L : List Pt) (most : Int) (g : α → List Pt) {xs : List α} {i : Nat} {c : α} (h : xs[i]? = some c) : pre L most g xs (i + 1) = pre L most g xs i ++ g c := by
  unfold pre
  rw [List.take_add_one, h]
  simp [List.flatMap_append]
theorem shr_sub {L M R : List Pt} (h : Shr M) (e : M = L ++ R) : Shr L := Shr.pre (e ▸ h)
theorem pre_shr {α : Type} {L : List Pt} {most : Int} {g : α → List Pt} {xs : List α} (h : Shr (L ++ ptL most g xs)) (i : Nat) : Shr (pre L most g xs i) := by
  refine Shr.pre (R := (xs.drop i).flatMap g) ?_
  have e : pre L most g xs i ++ (xs.drop i).flatMap g = L ++ ptL most g xs := by
    unfold pre ptL
    rw [List.append_assoc, List.cons_append, ← List.flatMap_append, List.take_append_drop]
  rw [e]; exact h
theorem txt_len {L : List Pt} {s : ByteArray} (h : Shr (L ++ [ptT s])) : s.size ≤ maxLen := by
  have := shr_one (bts_T s) h
  have e : (txtB s).size = (putB s.size).size + s.size := by unfold txtB; rw [ByteArray.size_append]
  rw [e] at this
  unfold maxLen; omega
theorem Sl.at3 {α : Type} {w : World} {S : Nat → Prop} {K : Kd α} {ao : Option Addr} {l cap : Nat} {xs : List α} (h : Sl K w S (.slice ao l cap) xs) {i : Nat} {c : α} (hc : xs[i]? = some c) :
    ∃ b o, ao = some ⟨b, o, none⟩ ∧ S b ∧ ∃ cs, K.R w S c cs ∧ ∀ j u, cs[j]? = some u → w.cell? ⟨b, o + (i * K.k + j), none⟩ = some u := by
  obtain ⟨ao2, cp, e, _, hh⟩ := h
  injection e with e _ _
  rcases hh with q | ⟨b, o, q1, q2, q3, q4⟩
  · rw [q] at hc; simp at hc
  · obtain ⟨cs, r1, r2⟩ := q4 i c hc
    exact ⟨b, o, e.trans q1, q2, cs, r1, r2⟩
set_option maxHeartbeats 2000000 in
set_option maxRecDepth 20000 in
theorem wlist_ok {w : World} {wb B : Nat} {L : List Pt} {X : Bool} {S : Nat → Prop} {v : Value} {xs : List Int} (H : Wb w wb B L X) (hv : Sl kI w S v xs) (hS : ∀ k, S k → k < B) (most : Int) (hl : Shr (L ++ ptL most gN1 xs)) : Calls Tryd.prog 60 #[.pointer (some ⟨wb, 0, none⟩), v, .int .i64 most] w fun e w' => e = .returned (.tuple #[]) ∧ Wb w' wb B (L ++ ptL most gN1 xs) X ∧ Fw wb B w w' := by
  have hv2 := hv
  obtain ⟨ao, cap, rfl, hmx, -⟩ := hv2
  unfold maxLen at hmx
  have HV : Hid (Sl kI w S (.slice ao xs.length cap) xs) := hv
  have HS : Hid (∀ k, S k → k < B) := hS
  have HSR1 : Hid (Shr (L ++ ptL most gN1 xs)) := hl
  have hC := wcnt_ok H xs.length most (by have := pre_shr hl 0; rw [pre_zero] at this; exact this)
  clear hv hS hl H
  go_enter Tryd.func60, Tryd.ntmps60
  go_wp2_with (go_at_call 38; refine hC.mono ?_; rintro e w1 ⟨rfl, hA, hF⟩; have HW : Hid (Wb w1 wb B (L ++ [ptC xs.length most]) X ∧ Fw wb B w w1) := ⟨hA, hF⟩; clear hC hA hF)
  go_loopg [6] (xs.length + 1) (fun kx s6 wr => ∃ i : Nat, s6 = .int .i64 i ∧ i ≤ xs.length ∧ xs.length - i ≤ kx ∧ Hid (Wb wr wb B (pre (L) most gN1 xs i) X ∧ Fw wb B w wr))
  case atStart => exact ⟨0, rfl, by omega, by omega, by rw [pre_zero]; exact HW.out⟩
  case round =>
    obtain ⟨i, rfl, hi, hk, HL⟩ := hrel
    by_cases hlt : i < xs.length
    · obtain ⟨c, hc⟩ : ∃ c, xs[i]? = some c := ⟨_, List.getElem?_eq_getElem hlt⟩
      obtain ⟨b, o, rfl, hb, cs, r1, ha⟩ := HV.out.at3 hc
      have HB : Hid (b < B) := HS.out b hb
      have HSH : Hid (Shr ((pre (L) most gN1 xs (i + 1)))) := pre_shr HSR1.out (i + 1)
      have HEQ : Hid ((pre (L) most gN1 xs (i + 1)) = (pre (L) most gN1 xs i) ++ gN1 c) := pre_succ _ _ _ hc
      rw [HEQ.out] at HSH
      obtain rfl := r1
      have g0 : wr.cell? ⟨b, o + i, none⟩ = some (.int .i64 c) := (by rw [cell_same (HL.out.2.bel.block b (HB.out))]; have := ha 0 _ rfl; rw [show kI.k = 1 from rfl, show o + (i * 1 + 0) = o + i by omega] at this; exact this)
      have hl2 : (i : Int) < (xs.length : Int) := by omega
      have hC0 := wnum_ok HL.out.1 c (show Shr ((pre (L) most gN1 xs i) ++ [ptN c]) from shr_sub (R := []) HSH.out (by simp [gN1]))
      clear hb hc
      go_wp2_with (first
        | (go_at_call 37; refine hC0.mono ?_; rintro e u0 ⟨rfl, hA, hF⟩; have HU0 : Hid (Wb u0 wb B ((pre (L) most gN1 xs i) ++ [ptN c]) X ∧ Fw wb B w u0) := ⟨hA, HL.out.2.trans hF⟩; clear hC0 hA hF))
      go_roundg (xs.length - (i + 1))
      case measure => omega
      case rel => exact ⟨i + 1, by go_num, by omega, by omega, by rw [HEQ.out]; have q9 := HU0.out; exact q9⟩
    · have hn : i = xs.length := by omega
      subst hn
      have hl2 : ¬ ((xs.length : Nat) : Int) < ((xs.length : Nat) : Int) := by omega
      have HE1 : Hid (Wb wr wb B (pre (L) most gN1 xs xs.length) X ∧ Fw wb B w wr) := HL.out
      rw [pre_all] at HE1
      clear HL hi hk
      go_wp2
      go_end0
      exact ⟨rfl, HE1.out⟩
set_option maxHeartbeats 2000000 in
set_option maxRecDepth 20000 in
theorem wfields_ok {w : World} {wb B : Nat} {L : List Pt} {X : Bool} {S : Nat → Prop} {v : Value} {xs : List Fd} (H : Wb w wb B L X) (hv : Sl kFd w S v xs) (hS : ∀ k, S k → k < B) (hl : Shr (L ++ ptL 24 gFd xs)) : Calls Tryd.prog 61 #[.pointer (some ⟨wb, 0, none⟩), v] w fun e w' => e = .returned (.tuple #[]) ∧ Wb w' wb B (L ++ ptL 24 gFd xs) X ∧ Fw wb B w w' := by
  have hv2 := hv
  obtain ⟨ao, cap, rfl, hmx, -⟩ := hv2
  unfold maxLen at hmx
  have HV : Hid (Sl kFd w S (.slice ao xs.length cap) xs) := hv
  have HS : Hid (∀ k, S k → k < B) := hS
  have HSR1 : Hid (Shr (L ++ ptL 24 gFd xs)) := hl
  have hC := wcnt_ok H xs.length 24 (by have := pre_shr hl 0; rw [pre_zero] at this; exact this)
  clear hv hS hl H
  go_enter Tryd.func61, Tryd.ntmps61
  go_wp2_with (go_at_call 38; refine hC.mono ?_; rintro e w1 ⟨rfl, hA, hF⟩; have HW : Hid (Wb w1 wb B (L ++ [ptC xs.length 24]) X ∧ Fw wb B w w1) := ⟨hA, hF⟩; clear hC hA hF)
  go_loopg [4] (xs.length + 1) (fun kx s6 wr => ∃ i : Nat, s6 = .int .i64 i ∧ i ≤ xs.length ∧ xs.length - i ≤ kx ∧ Hid (Wb wr wb B (pre (L) 24 gFd xs i) X ∧ Fw wb B w wr))
  case atStart => exact ⟨0, rfl, by omega, by omega, by rw [pre_zero]; exact HW.out⟩
  case round =>
    obtain ⟨i, rfl, hi, hk, HL⟩ := hrel
    by_cases hlt : i < xs.length
    · obtain ⟨c, hc⟩ : ∃ c, xs[i]? = some c := ⟨_, List.getElem?_eq_getElem hlt⟩
      obtain ⟨b, o, rfl, hb, cs, r1, ha⟩ := HV.out.at3 hc
      have HB : Hid (b < B) := HS.out b hb
      have HSH : Hid (Shr ((pre (L) 24 gFd xs (i + 1)))) := pre_shr HSR1.out (i + 1)
      have HEQ : Hid ((pre (L) 24 gFd xs (i + 1)) = (pre (L) 24 gFd xs i) ++ gFd c) := pre_succ _ _ _ hc
      rw [HEQ.out] at HSH
      obtain rfl := r1
      have g0 : wr.cell? ⟨b, o + i * 2, none⟩ = some (.string c.nm) := (by rw [cell_same (HL.out.2.bel.block b (HB.out))]; have := ha 0 _ rfl; rw [show kFd.k = 2 from rfl, show o + (i * 2 + 0) = o + i * 2 by omega] at this; exact this)
      have hl2 : (i : Int) < (xs.length : Int) := by omega
      have hC0 := wtxt_ok HL.out.1 c.nm (txt_len (show Shr ((pre (L) 24 gFd xs i) ++ [ptT c.nm]) from shr_sub (R := [ptN c.ty]) HSH.out (by simp [gFd]))) (show Shr ((pre (L) 24 gFd xs i) ++ [ptT c.nm]) from shr_sub (R := [ptN c.ty]) HSH.out (by simp [gFd]))
      clear hb hc
      go_wp2_with (first
        | (go_at_call 58; refine hC0.mono ?_; rintro e u0 ⟨rfl, hA, hF⟩; have HU0 : Hid (Wb u0 wb B ((pre (L) 24 gFd xs i) ++ [ptT c.nm]) X ∧ Fw wb B w u0) := ⟨hA, HL.out.2.trans hF⟩; have g1 : u0.cell? ⟨b, o + i * 2 + 1, none⟩ = some (.int .i64 c.ty) := (by rw [cell_same (HU0.out.2.bel.block b (HB.out))]; have := ha 1 _ rfl; rw [show kFd.k = 2 from rfl, show o + (i * 2 + 1) = o + i * 2 + 1 by omega] at this; exact this); have hC1 := wnum_ok HU0.out.1 c.ty (show Shr (((pre (L) 24 gFd xs i) ++ [ptT c.nm]) ++ [ptN c.ty]) from shr_sub (R := []) HSH.out (by simp [gFd])); clear hC0 hA hF)
        | (go_at_call 37; refine hC1.mono ?_; rintro e u1 ⟨rfl, hA, hF⟩; have HU1 : Hid (Wb u1 wb B (((pre (L) 24 gFd xs i) ++ [ptT c.nm]) ++ [ptN c.ty]) X ∧ Fw wb B w u1) := ⟨hA, HU0.out.2.trans hF⟩; clear hC1 hA hF))
      go_roundg (xs.length - (i + 1))
      case measure => omega
      case rel => exact ⟨i + 1, by go_num, by omega, by omega, by rw [HEQ.out]; have q9 := HU1.out; rw [List.append_assoc] at q9; exact q9⟩
    · have hn : i = xs.length := by omega
      subst hn
      have hl2 : ¬ ((xs.length : Nat) : Int) < ((xs.length : Nat) : Int) := by omega
      have HE1 : Hid (Wb wr wb B (pre (L) 24 gFd xs xs.length) X ∧ Fw wb B w wr) := HL.out
      rw [pre_all] at HE1
      clear HL hi hk
      go_wp2
      go_end0
      exact ⟨rfl, HE1.out⟩
theorem flag_any (b : Bool) (k : Int) (w : World) : Calls Tryd.prog 59 #[.bool b, .int .i64 k] w fun e w' => e = .returned (.int .i64 (fl b k)) ∧ w' = w := by
  cases b with
  | true =>
    go_enter Tryd.func59, Tryd.ntmps59
    go_wp2
    go_ret
    exact ⟨rfl, rfl⟩
  | false =>
    go_enter Tryd.func59, Tryd.ntmps59
    go_wp2
    go_ret
    exact ⟨rfl, rfl⟩
end Go.Proofs.YtdgndglinkcdbaaDoor
/- The document's own writer: method. -/
namespace Go.Proofs.YtdgndglinkcdbaaDoor
open Go.RowKit

theorem Fw.box {wb B : Nat} {u u' : World} {k : Nat} {row : Array Value} {T : TypeId} {fr : Nat × Nat} (h : Fw wb B u u') (e : u.heap[k]? = some (.cells row T fr)) (hn : k ≠ wb) (ht : T ≠ 5) : u'.heap[k]? = some (.cells row T fr) :=
  (h.oth k (Array.getElem?_eq_some_iff.1 e).1 hn (fun cur fr q => by rw [e] at q; injection q with q; injection q with _ q _; exact ht q)).trans e
theorem lives {α : Type} {K : Kd α} {wb B : Nat} {S : Nat → Prop} {w u : World} {v : Value} {xs : List α} (h : Sl K w S v xs) (hF : Fw wb B w u) (hS : ∀ k, S k → k < B) : Sl K u S v xs := h.keep fun k hk => hF.bel.block k (hS k hk)
theorem bts_S (x m : Int) : bts (ptS x m) = bts (ptN x) := by simp [bts, ptS, ptN]
theorem shr_size {L M R : List Pt} {x a : Int} (h : Shr M) (e : M = L ++ ptS x a :: R) : Shr (L ++ [ptN x]) := by
  have h2 : Shr (L ++ [ptS x a]) := shr_sub (R := R) h (by rw [e]; simp)
  unfold Shr at h2 ⊢
  rw [byts_snoc] at h2 ⊢
  rw [bts_S] at h2; exact h2
theorem shr_size2 {L M R : List Pt} {x a y b : Int} (h : Shr M) (e : M = L ++ ptS x a :: ptS y b :: R) : Shr (L ++ [ptN x] ++ [ptN y]) := by
  have h2 : Shr (L ++ [ptS x a] ++ [ptS y b]) := shr_sub (R := R) h (by rw [e]; simp)
  unfold Shr at h2 ⊢
  rw [byts_snoc, byts_snoc] at h2 ⊢
  rw [bts_S, bts_S] at h2; exact h2
theorem size_wb {w : World} {wb B : Nat} {L : List Pt} {X : Bool} {x y : Int} (h : Wb w wb B (L ++ [ptN x] ++ [ptN y]) (X || (decide (x < 0) || decide (24 < x) || decide (y < 0) || decide (24 < y)))) : Wb w wb B (L ++ [ptS x 24] ++ [ptS y 24]) X := by
  unfold Wb at h ⊢
  rw [byts_snoc, byts_snoc] at h ⊢
  rw [bts_S, bts_S]
  have e1 : (!(L ++ [ptS x 24] ++ [ptS y 24]).all okC) = (!(L ++ [ptN x] ++ [ptN y]).all okC) := by simp [okC, ptS, ptN]
  have e2 : (!(L ++ [ptS x 24] ++ [ptS y 24]).all okT) = (!(L ++ [ptN x] ++ [ptN y]).all okT) := by simp [okT, ptS, ptN]
  have e3 : (!(L ++ [ptS x 24] ++ [ptS y 24]).all okN || X) = (!(L ++ [ptN x] ++ [ptN y]).all okN || (X || (decide (x < 0) || decide (24 < x) || decide (y < 0) || decide (24 < y)))) := by
    simp only [List.all_append, List.all_cons, List.all_nil, Bool.and_true]
    have a1 : okN (ptS x 24) = !((decide (x < 0) || decide (24 < x)) || !inR x) := rfl
    have a2 : okN (ptS y 24) = !((decide (y < 0) || decide (24 < y)) || !inR y) := rfl
    have a3 : okN (ptN x) = inR x := by simp [okN, ptN]
    have a4 : okN (ptN y) = inR y := by simp [okN, ptN]
    rw [a1, a2, a3, a4]
    cases L.all okN <;> cases X <;> cases decide (x < 0) <;> cases decide (24 < x) <;> cases decide (y < 0) <;> cases decide (24 < y) <;> cases inR x <;> cases inR y <;> rfl
  rw [e1, e2, e3]; exact h
theorem Wb.lt {w : World} {wb B : Nat} {L : List Pt} {X : Bool} (h : Wb w wb B L X) : wb < w.heap.size := by
  obtain ⟨⟨v, hb, _⟩, _, _⟩ := h; exact (Array.getElem?_eq_some_iff.1 hb).1
theorem Wb.alloc {w : World} {wb B : Nat} {L : List Pt} {X : Bool} (h : Wb w wb B L X) (o : Obj) : Wb (w.alloc o) wb B L X ∧ Fw wb B w (w.alloc o) := by
  have hl := h.lt
  obtain ⟨⟨v, hb, how⟩, hlo, hpos⟩ := h
  exact ⟨⟨⟨v, by rw [Below.heap_alloc _ _ _ hl]; exact hb, how.other fun g cur fr hk => Below.heap_alloc _ _ _ (Array.getElem?_eq_some_iff.1 hk).1⟩, hlo, hpos⟩, ⟨⟨rfl, rfl, rfl, by simp, fun k hk => Below.heap_alloc _ _ _ (by omega)⟩, fun k hk _ _ => Below.heap_alloc _ _ _ hk⟩⟩

set_option maxHeartbeats 8000000 in
set_option maxRecDepth 20000 in
theorem wmethod_ok {w : World} {wb B : Nat} {L : List Pt} {X : Bool} {S : Nat → Prop} {m : Md} {cs : List Value} (H : Wb w wb B L X) (hR : kMd.R w S m cs) (hS : ∀ k, S k → k < B) (hl : Shr (L ++ gMd m)) : Calls Tryd.prog 62 #[.pointer (some ⟨wb, 0, none⟩), .agg cs.toArray] w fun e w' => e = .returned (.tuple #[]) ∧ Wb w' wb B (L ++ gMd m) X ∧ Fw wb B w w' := by
  obtain ⟨y1, y2, y3, y4, rfl, h1, h2, h3, h4⟩ := hR
  have V1 : Hid (Sl kI w S y1 m.args) := h1
  have V2 : Hid (Sl kIs w S y2 m.code) := h2
  have V3 : Hid (Sl kHd w S y3 m.tab) := h3
  have V4 : Hid (Sl kMp w S y4 m.maps) := h4
  obtain ⟨d1, e1, rfl, -⟩ := h1
  obtain ⟨d2, e2, rfl, m2, -⟩ := h2
  obtain ⟨d3, e3, rfl, m3, -⟩ := h3
  obtain ⟨d4, e4, rfl, m4, -⟩ := h4
  unfold maxLen at m2 m3 m4
  have HS : Hid (∀ k, S k → k < B) := hS
  have HSH : Hid (Shr (L ++ gMd m)) := hl
  have HSR2 : Hid (∀ L6, L6 = ((L ++ [ptT m.nm] ++ [ptN (fl m.stc 1)] ++ ptL 8 gN1 m.args ++ [ptN m.ret]) ++ [ptS m.lo 24] ++ [ptS m.st 24]) → Shr ((L6 ++ ptL 300 gIs m.code) ++ ptL 16 gHd m.tab) ∧ Shr ((L6 ++ ptL 300 gIs m.code ++ ptL 16 gHd m.tab) ++ ptL 64 gMp m.maps)) := fun L6 e => ⟨shr_sub (R := ptL 64 gMp m.maps) hl (by rw [e]; simp [gMd]), shr_sub (R := []) hl (by rw [e]; simp [gMd])⟩
  have HWB : Hid (wb < w.heap.size) := H.lt
  have HU0 : Hid (Wb (w.alloc (.cells #[.string m.nm, .bool m.stc, .slice d1 m.args.length e1, .int .i64 m.ret, .int .i64 m.lo, .int .i64 m.st, .slice d2 m.code.length e2, .slice d3 m.tab.length e3, .slice d4 m.maps.length e4] 69)) wb B L X ∧ Fw wb B w (w.alloc (.cells #[.string m.nm, .bool m.stc, .slice d1 m.args.length e1, .int .i64 m.ret, .int .i64 m.lo, .int .i64 m.st, .slice d2 m.code.length e2, .slice d3 m.tab.length e3, .slice d4 m.maps.length e4] 69)) ∧ (w.alloc (.cells #[.string m.nm, .bool m.stc, .slice d1 m.args.length e1, .int .i64 m.ret, .int .i64 m.lo, .int .i64 m.st, .slice d2 m.code.length e2, .slice d3 m.tab.length e3, .slice d4 m.maps.length e4] 69)).heap[w.heap.size]? = some (.cells #[.string m.nm, .bool m.stc, .slice d1 m.args.length e1, .int .i64 m.ret, .int .i64 m.lo, .int .i64 m.st, .slice d2 m.code.length e2, .slice d3 m.tab.length e3, .slice d4 m.maps.length e4] 69 (0, 0))) := ⟨(H.alloc _).1, (H.alloc _).2, heap_alloc_new _ _⟩
  have k0 : (w.alloc (.cells #[.string m.nm, .bool m.stc, .slice d1 m.args.length e1, .int .i64 m.ret, .int .i64 m.lo, .int .i64 m.st, .slice d2 m.code.length e2, .slice d3 m.tab.length e3, .slice d4 m.maps.length e4] 69)).cell? ⟨w.heap.size, 0, none⟩ = some (.string m.nm) := by simp only [World.cell?]; rw [HU0.out.2.2]; rfl
  have hC1 := wtxt_ok HU0.out.1 m.nm (txt_len (show Shr (L ++ [ptT m.nm]) from shr_sub (R := ptN (fl m.stc 1) :: (ptL 8 gN1 m.args ++ (ptN m.ret :: ptS m.lo 24 :: ptS m.st 24 :: (ptL 300 gIs m.code ++ (ptL 16 gHd m.tab ++ ptL 64 gMp m.maps))))) HSH.out (by simp [gMd]))) (show Shr (L ++ [ptT m.nm]) from shr_sub (R := ptN (fl m.stc 1) :: (ptL 8 gN1 m.args ++ (ptN m.ret :: ptS m.lo 24 :: ptS m.st 24 :: (ptL 300 gIs m.code ++ (ptL 16 gHd m.tab ++ ptL 64 gMp m.maps))))) HSH.out (by simp [gMd]))
  clear hS hl H
  go_enter Tryd.func62, Tryd.ntmps62
  go_upto_region 5 with (first
    | (go_at_call 58; refine hC1.mono ?_; rintro e u1 ⟨rfl, hA, hF⟩; have HU1 : Hid (Wb u1 wb B (L ++ [ptT m.nm]) X ∧ Fw wb B w u1 ∧ u1.heap[w.heap.size]? = some (.cells #[.string m.nm, .bool m.stc, .slice d1 m.args.length e1, .int .i64 m.ret, .int .i64 m.lo, .int .i64 m.st, .slice d2 m.code.length e2, .slice d3 m.tab.length e3, .slice d4 m.maps.length e4] 69 (0, 0))) := ⟨hA, HU0.out.2.1.trans hF, hF.box HU0.out.2.2 (fun e => by have := HWB.out; omega) (by decide)⟩; have k1 : u1.cell? ⟨w.heap.size, 1, none⟩ = some (.bool m.stc) := (by simp [World.cell?, HU1.out.2.2]); have hC2 := wnum_ok HU1.out.1 (fl m.stc 1) (show Shr (L ++ [ptT m.nm] ++ [ptN (fl m.stc 1)]) from shr_sub (R := ptL 8 gN1 m.args ++ (ptN m.ret :: ptS m.lo 24 :: ptS m.st 24 :: (ptL 300 gIs m.code ++ (ptL 16 gHd m.tab ++ ptL 64 gMp m.maps)))) HSH.out (by simp [gMd])); clear hC1 hA hF)
    | (go_at_call 59; refine (flag_any _ _ _).mono ?_; rintro e w9 ⟨rfl, hw9⟩; replace hw9 := hw9.symm; subst hw9)
    | (go_at_call 60; refine hC3.mono ?_; rintro e u3 ⟨rfl, hA, hF⟩; have HU3 : Hid (Wb u3 wb B (L ++ [ptT m.nm] ++ [ptN (fl m.stc 1)] ++ ptL 8 gN1 m.args) X ∧ Fw wb B w u3 ∧ u3.heap[w.heap.size]? = some (.cells #[.string m.nm, .bool m.stc, .slice d1 m.args.length e1, .int .i64 m.ret, .int .i64 m.lo, .int .i64 m.st, .slice d2 m.code.length e2, .slice d3 m.tab.length e3, .slice d4 m.maps.length e4] 69 (0, 0))) := ⟨hA, HU2.out.2.1.trans hF, hF.box HU2.out.2.2 (fun e => by have := HWB.out; omega) (by decide)⟩; have k3 : u3.cell? ⟨w.heap.size, 3, none⟩ = some (.int .i64 m.ret) := (by simp [World.cell?, HU3.out.2.2]); have hC4 := wnum_ok HU3.out.1 m.ret (show Shr (L ++ [ptT m.nm] ++ [ptN (fl m.stc 1)] ++ ptL 8 gN1 m.args ++ [ptN m.ret]) from shr_sub (R := ptS m.lo 24 :: ptS m.st 24 :: (ptL 300 gIs m.code ++ (ptL 16 gHd m.tab ++ ptL 64 gMp m.maps))) HSH.out (by simp [gMd])); clear hC3 hA hF)
    | (go_at_call 37; refine hC4.mono ?_; rintro e u4 ⟨rfl, hA, hF⟩; have HU4 : Hid (Wb u4 wb B (L ++ [ptT m.nm] ++ [ptN (fl m.stc 1)] ++ ptL 8 gN1 m.args ++ [ptN m.ret]) X ∧ Fw wb B w u4 ∧ u4.heap[w.heap.size]? = some (.cells #[.string m.nm, .bool m.stc, .slice d1 m.args.length e1, .int .i64 m.ret, .int .i64 m.lo, .int .i64 m.st, .slice d2 m.code.length e2, .slice d3 m.tab.length e3, .slice d4 m.maps.length e4] 69 (0, 0))) := ⟨hA, HU3.out.2.1.trans hF, hF.box HU3.out.2.2 (fun e => by have := HWB.out; omega) (by decide)⟩; clear hC4 hA hF)
    | (go_at_call 37; refine hC2.mono ?_; rintro e u2 ⟨rfl, hA, hF⟩; have HU2 : Hid (Wb u2 wb B (L ++ [ptT m.nm] ++ [ptN (fl m.stc 1)]) X ∧ Fw wb B w u2 ∧ u2.heap[w.heap.size]? = some (.cells #[.string m.nm, .bool m.stc, .slice d1 m.args.length e1, .int .i64 m.ret, .int .i64 m.lo, .int .i64 m.st, .slice d2 m.code.length e2, .slice d3 m.tab.length e3, .slice d4 m.maps.length e4] 69 (0, 0))) := ⟨hA, HU1.out.2.1.trans hF, hF.box HU1.out.2.2 (fun e => by have := HWB.out; omega) (by decide)⟩; have k2 : u2.cell? ⟨w.heap.size, 2, none⟩ = some (.slice d1 m.args.length e1) := (by simp [World.cell?, HU2.out.2.2]); have hC3 := wlist_ok HU2.out.1 (lives V1.out HU2.out.2.1 HS.out) HS.out 8 (show Shr (L ++ [ptT m.nm] ++ [ptN (fl m.stc 1)] ++ ptL 8 gN1 m.args) from shr_sub (R := ptN m.ret :: ptS m.lo 24 :: ptS m.st 24 :: (ptL 300 gIs m.code ++ (ptL 16 gHd m.tab ++ ptL 64 gMp m.maps))) HSH.out (by simp [gMd])); clear hC2 hA hF))
  obtain ⟨⟨vb, hbox, hown⟩, hlo, hpos⟩ := HU4.out.1
  obtain ⟨F, hF⟩ : ∃ F, F = (!(L ++ [ptT m.nm] ++ [ptN (fl m.stc 1)] ++ ptL 8 gN1 m.args ++ [ptN m.ret]).all okN || X) := ⟨_, rfl⟩
  rw [← hF] at hbox
  have HFF : Hid (F = (!(L ++ [ptT m.nm] ++ [ptN (fl m.stc 1)] ++ ptL 8 gN1 m.args ++ [ptN m.ret]).all okN || X)) := hF
  obtain ⟨Y, hY⟩ : ∃ Y, Y = (F || (decide (m.lo < 0) || decide (24 < m.lo) || decide (m.st < 0) || decide (24 < m.st))) := ⟨_, rfl⟩
  have HY : Hid (Y = (F || (decide (m.lo < 0) || decide (24 < m.lo) || decide (m.st < 0) || decide (24 < m.st)))) := hY
  have HU5 : Hid (Wb (u4.setCell ⟨wb, 3, none⟩ (.bool Y)) wb B (L ++ [ptT m.nm] ++ [ptN (fl m.stc 1)] ++ ptL 8 gN1 m.args ++ [ptN m.ret]) (X || (decide (m.lo < 0) || decide (24 < m.lo) || decide (m.st < 0) || decide (24 < m.st))) ∧ Fw wb B w (u4.setCell ⟨wb, 3, none⟩ (.bool Y)) ∧ (u4.setCell ⟨wb, 3, none⟩ (.bool Y)).heap[w.heap.size]? = some (.cells #[.string m.nm, .bool m.stc, .slice d1 m.args.length e1, .int .i64 m.ret, .int .i64 m.lo, .int .i64 m.st, .slice d2 m.code.length e2, .slice d3 m.tab.length e3, .slice d4 m.maps.length e4] 69 (0, 0))) := by
    refine ⟨⟨⟨vb, ?_, hown.other fun g cur fr hk => Below.heap_setCell _ _ _ _ (fun e => by subst e; rw [hbox] at hk; simp at hk)⟩, hlo, hpos⟩, HU4.out.2.1.trans ⟨⟨rfl, rfl, rfl, by simp [World.setCell], fun j hj => Below.heap_setCell _ _ _ _ (show j ≠ wb by omega)⟩, fun j _ hne _ => Below.heap_setCell _ _ _ _ hne⟩, ?_⟩
    · have := hset (k := 3) hbox (.bool Y)
      rw [hY, hF, Bool.or_assoc] at this; rw [hY, hF, Bool.or_assoc]; exact this
    · rw [Below.heap_setCell _ _ _ _ (show w.heap.size ≠ wb by have := HWB.out; omega)]; exact HU4.out.2.2
  have j3 : u4.cell? ⟨wb, 3, none⟩ = some (.bool F) := by simp [World.cell?, hbox]
  have r3 : u4.frozen? ⟨wb, 3, none⟩ = false := by simp [World.frozen?, hbox]
  have l4 : u4.cell? ⟨w.heap.size, 4, none⟩ = some (.int .i64 m.lo) := by simp [World.cell?, HU4.out.2.2]
  have l5 : u4.cell? ⟨w.heap.size, 5, none⟩ = some (.int .i64 m.st) := by simp [World.cell?, HU4.out.2.2]
  have lw : wb < u4.heap.size := (Array.getElem?_eq_some_iff.1 hbox).1
  clear hbox hown hlo hpos hF hY k1 k2 k3
  go_cut [] from 24 to 50 (fun wx => (u4.setCell ⟨wb, 3, none⟩ (.bool Y)) = wx)
  case first =>
    cases F with
    | true =>
      have HV9 : Hid (true = Y) := by show _ = _; rw [HY.out]; rfl
      as_aux_lemma =>
        go_wp2_with (fail)
        go_meet
        rw [HV9.out]
    | false =>
      by_cases h1 : m.lo < 0
      · have HV9 : Hid (true = Y) := by show _ = _; rw [HY.out, decide_eq_true h1]; rfl
        have h1' := decide_eq_true h1
        as_aux_lemma =>
          go_wp2_with (fail)
          go_meet
          rw [HV9.out]
      · have h1' := decide_eq_false h1
        by_cases h2 : 24 < m.lo
        · have HV9 : Hid (true = Y) := by show _ = _; rw [HY.out, decide_eq_true h2, h1']; rfl
          have h2' := decide_eq_true h2
          as_aux_lemma =>
            go_wp2_with (fail)
            go_meet
            rw [HV9.out]
        · have h2' := decide_eq_false h2
          by_cases h3 : m.st < 0
          · have HV9 : Hid (true = Y) := by show _ = _; rw [HY.out, decide_eq_true h3, h1', h2']; rfl
            have h3' := decide_eq_true h3
            as_aux_lemma =>
              go_wp2_with (fail)
              go_meet
              rw [HV9.out]
          · have h3' := decide_eq_false h3
            have HV9 : Hid (decide (24 < m.st) = Y) := by show _ = _; rw [HY.out, h3', h1', h2', Bool.or_self, Bool.or_self, Bool.false_or, Bool.false_or]
            as_aux_lemma =>
              go_wp2_with (fail)
              go_meet
              rw [HV9.out]
  case rest =>
  subst hcut
  have p4 : (u4.setCell ⟨wb, 3, none⟩ (.bool Y)).cell? ⟨w.heap.size, 4, none⟩ = some (.int .i64 m.lo) := by simp [World.cell?, HU5.out.2.2]
  have hC6 := wnum_ok HU5.out.1 m.lo (shr_size (a := 24) (R := ptS m.st 24 :: (ptL 300 gIs m.code ++ (ptL 16 gHd m.tab ++ ptL 64 gMp m.maps))) HSH.out (by simp [gMd]))
  clear j3 r3 l4 l5 HU4 lw
  go_upto_region 9 with (first
    | (go_at_call 37; refine hC6.mono ?_; rintro e u6 ⟨rfl, hA, hF⟩; have HU6 : Hid (Wb u6 wb B ((L ++ [ptT m.nm] ++ [ptN (fl m.stc 1)] ++ ptL 8 gN1 m.args ++ [ptN m.ret]) ++ [ptN m.lo]) (X || (decide (m.lo < 0) || decide (24 < m.lo) || decide (m.st < 0) || decide (24 < m.st))) ∧ Fw wb B w u6 ∧ u6.heap[w.heap.size]? = some (.cells #[.string m.nm, .bool m.stc, .slice d1 m.args.length e1, .int .i64 m.ret, .int .i64 m.lo, .int .i64 m.st, .slice d2 m.code.length e2, .slice d3 m.tab.length e3, .slice d4 m.maps.length e4] 69 (0, 0))) := ⟨hA, HU5.out.2.1.trans hF, hF.box HU5.out.2.2 (fun e => by have := HWB.out; omega) (by decide)⟩; have p5 : u6.cell? ⟨w.heap.size, 5, none⟩ = some (.int .i64 m.st) := (by simp [World.cell?, HU6.out.2.2]); have hC7 := wnum_ok HU6.out.1 m.st (shr_size2 (a := 24) (b := 24) (R := ptL 300 gIs m.code ++ (ptL 16 gHd m.tab ++ ptL 64 gMp m.maps)) HSH.out (by simp [gMd])); clear hC6 hA hF HU5)
    | (go_at_call 37; refine hC7.mono ?_; rintro e u7 ⟨rfl, hA, hF⟩; obtain ⟨L6, hL6⟩ : ∃ L6, L6 = ((L ++ [ptT m.nm] ++ [ptN (fl m.stc 1)] ++ ptL 8 gN1 m.args ++ [ptN m.ret]) ++ [ptS m.lo 24] ++ [ptS m.st 24]) := ⟨_, rfl⟩; have HL6 : Hid (L6 = ((L ++ [ptT m.nm] ++ [ptN (fl m.stc 1)] ++ ptL 8 gN1 m.args ++ [ptN m.ret]) ++ [ptS m.lo 24] ++ [ptS m.st 24])) := hL6; have HSR1 : Hid (Shr (L6 ++ ptL 300 gIs m.code)) := shr_sub (R := ptL 16 gHd m.tab ++ ptL 64 gMp m.maps) HSH.out (by rw [HL6.out]; simp [gMd]); have HU7 : Hid (Wb u7 wb B L6 X ∧ Fw wb B w u7 ∧ u7.heap[w.heap.size]? = some (.cells #[.string m.nm, .bool m.stc, .slice d1 m.args.length e1, .int .i64 m.ret, .int .i64 m.lo, .int .i64 m.st, .slice d2 m.code.length e2, .slice d3 m.tab.length e3, .slice d4 m.maps.length e4] 69 (0, 0))) := ⟨(by rw [hL6]; exact size_wb hA), HU6.out.2.1.trans hF, hF.box HU6.out.2.2 (fun e => by have := HWB.out; omega) (by decide)⟩; have p6 : u7.cell? ⟨w.heap.size, 6, none⟩ = some (.slice d2 m.code.length e2) := (by simp [World.cell?, HU7.out.2.2]); have hC8 := wcnt_ok HU7.out.1 m.code.length 300 (by have := pre_shr HSR1.out 0; rw [pre_zero] at this; exact this); clear hC7 hA hF HU6 hL6 HSH)
    | (go_at_call 38; refine hC8.mono ?_; rintro e u8 ⟨rfl, hA, hF⟩; have HU8 : Hid (Wb u8 wb B (L6 ++ [ptC m.code.length 300]) X ∧ Fw wb B w u8 ∧ u8.heap[w.heap.size]? = some (.cells #[.string m.nm, .bool m.stc, .slice d1 m.args.length e1, .int .i64 m.ret, .int .i64 m.lo, .int .i64 m.st, .slice d2 m.code.length e2, .slice d3 m.tab.length e3, .slice d4 m.maps.length e4] 69 (0, 0))) := ⟨hA, HU7.out.2.1.trans hF, hF.box HU7.out.2.2 (fun e => by have := HWB.out; omega) (by decide)⟩; clear hC8 hA hF HU7))
  obtain ⟨g2, g3⟩ := HSR2.out L6 HL6.out
  have HSR2 : Hid (Shr ((L6 ++ ptL 300 gIs m.code) ++ ptL 16 gHd m.tab)) := g2
  have HSR3 : Hid (Shr ((L6 ++ ptL 300 gIs m.code ++ ptL 16 gHd m.tab) ++ ptL 64 gMp m.maps)) := g3
  clear g2 g3 p4 p5 p6 k0
  go_wp2_with (fail)
  go_loopg [4] (m.code.length + 1) (fun kx s6 wr => ∃ i : Nat, s6 = .int .i64 i ∧ i ≤ m.code.length ∧ m.code.length - i ≤ kx ∧ Hid (Wb wr wb B (pre (L6) 300 gIs m.code i) X ∧ Fw wb B w wr ∧ wr.heap[w.heap.size]? = some (.cells #[.string m.nm, .bool m.stc, .slice d1 m.args.length e1, .int .i64 m.ret, .int .i64 m.lo, .int .i64 m.st, .slice d2 m.code.length e2, .slice d3 m.tab.length e3, .slice d4 m.maps.length e4] 69 (0, 0))))
  case atStart => exact ⟨0, rfl, by omega, by omega, by rw [pre_zero]; exact HU8.out⟩
  case round =>
    obtain ⟨i, rfl, hi, hk, HL⟩ := hrel
    by_cases hlt : i < m.code.length
    · obtain ⟨c, hc⟩ : ∃ c, m.code[i]? = some c := ⟨_, List.getElem?_eq_getElem hlt⟩
      obtain ⟨b, o, rfl, hb, cs, r1, ha⟩ := V2.out.at3 hc
      have HB : Hid (b < B) := HS.out b hb
      have HSH : Hid (Shr ((pre (L6) 300 gIs m.code (i + 1)))) := pre_shr HSR1.out (i + 1)
      have HEQ : Hid ((pre (L6) 300 gIs m.code (i + 1)) = (pre (L6) 300 gIs m.code i) ++ gIs c) := pre_succ _ _ _ hc
      rw [HEQ.out] at HSH
      obtain rfl := r1
      have g0 : wr.cell? ⟨b, o + i * 3, none⟩ = some (.int .i64 c.op) := (by rw [cell_same (HL.out.2.1.bel.block b (HB.out))]; have := ha 0 _ rfl; rw [show kIs.k = 3 from rfl, show o + (i * 3 + 0) = o + i * 3 by omega] at this; exact this)
      have zwr : wr.cell? ⟨w.heap.size, 6, none⟩ = some (.slice (some ⟨b, o, none⟩) m.code.length e2) := by simp [World.cell?, HL.out.2.2]
      have hl2 : (i : Int) < (m.code.length : Int) := by omega
      have hC0 := wnum_ok HL.out.1 c.op (show Shr ((pre (L6) 300 gIs m.code i) ++ [ptN c.op]) from shr_sub (R := [ptN c.a] ++ [ptN c.b]) HSH.out (by simp [gIs]))
      clear hb hc
      go_wp2_with (first
        | (go_at_call 37; refine hC0.mono ?_; rintro e u0 ⟨rfl, hA, hF⟩; have HU0 : Hid (Wb u0 wb B ((pre (L6) 300 gIs m.code i) ++ [ptN c.op]) X ∧ Fw wb B w u0 ∧ u0.heap[w.heap.size]? = some (.cells #[.string m.nm, .bool m.stc, .slice d1 m.args.length e1, .int .i64 m.ret, .int .i64 m.lo, .int .i64 m.st, .slice (some ⟨b, o, none⟩) m.code.length e2, .slice d3 m.tab.length e3, .slice d4 m.maps.length e4] 69 (0, 0))) := ⟨hA, HL.out.2.1.trans hF, hF.box HL.out.2.2 (fun e => by have := HWB.out; omega) (by decide)⟩; have g1 : u0.cell? ⟨b, o + i * 3 + 1, none⟩ = some (.int .i64 c.a) := (by rw [cell_same (HU0.out.2.1.bel.block b (HB.out))]; have := ha 1 _ rfl; rw [show kIs.k = 3 from rfl, show o + (i * 3 + 1) = o + i * 3 + 1 by omega] at this; exact this); have zu0 : u0.cell? ⟨w.heap.size, 6, none⟩ = some (.slice (some ⟨b, o, none⟩) m.code.length e2) := (by simp [World.cell?, HU0.out.2.2]); have hC1 := wnum_ok HU0.out.1 c.a (show Shr (((pre (L6) 300 gIs m.code i) ++ [ptN c.op]) ++ [ptN c.a]) from shr_sub (R := [ptN c.b]) HSH.out (by simp [gIs])); clear hC0 hA hF)
        | (go_at_call 37; refine hC1.mono ?_; rintro e u1 ⟨rfl, hA, hF⟩; have HU1 : Hid (Wb u1 wb B (((pre (L6) 300 gIs m.code i) ++ [ptN c.op]) ++ [ptN c.a]) X ∧ Fw wb B w u1 ∧ u1.heap[w.heap.size]? = some (.cells #[.string m.nm, .bool m.stc, .slice d1 m.args.length e1, .int .i64 m.ret, .int .i64 m.lo, .int .i64 m.st, .slice (some ⟨b, o, none⟩) m.code.length e2, .slice d3 m.tab.length e3, .slice d4 m.maps.length e4] 69 (0, 0))) := ⟨hA, HU0.out.2.1.trans hF, hF.box HU0.out.2.2 (fun e => by have := HWB.out; omega) (by decide)⟩; have g2 : u1.cell? ⟨b, o + i * 3 + 2, none⟩ = some (.int .i64 c.b) := (by rw [cell_same (HU1.out.2.1.bel.block b (HB.out))]; have := ha 2 _ rfl; rw [show kIs.k = 3 from rfl, show o + (i * 3 + 2) = o + i * 3 + 2 by omega] at this; exact this); have zu1 : u1.cell? ⟨w.heap.size, 6, none⟩ = some (.slice (some ⟨b, o, none⟩) m.code.length e2) := (by simp [World.cell?, HU1.out.2.2]); have hC2 := wnum_ok HU1.out.1 c.b (show Shr ((((pre (L6) 300 gIs m.code i) ++ [ptN c.op]) ++ [ptN c.a]) ++ [ptN c.b]) from shr_sub (R := []) HSH.out (by simp [gIs])); clear hC1 hA hF)
        | (go_at_call 37; refine hC2.mono ?_; rintro e u2 ⟨rfl, hA, hF⟩; have HU2 : Hid (Wb u2 wb B ((((pre (L6) 300 gIs m.code i) ++ [ptN c.op]) ++ [ptN c.a]) ++ [ptN c.b]) X ∧ Fw wb B w u2 ∧ u2.heap[w.heap.size]? = some (.cells #[.string m.nm, .bool m.stc, .slice d1 m.args.length e1, .int .i64 m.ret, .int .i64 m.lo, .int .i64 m.st, .slice (some ⟨b, o, none⟩) m.code.length e2, .slice d3 m.tab.length e3, .slice d4 m.maps.length e4] 69 (0, 0))) := ⟨hA, HU1.out.2.1.trans hF, hF.box HU1.out.2.2 (fun e => by have := HWB.out; omega) (by decide)⟩; clear hC2 hA hF))
      go_roundg (m.code.length - (i + 1))
      case measure => omega
      case rel => exact ⟨i + 1, by go_num, by omega, by omega, by rw [HEQ.out]; have q9 := HU2.out; rw [List.append_assoc, List.append_assoc] at q9; exact q9⟩
    · have hn : i = m.code.length := by omega
      subst hn
      have hl2 : ¬ ((m.code.length : Nat) : Int) < ((m.code.length : Nat) : Int) := by omega
      have zwr : wr.cell? ⟨w.heap.size, 6, none⟩ = some (.slice d2 m.code.length e2) := by simp [World.cell?, HL.out.2.2]
      have HE1 : Hid (Wb wr wb B (pre (L6) 300 gIs m.code m.code.length) X ∧ Fw wb B w wr ∧ wr.heap[w.heap.size]? = some (.cells #[.string m.nm, .bool m.stc, .slice d1 m.args.length e1, .int .i64 m.ret, .int .i64 m.lo, .int .i64 m.st, .slice d2 m.code.length e2, .slice d3 m.tab.length e3, .slice d4 m.maps.length e4] 69 (0, 0))) := HL.out
      rw [pre_all] at HE1
      clear HL hi hk
      have q7 : wr.cell? ⟨w.heap.size, 7, none⟩ = some (.slice d3 m.tab.length e3) := by simp [World.cell?, HE1.out.2.2]
      have hC9 := wcnt_ok HE1.out.1 m.tab.length 16 (by have := pre_shr HSR2.out 0; rw [pre_zero] at this; exact this)
      go_wp2_with (go_at_call 38; refine hC9.mono ?_; rintro e v7 ⟨rfl, hA, hF⟩; have HV7 : Hid (Wb v7 wb B ((L6 ++ ptL 300 gIs m.code) ++ [ptC m.tab.length 16]) X ∧ Fw wb B w v7 ∧ v7.heap[w.heap.size]? = some (.cells #[.string m.nm, .bool m.stc, .slice d1 m.args.length e1, .int .i64 m.ret, .int .i64 m.lo, .int .i64 m.st, .slice d2 m.code.length e2, .slice d3 m.tab.length e3, .slice d4 m.maps.length e4] 69 (0, 0))) := ⟨hA, HE1.out.2.1.trans hF, hF.box HE1.out.2.2 (fun e => by have := HWB.out; omega) (by decide)⟩; clear hC9 hA hF)
      clear HE1 q7 zwr
      go_loopg [5] (m.tab.length + 1) (fun kx s6 wr => ∃ i : Nat, s6 = .int .i64 i ∧ i ≤ m.tab.length ∧ m.tab.length - i ≤ kx ∧ Hid (Wb wr wb B (pre ((L6 ++ ptL 300 gIs m.code)) 16 gHd m.tab i) X ∧ Fw wb B w wr ∧ wr.heap[w.heap.size]? = some (.cells #[.string m.nm, .bool m.stc, .slice d1 m.args.length e1, .int .i64 m.ret, .int .i64 m.lo, .int .i64 m.st, .slice d2 m.code.length e2, .slice d3 m.tab.length e3, .slice d4 m.maps.length e4] 69 (0, 0))))
      case atStart => exact ⟨0, rfl, by omega, by omega, by rw [pre_zero]; exact HV7.out⟩
      case round =>
        obtain ⟨i, rfl, hi, hk, HL⟩ := hrel
        by_cases hlt : i < m.tab.length
        · obtain ⟨c, hc⟩ : ∃ c, m.tab[i]? = some c := ⟨_, List.getElem?_eq_getElem hlt⟩
          obtain ⟨b, o, rfl, hb, cs, r1, ha⟩ := V3.out.at3 hc
          have HB : Hid (b < B) := HS.out b hb
          have HSH : Hid (Shr ((pre ((L6 ++ ptL 300 gIs m.code)) 16 gHd m.tab (i + 1)))) := pre_shr HSR2.out (i + 1)
          have HEQ : Hid ((pre ((L6 ++ ptL 300 gIs m.code)) 16 gHd m.tab (i + 1)) = (pre ((L6 ++ ptL 300 gIs m.code)) 16 gHd m.tab i) ++ gHd c) := pre_succ _ _ _ hc
          rw [HEQ.out] at HSH
          obtain rfl := r1
          have g0 : wr.cell? ⟨b, o + i * 4, none⟩ = some (.int .i64 c.fr) := (by rw [cell_same (HL.out.2.1.bel.block b (HB.out))]; have := ha 0 _ rfl; rw [show kHd.k = 4 from rfl, show o + (i * 4 + 0) = o + i * 4 by omega] at this; exact this)
          have zwr : wr.cell? ⟨w.heap.size, 7, none⟩ = some (.slice (some ⟨b, o, none⟩) m.tab.length e3) := by simp [World.cell?, HL.out.2.2]
          have hl2 : (i : Int) < (m.tab.length : Int) := by omega
          have hC0 := wnum_ok HL.out.1 c.fr (show Shr ((pre ((L6 ++ ptL 300 gIs m.code)) 16 gHd m.tab i) ++ [ptN c.fr]) from shr_sub (R := [ptN c.to] ++ [ptN c.at_] ++ [ptN c.cl]) HSH.out (by simp [gHd]))
          clear hb hc
          go_wp2_with (first
            | (go_at_call 37; refine hC0.mono ?_; rintro e u0 ⟨rfl, hA, hF⟩; have HU0 : Hid (Wb u0 wb B ((pre ((L6 ++ ptL 300 gIs m.code)) 16 gHd m.tab i) ++ [ptN c.fr]) X ∧ Fw wb B w u0 ∧ u0.heap[w.heap.size]? = some (.cells #[.string m.nm, .bool m.stc, .slice d1 m.args.length e1, .int .i64 m.ret, .int .i64 m.lo, .int .i64 m.st, .slice d2 m.code.length e2, .slice (some ⟨b, o, none⟩) m.tab.length e3, .slice d4 m.maps.length e4] 69 (0, 0))) := ⟨hA, HL.out.2.1.trans hF, hF.box HL.out.2.2 (fun e => by have := HWB.out; omega) (by decide)⟩; have g1 : u0.cell? ⟨b, o + i * 4 + 1, none⟩ = some (.int .i64 c.to) := (by rw [cell_same (HU0.out.2.1.bel.block b (HB.out))]; have := ha 1 _ rfl; rw [show kHd.k = 4 from rfl, show o + (i * 4 + 1) = o + i * 4 + 1 by omega] at this; exact this); have zu0 : u0.cell? ⟨w.heap.size, 7, none⟩ = some (.slice (some ⟨b, o, none⟩) m.tab.length e3) := (by simp [World.cell?, HU0.out.2.2]); have hC1 := wnum_ok HU0.out.1 c.to (show Shr (((pre ((L6 ++ ptL 300 gIs m.code)) 16 gHd m.tab i) ++ [ptN c.fr]) ++ [ptN c.to]) from shr_sub (R := [ptN c.at_] ++ [ptN c.cl]) HSH.out (by simp [gHd])); clear hC0 hA hF)
            | (go_at_call 37; refine hC1.mono ?_; rintro e u1 ⟨rfl, hA, hF⟩; have HU1 : Hid (Wb u1 wb B (((pre ((L6 ++ ptL 300 gIs m.code)) 16 gHd m.tab i) ++ [ptN c.fr]) ++ [ptN c.to]) X ∧ Fw wb B w u1 ∧ u1.heap[w.heap.size]? = some (.cells #[.string m.nm, .bool m.stc, .slice d1 m.args.length e1, .int .i64 m.ret, .int .i64 m.lo, .int .i64 m.st, .slice d2 m.code.length e2, .slice (some ⟨b, o, none⟩) m.tab.length e3, .slice d4 m.maps.length e4] 69 (0, 0))) := ⟨hA, HU0.out.2.1.trans hF, hF.box HU0.out.2.2 (fun e => by have := HWB.out; omega) (by decide)⟩; have g2 : u1.cell? ⟨b, o + i * 4 + 2, none⟩ = some (.int .i64 c.at_) := (by rw [cell_same (HU1.out.2.1.bel.block b (HB.out))]; have := ha 2 _ rfl; rw [show kHd.k = 4 from rfl, show o + (i * 4 + 2) = o + i * 4 + 2 by omega] at this; exact this); have zu1 : u1.cell? ⟨w.heap.size, 7, none⟩ = some (.slice (some ⟨b, o, none⟩) m.tab.length e3) := (by simp [World.cell?, HU1.out.2.2]); have hC2 := wnum_ok HU1.out.1 c.at_ (show Shr ((((pre ((L6 ++ ptL 300 gIs m.code)) 16 gHd m.tab i) ++ [ptN c.fr]) ++ [ptN c.to]) ++ [ptN c.at_]) from shr_sub (R := [ptN c.cl]) HSH.out (by simp [gHd])); clear hC1 hA hF)
            | (go_at_call 37; refine hC2.mono ?_; rintro e u2 ⟨rfl, hA, hF⟩; have HU2 : Hid (Wb u2 wb B ((((pre ((L6 ++ ptL 300 gIs m.code)) 16 gHd m.tab i) ++ [ptN c.fr]) ++ [ptN c.to]) ++ [ptN c.at_]) X ∧ Fw wb B w u2 ∧ u2.heap[w.heap.size]? = some (.cells #[.string m.nm, .bool m.stc, .slice d1 m.args.length e1, .int .i64 m.ret, .int .i64 m.lo, .int .i64 m.st, .slice d2 m.code.length e2, .slice (some ⟨b, o, none⟩) m.tab.length e3, .slice d4 m.maps.length e4] 69 (0, 0))) := ⟨hA, HU1.out.2.1.trans hF, hF.box HU1.out.2.2 (fun e => by have := HWB.out; omega) (by decide)⟩; have g3 : u2.cell? ⟨b, o + i * 4 + 3, none⟩ = some (.int .i64 c.cl) := (by rw [cell_same (HU2.out.2.1.bel.block b (HB.out))]; have := ha 3 _ rfl; rw [show kHd.k = 4 from rfl, show o + (i * 4 + 3) = o + i * 4 + 3 by omega] at this; exact this); have zu2 : u2.cell? ⟨w.heap.size, 7, none⟩ = some (.slice (some ⟨b, o, none⟩) m.tab.length e3) := (by simp [World.cell?, HU2.out.2.2]); have hC3 := wnum_ok HU2.out.1 c.cl (show Shr (((((pre ((L6 ++ ptL 300 gIs m.code)) 16 gHd m.tab i) ++ [ptN c.fr]) ++ [ptN c.to]) ++ [ptN c.at_]) ++ [ptN c.cl]) from shr_sub (R := []) HSH.out (by simp [gHd])); clear hC2 hA hF)
            | (go_at_call 37; refine hC3.mono ?_; rintro e u3 ⟨rfl, hA, hF⟩; have HU3 : Hid (Wb u3 wb B (((((pre ((L6 ++ ptL 300 gIs m.code)) 16 gHd m.tab i) ++ [ptN c.fr]) ++ [ptN c.to]) ++ [ptN c.at_]) ++ [ptN c.cl]) X ∧ Fw wb B w u3 ∧ u3.heap[w.heap.size]? = some (.cells #[.string m.nm, .bool m.stc, .slice d1 m.args.length e1, .int .i64 m.ret, .int .i64 m.lo, .int .i64 m.st, .slice d2 m.code.length e2, .slice (some ⟨b, o, none⟩) m.tab.length e3, .slice d4 m.maps.length e4] 69 (0, 0))) := ⟨hA, HU2.out.2.1.trans hF, hF.box HU2.out.2.2 (fun e => by have := HWB.out; omega) (by decide)⟩; clear hC3 hA hF))
          go_roundg (m.tab.length - (i + 1))
          case measure => omega
          case rel => exact ⟨i + 1, by go_num, by omega, by omega, by rw [HEQ.out]; have q9 := HU3.out; rw [List.append_assoc, List.append_assoc, List.append_assoc] at q9; exact q9⟩
        · have hn : i = m.tab.length := by omega
          subst hn
          have hl2 : ¬ ((m.tab.length : Nat) : Int) < ((m.tab.length : Nat) : Int) := by omega
          have zwr : wr.cell? ⟨w.heap.size, 7, none⟩ = some (.slice d3 m.tab.length e3) := by simp [World.cell?, HL.out.2.2]
          have HE2 : Hid (Wb wr wb B (pre ((L6 ++ ptL 300 gIs m.code)) 16 gHd m.tab m.tab.length) X ∧ Fw wb B w wr ∧ wr.heap[w.heap.size]? = some (.cells #[.string m.nm, .bool m.stc, .slice d1 m.args.length e1, .int .i64 m.ret, .int .i64 m.lo, .int .i64 m.st, .slice d2 m.code.length e2, .slice d3 m.tab.length e3, .slice d4 m.maps.length e4] 69 (0, 0))) := HL.out
          rw [pre_all] at HE2
          clear HL hi hk
          have HSR3 : Hid (Shr ((L6 ++ ptL 300 gIs m.code ++ ptL 16 gHd m.tab) ++ ptL 64 gMp m.maps)) := HSR3
          have q8 : wr.cell? ⟨w.heap.size, 8, none⟩ = some (.slice d4 m.maps.length e4) := by simp [World.cell?, HE2.out.2.2]
          have hC10 := wcnt_ok HE2.out.1 m.maps.length 64 (by have := pre_shr HSR3.out 0; rw [pre_zero] at this; exact this)
          go_wp2_with (go_at_call 38; refine hC10.mono ?_; rintro e v8 ⟨rfl, hA, hF⟩; have HV8 : Hid (Wb v8 wb B ((L6 ++ ptL 300 gIs m.code ++ ptL 16 gHd m.tab) ++ [ptC m.maps.length 64]) X ∧ Fw wb B w v8 ∧ v8.heap[w.heap.size]? = some (.cells #[.string m.nm, .bool m.stc, .slice d1 m.args.length e1, .int .i64 m.ret, .int .i64 m.lo, .int .i64 m.st, .slice d2 m.code.length e2, .slice d3 m.tab.length e3, .slice d4 m.maps.length e4] 69 (0, 0))) := ⟨hA, HE2.out.2.1.trans hF, hF.box HE2.out.2.2 (fun e => by have := HWB.out; omega) (by decide)⟩; clear hC10 hA hF)
          clear HE2 q8 zwr
          go_loopg [6] (m.maps.length + 1) (fun kx s6 wr => ∃ i : Nat, s6 = .int .i64 i ∧ i ≤ m.maps.length ∧ m.maps.length - i ≤ kx ∧ Hid (Wb wr wb B (pre ((L6 ++ ptL 300 gIs m.code ++ ptL 16 gHd m.tab)) 64 gMp m.maps i) X ∧ Fw wb B w wr ∧ wr.heap[w.heap.size]? = some (.cells #[.string m.nm, .bool m.stc, .slice d1 m.args.length e1, .int .i64 m.ret, .int .i64 m.lo, .int .i64 m.st, .slice d2 m.code.length e2, .slice d3 m.tab.length e3, .slice d4 m.maps.length e4] 69 (0, 0))))
          case atStart => exact ⟨0, rfl, by omega, by omega, by rw [pre_zero]; exact HV8.out⟩
          case round =>
            obtain ⟨i, rfl, hi, hk, HL⟩ := hrel
            by_cases hlt : i < m.maps.length
            · obtain ⟨c, hc⟩ : ∃ c, m.maps[i]? = some c := ⟨_, List.getElem?_eq_getElem hlt⟩
              obtain ⟨b, o, rfl, hb, cs, r1, ha⟩ := V4.out.at3 hc
              have HB : Hid (b < B) := HS.out b hb
              have HSH : Hid (Shr ((pre ((L6 ++ ptL 300 gIs m.code ++ ptL 16 gHd m.tab)) 64 gMp m.maps (i + 1)))) := pre_shr HSR3.out (i + 1)
              have HEQ : Hid ((pre ((L6 ++ ptL 300 gIs m.code ++ ptL 16 gHd m.tab)) 64 gMp m.maps (i + 1)) = (pre ((L6 ++ ptL 300 gIs m.code ++ ptL 16 gHd m.tab)) 64 gMp m.maps i) ++ gMp c) := pre_succ _ _ _ hc
              rw [HEQ.out] at HSH
              obtain ⟨v1, v2, rfl, y1, y2⟩ := r1
              have E1 : Hid (Sl kI w S v1 c.lo) := y1
              have E2 : Hid (Sl kI w S v2 c.st) := y2
              obtain ⟨a1, c1, rfl, -⟩ := y1
              obtain ⟨a2, c2, rfl, -⟩ := y2
              have g0 : wr.cell? ⟨b, o + i * 3, none⟩ = some (.int .i64 c.at_) := (by rw [cell_same (HL.out.2.1.bel.block b (HB.out))]; have := ha 0 _ rfl; rw [show kMp.k = 3 from rfl, show o + (i * 3 + 0) = o + i * 3 by omega] at this; exact this)
              have zwr : wr.cell? ⟨w.heap.size, 8, none⟩ = some (.slice (some ⟨b, o, none⟩) m.maps.length e4) := by simp [World.cell?, HL.out.2.2]
              have hl2 : (i : Int) < (m.maps.length : Int) := by omega
              have hC0 := wnum_ok HL.out.1 c.at_ (show Shr ((pre ((L6 ++ ptL 300 gIs m.code ++ ptL 16 gHd m.tab)) 64 gMp m.maps i) ++ [ptN c.at_]) from shr_sub (R := (ptL 24 gN1 c.lo) ++ (ptL 24 gN1 c.st)) HSH.out (by simp [gMp, ptL]))
              clear hb hc
              go_wp2_with (first
                | (go_at_call 37; refine hC0.mono ?_; rintro e u0 ⟨rfl, hA, hF⟩; have HU0 : Hid (Wb u0 wb B ((pre ((L6 ++ ptL 300 gIs m.code ++ ptL 16 gHd m.tab)) 64 gMp m.maps i) ++ [ptN c.at_]) X ∧ Fw wb B w u0 ∧ u0.heap[w.heap.size]? = some (.cells #[.string m.nm, .bool m.stc, .slice d1 m.args.length e1, .int .i64 m.ret, .int .i64 m.lo, .int .i64 m.st, .slice d2 m.code.length e2, .slice d3 m.tab.length e3, .slice (some ⟨b, o, none⟩) m.maps.length e4] 69 (0, 0))) := ⟨hA, HL.out.2.1.trans hF, hF.box HL.out.2.2 (fun e => by have := HWB.out; omega) (by decide)⟩; have g1 : u0.cell? ⟨b, o + i * 3 + 1, none⟩ = some (.slice a1 c.lo.length c1) := (by rw [cell_same (HU0.out.2.1.bel.block b (HB.out))]; have := ha 1 _ rfl; rw [show kMp.k = 3 from rfl, show o + (i * 3 + 1) = o + i * 3 + 1 by omega] at this; exact this); have zu0 : u0.cell? ⟨w.heap.size, 8, none⟩ = some (.slice (some ⟨b, o, none⟩) m.maps.length e4) := (by simp [World.cell?, HU0.out.2.2]); have hC1 := wlist_ok HU0.out.1 (lives E1.out HU0.out.2.1 HS.out) HS.out 24 (show Shr (((pre ((L6 ++ ptL 300 gIs m.code ++ ptL 16 gHd m.tab)) 64 gMp m.maps i) ++ [ptN c.at_]) ++ (ptL 24 gN1 c.lo)) from shr_sub (R := (ptL 24 gN1 c.st)) HSH.out (by simp [gMp, ptL])); clear hC0 hA hF)
                | (go_at_call 60; refine hC1.mono ?_; rintro e u1 ⟨rfl, hA, hF⟩; have HU1 : Hid (Wb u1 wb B (((pre ((L6 ++ ptL 300 gIs m.code ++ ptL 16 gHd m.tab)) 64 gMp m.maps i) ++ [ptN c.at_]) ++ (ptL 24 gN1 c.lo)) X ∧ Fw wb B w u1 ∧ u1.heap[w.heap.size]? = some (.cells #[.string m.nm, .bool m.stc, .slice d1 m.args.length e1, .int .i64 m.ret, .int .i64 m.lo, .int .i64 m.st, .slice d2 m.code.length e2, .slice d3 m.tab.length e3, .slice (some ⟨b, o, none⟩) m.maps.length e4] 69 (0, 0))) := ⟨hA, HU0.out.2.1.trans hF, hF.box HU0.out.2.2 (fun e => by have := HWB.out; omega) (by decide)⟩; have g2 : u1.cell? ⟨b, o + i * 3 + 2, none⟩ = some (.slice a2 c.st.length c2) := (by rw [cell_same (HU1.out.2.1.bel.block b (HB.out))]; have := ha 2 _ rfl; rw [show kMp.k = 3 from rfl, show o + (i * 3 + 2) = o + i * 3 + 2 by omega] at this; exact this); have zu1 : u1.cell? ⟨w.heap.size, 8, none⟩ = some (.slice (some ⟨b, o, none⟩) m.maps.length e4) := (by simp [World.cell?, HU1.out.2.2]); have hC2 := wlist_ok HU1.out.1 (lives E2.out HU1.out.2.1 HS.out) HS.out 24 (show Shr ((((pre ((L6 ++ ptL 300 gIs m.code ++ ptL 16 gHd m.tab)) 64 gMp m.maps i) ++ [ptN c.at_]) ++ (ptL 24 gN1 c.lo)) ++ (ptL 24 gN1 c.st)) from shr_sub (R := []) HSH.out (by simp [gMp, ptL])); clear hC1 hA hF)
                | (go_at_call 60; refine hC2.mono ?_; rintro e u2 ⟨rfl, hA, hF⟩; have HU2 : Hid (Wb u2 wb B ((((pre ((L6 ++ ptL 300 gIs m.code ++ ptL 16 gHd m.tab)) 64 gMp m.maps i) ++ [ptN c.at_]) ++ (ptL 24 gN1 c.lo)) ++ (ptL 24 gN1 c.st)) X ∧ Fw wb B w u2 ∧ u2.heap[w.heap.size]? = some (.cells #[.string m.nm, .bool m.stc, .slice d1 m.args.length e1, .int .i64 m.ret, .int .i64 m.lo, .int .i64 m.st, .slice d2 m.code.length e2, .slice d3 m.tab.length e3, .slice (some ⟨b, o, none⟩) m.maps.length e4] 69 (0, 0))) := ⟨hA, HU1.out.2.1.trans hF, hF.box HU1.out.2.2 (fun e => by have := HWB.out; omega) (by decide)⟩; clear hC2 hA hF))
              go_roundg (m.maps.length - (i + 1))
              case measure => omega
              case rel => exact ⟨i + 1, by go_num, by omega, by omega, by rw [HEQ.out]; have q9 := HU2.out; rw [List.append_assoc, List.append_assoc] at q9; exact q9⟩
            · have hn : i = m.maps.length := by omega
              subst hn
              have hl2 : ¬ ((m.maps.length : Nat) : Int) < ((m.maps.length : Nat) : Int) := by omega
              have zwr : wr.cell? ⟨w.heap.size, 8, none⟩ = some (.slice d4 m.maps.length e4) := by simp [World.cell?, HL.out.2.2]
              have HE3 : Hid (Wb wr wb B (pre ((L6 ++ ptL 300 gIs m.code ++ ptL 16 gHd m.tab)) 64 gMp m.maps m.maps.length) X ∧ Fw wb B w wr ∧ wr.heap[w.heap.size]? = some (.cells #[.string m.nm, .bool m.stc, .slice d1 m.args.length e1, .int .i64 m.ret, .int .i64 m.lo, .int .i64 m.st, .slice d2 m.code.length e2, .slice d3 m.tab.length e3, .slice d4 m.maps.length e4] 69 (0, 0))) := HL.out
              rw [pre_all] at HE3
              clear HL hi hk
              go_wp2
              go_end0
              exact ⟨rfl, by have := HE3.out.1; rw [HL6.out] at this; simp only [gMd, List.append_assoc, List.cons_append, List.nil_append] at this ⊢; exact this, HE3.out.2.1⟩
end Go.Proofs.YtdgndglinkcdbaaDoor
/- The document's own writer: class. -/
namespace Go.Proofs.YtdgndglinkcdbaaDoor
open Go.RowKit

theorem Wb.drew {w : World} {wb B : Nat} {L : List Pt} {X : Bool} (h : Wb w wb B L X) : Wb w.drew wb B L X := by
  obtain ⟨⟨v, hb, how⟩, hlo, hpos⟩ := h
  exact ⟨⟨v, hb, how⟩, hlo, hpos⟩
theorem Fw.undrew {w w' : World} {wb B : Nat} (h : Fw wb B w.drew w') : Fw wb B w w' := ⟨⟨h.bel.os, h.bel.tape, h.bel.output, h.bel.size, h.bel.block⟩, h.oth⟩
set_option maxHeartbeats 8000000 in
set_option maxRecDepth 20000 in
theorem wclass_ok {w : World} {wb B : Nat} {L : List Pt} {X : Bool} {S : Nat → Prop} {m : Cs} {cs : List Value} (H : Wb w wb B L X) (hR : kCs.R w S m cs) (hS : ∀ k, S k → k < B) (hl : Shr (L ++ gCs m)) : Calls Tryd.prog 39 #[.pointer (some ⟨wb, 0, none⟩), .agg cs.toArray] w fun e w' => e = .returned (.tuple #[]) ∧ Wb w' wb B (L ++ gCs m) X ∧ Fw wb B w w' := by
  obtain ⟨y1, y2, y3, y4, rfl, h1, h2, h3, h4⟩ := hR
  have V1 : Hid (Sl kI w S y1 m.faces) := h1
  have V2 : Hid (Sl kFd w S y2 m.flds) := h2
  have V3 : Hid (Sl kFd w S y3 m.stcs) := h3
  have V4 : Hid (Sl kMd w S y4 m.mds) := h4
  obtain ⟨d1, e1, rfl, -⟩ := h1
  obtain ⟨d2, e2, rfl, -⟩ := h2
  obtain ⟨d3, e3, rfl, -⟩ := h3
  obtain ⟨d4, e4, rfl, m4, -⟩ := h4
  unfold maxLen at m4
  have HS : Hid (∀ k, S k → k < B) := hS
  have HSH : Hid (Shr (L ++ gCs m)) := hl
  have HWB : Hid (wb < w.heap.size) := H.lt
  have HU0 : Hid (Wb (w.alloc (.cells #[.string m.nm, .bool m.face, .bool m.fin, .int .i64 m.sup, .slice d1 m.faces.length e1, .slice d2 m.flds.length e2, .slice d3 m.stcs.length e3, .slice d4 m.mds.length e4] 62)) wb B L X ∧ Fw wb B w (w.alloc (.cells #[.string m.nm, .bool m.face, .bool m.fin, .int .i64 m.sup, .slice d1 m.faces.length e1, .slice d2 m.flds.length e2, .slice d3 m.stcs.length e3, .slice d4 m.mds.length e4] 62)) ∧ (w.alloc (.cells #[.string m.nm, .bool m.face, .bool m.fin, .int .i64 m.sup, .slice d1 m.faces.length e1, .slice d2 m.flds.length e2, .slice d3 m.stcs.length e3, .slice d4 m.mds.length e4] 62)).heap[w.heap.size]? = some (.cells #[.string m.nm, .bool m.face, .bool m.fin, .int .i64 m.sup, .slice d1 m.faces.length e1, .slice d2 m.flds.length e2, .slice d3 m.stcs.length e3, .slice d4 m.mds.length e4] 62 (0, 0))) := ⟨(H.alloc _).1, (H.alloc _).2, heap_alloc_new _ _⟩
  have k0 : (w.alloc (.cells #[.string m.nm, .bool m.face, .bool m.fin, .int .i64 m.sup, .slice d1 m.faces.length e1, .slice d2 m.flds.length e2, .slice d3 m.stcs.length e3, .slice d4 m.mds.length e4] 62)).cell? ⟨w.heap.size, 0, none⟩ = some (.string m.nm) := by simp only [World.cell?]; rw [HU0.out.2.2]; rfl
  have hC1 := wtxt_ok HU0.out.1 m.nm (txt_len (show Shr (L ++ [ptT m.nm]) from shr_sub (R := ptN (fl m.face 1 + fl m.fin 2) :: ptN m.sup :: (ptL 8 gN1 m.faces ++ (ptL 24 gFd m.flds ++ (ptL 24 gFd m.stcs ++ ptL 24 gMd m.mds)))) HSH.out (by simp [gCs]))) (show Shr (L ++ [ptT m.nm]) from shr_sub (R := ptN (fl m.face 1 + fl m.fin 2) :: ptN m.sup :: (ptL 8 gN1 m.faces ++ (ptL 24 gFd m.flds ++ (ptL 24 gFd m.stcs ++ ptL 24 gMd m.mds)))) HSH.out (by simp [gCs]))
  clear hS hl H
  go_enter Tryd.func39, Tryd.ntmps39
  go_upto_region 2 with (first
    | (go_at_call 58; refine hC1.mono ?_; rintro e u1 ⟨rfl, hA, hF⟩; have HU1 : Hid (Wb u1 wb B (L ++ [ptT m.nm]) X ∧ Fw wb B w u1 ∧ u1.heap[w.heap.size]? = some (.cells #[.string m.nm, .bool m.face, .bool m.fin, .int .i64 m.sup, .slice d1 m.faces.length e1, .slice d2 m.flds.length e2, .slice d3 m.stcs.length e3, .slice d4 m.mds.length e4] 62 (0, 0))) := ⟨hA, HU0.out.2.1.trans hF, hF.box HU0.out.2.2 (fun e => by have := HWB.out; omega) (by decide)⟩; have k11 : u1.cell? ⟨w.heap.size, 1, none⟩ = some (.bool m.face) := (by simp [World.cell?, HU1.out.2.2]); have k12 : u1.cell? ⟨w.heap.size, 2, none⟩ = some (.bool m.fin) := (by simp [World.cell?, HU1.out.2.2]); clear hC1 hA hF HU0))
  have HC2 : Hid (Calls Tryd.prog 37 #[.pointer (some ⟨wb, 0, none⟩), .int .i64 (fl m.face 1 + fl m.fin 2)] u1.drew fun e w' => e = .returned (.tuple #[]) ∧ Wb w' wb B (L ++ [ptT m.nm] ++ [ptN (fl m.face 1 + fl m.fin 2)]) X ∧ Fw wb B u1 w') := (wnum_ok (w := u1.drew) (Wb.drew HU1.out.1) _ (show Shr (L ++ [ptT m.nm] ++ [ptN (fl m.face 1 + fl m.fin 2)]) from shr_sub (R := ptN m.sup :: (ptL 8 gN1 m.faces ++ (ptL 24 gFd m.flds ++ (ptL 24 gFd m.stcs ++ ptL 24 gMd m.mds)))) HSH.out (by simp [gCs]))).mono fun e w' h => ⟨h.1, h.2.1, h.2.2.undrew⟩
  have HFL : Hid (IntKind.i64.wrap (fl m.face 1 + fl m.fin 2) = fl m.face 1 + fl m.fin 2) := by show _ = _; cases m.face <;> cases m.fin <;> kernel_rfl
  go_cut [] from 9 to 17 (fun wx => ∃ u2 : World, u2 = wx ∧ Hid (Wb u2 wb B (L ++ [ptT m.nm] ++ [ptN (fl m.face 1 + fl m.fin 2)]) X ∧ Fw wb B w u2 ∧ u2.heap[w.heap.size]? = some (.cells #[.string m.nm, .bool m.face, .bool m.fin, .int .i64 m.sup, .slice d1 m.faces.length e1, .slice d2 m.flds.length e2, .slice d3 m.stcs.length e3, .slice d4 m.mds.length e4] 62 (0, 0))))
  case first =>
    go_region_with (first
      | (go_at_call 59; refine (flag_any _ _ _).mono ?_; rintro e w9 ⟨rfl, hw9⟩; replace hw9 := hw9.symm; subst hw9)
      | (go_at_call 37; rw [HFL.out]; refine HC2.out.mono ?_; rintro e u2 ⟨rfl, hA, hF⟩; have HU2 : Hid (Wb u2 wb B (L ++ [ptT m.nm] ++ [ptN (fl m.face 1 + fl m.fin 2)]) X ∧ Fw wb B w u2 ∧ u2.heap[w.heap.size]? = some (.cells #[.string m.nm, .bool m.face, .bool m.fin, .int .i64 m.sup, .slice d1 m.faces.length e1, .slice d2 m.flds.length e2, .slice d3 m.stcs.length e3, .slice d4 m.mds.length e4] 62 (0, 0))) := ⟨hA, HU1.out.2.1.trans hF, hF.box HU1.out.2.2 (fun e => by have := HWB.out; omega) (by decide)⟩; clear hA hF))
    all_goals (go_wp2_with (fail); go_meet; exact ⟨_, rfl, HU2⟩)
  case rest =>
  obtain ⟨u2, hu2, HU2⟩ := hcut
  subst hu2
  have k23 : u2.cell? ⟨w.heap.size, 3, none⟩ = some (.int .i64 m.sup) := by simp [World.cell?, HU2.out.2.2]
  have hC3 := wnum_ok HU2.out.1 m.sup (show Shr (L ++ [ptT m.nm] ++ [ptN (fl m.face 1 + fl m.fin 2)] ++ [ptN m.sup]) from shr_sub (R := ptL 8 gN1 m.faces ++ (ptL 24 gFd m.flds ++ (ptL 24 gFd m.stcs ++ ptL 24 gMd m.mds))) HSH.out (by simp [gCs]))
  clear HC2 HU1
  go_upto_region 8 with (first
    | (go_at_call 37; refine hC3.mono ?_; rintro e u3 ⟨rfl, hA, hF⟩; have HU3 : Hid (Wb u3 wb B (L ++ [ptT m.nm] ++ [ptN (fl m.face 1 + fl m.fin 2)] ++ [ptN m.sup]) X ∧ Fw wb B w u3 ∧ u3.heap[w.heap.size]? = some (.cells #[.string m.nm, .bool m.face, .bool m.fin, .int .i64 m.sup, .slice d1 m.faces.length e1, .slice d2 m.flds.length e2, .slice d3 m.stcs.length e3, .slice d4 m.mds.length e4] 62 (0, 0))) := ⟨hA, HU2.out.2.1.trans hF, hF.box HU2.out.2.2 (fun e => by have := HWB.out; omega) (by decide)⟩; have k34 : u3.cell? ⟨w.heap.size, 4, none⟩ = some (.slice d1 m.faces.length e1) := (by simp [World.cell?, HU3.out.2.2]); have hC4 := wlist_ok HU3.out.1 (lives V1.out HU3.out.2.1 HS.out) HS.out 8 (show Shr ((L ++ [ptT m.nm] ++ [ptN (fl m.face 1 + fl m.fin 2)] ++ [ptN m.sup]) ++ ptL 8 gN1 m.faces) from shr_sub (R := ptL 24 gFd m.flds ++ (ptL 24 gFd m.stcs ++ ptL 24 gMd m.mds)) HSH.out (by simp [gCs])); clear hC3 hA hF HU2)
    | (go_at_call 60; refine hC4.mono ?_; rintro e u4 ⟨rfl, hA, hF⟩; have HU4 : Hid (Wb u4 wb B ((L ++ [ptT m.nm] ++ [ptN (fl m.face 1 + fl m.fin 2)] ++ [ptN m.sup]) ++ ptL 8 gN1 m.faces) X ∧ Fw wb B w u4 ∧ u4.heap[w.heap.size]? = some (.cells #[.string m.nm, .bool m.face, .bool m.fin, .int .i64 m.sup, .slice d1 m.faces.length e1, .slice d2 m.flds.length e2, .slice d3 m.stcs.length e3, .slice d4 m.mds.length e4] 62 (0, 0))) := ⟨hA, HU3.out.2.1.trans hF, hF.box HU3.out.2.2 (fun e => by have := HWB.out; omega) (by decide)⟩; have k45 : u4.cell? ⟨w.heap.size, 5, none⟩ = some (.slice d2 m.flds.length e2) := (by simp [World.cell?, HU4.out.2.2]); have hC5 := wfields_ok HU4.out.1 (lives V2.out HU4.out.2.1 HS.out) HS.out (show Shr (((L ++ [ptT m.nm] ++ [ptN (fl m.face 1 + fl m.fin 2)] ++ [ptN m.sup]) ++ ptL 8 gN1 m.faces) ++ ptL 24 gFd m.flds) from shr_sub (R := ptL 24 gFd m.stcs ++ ptL 24 gMd m.mds) HSH.out (by simp [gCs])); clear hC4 hA hF HU3)
    | (go_at_call 61; refine hC6.mono ?_; rintro e u6 ⟨rfl, hA, hF⟩; have HU6 : Hid (Wb u6 wb B ((((L ++ [ptT m.nm] ++ [ptN (fl m.face 1 + fl m.fin 2)] ++ [ptN m.sup]) ++ ptL 8 gN1 m.faces) ++ ptL 24 gFd m.flds) ++ ptL 24 gFd m.stcs) X ∧ Fw wb B w u6 ∧ u6.heap[w.heap.size]? = some (.cells #[.string m.nm, .bool m.face, .bool m.fin, .int .i64 m.sup, .slice d1 m.faces.length e1, .slice d2 m.flds.length e2, .slice d3 m.stcs.length e3, .slice d4 m.mds.length e4] 62 (0, 0))) := ⟨hA, HU5.out.2.1.trans hF, hF.box HU5.out.2.2 (fun e => by have := HWB.out; omega) (by decide)⟩; have k67 : u6.cell? ⟨w.heap.size, 7, none⟩ = some (.slice d4 m.mds.length e4) := (by simp [World.cell?, HU6.out.2.2]); have HSR1 : Hid (Shr (((((L ++ [ptT m.nm] ++ [ptN (fl m.face 1 + fl m.fin 2)] ++ [ptN m.sup]) ++ ptL 8 gN1 m.faces) ++ ptL 24 gFd m.flds) ++ ptL 24 gFd m.stcs) ++ ptL 24 gMd m.mds)) := shr_sub (R := []) HSH.out (by simp [gCs]); have hC7 := wcnt_ok HU6.out.1 m.mds.length 24 (by have := pre_shr HSR1.out 0; rw [pre_zero] at this; exact this); clear hC6 hA hF HU5)
    | (go_at_call 61; refine hC5.mono ?_; rintro e u5 ⟨rfl, hA, hF⟩; have HU5 : Hid (Wb u5 wb B (((L ++ [ptT m.nm] ++ [ptN (fl m.face 1 + fl m.fin 2)] ++ [ptN m.sup]) ++ ptL 8 gN1 m.faces) ++ ptL 24 gFd m.flds) X ∧ Fw wb B w u5 ∧ u5.heap[w.heap.size]? = some (.cells #[.string m.nm, .bool m.face, .bool m.fin, .int .i64 m.sup, .slice d1 m.faces.length e1, .slice d2 m.flds.length e2, .slice d3 m.stcs.length e3, .slice d4 m.mds.length e4] 62 (0, 0))) := ⟨hA, HU4.out.2.1.trans hF, hF.box HU4.out.2.2 (fun e => by have := HWB.out; omega) (by decide)⟩; have k56 : u5.cell? ⟨w.heap.size, 6, none⟩ = some (.slice d3 m.stcs.length e3) := (by simp [World.cell?, HU5.out.2.2]); have hC6 := wfields_ok HU5.out.1 (lives V3.out HU5.out.2.1 HS.out) HS.out (show Shr ((((L ++ [ptT m.nm] ++ [ptN (fl m.face 1 + fl m.fin 2)] ++ [ptN m.sup]) ++ ptL 8 gN1 m.faces) ++ ptL 24 gFd m.flds) ++ ptL 24 gFd m.stcs) from shr_sub (R := ptL 24 gMd m.mds) HSH.out (by simp [gCs])); clear hC5 hA hF HU4)
    | (go_at_call 38; refine hC7.mono ?_; rintro e u7 ⟨rfl, hA, hF⟩; have HU7 : Hid (Wb u7 wb B (((((L ++ [ptT m.nm] ++ [ptN (fl m.face 1 + fl m.fin 2)] ++ [ptN m.sup]) ++ ptL 8 gN1 m.faces) ++ ptL 24 gFd m.flds) ++ ptL 24 gFd m.stcs) ++ [ptC m.mds.length 24]) X ∧ Fw wb B w u7 ∧ u7.heap[w.heap.size]? = some (.cells #[.string m.nm, .bool m.face, .bool m.fin, .int .i64 m.sup, .slice d1 m.faces.length e1, .slice d2 m.flds.length e2, .slice d3 m.stcs.length e3, .slice d4 m.mds.length e4] 62 (0, 0))) := ⟨hA, HU6.out.2.1.trans hF, hF.box HU6.out.2.2 (fun e => by have := HWB.out; omega) (by decide)⟩; clear hC7 hA hF HU6))
  go_wp2_with (fail)
  go_loopg [4] (m.mds.length + 1) (fun kx s6 wr => ∃ i : Nat, s6 = .int .i64 i ∧ i ≤ m.mds.length ∧ m.mds.length - i ≤ kx ∧ Hid (Wb wr wb B (pre (((((L ++ [ptT m.nm] ++ [ptN (fl m.face 1 + fl m.fin 2)] ++ [ptN m.sup]) ++ ptL 8 gN1 m.faces) ++ ptL 24 gFd m.flds) ++ ptL 24 gFd m.stcs)) 24 gMd m.mds i) X ∧ Fw wb B w wr ∧ wr.heap[w.heap.size]? = some (.cells #[.string m.nm, .bool m.face, .bool m.fin, .int .i64 m.sup, .slice d1 m.faces.length e1, .slice d2 m.flds.length e2, .slice d3 m.stcs.length e3, .slice d4 m.mds.length e4] 62 (0, 0))))
  case atStart => exact ⟨0, rfl, by omega, by omega, by rw [pre_zero]; exact HU7.out⟩
  case round =>
    obtain ⟨i, rfl, hi, hk, HL⟩ := hrel
    by_cases hlt : i < m.mds.length
    · obtain ⟨c, hc⟩ : ∃ c, m.mds[i]? = some c := ⟨_, List.getElem?_eq_getElem hlt⟩
      obtain ⟨b, o, rfl, hb, cs, r1, ha⟩ := V4.out.at3 hc
      have HB : Hid (b < B) := HS.out b hb
      have HEQ : Hid ((pre (((((L ++ [ptT m.nm] ++ [ptN (fl m.face 1 + fl m.fin 2)] ++ [ptN m.sup]) ++ ptL 8 gN1 m.faces) ++ ptL 24 gFd m.flds) ++ ptL 24 gFd m.stcs)) 24 gMd m.mds (i + 1)) = (pre (((((L ++ [ptT m.nm] ++ [ptN (fl m.face 1 + fl m.fin 2)] ++ [ptN m.sup]) ++ ptL 8 gN1 m.faces) ++ ptL 24 gFd m.flds) ++ ptL 24 gFd m.stcs)) 24 gMd m.mds i) ++ gMd c) := pre_succ _ _ _ hc
      have HSH1 : Hid (Shr ((pre (((((L ++ [ptT m.nm] ++ [ptN (fl m.face 1 + fl m.fin 2)] ++ [ptN m.sup]) ++ ptL 8 gN1 m.faces) ++ ptL 24 gFd m.flds) ++ ptL 24 gFd m.stcs)) 24 gMd m.mds i) ++ gMd c)) := by show Shr _; rw [← HEQ.out]; exact pre_shr HSR1.out (i + 1)
      have hC0 := wmethod_ok HL.out.1 (kMd.keep (fun k hk => HL.out.2.1.bel.block k (HS.out k hk)) r1) HS.out HSH1.out
      obtain ⟨y1, y2, y3, y4, rfl, t1, t2, t3, t4⟩ := r1
      obtain ⟨a1, c1, rfl, -⟩ := t1
      obtain ⟨a2, c2, rfl, -⟩ := t2
      obtain ⟨a3, c3, rfl, -⟩ := t3
      obtain ⟨a4, c4, rfl, -⟩ := t4
      have g0 : wr.cell? ⟨b, o + i * 9, none⟩ = some (.string c.nm) := by rw [cell_same (HL.out.2.1.bel.block b HB.out)]; have := ha 0 _ rfl; rw [show kMd.k = 9 from rfl, show o + (i * 9 + 0) = o + i * 9 by omega] at this; exact this
      have g1 : wr.cell? ⟨b, o + i * 9 + 1, none⟩ = some (.bool c.stc) := by rw [cell_same (HL.out.2.1.bel.block b HB.out)]; have := ha 1 _ rfl; rw [show kMd.k = 9 from rfl, show o + (i * 9 + 1) = o + i * 9 + 1 by omega] at this; exact this
      have g2 : wr.cell? ⟨b, o + i * 9 + 2, none⟩ = some (.slice a1 c.args.length c1) := by rw [cell_same (HL.out.2.1.bel.block b HB.out)]; have := ha 2 _ rfl; rw [show kMd.k = 9 from rfl, show o + (i * 9 + 2) = o + i * 9 + 2 by omega] at this; exact this
      have g3 : wr.cell? ⟨b, o + i * 9 + 3, none⟩ = some (.int .i64 c.ret) := by rw [cell_same (HL.out.2.1.bel.block b HB.out)]; have := ha 3 _ rfl; rw [show kMd.k = 9 from rfl, show o + (i * 9 + 3) = o + i * 9 + 3 by omega] at this; exact this
      have g4 : wr.cell? ⟨b, o + i * 9 + 4, none⟩ = some (.int .i64 c.lo) := by rw [cell_same (HL.out.2.1.bel.block b HB.out)]; have := ha 4 _ rfl; rw [show kMd.k = 9 from rfl, show o + (i * 9 + 4) = o + i * 9 + 4 by omega] at this; exact this
      have g5 : wr.cell? ⟨b, o + i * 9 + 5, none⟩ = some (.int .i64 c.st) := by rw [cell_same (HL.out.2.1.bel.block b HB.out)]; have := ha 5 _ rfl; rw [show kMd.k = 9 from rfl, show o + (i * 9 + 5) = o + i * 9 + 5 by omega] at this; exact this
      have g6 : wr.cell? ⟨b, o + i * 9 + 6, none⟩ = some (.slice a2 c.code.length c2) := by rw [cell_same (HL.out.2.1.bel.block b HB.out)]; have := ha 6 _ rfl; rw [show kMd.k = 9 from rfl, show o + (i * 9 + 6) = o + i * 9 + 6 by omega] at this; exact this
      have g7 : wr.cell? ⟨b, o + i * 9 + 7, none⟩ = some (.slice a3 c.tab.length c3) := by rw [cell_same (HL.out.2.1.bel.block b HB.out)]; have := ha 7 _ rfl; rw [show kMd.k = 9 from rfl, show o + (i * 9 + 7) = o + i * 9 + 7 by omega] at this; exact this
      have g8 : wr.cell? ⟨b, o + i * 9 + 8, none⟩ = some (.slice a4 c.maps.length c4) := by rw [cell_same (HL.out.2.1.bel.block b HB.out)]; have := ha 8 _ rfl; rw [show kMd.k = 9 from rfl, show o + (i * 9 + 8) = o + i * 9 + 8 by omega] at this; exact this
      have zwr : wr.cell? ⟨w.heap.size, 7, none⟩ = some (.slice (some ⟨b, o, none⟩) m.mds.length e4) := by simp [World.cell?, HL.out.2.2]
      have hl2 : (i : Int) < (m.mds.length : Int) := by omega
      clear hb hc ha
      go_wp2_with (first
        | (go_at_call 62; refine hC0.mono ?_; rintro e u0 ⟨rfl, hA, hF⟩; have HU0 : Hid (Wb u0 wb B ((pre (((((L ++ [ptT m.nm] ++ [ptN (fl m.face 1 + fl m.fin 2)] ++ [ptN m.sup]) ++ ptL 8 gN1 m.faces) ++ ptL 24 gFd m.flds) ++ ptL 24 gFd m.stcs)) 24 gMd m.mds i) ++ gMd c) X ∧ Fw wb B w u0 ∧ u0.heap[w.heap.size]? = some (.cells #[.string m.nm, .bool m.face, .bool m.fin, .int .i64 m.sup, .slice d1 m.faces.length e1, .slice d2 m.flds.length e2, .slice d3 m.stcs.length e3, .slice (some ⟨b, o, none⟩) m.mds.length e4] 62 (0, 0))) := ⟨hA, HL.out.2.1.trans hF, hF.box HL.out.2.2 (fun e => by have := HWB.out; omega) (by decide)⟩; clear hC0 hA hF))
      go_roundg (m.mds.length - (i + 1))
      case measure => omega
      case rel => exact ⟨i + 1, by go_num, by omega, by omega, by rw [HEQ.out]; exact HU0.out⟩
    · have hn : i = m.mds.length := by omega
      subst hn
      have hl2 : ¬ ((m.mds.length : Nat) : Int) < ((m.mds.length : Nat) : Int) := by omega
      have zwr : wr.cell? ⟨w.heap.size, 7, none⟩ = some (.slice d4 m.mds.length e4) := by simp [World.cell?, HL.out.2.2]
      have HE1 : Hid (Wb wr wb B (pre (((((L ++ [ptT m.nm] ++ [ptN (fl m.face 1 + fl m.fin 2)] ++ [ptN m.sup]) ++ ptL 8 gN1 m.faces) ++ ptL 24 gFd m.flds) ++ ptL 24 gFd m.stcs)) 24 gMd m.mds m.mds.length) X ∧ Fw wb B w wr ∧ wr.heap[w.heap.size]? = some (.cells #[.string m.nm, .bool m.face, .bool m.fin, .int .i64 m.sup, .slice d1 m.faces.length e1, .slice d2 m.flds.length e2, .slice d3 m.stcs.length e3, .slice d4 m.mds.length e4] 62 (0, 0))) := HL.out
      rw [pre_all] at HE1
      clear HL hi hk
      go_wp2
      go_end0
      exact ⟨rfl, by have q9 := HE1.out.1; simp only [gCs, List.append_assoc, List.cons_append, List.nil_append] at q9 ⊢; exact q9, HE1.out.2.1⟩
end Go.Proofs.YtdgndglinkcdbaaDoor
/- The document's own Encode. -/
namespace Go.Proofs.YtdgndglinkcdbaaDoor
open Go.RowKit

theorem wstart (w0 : World) (A : Obj) : let W := (((w0.alloc A).alloc (.cells #[.int .u8 71, .int .u8 78, .int .u8 83, .int .u8 83] 5 (4, 5))).alloc (.cells #[.slice (some ⟨w0.heap.size + 1, 0, none⟩) 4 4, .bool false, .bool false, .bool false] 56)); Wb W (w0.heap.size + 1 + 1) (w0.heap.size + 1) [] false ∧ W.heap[w0.heap.size]? = some A ∧ Below w0.heap.size w0 W := by
  intro W
  have z1 : (w0.alloc A).heap.size = w0.heap.size + 1 := by simp
  have z2 : ((w0.alloc A).alloc (.cells #[.int .u8 71, .int .u8 78, .int .u8 83, .int .u8 83] 5 (4, 5))).heap.size = w0.heap.size + 1 + 1 := by simp
  have n2 := heap_alloc_new (w0.alloc A) (.cells #[.int .u8 71, .int .u8 78, .int .u8 83, .int .u8 83] 5 (4, 5))
  have n3 := heap_alloc_new ((w0.alloc A).alloc (.cells #[.int .u8 71, .int .u8 78, .int .u8 83, .int .u8 83] 5 (4, 5))) (.cells #[.slice (some ⟨w0.heap.size + 1, 0, none⟩) 4 4, .bool false, .bool false, .bool false] 56)
  rw [z1] at n2
  rw [z2] at n3
  refine ⟨⟨⟨_, n3, .inr ⟨w0.heap.size + 1, rfl, Nat.le_refl _, rfl, by rw [Below.heap_alloc _ _ _ (by omega)]; exact n2⟩⟩, by omega, by decide⟩, ?_, (((Below.refl _ _).alloc (Nat.le_refl _) _).alloc (by omega) _).alloc (by omega) _⟩
  rw [Below.heap_alloc _ _ _ (by omega), Below.heap_alloc _ _ _ (by omega)]; exact heap_alloc_new w0 A
set_option maxHeartbeats 8000000 in
set_option maxRecDepth 20000 in
theorem qEncode_any {S : Nat → Prop} {p : Pg} {cs : List Value} (w0 : World) (hS : ∀ k, S k → k < w0.heap.size) (hR : kPg.R w0 S p cs) (hl : Shr (gPg p)) : Calls Tryd.prog 17 #[.agg cs.toArray] w0 (EnP p w0) := by
  obtain ⟨y1, rfl, h1⟩ := hR
  have h1' := h1
  obtain ⟨d1, e1, rfl, m1, -⟩ := h1'
  unfold maxLen at m1
  have hst := wstart w0 (.cells #[.int .i64 p.main, .slice d1 p.cls.length e1] 24)
  have hcv := Lib.run_convert_bytes_const (P := Tryd.prog) (w0.alloc (.cells #[.int .i64 p.main, .slice d1 p.cls.length e1] 24)) 54 5 #[.int .u8 71, .int .u8 78, .int .u8 83, .int .u8 83] 4 4 Tryd.underlying54 Tryd.underlying5
  rw [show (w0.alloc (.cells #[.int .i64 p.main, .slice d1 p.cls.length e1] 24)).heap.size = w0.heap.size + 1 from by simp] at hcv
  simp only [List.size_toArray, List.length_cons, List.length_nil] at hcv
  have HX : Hid _ := hst
  have HV0 : Hid (Sl kCs w0 S (.slice d1 p.cls.length e1) p.cls) := h1
  have HS0 : Hid (∀ k, S k → k < w0.heap.size) := hS
  have HSR1 : Hid (Shr ([] ++ [ptN p.main] ++ ptL 40 gCs p.cls)) := hl
  clear hst h1 hS hl
  go_enter Tryd.func17, Tryd.ntmps17
  go_upto_region 2 with (fail)
  have hX := HX.out
  generalize (((w0.alloc (.cells #[.int .i64 p.main, .slice d1 p.cls.length e1] 24)).alloc (.cells #[.int .u8 71, .int .u8 78, .int .u8 83, .int .u8 83] 5 (4, 5))).alloc (.cells #[.slice (some ⟨w0.heap.size + 1, 0, none⟩) 4 4, .bool false, .bool false, .bool false] 56)) = w at hX ⊢
  obtain ⟨wb, hwb⟩ : ∃ wb, wb = w0.heap.size + 1 + 1 := ⟨_, rfl⟩
  rw [← hwb] at hX ⊢
  obtain ⟨B, hB⟩ : ∃ B, B = w0.heap.size + 1 := ⟨_, rfl⟩
  rw [← hB] at hX
  have HPB : Hid (w0.heap.size < B) := by show _ < _; omega
  have HS : Hid (∀ k, S k → k < B) := fun k hk => by have := HS0.out k hk; omega
  have V1 : Hid (Sl kCs w S (.slice d1 p.cls.length e1) p.cls) := HV0.out.keep fun k hk => hX.2.2.block k (HS0.out k hk)
  have HB0 : Hid (Below w0.heap.size w0 w) := hX.2.2
  have HU0 : Hid (Wb w wb B [] false ∧ Fw wb B w w ∧ w.heap[w0.heap.size]? = some (.cells #[.int .i64 p.main, .slice d1 p.cls.length e1] 24 (0, 0))) := ⟨hX.1, Fw.refl _ _ _, hX.2.1⟩
  have k0 : w.cell? ⟨w0.heap.size, 0, none⟩ = some (.int .i64 p.main) := by simp [World.cell?, HU0.out.2.2]
  have hC1 := wnum_ok HU0.out.1 p.main (shr_sub (R := ptL 40 gCs p.cls) HSR1.out rfl)
  clear hX HX hB hwb hcv HV0 HS0
  go_upto_region 4 with (first
    | (go_at_call 37; refine hC1.mono ?_; rintro e u1 ⟨rfl, hA, hF⟩; have HU1 : Hid (Wb u1 wb B ([] ++ [ptN p.main]) false ∧ Fw wb B w u1 ∧ u1.heap[w0.heap.size]? = some (.cells #[.int .i64 p.main, .slice d1 p.cls.length e1] 24 (0, 0))) := ⟨hA, hF, (hF.bel.block _ HPB.out).trans HU0.out.2.2⟩; have k1 : u1.cell? ⟨w0.heap.size, 1, none⟩ = some (.slice d1 p.cls.length e1) := (by simp [World.cell?, HU1.out.2.2]); have hC2 := wcnt_ok HU1.out.1 p.cls.length 40 (by have := pre_shr HSR1.out 0; rw [pre_zero] at this; exact this); clear hC1 hA hF HU0)
    | (go_at_call 38; refine hC2.mono ?_; rintro e u2 ⟨rfl, hA, hF⟩; have HU2 : Hid (Wb u2 wb B (([] ++ [ptN p.main]) ++ [ptC p.cls.length 40]) false ∧ Fw wb B w u2 ∧ u2.heap[w0.heap.size]? = some (.cells #[.int .i64 p.main, .slice d1 p.cls.length e1] 24 (0, 0))) := ⟨hA, HU1.out.2.1.trans hF, (hF.bel.block _ HPB.out).trans HU1.out.2.2⟩; clear hC2 hA hF HU1))
  clear k0 k1
  go_wp2_with (fail)
  go_loopg [5] (p.cls.length + 1) (fun kx s6 wr => ∃ i : Nat, s6 = .int .i64 i ∧ i ≤ p.cls.length ∧ p.cls.length - i ≤ kx ∧ Hid (Wb wr wb B (pre (([] ++ [ptN p.main])) 40 gCs p.cls i) false ∧ Fw wb B w wr ∧ wr.heap[w0.heap.size]? = some (.cells #[.int .i64 p.main, .slice d1 p.cls.length e1] 24 (0, 0))))
  case atStart => exact ⟨0, rfl, by omega, by omega, by rw [pre_zero]; exact HU2.out⟩
  case round =>
    obtain ⟨i, rfl, hi, hk, HL⟩ := hrel
    by_cases hlt : i < p.cls.length
    · obtain ⟨c, hc⟩ : ∃ c, p.cls[i]? = some c := ⟨_, List.getElem?_eq_getElem hlt⟩
      obtain ⟨b, o, rfl, hb, cs, r1, ha⟩ := V1.out.at3 hc
      have HB : Hid (b < B) := HS.out b hb
      have HEQ : Hid ((pre (([] ++ [ptN p.main])) 40 gCs p.cls (i + 1)) = (pre (([] ++ [ptN p.main])) 40 gCs p.cls i) ++ gCs c) := pre_succ _ _ _ hc
      have HSH1 : Hid (Shr ((pre (([] ++ [ptN p.main])) 40 gCs p.cls i) ++ gCs c)) := by show Shr _; rw [← HEQ.out]; exact pre_shr HSR1.out (i + 1)
      have hC0 := wclass_ok HL.out.1 (kCs.keep (fun k hk => HL.out.2.1.bel.block k (HS.out k hk)) r1) HS.out HSH1.out
      obtain ⟨y1, y2, y3, y4, rfl, t1, t2, t3, t4⟩ := r1
      obtain ⟨a1, c1, rfl, -⟩ := t1
      obtain ⟨a2, c2, rfl, -⟩ := t2
      obtain ⟨a3, c3, rfl, -⟩ := t3
      obtain ⟨a4, c4, rfl, -⟩ := t4
      have g0 : wr.cell? ⟨b, o + i * 8, none⟩ = some (.string c.nm) := by rw [cell_same (HL.out.2.1.bel.block b HB.out)]; have := ha 0 _ rfl; rw [show kCs.k = 8 from rfl, show o + (i * 8 + 0) = o + i * 8 by omega] at this; exact this
      have g1 : wr.cell? ⟨b, o + i * 8 + 1, none⟩ = some (.bool c.face) := by rw [cell_same (HL.out.2.1.bel.block b HB.out)]; have := ha 1 _ rfl; rw [show kCs.k = 8 from rfl, show o + (i * 8 + 1) = o + i * 8 + 1 by omega] at this; exact this
      have g2 : wr.cell? ⟨b, o + i * 8 + 2, none⟩ = some (.bool c.fin) := by rw [cell_same (HL.out.2.1.bel.block b HB.out)]; have := ha 2 _ rfl; rw [show kCs.k = 8 from rfl, show o + (i * 8 + 2) = o + i * 8 + 2 by omega] at this; exact this
      have g3 : wr.cell? ⟨b, o + i * 8 + 3, none⟩ = some (.int .i64 c.sup) := by rw [cell_same (HL.out.2.1.bel.block b HB.out)]; have := ha 3 _ rfl; rw [show kCs.k = 8 from rfl, show o + (i * 8 + 3) = o + i * 8 + 3 by omega] at this; exact this
      have g4 : wr.cell? ⟨b, o + i * 8 + 4, none⟩ = some (.slice a1 c.faces.length c1) := by rw [cell_same (HL.out.2.1.bel.block b HB.out)]; have := ha 4 _ rfl; rw [show kCs.k = 8 from rfl, show o + (i * 8 + 4) = o + i * 8 + 4 by omega] at this; exact this
      have g5 : wr.cell? ⟨b, o + i * 8 + 5, none⟩ = some (.slice a2 c.flds.length c2) := by rw [cell_same (HL.out.2.1.bel.block b HB.out)]; have := ha 5 _ rfl; rw [show kCs.k = 8 from rfl, show o + (i * 8 + 5) = o + i * 8 + 5 by omega] at this; exact this
      have g6 : wr.cell? ⟨b, o + i * 8 + 6, none⟩ = some (.slice a3 c.stcs.length c3) := by rw [cell_same (HL.out.2.1.bel.block b HB.out)]; have := ha 6 _ rfl; rw [show kCs.k = 8 from rfl, show o + (i * 8 + 6) = o + i * 8 + 6 by omega] at this; exact this
      have g7 : wr.cell? ⟨b, o + i * 8 + 7, none⟩ = some (.slice a4 c.mds.length c4) := by rw [cell_same (HL.out.2.1.bel.block b HB.out)]; have := ha 7 _ rfl; rw [show kCs.k = 8 from rfl, show o + (i * 8 + 7) = o + i * 8 + 7 by omega] at this; exact this
      have zwr : wr.cell? ⟨w0.heap.size, 1, none⟩ = some (.slice (some ⟨b, o, none⟩) p.cls.length e1) := by simp [World.cell?, HL.out.2.2]
      have hl2 : (i : Int) < (p.cls.length : Int) := by omega
      clear hb hc ha
      go_wp2_with (first
        | (go_at_call 39; refine hC0.mono ?_; rintro e u0 ⟨rfl, hA, hF⟩; have HU0 : Hid (Wb u0 wb B ((pre (([] ++ [ptN p.main])) 40 gCs p.cls i) ++ gCs c) false ∧ Fw wb B w u0 ∧ u0.heap[w0.heap.size]? = some (.cells #[.int .i64 p.main, .slice (some ⟨b, o, none⟩) p.cls.length e1] 24 (0, 0))) := ⟨hA, HL.out.2.1.trans hF, (hF.bel.block _ HPB.out).trans HL.out.2.2⟩; clear hC0 hA hF))
      go_roundg (p.cls.length - (i + 1))
      case measure => omega
      case rel => exact ⟨i + 1, by go_num, by omega, by omega, by rw [HEQ.out]; exact HU0.out⟩
    · have hn : i = p.cls.length := by omega
      subst hn
      have hl2 : ¬ ((p.cls.length : Nat) : Int) < ((p.cls.length : Nat) : Int) := by omega
      have zwr : wr.cell? ⟨w0.heap.size, 1, none⟩ = some (.slice d1 p.cls.length e1) := by simp [World.cell?, HL.out.2.2]
      have HE1 : Hid (Wb wr wb B (pre (([] ++ [ptN p.main])) 40 gCs p.cls p.cls.length) false ∧ Fw wb B w wr ∧ wr.heap[w0.heap.size]? = some (.cells #[.int .i64 p.main, .slice d1 p.cls.length e1] 24 (0, 0))) := HL.out
      rw [pre_all] at HE1
      clear HL hi hk
      have hG : [] ++ [ptN p.main] ++ ptL 40 gCs p.cls = gPg p := rfl
      rw [hG] at HE1
      obtain ⟨⟨vb, hbox, hown⟩, -, hpos⟩ := HE1.out.1
      have HBL : Hid (Below w0.heap.size w0 wr) := HB0.out.trans (HE1.out.2.1.bel.mono (by have := HPB.out; omega))
      obtain ⟨g, cap, rfl, -⟩ := hown.form hpos
      have hcv : (convert 54 9 (.slice (some ⟨g, 0, none⟩) (mag ++ byts (gPg p)).length cap)).run Tryd.prog wr = .ok (.string ⟨(mag ++ byts (gPg p)).toArray⟩) wr := hown.str
      rw [Bool.or_false] at hbox
      have c0 : wr.cell? ⟨wb, 0, none⟩ = some (.slice (some ⟨g, 0, none⟩) (mag ++ byts (gPg p)).length cap) := by simp [World.cell?, hbox]
      have c1 : wr.cell? ⟨wb, 1, none⟩ = some (.bool (!(gPg p).all okC)) := by simp [World.cell?, hbox]
      have c2 : wr.cell? ⟨wb, 2, none⟩ = some (.bool (!(gPg p).all okT)) := by simp [World.cell?, hbox]
      have c3 : wr.cell? ⟨wb, 3, none⟩ = some (.bool (!(gPg p).all okN)) := by simp [World.cell?, hbox]
      have HEN : Hid (∀ M N F, (gPg p).all okC = M → (gPg p).all okT = N → (gPg p).all okN = F → encP p = if M = true then if N = true then if F = true then if 32768 < (mag ++ byts (gPg p)).length then .error 1406 else .ok ⟨(mag ++ byts (gPg p)).toArray⟩ else .error 1402 else .error 1403 else .error 1404) := fun M N F h1 h2 h3 => by subst h1 h2 h3; rfl
      clear hown hbox hpos HE1 hG
      generalize hM : (gPg p).all okC = M at c1
      generalize hN : (gPg p).all okT = N at c2
      generalize hF : (gPg p).all okN = F at c3
      have HE0 := HEN.out M N F hM hN hF
      generalize mag ++ byts (gPg p) = bl at *
      obtain ⟨bn, hbn⟩ : ∃ bn, bl.length = bn := ⟨_, rfl⟩
      rw [hbn] at c0 hcv HE0
      clear HEN hM hN hF hbn
      cases M with
      | false =>
        have HE9 : Hid (encP p = .error 1404) := HE0
        clear HE0
        go_wp2
        go_ret2
        unfold EnP
        rw [HE9.out]
        exact ⟨HBL.out, rfl⟩
      | true =>
      cases N with
      | false =>
        have HE9 : Hid (encP p = .error 1403) := HE0
        clear HE0
        go_wp2
        go_ret2
        unfold EnP
        rw [HE9.out]
        exact ⟨HBL.out, rfl⟩
      | true =>
      cases F with
      | false =>
        have HE9 : Hid (encP p = .error 1402) := HE0
        clear HE0
        go_wp2
        go_ret2
        unfold EnP
        rw [HE9.out]
        exact ⟨HBL.out, rfl⟩
      | true =>
        simp only [if_true] at HE0
        by_cases hbl : 32768 < bn
        · rw [if_pos hbl] at HE0
          have HE9 : Hid (encP p = .error 1406) := HE0
          have hbl2 : (32768 : Int) < (bn : Int) := by omega
          clear HE0 hbl
          go_wp2
          go_ret2
          unfold EnP
          rw [HE9.out]
          exact ⟨HBL.out, rfl⟩
        · rw [if_neg hbl] at HE0
          have HE9 : Hid (encP p = .ok ⟨bl.toArray⟩) := HE0
          have hbl2 : ¬ (32768 : Int) < (bn : Int) := by omega
          clear HE0 hbl
          go_wp2
          go_ret2
          unfold EnP
          rw [HE9.out]
          exact ⟨HBL.out, rfl⟩
end Go.Proofs.YtdgndglinkcdbaaDoor
