/- Walks of ClassCounts: rows that are appended to. -/
import Derived.Test.YtajghalljkphiaaMGC1
import Derived.Test.YtajghalljkphiaaMLLC
import Derived.Deep.DeepCutAuto
import Derived.Deep.AppendLies
namespace Go.Proofs.Ytajghalljkphiaa
open Go.RowKit

theorem mask1l (n : Int) : bits BinOp.and .i64 n 1 = n % 2 := by
  have e : (BitVec.ofInt 64 n &&& BitVec.ofInt 64 1).toNat = (n % 18446744073709551616).toNat % 2 := by
    rw [BitVec.toNat_and, BitVec.toNat_ofInt, show (BitVec.ofInt 64 1).toNat = 2 ^ 1 - 1 from by decide, Nat.and_two_pow_sub_one_eq_mod]; rfl
  show IntKind.i64.wrap ((BitVec.ofInt 64 n &&& BitVec.ofInt 64 1).toNat : Nat) = n % 2
  rw [e, IntKind.wrap_i64]; omega
theorem mask7l (n : Int) : bits BinOp.and .i64 n 7 = n % 8 := by
  have e : (BitVec.ofInt 64 n &&& BitVec.ofInt 64 7).toNat = (n % 18446744073709551616).toNat % 8 := by
    rw [BitVec.toNat_and, BitVec.toNat_ofInt, show (BitVec.ofInt 64 7).toNat = 2 ^ 3 - 1 from by decide, Nat.and_two_pow_sub_one_eq_mod]; rfl
  show IntKind.i64.wrap ((BitVec.ofInt 64 n &&& BitVec.ofInt 64 7).toNat : Nat) = n % 8
  rw [e, IntKind.wrap_i64]; omega
theorem fld2_R {w V wr : World} {bp bc bm bi n : Nat} {v : Value} (h : One w V bp bc bm bi) (hr : Rw 44 2 V.heap.size (fun _ => False) V.heap.size V wr v n (List.replicate n ([.string ⟨#[102]⟩, .int .i64 1] : List Value)).flatten) : kPg.R (wr.setCell ⟨bc, 5, none⟩ v) (fun q => q < (wr.setCell ⟨bc, 5, none⟩ v).heap.size) ⟨11, [{ tinyC with flds := List.replicate n cntF }]⟩ [.int .i64 11, .slice (some ⟨bc, 0, none⟩) 1 1] ∧ Below w.heap.size w (wr.setCell ⟨bc, 5, none⟩ v) := by
  obtain ⟨n1, n2, n3, n4, n5, n6⟩ := h.ne
  obtain ⟨l1, l2, l3, l4⟩ := h.low
  have kbc := blk_lt h.cls
  have kbm := blk_lt h.met
  have kbi := blk_lt h.ins
  have hs := hr.size
  have hz : (wr.setCell ⟨bc, 5, none⟩ v).heap.size = wr.heap.size := size_set
  have fbc : (wr.setCell ⟨bc, 5, none⟩ v).heap[bc]? = some (.cells #[.string ⟨#[77]⟩, .bool false, .bool false, .int .i64 0, .slice none 0 0, v, .slice none 0 0, .slice (some ⟨bm, 0, none⟩) 1 1] 42 (0, 0)) := hset ((hr.same bc kbc (fun e => e)).trans h.cls) _
  have fbm : (wr.setCell ⟨bc, 5, none⟩ v).heap[bm]? = some (.cells #[.string ⟨#[109, 97, 105, 110]⟩, .bool true, .slice none 0 0, .int .i64 0, .int .i64 0, .int .i64 0, .slice (some ⟨bi, 0, none⟩) 1 1, .slice none 0 0, .slice none 0 0] 49 (0, 0)) := (blk_set (by omega)).trans ((hr.same bm kbm (fun e => e)).trans h.met)
  have fbi : (wr.setCell ⟨bc, 5, none⟩ v).heap[bi]? = some (.cells #[.int .i64 29, .int .i64 0, .int .i64 0] 63 (0, 0)) := (blk_set (by omega)).trans ((hr.same bi kbi (fun e => e)).trans h.ins)
  have hn : (List.replicate n cntF).length = n := List.length_replicate
  have hsl0 : Sl kFd wr (fun q => V.heap.size ≤ q ∧ q < wr.heap.size) v (List.replicate n cntF) := Rw.sl (K := kFd) (css := List.replicate n ([.string ⟨#[102]⟩, .int .i64 1] : List Value)) (by rw [hn]; exact hr) (by simp) (rep_R rfl n)
  have hsl : Sl kFd (wr.setCell ⟨bc, 5, none⟩ v) (fun q => q < (wr.setCell ⟨bc, 5, none⟩ v).heap.size) v (List.replicate n cntF) := (hsl0.keep fun q hq => blk_set (by have := hq.1; omega)).mono fun q hq => by rw [hz]; exact hq.2
  refine ⟨one_R fbc fbm (by show bc < _; omega) (by show bm < _; omega) (Sl.nil _ _ _) hsl (Sl.nil _ _ _) (Sl.nil _ _ _) (Sl.one1 fbi (by show bi < _; omega) rfl) (Sl.nil _ _ _) (Sl.nil _ _ _), ?_⟩
  have hb := h.bel
  have hbs := hb.size
  refine Below.setCell ⟨hr.os.trans hb.os, hr.tape.trans hb.tape, hr.output.trans hb.output, by omega, fun q hq => (hr.same q (by omega) (fun e => e)).trans (hb.block q hq)⟩ (by show w.heap.size ≤ bc; omega) _
set_option maxHeartbeats 8000000 in
set_option maxRecDepth 20000 in
theorem cnt2_y {wh : Int} (w : World) (hk : bits BinOp.and .i64 wh 7 = 2) : Calls Try.prog 5 #[.int .i64 wh, .bool false] w fun e w' => e = .returned (.bool true) ∧ Below w.heap.size w w' := by
  obtain ⟨i0, hi, hz0, hz1, hz2⟩ := info_parts infoLF
  have hm1 : bits BinOp.and .i64 wh 1 = 0 := by rw [mask1l]; have h7 := mask7l wh; rw [hk] at h7; omega
  have hA := awake14 w
  obtain ⟨b, he⟩ := cnt_yes (k := 2) (by decide)
  have HE : Hid (encP (cntP 2 24) = .ok b) := he
  clear he
  go_enter Try.func5, Try.ntmps5
  go_upto_region 4 with (first
    | (go_at_call 7; refine hA.mono ?_; rintro e w1 ⟨rfl, hb1⟩; clear hA; have hT := TinyM w1; have H1 : Hid (Below w.heap.size w w1) := hb1; clear hb1)
    | (go_at_call 12; refine hT.mono ?_; rintro e w2 ⟨hb2, rfl, hT2⟩; clear hT; have HO : Hid (One w (w2.alloc (.cells #[.int .i64 11, .slice (some ⟨w1.heap.size + 1 + 1 + 1 + 1, 0, none⟩) 1 1] 24)) w2.heap.size (w1.heap.size + 1 + 1 + 1 + 1) (w1.heap.size + 1 + 1 + 1) (w1.heap.size + 1)) := one_of H1.out hb2 hT2; clear hT2 hb2 H1))
  generalize hU : w2.alloc (.cells #[.int .i64 11, .slice (some ⟨w1.heap.size + 1 + 1 + 1 + 1, 0, none⟩) 1 1] 24) = U at *
  clear hU
  generalize hbp : w2.heap.size = bp at *
  clear hbp
  generalize hbc : w1.heap.size + 1 + 1 + 1 + 1 = bc at *
  generalize hbm : w1.heap.size + 1 + 1 + 1 = bm at *
  generalize hbi : w1.heap.size + 1 = bi at *
  clear hbc hbm hbi
  have hO := HO.out
  have p0 : U.cell? ⟨bp, 0, none⟩ = some (.int .i64 11) := by simp [World.cell?, hO.prg]
  have p1 : U.cell? ⟨bp, 1, none⟩ = some (.slice (some ⟨bc, 0, none⟩) 1 1) := by simp [World.cell?, hO.prg]
  have c7 : U.cell? ⟨bc, 7, none⟩ = some (.slice (some ⟨bm, 0, none⟩) 1 1) := by simp [World.cell?, hO.cls]
  have m6 : U.cell? ⟨bm, 6, none⟩ = some (.slice (some ⟨bi, 0, none⟩) 1 1) := by simp [World.cell?, hO.met]
  obtain ⟨n1, n2, n3, n4, n5, n6⟩ := hO.ne
  have kbp := blk_lt hO.prg
  have kbc := blk_lt hO.cls
  have kbm := blk_lt hO.met
  have kbi := blk_lt hO.ins
  go_upto_region 18 with (fail)
  have HV : Hid (One w (U.alloc (.cells #[.int .i64 40, .int .i64 8, .int .i64 24, .int .i64 24, .int .i64 24, .int .i64 8, .int .i64 300, .int .i64 16] 3)) bp bc bm bi) := hO.more _
  clear hO HO p0 p1 c7 m6 kbp kbc kbm kbi
  generalize hVW : (U.alloc (.cells #[.int .i64 40, .int .i64 8, .int .i64 24, .int .i64 24, .int .i64 24, .int .i64 8, .int .i64 300, .int .i64 16] 3)) = V at *
  clear hVW
  have hO := HV.out
  have kbp := blk_lt hO.prg
  have kbc := blk_lt hO.cls
  have kbm := blk_lt hO.met
  have kbi := blk_lt hO.ins
  obtain ⟨o1, o2, o3, o4⟩ := hO.low
  go_wp2_with (fail)
  go_loopg [8, 9] (24 + 1) (fun kx t8 s9 wr => ∃ (i : Nat) (v : Value), v = t8 ∧ s9 = .int .i64 i ∧ i ≤ 24 ∧ 24 - i ≤ kx ∧ Hid (Rw 44 2 V.heap.size (fun _ => False) V.heap.size V wr v i (List.replicate i ([.string ⟨#[102]⟩, .int .i64 1] : List Value)).flatten))
  case atStart => exact ⟨0, _, rfl, rfl, by omega, by omega, ⟨World.ownsRow_nil _ _ _ _, (fun g e => by cases e), rfl, rfl, rfl, Nat.le_refl _, fun _ _ _ => rfl⟩⟩
  case round =>
    obtain ⟨i, v, hv, rfl, hi2, hkx, HR⟩ := hrel
    subst hv
    have hsz := HR.out.size
    by_cases hlt : i < 24
    · have hl2 : (i : Int) < 24 := by omega
      have HF := HR.out.own
      obtain ⟨fs, hfs⟩ : ∃ fs, (List.replicate i ([.string ⟨#[102]⟩, .int .i64 1] : List Value)).flatten = fs := ⟨_, rfl⟩
      rw [hfs] at HF
      have HF2 : Hid (wr.ownsRow V.heap.size 44 2 v i fs) := HF
      have HA : Hid (∀ o w' g cap, w'.ownsRow V.heap.size 44 2 (.slice (some ⟨g, 0, none⟩) (i + 1) cap) (i + 1) (fs ++ ([.string ⟨#[102]⟩, .int .i64 1] : List Value)) → (wr.alloc o).grownBy w' v.ownBlock → (v.ownBlock = some g ∨ g = (wr.alloc o).heap.size) → Rw 44 2 V.heap.size (fun _ => False) V.heap.size V w' (.slice (some ⟨g, 0, none⟩) (i + 1) cap) (i + 1) (List.replicate (i + 1) ([.string ⟨#[102]⟩, .int .i64 1] : List Value)).flatten) := fun o w' g cap a1 a2 a3 => by
        have h2 := HR.out
        rw [hfs] at h2
        have := (h2.app (.inr (Nat.le_refl _)) a1 a2 a3).1
        rw [← hfs, flat_succ0] at this
        exact this
      clear HF HR hfs
      go_wp2_with (at_builtin; refine wpList_append_lies _ rfl _ _ 39 rfl V.heap.size 44 i0 (.agg #[.string ⟨#[]⟩, .int .i64 0]) 2 24 Try.underlying39 hi hz0 hz1 hz2 rfl (by decide) _ i fs rfl (HF2.out.alloc _) ⟨wr.heap.size, 0, none⟩ 1 1 ([.string ⟨#[102]⟩, .int .i64 1] : List Value) rfl rfl (news_at _ _ _) (by simp [Value.oneCell']) (by decide) (by unfold maxLen; omega) (by omega) (by simp; omega) _ rfl ?_; intro g cap w2 hown hgrow hat hlt3)
      go_roundg (24 - (i + 1))
      case measure => omega
      case rel => exact ⟨i + 1, _, rfl, by go_num, by omega, by omega, HA.out _ _ _ _ hown hgrow hat⟩
    · have hn : i = 24 := by omega
      subst hn
      have hR := fld2_R HV.out HR.out
      have fc : wr.heap[bc]? = some (.cells #[.string ⟨#[77]⟩, .bool false, .bool false, .int .i64 0, .slice none 0 0, .slice none 0 0, .slice none 0 0, .slice (some ⟨bm, 0, none⟩) 1 1] 42 (0, 0)) := (HR.out.same bc kbc (fun e => e)).trans hO.cls
      have fp : wr.heap[bp]? = some (.cells #[.int .i64 11, .slice (some ⟨bc, 0, none⟩) 1 1] 24 (0, 0)) := (HR.out.same bp kbp (fun e => e)).trans hO.prg
      have ft : wr.frozen? ⟨bc, 5, none⟩ = false := by simp [World.frozen?, fc]
      have ct : wr.cell? ⟨bc, 5, none⟩ = some (.slice none 0 0) := by simp [World.cell?, fc]
      have q0 : wr.cell? ⟨bp, 0, none⟩ = some (.int .i64 11) := by simp [World.cell?, fp]
      have q1 : wr.cell? ⟨bp, 1, none⟩ = some (.slice (some ⟨bc, 0, none⟩) 1 1) := by simp [World.cell?, fp]
      have kb2 : bc < wr.heap.size := by omega
      have HB : Hid (Below w.heap.size w (wr.setCell ⟨bc, 5, none⟩ v)) := hR.2
      have hB : Calls Try.prog 14 #[.agg #[.int .i64 11, .slice (some ⟨bc, 0, none⟩) 1 1]] (wr.setCell ⟨bc, 5, none⟩ v) fun e w' => e = .returned (.bool true) ∧ Below (wr.setCell ⟨bc, 5, none⟩ v).heap.size (wr.setCell ⟨bc, 5, none⟩ v) w' := back_yes HE.out (wr.setCell ⟨bc, 5, none⟩ v) (fun _ h => h) hR.1
      have h1v := HR.out.own
      obtain ⟨ao, cap, hvv⟩ : ∃ ao cap, v = .slice ao 24 cap := by
        rcases h1v.2 with ⟨_, e⟩ | ⟨g, cap, cur, e, _⟩
        · cases e
        · exact ⟨_, cap, e⟩
      subst hvv
      clear hR fc fp h1v HR
      go_wp2_with (go_at_call 14; refine hB.mono ?_; rintro e w9 ⟨rfl, hb9⟩; have HF : Hid (Below w.heap.size w w9) := HB.out.trans (hb9.mono HB.out.size); clear hB hb9)
      go_ret
      exact ⟨rfl, HF.out⟩
set_option maxHeartbeats 8000000 in
set_option maxRecDepth 20000 in
theorem cnt2_n {wh : Int} (w : World) (hk : bits BinOp.and .i64 wh 7 = 2) : Calls Try.prog 5 #[.int .i64 wh, .bool true] w fun e w' => e = .returned (.bool true) ∧ Below w.heap.size w w' := by
  obtain ⟨i0, hi, hz0, hz1, hz2⟩ := info_parts infoLF
  have hm1 : bits BinOp.and .i64 wh 1 = 0 := by rw [mask1l]; have h7 := mask7l wh; rw [hk] at h7; omega
  have hA := awake14 w
  have HE : Hid (encP (cntP 2 25) = .error 1404) := cnt_no (k := 2) (by decide)
  go_enter Try.func5, Try.ntmps5
  go_upto_region 4 with (first
    | (go_at_call 7; refine hA.mono ?_; rintro e w1 ⟨rfl, hb1⟩; clear hA; have hT := TinyM w1; have H1 : Hid (Below w.heap.size w w1) := hb1; clear hb1)
    | (go_at_call 12; refine hT.mono ?_; rintro e w2 ⟨hb2, rfl, hT2⟩; clear hT; have HO : Hid (One w (w2.alloc (.cells #[.int .i64 11, .slice (some ⟨w1.heap.size + 1 + 1 + 1 + 1, 0, none⟩) 1 1] 24)) w2.heap.size (w1.heap.size + 1 + 1 + 1 + 1) (w1.heap.size + 1 + 1 + 1) (w1.heap.size + 1)) := one_of H1.out hb2 hT2; clear hT2 hb2 H1))
  generalize hU : w2.alloc (.cells #[.int .i64 11, .slice (some ⟨w1.heap.size + 1 + 1 + 1 + 1, 0, none⟩) 1 1] 24) = U at *
  clear hU
  generalize hbp : w2.heap.size = bp at *
  clear hbp
  generalize hbc : w1.heap.size + 1 + 1 + 1 + 1 = bc at *
  generalize hbm : w1.heap.size + 1 + 1 + 1 = bm at *
  generalize hbi : w1.heap.size + 1 = bi at *
  clear hbc hbm hbi
  have hO := HO.out
  have p0 : U.cell? ⟨bp, 0, none⟩ = some (.int .i64 11) := by simp [World.cell?, hO.prg]
  have p1 : U.cell? ⟨bp, 1, none⟩ = some (.slice (some ⟨bc, 0, none⟩) 1 1) := by simp [World.cell?, hO.prg]
  have c7 : U.cell? ⟨bc, 7, none⟩ = some (.slice (some ⟨bm, 0, none⟩) 1 1) := by simp [World.cell?, hO.cls]
  have m6 : U.cell? ⟨bm, 6, none⟩ = some (.slice (some ⟨bi, 0, none⟩) 1 1) := by simp [World.cell?, hO.met]
  obtain ⟨n1, n2, n3, n4, n5, n6⟩ := hO.ne
  have kbp := blk_lt hO.prg
  have kbc := blk_lt hO.cls
  have kbm := blk_lt hO.met
  have kbi := blk_lt hO.ins
  go_upto_region 18 with (fail)
  have HV : Hid (One w (U.alloc (.cells #[.int .i64 40, .int .i64 8, .int .i64 24, .int .i64 24, .int .i64 24, .int .i64 8, .int .i64 300, .int .i64 16] 3)) bp bc bm bi) := hO.more _
  clear hO HO p0 p1 c7 m6 kbp kbc kbm kbi
  generalize hVW : (U.alloc (.cells #[.int .i64 40, .int .i64 8, .int .i64 24, .int .i64 24, .int .i64 24, .int .i64 8, .int .i64 300, .int .i64 16] 3)) = V at *
  clear hVW
  have hO := HV.out
  have kbp := blk_lt hO.prg
  have kbc := blk_lt hO.cls
  have kbm := blk_lt hO.met
  have kbi := blk_lt hO.ins
  obtain ⟨o1, o2, o3, o4⟩ := hO.low
  go_wp2_with (fail)
  go_loopg [8, 9] (25 + 1) (fun kx t8 s9 wr => ∃ (i : Nat) (v : Value), v = t8 ∧ s9 = .int .i64 i ∧ i ≤ 25 ∧ 25 - i ≤ kx ∧ Hid (Rw 44 2 V.heap.size (fun _ => False) V.heap.size V wr v i (List.replicate i ([.string ⟨#[102]⟩, .int .i64 1] : List Value)).flatten))
  case atStart => exact ⟨0, _, rfl, rfl, by omega, by omega, ⟨World.ownsRow_nil _ _ _ _, (fun g e => by cases e), rfl, rfl, rfl, Nat.le_refl _, fun _ _ _ => rfl⟩⟩
  case round =>
    obtain ⟨i, v, hv, rfl, hi2, hkx, HR⟩ := hrel
    subst hv
    have hsz := HR.out.size
    by_cases hlt : i < 25
    · have hl2 : (i : Int) < 25 := by omega
      have HF := HR.out.own
      obtain ⟨fs, hfs⟩ : ∃ fs, (List.replicate i ([.string ⟨#[102]⟩, .int .i64 1] : List Value)).flatten = fs := ⟨_, rfl⟩
      rw [hfs] at HF
      have HF2 : Hid (wr.ownsRow V.heap.size 44 2 v i fs) := HF
      have HA : Hid (∀ o w' g cap, w'.ownsRow V.heap.size 44 2 (.slice (some ⟨g, 0, none⟩) (i + 1) cap) (i + 1) (fs ++ ([.string ⟨#[102]⟩, .int .i64 1] : List Value)) → (wr.alloc o).grownBy w' v.ownBlock → (v.ownBlock = some g ∨ g = (wr.alloc o).heap.size) → Rw 44 2 V.heap.size (fun _ => False) V.heap.size V w' (.slice (some ⟨g, 0, none⟩) (i + 1) cap) (i + 1) (List.replicate (i + 1) ([.string ⟨#[102]⟩, .int .i64 1] : List Value)).flatten) := fun o w' g cap a1 a2 a3 => by
        have h2 := HR.out
        rw [hfs] at h2
        have := (h2.app (.inr (Nat.le_refl _)) a1 a2 a3).1
        rw [← hfs, flat_succ0] at this
        exact this
      clear HF HR hfs
      go_wp2_with (at_builtin; refine wpList_append_lies _ rfl _ _ 39 rfl V.heap.size 44 i0 (.agg #[.string ⟨#[]⟩, .int .i64 0]) 2 24 Try.underlying39 hi hz0 hz1 hz2 rfl (by decide) _ i fs rfl (HF2.out.alloc _) ⟨wr.heap.size, 0, none⟩ 1 1 ([.string ⟨#[102]⟩, .int .i64 1] : List Value) rfl rfl (news_at _ _ _) (by simp [Value.oneCell']) (by decide) (by unfold maxLen; omega) (by omega) (by simp; omega) _ rfl ?_; intro g cap w2 hown hgrow hat hlt3)
      go_roundg (25 - (i + 1))
      case measure => omega
      case rel => exact ⟨i + 1, _, rfl, by go_num, by omega, by omega, HA.out _ _ _ _ hown hgrow hat⟩
    · have hn : i = 25 := by omega
      subst hn
      have hR := fld2_R HV.out HR.out
      have fc : wr.heap[bc]? = some (.cells #[.string ⟨#[77]⟩, .bool false, .bool false, .int .i64 0, .slice none 0 0, .slice none 0 0, .slice none 0 0, .slice (some ⟨bm, 0, none⟩) 1 1] 42 (0, 0)) := (HR.out.same bc kbc (fun e => e)).trans hO.cls
      have fp : wr.heap[bp]? = some (.cells #[.int .i64 11, .slice (some ⟨bc, 0, none⟩) 1 1] 24 (0, 0)) := (HR.out.same bp kbp (fun e => e)).trans hO.prg
      have ft : wr.frozen? ⟨bc, 5, none⟩ = false := by simp [World.frozen?, fc]
      have ct : wr.cell? ⟨bc, 5, none⟩ = some (.slice none 0 0) := by simp [World.cell?, fc]
      have q0 : wr.cell? ⟨bp, 0, none⟩ = some (.int .i64 11) := by simp [World.cell?, fp]
      have q1 : wr.cell? ⟨bp, 1, none⟩ = some (.slice (some ⟨bc, 0, none⟩) 1 1) := by simp [World.cell?, fp]
      have kb2 : bc < wr.heap.size := by omega
      have HB : Hid (Below w.heap.size w (wr.setCell ⟨bc, 5, none⟩ v)) := hR.2
      have hB : Calls Try.prog 13 #[.agg #[.int .i64 11, .slice (some ⟨bc, 0, none⟩) 1 1], .int .i64 1404] (wr.setCell ⟨bc, 5, none⟩ v) fun e w' => e = .returned (.bool true) ∧ Below (wr.setCell ⟨bc, 5, none⟩ v).heap.size (wr.setCell ⟨bc, 5, none⟩ v) w' := refuses_yes HE.out (wr.setCell ⟨bc, 5, none⟩ v) (fun _ h => h) hR.1
      have h1v := HR.out.own
      obtain ⟨ao, cap, hvv⟩ : ∃ ao cap, v = .slice ao 25 cap := by
        rcases h1v.2 with ⟨_, e⟩ | ⟨g, cap, cur, e, _⟩
        · cases e
        · exact ⟨_, cap, e⟩
      subst hvv
      clear hR fc fp h1v HR
      go_wp2_with (go_at_call 13; refine hB.mono ?_; rintro e w9 ⟨rfl, hb9⟩; have HF : Hid (Below w.heap.size w w9) := HB.out.trans (hb9.mono HB.out.size); clear hB hb9)
      go_ret
      exact ⟨rfl, HF.out⟩
theorem fld3_R {w V wr : World} {bp bc bm bi n : Nat} {v : Value} (h : One w V bp bc bm bi) (hr : Rw 44 2 V.heap.size (fun _ => False) V.heap.size V wr v n (List.replicate n ([.string ⟨#[102]⟩, .int .i64 1] : List Value)).flatten) : kPg.R (wr.setCell ⟨bc, 6, none⟩ v) (fun q => q < (wr.setCell ⟨bc, 6, none⟩ v).heap.size) ⟨11, [{ tinyC with stcs := List.replicate n cntF }]⟩ [.int .i64 11, .slice (some ⟨bc, 0, none⟩) 1 1] ∧ Below w.heap.size w (wr.setCell ⟨bc, 6, none⟩ v) := by
  obtain ⟨n1, n2, n3, n4, n5, n6⟩ := h.ne
  obtain ⟨l1, l2, l3, l4⟩ := h.low
  have kbc := blk_lt h.cls
  have kbm := blk_lt h.met
  have kbi := blk_lt h.ins
  have hs := hr.size
  have hz : (wr.setCell ⟨bc, 6, none⟩ v).heap.size = wr.heap.size := size_set
  have fbc : (wr.setCell ⟨bc, 6, none⟩ v).heap[bc]? = some (.cells #[.string ⟨#[77]⟩, .bool false, .bool false, .int .i64 0, .slice none 0 0, .slice none 0 0, v, .slice (some ⟨bm, 0, none⟩) 1 1] 42 (0, 0)) := hset ((hr.same bc kbc (fun e => e)).trans h.cls) _
  have fbm : (wr.setCell ⟨bc, 6, none⟩ v).heap[bm]? = some (.cells #[.string ⟨#[109, 97, 105, 110]⟩, .bool true, .slice none 0 0, .int .i64 0, .int .i64 0, .int .i64 0, .slice (some ⟨bi, 0, none⟩) 1 1, .slice none 0 0, .slice none 0 0] 49 (0, 0)) := (blk_set (by omega)).trans ((hr.same bm kbm (fun e => e)).trans h.met)
  have fbi : (wr.setCell ⟨bc, 6, none⟩ v).heap[bi]? = some (.cells #[.int .i64 29, .int .i64 0, .int .i64 0] 63 (0, 0)) := (blk_set (by omega)).trans ((hr.same bi kbi (fun e => e)).trans h.ins)
  have hn : (List.replicate n cntF).length = n := List.length_replicate
  have hsl0 : Sl kFd wr (fun q => V.heap.size ≤ q ∧ q < wr.heap.size) v (List.replicate n cntF) := Rw.sl (K := kFd) (css := List.replicate n ([.string ⟨#[102]⟩, .int .i64 1] : List Value)) (by rw [hn]; exact hr) (by simp) (rep_R rfl n)
  have hsl : Sl kFd (wr.setCell ⟨bc, 6, none⟩ v) (fun q => q < (wr.setCell ⟨bc, 6, none⟩ v).heap.size) v (List.replicate n cntF) := (hsl0.keep fun q hq => blk_set (by have := hq.1; omega)).mono fun q hq => by rw [hz]; exact hq.2
  refine ⟨one_R fbc fbm (by show bc < _; omega) (by show bm < _; omega) (Sl.nil _ _ _) (Sl.nil _ _ _) hsl (Sl.nil _ _ _) (Sl.one1 fbi (by show bi < _; omega) rfl) (Sl.nil _ _ _) (Sl.nil _ _ _), ?_⟩
  have hb := h.bel
  have hbs := hb.size
  refine Below.setCell ⟨hr.os.trans hb.os, hr.tape.trans hb.tape, hr.output.trans hb.output, by omega, fun q hq => (hr.same q (by omega) (fun e => e)).trans (hb.block q hq)⟩ (by show w.heap.size ≤ bc; omega) _
set_option maxHeartbeats 8000000 in
set_option maxRecDepth 20000 in
theorem cnt3_y {wh : Int} (w : World) (hk : bits BinOp.and .i64 wh 7 = 3) : Calls Try.prog 5 #[.int .i64 wh, .bool false] w fun e w' => e = .returned (.bool true) ∧ Below w.heap.size w w' := by
  obtain ⟨i0, hi, hz0, hz1, hz2⟩ := info_parts infoLF
  have hm1 : bits BinOp.and .i64 wh 1 = 1 := by rw [mask1l]; have h7 := mask7l wh; rw [hk] at h7; omega
  have hA := awake14 w
  obtain ⟨b, he⟩ := cnt_yes (k := 3) (by decide)
  have HE : Hid (encP (cntP 3 24) = .ok b) := he
  clear he
  go_enter Try.func5, Try.ntmps5
  go_upto_region 4 with (first
    | (go_at_call 7; refine hA.mono ?_; rintro e w1 ⟨rfl, hb1⟩; clear hA; have hT := TinyM w1; have H1 : Hid (Below w.heap.size w w1) := hb1; clear hb1)
    | (go_at_call 12; refine hT.mono ?_; rintro e w2 ⟨hb2, rfl, hT2⟩; clear hT; have HO : Hid (One w (w2.alloc (.cells #[.int .i64 11, .slice (some ⟨w1.heap.size + 1 + 1 + 1 + 1, 0, none⟩) 1 1] 24)) w2.heap.size (w1.heap.size + 1 + 1 + 1 + 1) (w1.heap.size + 1 + 1 + 1) (w1.heap.size + 1)) := one_of H1.out hb2 hT2; clear hT2 hb2 H1))
  generalize hU : w2.alloc (.cells #[.int .i64 11, .slice (some ⟨w1.heap.size + 1 + 1 + 1 + 1, 0, none⟩) 1 1] 24) = U at *
  clear hU
  generalize hbp : w2.heap.size = bp at *
  clear hbp
  generalize hbc : w1.heap.size + 1 + 1 + 1 + 1 = bc at *
  generalize hbm : w1.heap.size + 1 + 1 + 1 = bm at *
  generalize hbi : w1.heap.size + 1 = bi at *
  clear hbc hbm hbi
  have hO := HO.out
  have p0 : U.cell? ⟨bp, 0, none⟩ = some (.int .i64 11) := by simp [World.cell?, hO.prg]
  have p1 : U.cell? ⟨bp, 1, none⟩ = some (.slice (some ⟨bc, 0, none⟩) 1 1) := by simp [World.cell?, hO.prg]
  have c7 : U.cell? ⟨bc, 7, none⟩ = some (.slice (some ⟨bm, 0, none⟩) 1 1) := by simp [World.cell?, hO.cls]
  have m6 : U.cell? ⟨bm, 6, none⟩ = some (.slice (some ⟨bi, 0, none⟩) 1 1) := by simp [World.cell?, hO.met]
  obtain ⟨n1, n2, n3, n4, n5, n6⟩ := hO.ne
  have kbp := blk_lt hO.prg
  have kbc := blk_lt hO.cls
  have kbm := blk_lt hO.met
  have kbi := blk_lt hO.ins
  go_upto_region 18 with (fail)
  have HV : Hid (One w (U.alloc (.cells #[.int .i64 40, .int .i64 8, .int .i64 24, .int .i64 24, .int .i64 24, .int .i64 8, .int .i64 300, .int .i64 16] 3)) bp bc bm bi) := hO.more _
  clear hO HO p0 p1 c7 m6 kbp kbc kbm kbi
  generalize hVW : (U.alloc (.cells #[.int .i64 40, .int .i64 8, .int .i64 24, .int .i64 24, .int .i64 24, .int .i64 8, .int .i64 300, .int .i64 16] 3)) = V at *
  clear hVW
  have hO := HV.out
  have kbp := blk_lt hO.prg
  have kbc := blk_lt hO.cls
  have kbm := blk_lt hO.met
  have kbi := blk_lt hO.ins
  obtain ⟨o1, o2, o3, o4⟩ := hO.low
  go_wp2_with (fail)
  go_loopg [8, 9] (24 + 1) (fun kx t8 s9 wr => ∃ (i : Nat) (v : Value), v = t8 ∧ s9 = .int .i64 i ∧ i ≤ 24 ∧ 24 - i ≤ kx ∧ Hid (Rw 44 2 V.heap.size (fun _ => False) V.heap.size V wr v i (List.replicate i ([.string ⟨#[102]⟩, .int .i64 1] : List Value)).flatten))
  case atStart => exact ⟨0, _, rfl, rfl, by omega, by omega, ⟨World.ownsRow_nil _ _ _ _, (fun g e => by cases e), rfl, rfl, rfl, Nat.le_refl _, fun _ _ _ => rfl⟩⟩
  case round =>
    obtain ⟨i, v, hv, rfl, hi2, hkx, HR⟩ := hrel
    subst hv
    have hsz := HR.out.size
    by_cases hlt : i < 24
    · have hl2 : (i : Int) < 24 := by omega
      have HF := HR.out.own
      obtain ⟨fs, hfs⟩ : ∃ fs, (List.replicate i ([.string ⟨#[102]⟩, .int .i64 1] : List Value)).flatten = fs := ⟨_, rfl⟩
      rw [hfs] at HF
      have HF2 : Hid (wr.ownsRow V.heap.size 44 2 v i fs) := HF
      have HA : Hid (∀ o w' g cap, w'.ownsRow V.heap.size 44 2 (.slice (some ⟨g, 0, none⟩) (i + 1) cap) (i + 1) (fs ++ ([.string ⟨#[102]⟩, .int .i64 1] : List Value)) → (wr.alloc o).grownBy w' v.ownBlock → (v.ownBlock = some g ∨ g = (wr.alloc o).heap.size) → Rw 44 2 V.heap.size (fun _ => False) V.heap.size V w' (.slice (some ⟨g, 0, none⟩) (i + 1) cap) (i + 1) (List.replicate (i + 1) ([.string ⟨#[102]⟩, .int .i64 1] : List Value)).flatten) := fun o w' g cap a1 a2 a3 => by
        have h2 := HR.out
        rw [hfs] at h2
        have := (h2.app (.inr (Nat.le_refl _)) a1 a2 a3).1
        rw [← hfs, flat_succ0] at this
        exact this
      clear HF HR hfs
      go_wp2_with (at_builtin; refine wpList_append_lies _ rfl _ _ 39 rfl V.heap.size 44 i0 (.agg #[.string ⟨#[]⟩, .int .i64 0]) 2 24 Try.underlying39 hi hz0 hz1 hz2 rfl (by decide) _ i fs rfl (HF2.out.alloc _) ⟨wr.heap.size, 0, none⟩ 1 1 ([.string ⟨#[102]⟩, .int .i64 1] : List Value) rfl rfl (news_at _ _ _) (by simp [Value.oneCell']) (by decide) (by unfold maxLen; omega) (by omega) (by simp; omega) _ rfl ?_; intro g cap w2 hown hgrow hat hlt3)
      go_roundg (24 - (i + 1))
      case measure => omega
      case rel => exact ⟨i + 1, _, rfl, by go_num, by omega, by omega, HA.out _ _ _ _ hown hgrow hat⟩
    · have hn : i = 24 := by omega
      subst hn
      have hR := fld3_R HV.out HR.out
      have fc : wr.heap[bc]? = some (.cells #[.string ⟨#[77]⟩, .bool false, .bool false, .int .i64 0, .slice none 0 0, .slice none 0 0, .slice none 0 0, .slice (some ⟨bm, 0, none⟩) 1 1] 42 (0, 0)) := (HR.out.same bc kbc (fun e => e)).trans hO.cls
      have fp : wr.heap[bp]? = some (.cells #[.int .i64 11, .slice (some ⟨bc, 0, none⟩) 1 1] 24 (0, 0)) := (HR.out.same bp kbp (fun e => e)).trans hO.prg
      have ft : wr.frozen? ⟨bc, 6, none⟩ = false := by simp [World.frozen?, fc]
      have ct : wr.cell? ⟨bc, 6, none⟩ = some (.slice none 0 0) := by simp [World.cell?, fc]
      have q0 : wr.cell? ⟨bp, 0, none⟩ = some (.int .i64 11) := by simp [World.cell?, fp]
      have q1 : wr.cell? ⟨bp, 1, none⟩ = some (.slice (some ⟨bc, 0, none⟩) 1 1) := by simp [World.cell?, fp]
      have kb2 : bc < wr.heap.size := by omega
      have HB : Hid (Below w.heap.size w (wr.setCell ⟨bc, 6, none⟩ v)) := hR.2
      have hB : Calls Try.prog 14 #[.agg #[.int .i64 11, .slice (some ⟨bc, 0, none⟩) 1 1]] (wr.setCell ⟨bc, 6, none⟩ v) fun e w' => e = .returned (.bool true) ∧ Below (wr.setCell ⟨bc, 6, none⟩ v).heap.size (wr.setCell ⟨bc, 6, none⟩ v) w' := back_yes HE.out (wr.setCell ⟨bc, 6, none⟩ v) (fun _ h => h) hR.1
      have h1v := HR.out.own
      obtain ⟨ao, cap, hvv⟩ : ∃ ao cap, v = .slice ao 24 cap := by
        rcases h1v.2 with ⟨_, e⟩ | ⟨g, cap, cur, e, _⟩
        · cases e
        · exact ⟨_, cap, e⟩
      subst hvv
      clear hR fc fp h1v HR
      go_wp2_with (go_at_call 14; refine hB.mono ?_; rintro e w9 ⟨rfl, hb9⟩; have HF : Hid (Below w.heap.size w w9) := HB.out.trans (hb9.mono HB.out.size); clear hB hb9)
      go_ret
      exact ⟨rfl, HF.out⟩
set_option maxHeartbeats 8000000 in
set_option maxRecDepth 20000 in
theorem cnt3_n {wh : Int} (w : World) (hk : bits BinOp.and .i64 wh 7 = 3) : Calls Try.prog 5 #[.int .i64 wh, .bool true] w fun e w' => e = .returned (.bool true) ∧ Below w.heap.size w w' := by
  obtain ⟨i0, hi, hz0, hz1, hz2⟩ := info_parts infoLF
  have hm1 : bits BinOp.and .i64 wh 1 = 1 := by rw [mask1l]; have h7 := mask7l wh; rw [hk] at h7; omega
  have hA := awake14 w
  have HE : Hid (encP (cntP 3 25) = .error 1404) := cnt_no (k := 3) (by decide)
  go_enter Try.func5, Try.ntmps5
  go_upto_region 4 with (first
    | (go_at_call 7; refine hA.mono ?_; rintro e w1 ⟨rfl, hb1⟩; clear hA; have hT := TinyM w1; have H1 : Hid (Below w.heap.size w w1) := hb1; clear hb1)
    | (go_at_call 12; refine hT.mono ?_; rintro e w2 ⟨hb2, rfl, hT2⟩; clear hT; have HO : Hid (One w (w2.alloc (.cells #[.int .i64 11, .slice (some ⟨w1.heap.size + 1 + 1 + 1 + 1, 0, none⟩) 1 1] 24)) w2.heap.size (w1.heap.size + 1 + 1 + 1 + 1) (w1.heap.size + 1 + 1 + 1) (w1.heap.size + 1)) := one_of H1.out hb2 hT2; clear hT2 hb2 H1))
  generalize hU : w2.alloc (.cells #[.int .i64 11, .slice (some ⟨w1.heap.size + 1 + 1 + 1 + 1, 0, none⟩) 1 1] 24) = U at *
  clear hU
  generalize hbp : w2.heap.size = bp at *
  clear hbp
  generalize hbc : w1.heap.size + 1 + 1 + 1 + 1 = bc at *
  generalize hbm : w1.heap.size + 1 + 1 + 1 = bm at *
  generalize hbi : w1.heap.size + 1 = bi at *
  clear hbc hbm hbi
  have hO := HO.out
  have p0 : U.cell? ⟨bp, 0, none⟩ = some (.int .i64 11) := by simp [World.cell?, hO.prg]
  have p1 : U.cell? ⟨bp, 1, none⟩ = some (.slice (some ⟨bc, 0, none⟩) 1 1) := by simp [World.cell?, hO.prg]
  have c7 : U.cell? ⟨bc, 7, none⟩ = some (.slice (some ⟨bm, 0, none⟩) 1 1) := by simp [World.cell?, hO.cls]
  have m6 : U.cell? ⟨bm, 6, none⟩ = some (.slice (some ⟨bi, 0, none⟩) 1 1) := by simp [World.cell?, hO.met]
  obtain ⟨n1, n2, n3, n4, n5, n6⟩ := hO.ne
  have kbp := blk_lt hO.prg
  have kbc := blk_lt hO.cls
  have kbm := blk_lt hO.met
  have kbi := blk_lt hO.ins
  go_upto_region 18 with (fail)
  have HV : Hid (One w (U.alloc (.cells #[.int .i64 40, .int .i64 8, .int .i64 24, .int .i64 24, .int .i64 24, .int .i64 8, .int .i64 300, .int .i64 16] 3)) bp bc bm bi) := hO.more _
  clear hO HO p0 p1 c7 m6 kbp kbc kbm kbi
  generalize hVW : (U.alloc (.cells #[.int .i64 40, .int .i64 8, .int .i64 24, .int .i64 24, .int .i64 24, .int .i64 8, .int .i64 300, .int .i64 16] 3)) = V at *
  clear hVW
  have hO := HV.out
  have kbp := blk_lt hO.prg
  have kbc := blk_lt hO.cls
  have kbm := blk_lt hO.met
  have kbi := blk_lt hO.ins
  obtain ⟨o1, o2, o3, o4⟩ := hO.low
  go_wp2_with (fail)
  go_loopg [8, 9] (25 + 1) (fun kx t8 s9 wr => ∃ (i : Nat) (v : Value), v = t8 ∧ s9 = .int .i64 i ∧ i ≤ 25 ∧ 25 - i ≤ kx ∧ Hid (Rw 44 2 V.heap.size (fun _ => False) V.heap.size V wr v i (List.replicate i ([.string ⟨#[102]⟩, .int .i64 1] : List Value)).flatten))
  case atStart => exact ⟨0, _, rfl, rfl, by omega, by omega, ⟨World.ownsRow_nil _ _ _ _, (fun g e => by cases e), rfl, rfl, rfl, Nat.le_refl _, fun _ _ _ => rfl⟩⟩
  case round =>
    obtain ⟨i, v, hv, rfl, hi2, hkx, HR⟩ := hrel
    subst hv
    have hsz := HR.out.size
    by_cases hlt : i < 25
    · have hl2 : (i : Int) < 25 := by omega
      have HF := HR.out.own
      obtain ⟨fs, hfs⟩ : ∃ fs, (List.replicate i ([.string ⟨#[102]⟩, .int .i64 1] : List Value)).flatten = fs := ⟨_, rfl⟩
      rw [hfs] at HF
      have HF2 : Hid (wr.ownsRow V.heap.size 44 2 v i fs) := HF
      have HA : Hid (∀ o w' g cap, w'.ownsRow V.heap.size 44 2 (.slice (some ⟨g, 0, none⟩) (i + 1) cap) (i + 1) (fs ++ ([.string ⟨#[102]⟩, .int .i64 1] : List Value)) → (wr.alloc o).grownBy w' v.ownBlock → (v.ownBlock = some g ∨ g = (wr.alloc o).heap.size) → Rw 44 2 V.heap.size (fun _ => False) V.heap.size V w' (.slice (some ⟨g, 0, none⟩) (i + 1) cap) (i + 1) (List.replicate (i + 1) ([.string ⟨#[102]⟩, .int .i64 1] : List Value)).flatten) := fun o w' g cap a1 a2 a3 => by
        have h2 := HR.out
        rw [hfs] at h2
        have := (h2.app (.inr (Nat.le_refl _)) a1 a2 a3).1
        rw [← hfs, flat_succ0] at this
        exact this
      clear HF HR hfs
      go_wp2_with (at_builtin; refine wpList_append_lies _ rfl _ _ 39 rfl V.heap.size 44 i0 (.agg #[.string ⟨#[]⟩, .int .i64 0]) 2 24 Try.underlying39 hi hz0 hz1 hz2 rfl (by decide) _ i fs rfl (HF2.out.alloc _) ⟨wr.heap.size, 0, none⟩ 1 1 ([.string ⟨#[102]⟩, .int .i64 1] : List Value) rfl rfl (news_at _ _ _) (by simp [Value.oneCell']) (by decide) (by unfold maxLen; omega) (by omega) (by simp; omega) _ rfl ?_; intro g cap w2 hown hgrow hat hlt3)
      go_roundg (25 - (i + 1))
      case measure => omega
      case rel => exact ⟨i + 1, _, rfl, by go_num, by omega, by omega, HA.out _ _ _ _ hown hgrow hat⟩
    · have hn : i = 25 := by omega
      subst hn
      have hR := fld3_R HV.out HR.out
      have fc : wr.heap[bc]? = some (.cells #[.string ⟨#[77]⟩, .bool false, .bool false, .int .i64 0, .slice none 0 0, .slice none 0 0, .slice none 0 0, .slice (some ⟨bm, 0, none⟩) 1 1] 42 (0, 0)) := (HR.out.same bc kbc (fun e => e)).trans hO.cls
      have fp : wr.heap[bp]? = some (.cells #[.int .i64 11, .slice (some ⟨bc, 0, none⟩) 1 1] 24 (0, 0)) := (HR.out.same bp kbp (fun e => e)).trans hO.prg
      have ft : wr.frozen? ⟨bc, 6, none⟩ = false := by simp [World.frozen?, fc]
      have ct : wr.cell? ⟨bc, 6, none⟩ = some (.slice none 0 0) := by simp [World.cell?, fc]
      have q0 : wr.cell? ⟨bp, 0, none⟩ = some (.int .i64 11) := by simp [World.cell?, fp]
      have q1 : wr.cell? ⟨bp, 1, none⟩ = some (.slice (some ⟨bc, 0, none⟩) 1 1) := by simp [World.cell?, fp]
      have kb2 : bc < wr.heap.size := by omega
      have HB : Hid (Below w.heap.size w (wr.setCell ⟨bc, 6, none⟩ v)) := hR.2
      have hB : Calls Try.prog 13 #[.agg #[.int .i64 11, .slice (some ⟨bc, 0, none⟩) 1 1], .int .i64 1404] (wr.setCell ⟨bc, 6, none⟩ v) fun e w' => e = .returned (.bool true) ∧ Below (wr.setCell ⟨bc, 6, none⟩ v).heap.size (wr.setCell ⟨bc, 6, none⟩ v) w' := refuses_yes HE.out (wr.setCell ⟨bc, 6, none⟩ v) (fun _ h => h) hR.1
      have h1v := HR.out.own
      obtain ⟨ao, cap, hvv⟩ : ∃ ao cap, v = .slice ao 25 cap := by
        rcases h1v.2 with ⟨_, e⟩ | ⟨g, cap, cur, e, _⟩
        · cases e
        · exact ⟨_, cap, e⟩
      subst hvv
      clear hR fc fp h1v HR
      go_wp2_with (go_at_call 13; refine hB.mono ?_; rintro e w9 ⟨rfl, hb9⟩; have HF : Hid (Below w.heap.size w w9) := HB.out.trans (hb9.mono HB.out.size); clear hB hb9)
      go_ret
      exact ⟨rfl, HF.out⟩
end Go.Proofs.Ytajghalljkphiaa
/- Walks of ClassCounts: rows that are appended to. -/
namespace Go.Proofs.Ytajghalljkphiaa
open Go.RowKit

theorem grw0_R {w V wr : World} {bp bc bm bi i g cap : Nat} (h : One w V bp bc bm bi) (hr : Rw 42 8 w.heap.size (fun b => b = bp ∨ b = bc) bc V wr (.slice (some ⟨g, 0, none⟩) (i + 1) cap) (i + 1) (([.string ⟨#[77]⟩, .bool false, .bool false, .int .i64 0, .slice none 0 0, .slice none 0 0, .slice none 0 0, .slice (some ⟨bm, 0, none⟩) 1 1] : List Value) :: List.replicate i ([.string ⟨#[65]⟩, .bool false, .bool false, .int .i64 0, .slice none 0 0, .slice none 0 0, .slice none 0 0, .slice none 0 0] : List Value)).flatten) (_hb : wr.heap[bp]? = some (.cells #[.int .i64 11, .slice (some ⟨g, 0, none⟩) (i + 1) cap] 24 (0, 0))) : kPg.R wr (fun q => q < wr.heap.size) ⟨11, tinyC :: List.replicate i cntA⟩ [.int .i64 11, .slice (some ⟨g, 0, none⟩) (i + 1) cap] ∧ Below w.heap.size w wr := by
  obtain ⟨n1, n2, n3, n4, n5, n6⟩ := h.ne
  obtain ⟨l1, l2, l3, l4⟩ := h.low
  have kbp := blk_lt h.prg
  have kbc := blk_lt h.cls
  have kbm := blk_lt h.met
  have kbi := blk_lt h.ins
  have hs := hr.size
  have hg : g = bc ∨ V.heap.size ≤ g := hr.out g rfl
  have hsx : ∀ q, w.heap.size ≤ q → q < V.heap.size → q ≠ bc → Sx w.heap.size wr (.slice (some ⟨g, 0, none⟩) (i + 1) cap) q := fun q h1 h2 h3 => ⟨h1, by omega, fun e => by
    have e' : g = q := by simpa [Value.ownBlock] using e
    omega⟩
  have fbi : wr.heap[bi]? = some (.cells #[.int .i64 29, .int .i64 0, .int .i64 0] 63 (0, 0)) := (hr.same bi kbi (by omega)).trans h.ins
  have fbm : wr.heap[bm]? = some (.cells #[.string ⟨#[109, 97, 105, 110]⟩, .bool true, .slice none 0 0, .int .i64 0, .int .i64 0, .int .i64 0, .slice (some ⟨bi, 0, none⟩) 1 1, .slice none 0 0, .slice none 0 0] 49 (0, 0)) := (hr.same bm kbm (by omega)).trans h.met
  have r0 : kCs.R wr (Sx w.heap.size wr (.slice (some ⟨g, 0, none⟩) (i + 1) cap)) tinyC ([.string ⟨#[77]⟩, .bool false, .bool false, .int .i64 0, .slice none 0 0, .slice none 0 0, .slice none 0 0, .slice (some ⟨bm, 0, none⟩) 1 1] : List Value) := ⟨_, _, _, _, rfl, Sl.nil _ _ _, Sl.nil _ _ _, Sl.nil _ _ _, Sl.one1 fbm (hsx bm l3 kbm (by omega)) ⟨_, _, _, _, rfl, Sl.nil _ _ _, Sl.one1 fbi (hsx bi l4 kbi (by omega)) rfl, Sl.nil _ _ _, Sl.nil _ _ _⟩⟩
  have r1 : kCs.R wr (Sx w.heap.size wr (.slice (some ⟨g, 0, none⟩) (i + 1) cap)) cntA ([.string ⟨#[65]⟩, .bool false, .bool false, .int .i64 0, .slice none 0 0, .slice none 0 0, .slice none 0 0, .slice none 0 0] : List Value) := ⟨_, _, _, _, rfl, Sl.nil _ _ _, Sl.nil _ _ _, Sl.nil _ _ _, Sl.nil _ _ _⟩
  have hn : (tinyC :: List.replicate i cntA).length = i + 1 := by simp
  have hsl0 := Rw.sl (K := kCs) (css := ([.string ⟨#[77]⟩, .bool false, .bool false, .int .i64 0, .slice none 0 0, .slice none 0 0, .slice none 0 0, .slice (some ⟨bm, 0, none⟩) 1 1] : List Value) :: List.replicate i ([.string ⟨#[65]⟩, .bool false, .bool false, .int .i64 0, .slice none 0 0, .slice none 0 0, .slice none 0 0, .slice none 0 0] : List Value)) (ys := tinyC :: List.replicate i cntA) (by rw [hn]; exact hr) (by simp) (cons_R r0 r1 i)
  have hsl : Sl kCs wr (fun q => q < wr.heap.size) (.slice (some ⟨g, 0, none⟩) (i + 1) cap) (tinyC :: List.replicate i cntA) := hsl0.mono fun q hq => hq.2
  have hbl := h.bel
  have hbs := hbl.size
  refine ⟨⟨_, rfl, hsl⟩, ⟨hr.os.trans hbl.os, hr.tape.trans hbl.tape, hr.output.trans hbl.output, by omega, fun q hq => (hr.same q (by omega) (by omega)).trans (hbl.block q hq)⟩⟩
set_option maxHeartbeats 8000000 in
set_option maxRecDepth 20000 in
theorem cnt0_y {wh : Int} (w : World) (hk : bits BinOp.and .i64 wh 7 = 0) : Calls Try.prog 5 #[.int .i64 wh, .bool false] w fun e w' => e = .returned (.bool true) ∧ Below w.heap.size w w' := by
  obtain ⟨i0, hi, hz0, hz1, hz2⟩ := info_parts infoLC
  have hA := awake14 w
  obtain ⟨b, he⟩ := cnt_yes (k := 0) (by decide)
  have HE : Hid (encP (cntP 0 40) = .ok b) := he
  clear he
  go_enter Try.func5, Try.ntmps5
  go_upto_region 4 with (first
    | (go_at_call 7; refine hA.mono ?_; rintro e w1 ⟨rfl, hb1⟩; clear hA; have hT := TinyM w1; have H1 : Hid (Below w.heap.size w w1) := hb1; clear hb1)
    | (go_at_call 12; refine hT.mono ?_; rintro e w2 ⟨hb2, rfl, hT2⟩; clear hT; have HO : Hid (One w (w2.alloc (.cells #[.int .i64 11, .slice (some ⟨w1.heap.size + 1 + 1 + 1 + 1, 0, none⟩) 1 1] 24)) w2.heap.size (w1.heap.size + 1 + 1 + 1 + 1) (w1.heap.size + 1 + 1 + 1) (w1.heap.size + 1)) := one_of H1.out hb2 hT2; clear hT2 hb2 H1))
  generalize hU : w2.alloc (.cells #[.int .i64 11, .slice (some ⟨w1.heap.size + 1 + 1 + 1 + 1, 0, none⟩) 1 1] 24) = U at *
  clear hU
  generalize hbp : w2.heap.size = bp at *
  clear hbp
  generalize hbc : w1.heap.size + 1 + 1 + 1 + 1 = bc at *
  generalize hbm : w1.heap.size + 1 + 1 + 1 = bm at *
  generalize hbi : w1.heap.size + 1 = bi at *
  clear hbc hbm hbi
  have hO := HO.out
  have p0 : U.cell? ⟨bp, 0, none⟩ = some (.int .i64 11) := by simp [World.cell?, hO.prg]
  have p1 : U.cell? ⟨bp, 1, none⟩ = some (.slice (some ⟨bc, 0, none⟩) 1 1) := by simp [World.cell?, hO.prg]
  have c7 : U.cell? ⟨bc, 7, none⟩ = some (.slice (some ⟨bm, 0, none⟩) 1 1) := by simp [World.cell?, hO.cls]
  have m6 : U.cell? ⟨bm, 6, none⟩ = some (.slice (some ⟨bi, 0, none⟩) 1 1) := by simp [World.cell?, hO.met]
  obtain ⟨n1, n2, n3, n4, n5, n6⟩ := hO.ne
  have kbp := blk_lt hO.prg
  have kbc := blk_lt hO.cls
  have kbm := blk_lt hO.met
  have kbi := blk_lt hO.ins
  go_upto_region 11 with (fail)
  have HV : Hid (One w (U.alloc (.cells #[.int .i64 40, .int .i64 8, .int .i64 24, .int .i64 24, .int .i64 24, .int .i64 8, .int .i64 300, .int .i64 16] 3)) bp bc bm bi) := hO.more _
  clear hO HO p0 p1 c7 m6 kbp kbc kbm kbi
  generalize hVW : (U.alloc (.cells #[.int .i64 40, .int .i64 8, .int .i64 24, .int .i64 24, .int .i64 24, .int .i64 8, .int .i64 300, .int .i64 16] 3)) = V at *
  clear hVW
  have hO := HV.out
  have kbp := blk_lt hO.prg
  have kbc := blk_lt hO.cls
  have kbm := blk_lt hO.met
  have kbi := blk_lt hO.ins
  obtain ⟨o1, o2, o3, o4⟩ := hO.low
  go_loopg [] (40 + 1) (fun kx wr => ∃ (m g cap : Nat), m ≤ 40 ∧ 40 - m ≤ kx ∧ Hid (∃ i, m = i + 1 ∧ Rw 42 8 w.heap.size (fun b => b = bp ∨ b = bc) bc V wr (.slice (some ⟨g, 0, none⟩) m cap) m (([.string ⟨#[77]⟩, .bool false, .bool false, .int .i64 0, .slice none 0 0, .slice none 0 0, .slice none 0 0, .slice (some ⟨bm, 0, none⟩) 1 1] : List Value) :: List.replicate i ([.string ⟨#[65]⟩, .bool false, .bool false, .int .i64 0, .slice none 0 0, .slice none 0 0, .slice none 0 0, .slice none 0 0] : List Value)).flatten ∧ wr.heap[bp]? = some (.cells #[.int .i64 11, .slice (some ⟨g, 0, none⟩) m cap] 24 (0, 0))))
  case atStart => exact ⟨1, bc, 1, by omega, by omega, 0, rfl, ⟨⟨by simp, .inr ⟨bc, 1, #[.string ⟨#[77]⟩, .bool false, .bool false, .int .i64 0, .slice none 0 0, .slice none 0 0, .slice none 0 0, .slice (some ⟨bm, 0, none⟩) 1 1], rfl, by omega, hO.cls, Nat.le_refl _, by decide, rfl, by simp⟩⟩, (fun q e => .inl (by have e' : bc = q := (by simpa [Value.ownBlock] using e); exact e'.symm)), rfl, rfl, rfl, Nat.le_refl _, fun _ _ _ => rfl⟩, hO.prg⟩
  case round =>
    obtain ⟨m, g, cap, hm, hkx, HR⟩ := hrel
    obtain ⟨i, hmi, hr, hb⟩ := HR.out
    have hs := hr.size
    have hg : g = bc ∨ V.heap.size ≤ g := hr.out g rfl
    have fb : wr.cell? ⟨bp, 1, none⟩ = some (.slice (some ⟨g, 0, none⟩) m cap) := by simp [World.cell?, hb]
    by_cases hlt : m < 40
    · have hl2 : (m : Int) < 40 := by omega
      obtain ⟨fs, hfs⟩ : ∃ fs, (([.string ⟨#[77]⟩, .bool false, .bool false, .int .i64 0, .slice none 0 0, .slice none 0 0, .slice none 0 0, .slice (some ⟨bm, 0, none⟩) 1 1] : List Value) :: List.replicate i ([.string ⟨#[65]⟩, .bool false, .bool false, .int .i64 0, .slice none 0 0, .slice none 0 0, .slice none 0 0, .slice none 0 0] : List Value)).flatten = fs := ⟨_, rfl⟩
      have HF2 : Hid (wr.ownsRow w.heap.size 42 8 (.slice (some ⟨g, 0, none⟩) m cap) m fs) := by rw [← hfs]; exact hr.own
      have HA : Hid (∀ o w' g2 cap2, w'.ownsRow w.heap.size 42 8 (.slice (some ⟨g2, 0, none⟩) (m + 1) cap2) (m + 1) (fs ++ ([.string ⟨#[65]⟩, .bool false, .bool false, .int .i64 0, .slice none 0 0, .slice none 0 0, .slice none 0 0, .slice none 0 0] : List Value)) → (wr.alloc o).grownBy w' (some g) → (some g = some g2 ∨ g2 = (wr.alloc o).heap.size) → w'.heap[bp]? = some (.cells #[.int .i64 11, .slice (some ⟨g, 0, none⟩) m cap] 24 (0, 0)) ∧ ∃ j, m + 1 = j + 1 ∧ Rw 42 8 w.heap.size (fun b => b = bp ∨ b = bc) bc V (w'.setCell ⟨bp, 1, none⟩ (.slice (some ⟨g2, 0, none⟩) (m + 1) cap2)) (.slice (some ⟨g2, 0, none⟩) (m + 1) cap2) (m + 1) (([.string ⟨#[77]⟩, .bool false, .bool false, .int .i64 0, .slice none 0 0, .slice none 0 0, .slice none 0 0, .slice (some ⟨bm, 0, none⟩) 1 1] : List Value) :: List.replicate j ([.string ⟨#[65]⟩, .bool false, .bool false, .int .i64 0, .slice none 0 0, .slice none 0 0, .slice none 0 0, .slice none 0 0] : List Value)).flatten ∧ (w'.setCell ⟨bp, 1, none⟩ (.slice (some ⟨g2, 0, none⟩) (m + 1) cap2)).heap[bp]? = some (.cells #[.int .i64 11, .slice (some ⟨g2, 0, none⟩) (m + 1) cap2] 24 (0, 0))) := fun o w' g2 cap2 a1 a2 a3 => by
        have h2 := hr
        rw [hfs] at h2
        obtain ⟨q1, q2⟩ := h2.app (.inl (.inr rfl)) a1 a2 a3
        have hbx := (q2 bp (by omega) (by omega)).trans hb
        rw [← hfs, flat_succ, ← hmi] at q1
        refine ⟨hbx, m, rfl, q1.set (.inl rfl) (fun e => ?_) _, hset hbx _⟩
        have e' : g2 = bp := by simpa [Value.ownBlock] using e
        rcases q1.out g2 rfl with e2 | e2 <;> omega
      clear HR hr hb hfs hmi
      go_wp2_with (at_builtin; refine wpList_append_lies _ rfl _ _ 22 rfl w.heap.size 42 i0 (.agg #[.string ⟨#[]⟩, .bool false, .bool false, .int .i64 0, .slice none 0 0, .slice none 0 0, .slice none 0 0, .slice none 0 0]) 8 128 Try.underlying22 hi hz0 hz1 hz2 rfl (by decide) _ m fs rfl (HF2.out.alloc _) ⟨wr.heap.size, 0, none⟩ 1 1 ([.string ⟨#[65]⟩, .bool false, .bool false, .int .i64 0, .slice none 0 0, .slice none 0 0, .slice none 0 0, .slice none 0 0] : List Value) rfl rfl (news_at _ _ _) (by simp [Value.oneCell']) (by decide) (by unfold maxLen; omega) (by omega) (by simp; omega) _ rfl ?_; intro g2 cap2 w2 hown hgrow hat hlt3; obtain ⟨hbx, hR2⟩ := HA.out _ _ _ _ hown hgrow hat; have HR2 : Hid _ := hR2; have fz : w2.frozen? ⟨bp, 1, none⟩ = false := (by simp [World.frozen?, hbx]); have cz : w2.cell? ⟨bp, 1, none⟩ = some (.slice (some ⟨g, 0, none⟩) m cap) := (by simp [World.cell?, hbx]); have lz := blk_lt hbx; clear hown hgrow hat hbx hR2 HA)
      go_roundg (40 - (m + 1))
      case measure => omega
      case rel => exact ⟨m + 1, g2, cap2, by omega, by omega, HR2.out⟩
    · have hn : m = 40 := by omega
      subst hn
      have hl : ¬ ((40 : Nat) : Int) < 40 := by omega
      have hi9 : i = 39 := by omega
      subst hi9
      have hR := grw0_R HV.out hr hb
      have q0 : wr.cell? ⟨bp, 0, none⟩ = some (.int .i64 11) := by simp [World.cell?, hb]
      have HB : Hid (Below w.heap.size w wr) := hR.2
      have hB : Calls Try.prog 14 #[.agg #[.int .i64 11, .slice (some ⟨g, 0, none⟩) 40 cap]] wr fun e w' => e = .returned (.bool true) ∧ Below wr.heap.size wr w' := back_yes HE.out wr (fun _ h => h) hR.1
      clear hR hr hb HR hmi
      go_wp2_with (go_at_call 14; refine hB.mono ?_; rintro e w9 ⟨rfl, hb9⟩; have HF : Hid (Below w.heap.size w w9) := HB.out.trans (hb9.mono HB.out.size); clear hB hb9)
      go_ret
      exact ⟨rfl, HF.out⟩
set_option maxHeartbeats 8000000 in
set_option maxRecDepth 20000 in
theorem cnt0_n {wh : Int} (w : World) (hk : bits BinOp.and .i64 wh 7 = 0) : Calls Try.prog 5 #[.int .i64 wh, .bool true] w fun e w' => e = .returned (.bool true) ∧ Below w.heap.size w w' := by
  obtain ⟨i0, hi, hz0, hz1, hz2⟩ := info_parts infoLC
  have hA := awake14 w
  have HE : Hid (encP (cntP 0 41) = .error 1404) := cnt_no (k := 0) (by decide)
  go_enter Try.func5, Try.ntmps5
  go_upto_region 4 with (first
    | (go_at_call 7; refine hA.mono ?_; rintro e w1 ⟨rfl, hb1⟩; clear hA; have hT := TinyM w1; have H1 : Hid (Below w.heap.size w w1) := hb1; clear hb1)
    | (go_at_call 12; refine hT.mono ?_; rintro e w2 ⟨hb2, rfl, hT2⟩; clear hT; have HO : Hid (One w (w2.alloc (.cells #[.int .i64 11, .slice (some ⟨w1.heap.size + 1 + 1 + 1 + 1, 0, none⟩) 1 1] 24)) w2.heap.size (w1.heap.size + 1 + 1 + 1 + 1) (w1.heap.size + 1 + 1 + 1) (w1.heap.size + 1)) := one_of H1.out hb2 hT2; clear hT2 hb2 H1))
  generalize hU : w2.alloc (.cells #[.int .i64 11, .slice (some ⟨w1.heap.size + 1 + 1 + 1 + 1, 0, none⟩) 1 1] 24) = U at *
  clear hU
  generalize hbp : w2.heap.size = bp at *
  clear hbp
  generalize hbc : w1.heap.size + 1 + 1 + 1 + 1 = bc at *
  generalize hbm : w1.heap.size + 1 + 1 + 1 = bm at *
  generalize hbi : w1.heap.size + 1 = bi at *
  clear hbc hbm hbi
  have hO := HO.out
  have p0 : U.cell? ⟨bp, 0, none⟩ = some (.int .i64 11) := by simp [World.cell?, hO.prg]
  have p1 : U.cell? ⟨bp, 1, none⟩ = some (.slice (some ⟨bc, 0, none⟩) 1 1) := by simp [World.cell?, hO.prg]
  have c7 : U.cell? ⟨bc, 7, none⟩ = some (.slice (some ⟨bm, 0, none⟩) 1 1) := by simp [World.cell?, hO.cls]
  have m6 : U.cell? ⟨bm, 6, none⟩ = some (.slice (some ⟨bi, 0, none⟩) 1 1) := by simp [World.cell?, hO.met]
  obtain ⟨n1, n2, n3, n4, n5, n6⟩ := hO.ne
  have kbp := blk_lt hO.prg
  have kbc := blk_lt hO.cls
  have kbm := blk_lt hO.met
  have kbi := blk_lt hO.ins
  go_upto_region 11 with (fail)
  have HV : Hid (One w (U.alloc (.cells #[.int .i64 40, .int .i64 8, .int .i64 24, .int .i64 24, .int .i64 24, .int .i64 8, .int .i64 300, .int .i64 16] 3)) bp bc bm bi) := hO.more _
  clear hO HO p0 p1 c7 m6 kbp kbc kbm kbi
  generalize hVW : (U.alloc (.cells #[.int .i64 40, .int .i64 8, .int .i64 24, .int .i64 24, .int .i64 24, .int .i64 8, .int .i64 300, .int .i64 16] 3)) = V at *
  clear hVW
  have hO := HV.out
  have kbp := blk_lt hO.prg
  have kbc := blk_lt hO.cls
  have kbm := blk_lt hO.met
  have kbi := blk_lt hO.ins
  obtain ⟨o1, o2, o3, o4⟩ := hO.low
  go_loopg [] (41 + 1) (fun kx wr => ∃ (m g cap : Nat), m ≤ 41 ∧ 41 - m ≤ kx ∧ Hid (∃ i, m = i + 1 ∧ Rw 42 8 w.heap.size (fun b => b = bp ∨ b = bc) bc V wr (.slice (some ⟨g, 0, none⟩) m cap) m (([.string ⟨#[77]⟩, .bool false, .bool false, .int .i64 0, .slice none 0 0, .slice none 0 0, .slice none 0 0, .slice (some ⟨bm, 0, none⟩) 1 1] : List Value) :: List.replicate i ([.string ⟨#[65]⟩, .bool false, .bool false, .int .i64 0, .slice none 0 0, .slice none 0 0, .slice none 0 0, .slice none 0 0] : List Value)).flatten ∧ wr.heap[bp]? = some (.cells #[.int .i64 11, .slice (some ⟨g, 0, none⟩) m cap] 24 (0, 0))))
  case atStart => exact ⟨1, bc, 1, by omega, by omega, 0, rfl, ⟨⟨by simp, .inr ⟨bc, 1, #[.string ⟨#[77]⟩, .bool false, .bool false, .int .i64 0, .slice none 0 0, .slice none 0 0, .slice none 0 0, .slice (some ⟨bm, 0, none⟩) 1 1], rfl, by omega, hO.cls, Nat.le_refl _, by decide, rfl, by simp⟩⟩, (fun q e => .inl (by have e' : bc = q := (by simpa [Value.ownBlock] using e); exact e'.symm)), rfl, rfl, rfl, Nat.le_refl _, fun _ _ _ => rfl⟩, hO.prg⟩
  case round =>
    obtain ⟨m, g, cap, hm, hkx, HR⟩ := hrel
    obtain ⟨i, hmi, hr, hb⟩ := HR.out
    have hs := hr.size
    have hg : g = bc ∨ V.heap.size ≤ g := hr.out g rfl
    have fb : wr.cell? ⟨bp, 1, none⟩ = some (.slice (some ⟨g, 0, none⟩) m cap) := by simp [World.cell?, hb]
    by_cases hlt : m < 41
    · have hl2 : (m : Int) < 41 := by omega
      obtain ⟨fs, hfs⟩ : ∃ fs, (([.string ⟨#[77]⟩, .bool false, .bool false, .int .i64 0, .slice none 0 0, .slice none 0 0, .slice none 0 0, .slice (some ⟨bm, 0, none⟩) 1 1] : List Value) :: List.replicate i ([.string ⟨#[65]⟩, .bool false, .bool false, .int .i64 0, .slice none 0 0, .slice none 0 0, .slice none 0 0, .slice none 0 0] : List Value)).flatten = fs := ⟨_, rfl⟩
      have HF2 : Hid (wr.ownsRow w.heap.size 42 8 (.slice (some ⟨g, 0, none⟩) m cap) m fs) := by rw [← hfs]; exact hr.own
      have HA : Hid (∀ o w' g2 cap2, w'.ownsRow w.heap.size 42 8 (.slice (some ⟨g2, 0, none⟩) (m + 1) cap2) (m + 1) (fs ++ ([.string ⟨#[65]⟩, .bool false, .bool false, .int .i64 0, .slice none 0 0, .slice none 0 0, .slice none 0 0, .slice none 0 0] : List Value)) → (wr.alloc o).grownBy w' (some g) → (some g = some g2 ∨ g2 = (wr.alloc o).heap.size) → w'.heap[bp]? = some (.cells #[.int .i64 11, .slice (some ⟨g, 0, none⟩) m cap] 24 (0, 0)) ∧ ∃ j, m + 1 = j + 1 ∧ Rw 42 8 w.heap.size (fun b => b = bp ∨ b = bc) bc V (w'.setCell ⟨bp, 1, none⟩ (.slice (some ⟨g2, 0, none⟩) (m + 1) cap2)) (.slice (some ⟨g2, 0, none⟩) (m + 1) cap2) (m + 1) (([.string ⟨#[77]⟩, .bool false, .bool false, .int .i64 0, .slice none 0 0, .slice none 0 0, .slice none 0 0, .slice (some ⟨bm, 0, none⟩) 1 1] : List Value) :: List.replicate j ([.string ⟨#[65]⟩, .bool false, .bool false, .int .i64 0, .slice none 0 0, .slice none 0 0, .slice none 0 0, .slice none 0 0] : List Value)).flatten ∧ (w'.setCell ⟨bp, 1, none⟩ (.slice (some ⟨g2, 0, none⟩) (m + 1) cap2)).heap[bp]? = some (.cells #[.int .i64 11, .slice (some ⟨g2, 0, none⟩) (m + 1) cap2] 24 (0, 0))) := fun o w' g2 cap2 a1 a2 a3 => by
        have h2 := hr
        rw [hfs] at h2
        obtain ⟨q1, q2⟩ := h2.app (.inl (.inr rfl)) a1 a2 a3
        have hbx := (q2 bp (by omega) (by omega)).trans hb
        rw [← hfs, flat_succ, ← hmi] at q1
        refine ⟨hbx, m, rfl, q1.set (.inl rfl) (fun e => ?_) _, hset hbx _⟩
        have e' : g2 = bp := by simpa [Value.ownBlock] using e
        rcases q1.out g2 rfl with e2 | e2 <;> omega
      clear HR hr hb hfs hmi
      go_wp2_with (at_builtin; refine wpList_append_lies _ rfl _ _ 22 rfl w.heap.size 42 i0 (.agg #[.string ⟨#[]⟩, .bool false, .bool false, .int .i64 0, .slice none 0 0, .slice none 0 0, .slice none 0 0, .slice none 0 0]) 8 128 Try.underlying22 hi hz0 hz1 hz2 rfl (by decide) _ m fs rfl (HF2.out.alloc _) ⟨wr.heap.size, 0, none⟩ 1 1 ([.string ⟨#[65]⟩, .bool false, .bool false, .int .i64 0, .slice none 0 0, .slice none 0 0, .slice none 0 0, .slice none 0 0] : List Value) rfl rfl (news_at _ _ _) (by simp [Value.oneCell']) (by decide) (by unfold maxLen; omega) (by omega) (by simp; omega) _ rfl ?_; intro g2 cap2 w2 hown hgrow hat hlt3; obtain ⟨hbx, hR2⟩ := HA.out _ _ _ _ hown hgrow hat; have HR2 : Hid _ := hR2; have fz : w2.frozen? ⟨bp, 1, none⟩ = false := (by simp [World.frozen?, hbx]); have cz : w2.cell? ⟨bp, 1, none⟩ = some (.slice (some ⟨g, 0, none⟩) m cap) := (by simp [World.cell?, hbx]); have lz := blk_lt hbx; clear hown hgrow hat hbx hR2 HA)
      go_roundg (41 - (m + 1))
      case measure => omega
      case rel => exact ⟨m + 1, g2, cap2, by omega, by omega, HR2.out⟩
    · have hn : m = 41 := by omega
      subst hn
      have hl : ¬ ((41 : Nat) : Int) < 41 := by omega
      have hi9 : i = 40 := by omega
      subst hi9
      have hR := grw0_R HV.out hr hb
      have q0 : wr.cell? ⟨bp, 0, none⟩ = some (.int .i64 11) := by simp [World.cell?, hb]
      have HB : Hid (Below w.heap.size w wr) := hR.2
      have hB : Calls Try.prog 13 #[.agg #[.int .i64 11, .slice (some ⟨g, 0, none⟩) 41 cap], .int .i64 1404] wr fun e w' => e = .returned (.bool true) ∧ Below wr.heap.size wr w' := refuses_yes HE.out wr (fun _ h => h) hR.1
      clear hR hr hb HR hmi
      go_wp2_with (go_at_call 13; refine hB.mono ?_; rintro e w9 ⟨rfl, hb9⟩; have HF : Hid (Below w.heap.size w w9) := HB.out.trans (hb9.mono HB.out.size); clear hB hb9)
      go_ret
      exact ⟨rfl, HF.out⟩
theorem grw4_R {w V wr : World} {bp bc bm bi i g cap : Nat} (h : One w V bp bc bm bi) (hr : Rw 49 9 w.heap.size (fun b => b = bc ∨ b = bm) bm V wr (.slice (some ⟨g, 0, none⟩) (i + 1) cap) (i + 1) (([.string ⟨#[109, 97, 105, 110]⟩, .bool true, .slice none 0 0, .int .i64 0, .int .i64 0, .int .i64 0, .slice (some ⟨bi, 0, none⟩) 1 1, .slice none 0 0, .slice none 0 0] : List Value) :: List.replicate i ([.string ⟨#[109]⟩, .bool false, .slice none 0 0, .int .i64 0, .int .i64 0, .int .i64 0, .slice none 0 0, .slice none 0 0, .slice none 0 0] : List Value)).flatten) (hb : wr.heap[bc]? = some (.cells #[.string ⟨#[77]⟩, .bool false, .bool false, .int .i64 0, .slice none 0 0, .slice none 0 0, .slice none 0 0, .slice (some ⟨g, 0, none⟩) (i + 1) cap] 42 (0, 0))) : kPg.R wr (fun q => q < wr.heap.size) ⟨11, [{ tinyC with mds := tinyM :: List.replicate i cntM }]⟩ [.int .i64 11, .slice (some ⟨bc, 0, none⟩) 1 1] ∧ Below w.heap.size w wr := by
  obtain ⟨n1, n2, n3, n4, n5, n6⟩ := h.ne
  obtain ⟨l1, l2, l3, l4⟩ := h.low
  have kbp := blk_lt h.prg
  have kbc := blk_lt h.cls
  have kbm := blk_lt h.met
  have kbi := blk_lt h.ins
  have hs := hr.size
  have hg : g = bm ∨ V.heap.size ≤ g := hr.out g rfl
  have hsx : ∀ q, w.heap.size ≤ q → q < V.heap.size → q ≠ bm → Sx w.heap.size wr (.slice (some ⟨g, 0, none⟩) (i + 1) cap) q := fun q h1 h2 h3 => ⟨h1, by omega, fun e => by
    have e' : g = q := by simpa [Value.ownBlock] using e
    omega⟩
  have fbi : wr.heap[bi]? = some (.cells #[.int .i64 29, .int .i64 0, .int .i64 0] 63 (0, 0)) := (hr.same bi kbi (by omega)).trans h.ins
  have r0 : kMd.R wr (Sx w.heap.size wr (.slice (some ⟨g, 0, none⟩) (i + 1) cap)) tinyM ([.string ⟨#[109, 97, 105, 110]⟩, .bool true, .slice none 0 0, .int .i64 0, .int .i64 0, .int .i64 0, .slice (some ⟨bi, 0, none⟩) 1 1, .slice none 0 0, .slice none 0 0] : List Value) := ⟨_, _, _, _, rfl, Sl.nil _ _ _, Sl.one1 fbi (hsx bi l4 kbi (by omega)) rfl, Sl.nil _ _ _, Sl.nil _ _ _⟩
  have r1 : kMd.R wr (Sx w.heap.size wr (.slice (some ⟨g, 0, none⟩) (i + 1) cap)) cntM ([.string ⟨#[109]⟩, .bool false, .slice none 0 0, .int .i64 0, .int .i64 0, .int .i64 0, .slice none 0 0, .slice none 0 0, .slice none 0 0] : List Value) := ⟨_, _, _, _, rfl, Sl.nil _ _ _, Sl.nil _ _ _, Sl.nil _ _ _, Sl.nil _ _ _⟩
  have hn : (tinyM :: List.replicate i cntM).length = i + 1 := by simp
  have hsl0 := Rw.sl (K := kMd) (css := ([.string ⟨#[109, 97, 105, 110]⟩, .bool true, .slice none 0 0, .int .i64 0, .int .i64 0, .int .i64 0, .slice (some ⟨bi, 0, none⟩) 1 1, .slice none 0 0, .slice none 0 0] : List Value) :: List.replicate i ([.string ⟨#[109]⟩, .bool false, .slice none 0 0, .int .i64 0, .int .i64 0, .int .i64 0, .slice none 0 0, .slice none 0 0, .slice none 0 0] : List Value)) (ys := tinyM :: List.replicate i cntM) (by rw [hn]; exact hr) (by simp) (cons_R r0 r1 i)
  have hsl : Sl kMd wr (fun q => q < wr.heap.size) (.slice (some ⟨g, 0, none⟩) (i + 1) cap) (tinyM :: List.replicate i cntM) := hsl0.mono fun q hq => hq.2
  have hbl := h.bel
  have hbs := hbl.size
  refine ⟨⟨_, rfl, Sl.one1 hb (by show bc < _; omega) ⟨_, _, _, _, rfl, Sl.nil _ _ _, Sl.nil _ _ _, Sl.nil _ _ _, hsl⟩⟩, ⟨hr.os.trans hbl.os, hr.tape.trans hbl.tape, hr.output.trans hbl.output, by omega, fun q hq => (hr.same q (by omega) (by omega)).trans (hbl.block q hq)⟩⟩
set_option maxHeartbeats 8000000 in
set_option maxRecDepth 20000 in
theorem cnt4_y {wh : Int} (w : World) (hk : bits BinOp.and .i64 wh 7 = 4) : Calls Try.prog 5 #[.int .i64 wh, .bool false] w fun e w' => e = .returned (.bool true) ∧ Below w.heap.size w w' := by
  obtain ⟨i0, hi, hz0, hz1, hz2⟩ := info_parts infoLM
  have hA := awake14 w
  obtain ⟨b, he⟩ := cnt_yes (k := 4) (by decide)
  have HE : Hid (encP (cntP 4 24) = .ok b) := he
  clear he
  go_enter Try.func5, Try.ntmps5
  go_upto_region 4 with (first
    | (go_at_call 7; refine hA.mono ?_; rintro e w1 ⟨rfl, hb1⟩; clear hA; have hT := TinyM w1; have H1 : Hid (Below w.heap.size w w1) := hb1; clear hb1)
    | (go_at_call 12; refine hT.mono ?_; rintro e w2 ⟨hb2, rfl, hT2⟩; clear hT; have HO : Hid (One w (w2.alloc (.cells #[.int .i64 11, .slice (some ⟨w1.heap.size + 1 + 1 + 1 + 1, 0, none⟩) 1 1] 24)) w2.heap.size (w1.heap.size + 1 + 1 + 1 + 1) (w1.heap.size + 1 + 1 + 1) (w1.heap.size + 1)) := one_of H1.out hb2 hT2; clear hT2 hb2 H1))
  generalize hU : w2.alloc (.cells #[.int .i64 11, .slice (some ⟨w1.heap.size + 1 + 1 + 1 + 1, 0, none⟩) 1 1] 24) = U at *
  clear hU
  generalize hbp : w2.heap.size = bp at *
  clear hbp
  generalize hbc : w1.heap.size + 1 + 1 + 1 + 1 = bc at *
  generalize hbm : w1.heap.size + 1 + 1 + 1 = bm at *
  generalize hbi : w1.heap.size + 1 = bi at *
  clear hbc hbm hbi
  have hO := HO.out
  have p0 : U.cell? ⟨bp, 0, none⟩ = some (.int .i64 11) := by simp [World.cell?, hO.prg]
  have p1 : U.cell? ⟨bp, 1, none⟩ = some (.slice (some ⟨bc, 0, none⟩) 1 1) := by simp [World.cell?, hO.prg]
  have c7 : U.cell? ⟨bc, 7, none⟩ = some (.slice (some ⟨bm, 0, none⟩) 1 1) := by simp [World.cell?, hO.cls]
  have m6 : U.cell? ⟨bm, 6, none⟩ = some (.slice (some ⟨bi, 0, none⟩) 1 1) := by simp [World.cell?, hO.met]
  obtain ⟨n1, n2, n3, n4, n5, n6⟩ := hO.ne
  have kbp := blk_lt hO.prg
  have kbc := blk_lt hO.cls
  have kbm := blk_lt hO.met
  have kbi := blk_lt hO.ins
  go_upto_region 26 with (fail)
  have HV : Hid (One w (U.alloc (.cells #[.int .i64 40, .int .i64 8, .int .i64 24, .int .i64 24, .int .i64 24, .int .i64 8, .int .i64 300, .int .i64 16] 3)) bp bc bm bi) := hO.more _
  clear hO HO p0 p1 c7 m6 kbp kbc kbm kbi
  generalize hVW : (U.alloc (.cells #[.int .i64 40, .int .i64 8, .int .i64 24, .int .i64 24, .int .i64 24, .int .i64 8, .int .i64 300, .int .i64 16] 3)) = V at *
  clear hVW
  have hO := HV.out
  have kbp := blk_lt hO.prg
  have kbc := blk_lt hO.cls
  have kbm := blk_lt hO.met
  have kbi := blk_lt hO.ins
  obtain ⟨o1, o2, o3, o4⟩ := hO.low
  go_loopg [] (24 + 1) (fun kx wr => ∃ (m g cap : Nat), m ≤ 24 ∧ 24 - m ≤ kx ∧ Hid (∃ i, m = i + 1 ∧ Rw 49 9 w.heap.size (fun b => b = bc ∨ b = bm) bm V wr (.slice (some ⟨g, 0, none⟩) m cap) m (([.string ⟨#[109, 97, 105, 110]⟩, .bool true, .slice none 0 0, .int .i64 0, .int .i64 0, .int .i64 0, .slice (some ⟨bi, 0, none⟩) 1 1, .slice none 0 0, .slice none 0 0] : List Value) :: List.replicate i ([.string ⟨#[109]⟩, .bool false, .slice none 0 0, .int .i64 0, .int .i64 0, .int .i64 0, .slice none 0 0, .slice none 0 0, .slice none 0 0] : List Value)).flatten ∧ wr.heap[bc]? = some (.cells #[.string ⟨#[77]⟩, .bool false, .bool false, .int .i64 0, .slice none 0 0, .slice none 0 0, .slice none 0 0, .slice (some ⟨g, 0, none⟩) m cap] 42 (0, 0))))
  case atStart => exact ⟨1, bm, 1, by omega, by omega, 0, rfl, ⟨⟨by simp, .inr ⟨bm, 1, #[.string ⟨#[109, 97, 105, 110]⟩, .bool true, .slice none 0 0, .int .i64 0, .int .i64 0, .int .i64 0, .slice (some ⟨bi, 0, none⟩) 1 1, .slice none 0 0, .slice none 0 0], rfl, by omega, hO.met, Nat.le_refl _, by decide, rfl, by simp⟩⟩, (fun q e => .inl (by have e' : bm = q := (by simpa [Value.ownBlock] using e); exact e'.symm)), rfl, rfl, rfl, Nat.le_refl _, fun _ _ _ => rfl⟩, hO.cls⟩
  case round =>
    obtain ⟨m, g, cap, hm, hkx, HR⟩ := hrel
    obtain ⟨i, hmi, hr, hb⟩ := HR.out
    have hs := hr.size
    have hg : g = bm ∨ V.heap.size ≤ g := hr.out g rfl
    have fb : wr.cell? ⟨bc, 7, none⟩ = some (.slice (some ⟨g, 0, none⟩) m cap) := by simp [World.cell?, hb]
    by_cases hlt : m < 24
    · have hl2 : (m : Int) < 24 := by omega
      obtain ⟨fs, hfs⟩ : ∃ fs, (([.string ⟨#[109, 97, 105, 110]⟩, .bool true, .slice none 0 0, .int .i64 0, .int .i64 0, .int .i64 0, .slice (some ⟨bi, 0, none⟩) 1 1, .slice none 0 0, .slice none 0 0] : List Value) :: List.replicate i ([.string ⟨#[109]⟩, .bool false, .slice none 0 0, .int .i64 0, .int .i64 0, .int .i64 0, .slice none 0 0, .slice none 0 0, .slice none 0 0] : List Value)).flatten = fs := ⟨_, rfl⟩
      have HF2 : Hid (wr.ownsRow w.heap.size 49 9 (.slice (some ⟨g, 0, none⟩) m cap) m fs) := by rw [← hfs]; exact hr.own
      have HA : Hid (∀ o w' g2 cap2, w'.ownsRow w.heap.size 49 9 (.slice (some ⟨g2, 0, none⟩) (m + 1) cap2) (m + 1) (fs ++ ([.string ⟨#[109]⟩, .bool false, .slice none 0 0, .int .i64 0, .int .i64 0, .int .i64 0, .slice none 0 0, .slice none 0 0, .slice none 0 0] : List Value)) → (wr.alloc o).grownBy w' (some g) → (some g = some g2 ∨ g2 = (wr.alloc o).heap.size) → w'.heap[bc]? = some (.cells #[.string ⟨#[77]⟩, .bool false, .bool false, .int .i64 0, .slice none 0 0, .slice none 0 0, .slice none 0 0, .slice (some ⟨g, 0, none⟩) m cap] 42 (0, 0)) ∧ ∃ j, m + 1 = j + 1 ∧ Rw 49 9 w.heap.size (fun b => b = bc ∨ b = bm) bm V (w'.setCell ⟨bc, 7, none⟩ (.slice (some ⟨g2, 0, none⟩) (m + 1) cap2)) (.slice (some ⟨g2, 0, none⟩) (m + 1) cap2) (m + 1) (([.string ⟨#[109, 97, 105, 110]⟩, .bool true, .slice none 0 0, .int .i64 0, .int .i64 0, .int .i64 0, .slice (some ⟨bi, 0, none⟩) 1 1, .slice none 0 0, .slice none 0 0] : List Value) :: List.replicate j ([.string ⟨#[109]⟩, .bool false, .slice none 0 0, .int .i64 0, .int .i64 0, .int .i64 0, .slice none 0 0, .slice none 0 0, .slice none 0 0] : List Value)).flatten ∧ (w'.setCell ⟨bc, 7, none⟩ (.slice (some ⟨g2, 0, none⟩) (m + 1) cap2)).heap[bc]? = some (.cells #[.string ⟨#[77]⟩, .bool false, .bool false, .int .i64 0, .slice none 0 0, .slice none 0 0, .slice none 0 0, .slice (some ⟨g2, 0, none⟩) (m + 1) cap2] 42 (0, 0))) := fun o w' g2 cap2 a1 a2 a3 => by
        have h2 := hr
        rw [hfs] at h2
        obtain ⟨q1, q2⟩ := h2.app (.inl (.inr rfl)) a1 a2 a3
        have hbx := (q2 bc (by omega) (by omega)).trans hb
        rw [← hfs, flat_succ, ← hmi] at q1
        refine ⟨hbx, m, rfl, q1.set (.inl rfl) (fun e => ?_) _, hset hbx _⟩
        have e' : g2 = bc := by simpa [Value.ownBlock] using e
        rcases q1.out g2 rfl with e2 | e2 <;> omega
      clear HR hr hb hfs hmi
      go_wp2_with (at_builtin; refine wpList_append_lies _ rfl _ _ 40 rfl w.heap.size 49 i0 (.agg #[.string ⟨#[]⟩, .bool false, .slice none 0 0, .int .i64 0, .int .i64 0, .int .i64 0, .slice none 0 0, .slice none 0 0, .slice none 0 0]) 9 144 Try.underlying40 hi hz0 hz1 hz2 rfl (by decide) _ m fs rfl (HF2.out.alloc _) ⟨wr.heap.size, 0, none⟩ 1 1 ([.string ⟨#[109]⟩, .bool false, .slice none 0 0, .int .i64 0, .int .i64 0, .int .i64 0, .slice none 0 0, .slice none 0 0, .slice none 0 0] : List Value) rfl rfl (news_at _ _ _) (by simp [Value.oneCell']) (by decide) (by unfold maxLen; omega) (by omega) (by simp; omega) _ rfl ?_; intro g2 cap2 w2 hown hgrow hat hlt3; obtain ⟨hbx, hR2⟩ := HA.out _ _ _ _ hown hgrow hat; have HR2 : Hid _ := hR2; have fz : w2.frozen? ⟨bc, 7, none⟩ = false := (by simp [World.frozen?, hbx]); have cz : w2.cell? ⟨bc, 7, none⟩ = some (.slice (some ⟨g, 0, none⟩) m cap) := (by simp [World.cell?, hbx]); have lz := blk_lt hbx; clear hown hgrow hat hbx hR2 HA)
      go_roundg (24 - (m + 1))
      case measure => omega
      case rel => exact ⟨m + 1, g2, cap2, by omega, by omega, HR2.out⟩
    · have hn : m = 24 := by omega
      subst hn
      have hl : ¬ ((24 : Nat) : Int) < 24 := by omega
      have hi9 : i = 23 := by omega
      subst hi9
      have hR := grw4_R HV.out hr hb
      have fp : wr.heap[bp]? = some (.cells #[.int .i64 11, .slice (some ⟨bc, 0, none⟩) 1 1] 24 (0, 0)) := (hr.same bp kbp (by omega)).trans hO.prg
      have q0 : wr.cell? ⟨bp, 0, none⟩ = some (.int .i64 11) := by simp [World.cell?, fp]
      have q1 : wr.cell? ⟨bp, 1, none⟩ = some (.slice (some ⟨bc, 0, none⟩) 1 1) := by simp [World.cell?, fp]
      clear fp
      have HB : Hid (Below w.heap.size w wr) := hR.2
      have hB : Calls Try.prog 14 #[.agg #[.int .i64 11, .slice (some ⟨bc, 0, none⟩) 1 1]] wr fun e w' => e = .returned (.bool true) ∧ Below wr.heap.size wr w' := back_yes HE.out wr (fun _ h => h) hR.1
      clear hR hr hb HR hmi
      go_wp2_with (go_at_call 14; refine hB.mono ?_; rintro e w9 ⟨rfl, hb9⟩; have HF : Hid (Below w.heap.size w w9) := HB.out.trans (hb9.mono HB.out.size); clear hB hb9)
      go_ret
      exact ⟨rfl, HF.out⟩
set_option maxHeartbeats 8000000 in
set_option maxRecDepth 20000 in
theorem cnt4_n {wh : Int} (w : World) (hk : bits BinOp.and .i64 wh 7 = 4) : Calls Try.prog 5 #[.int .i64 wh, .bool true] w fun e w' => e = .returned (.bool true) ∧ Below w.heap.size w w' := by
  obtain ⟨i0, hi, hz0, hz1, hz2⟩ := info_parts infoLM
  have hA := awake14 w
  have HE : Hid (encP (cntP 4 25) = .error 1404) := cnt_no (k := 4) (by decide)
  go_enter Try.func5, Try.ntmps5
  go_upto_region 4 with (first
    | (go_at_call 7; refine hA.mono ?_; rintro e w1 ⟨rfl, hb1⟩; clear hA; have hT := TinyM w1; have H1 : Hid (Below w.heap.size w w1) := hb1; clear hb1)
    | (go_at_call 12; refine hT.mono ?_; rintro e w2 ⟨hb2, rfl, hT2⟩; clear hT; have HO : Hid (One w (w2.alloc (.cells #[.int .i64 11, .slice (some ⟨w1.heap.size + 1 + 1 + 1 + 1, 0, none⟩) 1 1] 24)) w2.heap.size (w1.heap.size + 1 + 1 + 1 + 1) (w1.heap.size + 1 + 1 + 1) (w1.heap.size + 1)) := one_of H1.out hb2 hT2; clear hT2 hb2 H1))
  generalize hU : w2.alloc (.cells #[.int .i64 11, .slice (some ⟨w1.heap.size + 1 + 1 + 1 + 1, 0, none⟩) 1 1] 24) = U at *
  clear hU
  generalize hbp : w2.heap.size = bp at *
  clear hbp
  generalize hbc : w1.heap.size + 1 + 1 + 1 + 1 = bc at *
  generalize hbm : w1.heap.size + 1 + 1 + 1 = bm at *
  generalize hbi : w1.heap.size + 1 = bi at *
  clear hbc hbm hbi
  have hO := HO.out
  have p0 : U.cell? ⟨bp, 0, none⟩ = some (.int .i64 11) := by simp [World.cell?, hO.prg]
  have p1 : U.cell? ⟨bp, 1, none⟩ = some (.slice (some ⟨bc, 0, none⟩) 1 1) := by simp [World.cell?, hO.prg]
  have c7 : U.cell? ⟨bc, 7, none⟩ = some (.slice (some ⟨bm, 0, none⟩) 1 1) := by simp [World.cell?, hO.cls]
  have m6 : U.cell? ⟨bm, 6, none⟩ = some (.slice (some ⟨bi, 0, none⟩) 1 1) := by simp [World.cell?, hO.met]
  obtain ⟨n1, n2, n3, n4, n5, n6⟩ := hO.ne
  have kbp := blk_lt hO.prg
  have kbc := blk_lt hO.cls
  have kbm := blk_lt hO.met
  have kbi := blk_lt hO.ins
  go_upto_region 26 with (fail)
  have HV : Hid (One w (U.alloc (.cells #[.int .i64 40, .int .i64 8, .int .i64 24, .int .i64 24, .int .i64 24, .int .i64 8, .int .i64 300, .int .i64 16] 3)) bp bc bm bi) := hO.more _
  clear hO HO p0 p1 c7 m6 kbp kbc kbm kbi
  generalize hVW : (U.alloc (.cells #[.int .i64 40, .int .i64 8, .int .i64 24, .int .i64 24, .int .i64 24, .int .i64 8, .int .i64 300, .int .i64 16] 3)) = V at *
  clear hVW
  have hO := HV.out
  have kbp := blk_lt hO.prg
  have kbc := blk_lt hO.cls
  have kbm := blk_lt hO.met
  have kbi := blk_lt hO.ins
  obtain ⟨o1, o2, o3, o4⟩ := hO.low
  go_loopg [] (25 + 1) (fun kx wr => ∃ (m g cap : Nat), m ≤ 25 ∧ 25 - m ≤ kx ∧ Hid (∃ i, m = i + 1 ∧ Rw 49 9 w.heap.size (fun b => b = bc ∨ b = bm) bm V wr (.slice (some ⟨g, 0, none⟩) m cap) m (([.string ⟨#[109, 97, 105, 110]⟩, .bool true, .slice none 0 0, .int .i64 0, .int .i64 0, .int .i64 0, .slice (some ⟨bi, 0, none⟩) 1 1, .slice none 0 0, .slice none 0 0] : List Value) :: List.replicate i ([.string ⟨#[109]⟩, .bool false, .slice none 0 0, .int .i64 0, .int .i64 0, .int .i64 0, .slice none 0 0, .slice none 0 0, .slice none 0 0] : List Value)).flatten ∧ wr.heap[bc]? = some (.cells #[.string ⟨#[77]⟩, .bool false, .bool false, .int .i64 0, .slice none 0 0, .slice none 0 0, .slice none 0 0, .slice (some ⟨g, 0, none⟩) m cap] 42 (0, 0))))
  case atStart => exact ⟨1, bm, 1, by omega, by omega, 0, rfl, ⟨⟨by simp, .inr ⟨bm, 1, #[.string ⟨#[109, 97, 105, 110]⟩, .bool true, .slice none 0 0, .int .i64 0, .int .i64 0, .int .i64 0, .slice (some ⟨bi, 0, none⟩) 1 1, .slice none 0 0, .slice none 0 0], rfl, by omega, hO.met, Nat.le_refl _, by decide, rfl, by simp⟩⟩, (fun q e => .inl (by have e' : bm = q := (by simpa [Value.ownBlock] using e); exact e'.symm)), rfl, rfl, rfl, Nat.le_refl _, fun _ _ _ => rfl⟩, hO.cls⟩
  case round =>
    obtain ⟨m, g, cap, hm, hkx, HR⟩ := hrel
    obtain ⟨i, hmi, hr, hb⟩ := HR.out
    have hs := hr.size
    have hg : g = bm ∨ V.heap.size ≤ g := hr.out g rfl
    have fb : wr.cell? ⟨bc, 7, none⟩ = some (.slice (some ⟨g, 0, none⟩) m cap) := by simp [World.cell?, hb]
    by_cases hlt : m < 25
    · have hl2 : (m : Int) < 25 := by omega
      obtain ⟨fs, hfs⟩ : ∃ fs, (([.string ⟨#[109, 97, 105, 110]⟩, .bool true, .slice none 0 0, .int .i64 0, .int .i64 0, .int .i64 0, .slice (some ⟨bi, 0, none⟩) 1 1, .slice none 0 0, .slice none 0 0] : List Value) :: List.replicate i ([.string ⟨#[109]⟩, .bool false, .slice none 0 0, .int .i64 0, .int .i64 0, .int .i64 0, .slice none 0 0, .slice none 0 0, .slice none 0 0] : List Value)).flatten = fs := ⟨_, rfl⟩
      have HF2 : Hid (wr.ownsRow w.heap.size 49 9 (.slice (some ⟨g, 0, none⟩) m cap) m fs) := by rw [← hfs]; exact hr.own
      have HA : Hid (∀ o w' g2 cap2, w'.ownsRow w.heap.size 49 9 (.slice (some ⟨g2, 0, none⟩) (m + 1) cap2) (m + 1) (fs ++ ([.string ⟨#[109]⟩, .bool false, .slice none 0 0, .int .i64 0, .int .i64 0, .int .i64 0, .slice none 0 0, .slice none 0 0, .slice none 0 0] : List Value)) → (wr.alloc o).grownBy w' (some g) → (some g = some g2 ∨ g2 = (wr.alloc o).heap.size) → w'.heap[bc]? = some (.cells #[.string ⟨#[77]⟩, .bool false, .bool false, .int .i64 0, .slice none 0 0, .slice none 0 0, .slice none 0 0, .slice (some ⟨g, 0, none⟩) m cap] 42 (0, 0)) ∧ ∃ j, m + 1 = j + 1 ∧ Rw 49 9 w.heap.size (fun b => b = bc ∨ b = bm) bm V (w'.setCell ⟨bc, 7, none⟩ (.slice (some ⟨g2, 0, none⟩) (m + 1) cap2)) (.slice (some ⟨g2, 0, none⟩) (m + 1) cap2) (m + 1) (([.string ⟨#[109, 97, 105, 110]⟩, .bool true, .slice none 0 0, .int .i64 0, .int .i64 0, .int .i64 0, .slice (some ⟨bi, 0, none⟩) 1 1, .slice none 0 0, .slice none 0 0] : List Value) :: List.replicate j ([.string ⟨#[109]⟩, .bool false, .slice none 0 0, .int .i64 0, .int .i64 0, .int .i64 0, .slice none 0 0, .slice none 0 0, .slice none 0 0] : List Value)).flatten ∧ (w'.setCell ⟨bc, 7, none⟩ (.slice (some ⟨g2, 0, none⟩) (m + 1) cap2)).heap[bc]? = some (.cells #[.string ⟨#[77]⟩, .bool false, .bool false, .int .i64 0, .slice none 0 0, .slice none 0 0, .slice none 0 0, .slice (some ⟨g2, 0, none⟩) (m + 1) cap2] 42 (0, 0))) := fun o w' g2 cap2 a1 a2 a3 => by
        have h2 := hr
        rw [hfs] at h2
        obtain ⟨q1, q2⟩ := h2.app (.inl (.inr rfl)) a1 a2 a3
        have hbx := (q2 bc (by omega) (by omega)).trans hb
        rw [← hfs, flat_succ, ← hmi] at q1
        refine ⟨hbx, m, rfl, q1.set (.inl rfl) (fun e => ?_) _, hset hbx _⟩
        have e' : g2 = bc := by simpa [Value.ownBlock] using e
        rcases q1.out g2 rfl with e2 | e2 <;> omega
      clear HR hr hb hfs hmi
      go_wp2_with (at_builtin; refine wpList_append_lies _ rfl _ _ 40 rfl w.heap.size 49 i0 (.agg #[.string ⟨#[]⟩, .bool false, .slice none 0 0, .int .i64 0, .int .i64 0, .int .i64 0, .slice none 0 0, .slice none 0 0, .slice none 0 0]) 9 144 Try.underlying40 hi hz0 hz1 hz2 rfl (by decide) _ m fs rfl (HF2.out.alloc _) ⟨wr.heap.size, 0, none⟩ 1 1 ([.string ⟨#[109]⟩, .bool false, .slice none 0 0, .int .i64 0, .int .i64 0, .int .i64 0, .slice none 0 0, .slice none 0 0, .slice none 0 0] : List Value) rfl rfl (news_at _ _ _) (by simp [Value.oneCell']) (by decide) (by unfold maxLen; omega) (by omega) (by simp; omega) _ rfl ?_; intro g2 cap2 w2 hown hgrow hat hlt3; obtain ⟨hbx, hR2⟩ := HA.out _ _ _ _ hown hgrow hat; have HR2 : Hid _ := hR2; have fz : w2.frozen? ⟨bc, 7, none⟩ = false := (by simp [World.frozen?, hbx]); have cz : w2.cell? ⟨bc, 7, none⟩ = some (.slice (some ⟨g, 0, none⟩) m cap) := (by simp [World.cell?, hbx]); have lz := blk_lt hbx; clear hown hgrow hat hbx hR2 HA)
      go_roundg (25 - (m + 1))
      case measure => omega
      case rel => exact ⟨m + 1, g2, cap2, by omega, by omega, HR2.out⟩
    · have hn : m = 25 := by omega
      subst hn
      have hl : ¬ ((25 : Nat) : Int) < 25 := by omega
      have hi9 : i = 24 := by omega
      subst hi9
      have hR := grw4_R HV.out hr hb
      have fp : wr.heap[bp]? = some (.cells #[.int .i64 11, .slice (some ⟨bc, 0, none⟩) 1 1] 24 (0, 0)) := (hr.same bp kbp (by omega)).trans hO.prg
      have q0 : wr.cell? ⟨bp, 0, none⟩ = some (.int .i64 11) := by simp [World.cell?, fp]
      have q1 : wr.cell? ⟨bp, 1, none⟩ = some (.slice (some ⟨bc, 0, none⟩) 1 1) := by simp [World.cell?, fp]
      clear fp
      have HB : Hid (Below w.heap.size w wr) := hR.2
      have hB : Calls Try.prog 13 #[.agg #[.int .i64 11, .slice (some ⟨bc, 0, none⟩) 1 1], .int .i64 1404] wr fun e w' => e = .returned (.bool true) ∧ Below wr.heap.size wr w' := refuses_yes HE.out wr (fun _ h => h) hR.1
      clear hR hr hb HR hmi
      go_wp2_with (go_at_call 13; refine hB.mono ?_; rintro e w9 ⟨rfl, hb9⟩; have HF : Hid (Below w.heap.size w w9) := HB.out.trans (hb9.mono HB.out.size); clear hB hb9)
      go_ret
      exact ⟨rfl, HF.out⟩
end Go.Proofs.Ytajghalljkphiaa
