/- The table of kinds is made. -/
import Derived.Test.YtbagecfgeagacaaGreatMHHeap
import Derived.BigRegion
import Derived.Deep.LoopGhost
namespace Go.Proofs.YtbagecfgeagacaaGreat
open Go.RowKit
attribute [local go_sem ↓] app_C
theorem infoKz : (Tryz.prog.info? 102).map (fun i => (i.zero, i.size, i.bytes)) = some (some (.agg #[.int .i64 0, .int .i64 0, .nilIface, .bool false]), 4, 40) := by kernel_rfl
theorem infoTb : (Tryz.prog.info? 60).map (·.size) = some 2 := by kernel_rfl
theorem Rs.kplace {w : World} {B : Nat} {v : Value} {R : List (List Value)} (h : Rs w B 102 4 v R) (hB : B ≤ w.heap.size) (hn : R.length ≤ 100000) (x : List Value) (hx : x.length = 4) (h1 : ∀ u ∈ x, u.oneCell' = true) {W : World} {a : Nat} (hW : W.heap[a]? = some (.cells x.toArray 102 (0, 0))) (hbW : Below w.heap.size w W) :
    ∃ ao cap w', (appC #[58, 58] 58 #[v, .slice (some ⟨a, 0, none⟩) 1 1]).run Tryz.prog W = .ok (.slice ao (R.length + 1) cap) w' ∧ Rs w' B 102 4 (.slice ao (R.length + 1) cap) (R ++ [x]) ∧ w.grownBy w' v.ownBlock := by
  obtain ⟨i0, hi0, hzz⟩ := Option.map_eq_some_iff.1 infoKz
  simp only [Prod.mk.injEq] at hzz
  obtain ⟨hz0, hz1, hz2⟩ := hzz
  obtain ⟨v', w', hrun, hR, hg, hat⟩ := h.app (P := Tryz.prog) (t := 58) (ty := 58) Tryz.underlying58 hi0 hz0 hz1 hz2 rfl (by decide) x hx h1 hB (by unfold maxLen; omega) (by omega) hW hbW
  obtain ⟨ao, cap, e⟩ := hR.form
  rw [List.length_append, List.length_singleton] at e
  subst e
  exact ⟨ao, cap, w', hrun, hR, hg⟩
def KaPost (w : World) (x B : Nat) (R : List (List Value)) (e : Ending) (w' : World) : Prop := ∃ z v', e = .returned z ∧ Rs w' B 102 4 v' R ∧ w'.heap[x]? = some (.cells #[v', .slice none 0 0] 60 (0, 0)) ∧ Below x w w'
set_option maxRecDepth 20000 in
theorem kadd_ok {w : World} {x B : Nat} {v : Value} {R : List (List Value)} (hX : w.heap[x]? = some (.cells #[v, .slice none 0 0] 60 (0, 0))) (hR : Rs w B 102 4 v R) (hB : x < B ∧ B ≤ w.heap.size) (hL : R.length ≤ 100) (lo hi : Int) (ty : TypeId) (d : Value) :
    Calls Tryz.prog 39 #[.pointer (some ⟨x, 0, none⟩), .agg #[.int .i64 lo, .int .i64 hi, .iface ty d]] w (KaPost w x B (R ++ [[.int .i64 lo, .int .i64 hi, .iface ty d, .bool true]])) := by
  have hh : x < w.heap.size := box_lt hX
  obtain ⟨ao, cap, rfl⟩ := hR.form
  have c3 : w.cell? ⟨x, 0, none⟩ = some (.slice ao R.length cap) := by simp [World.cell?, hX]
  have c4 : w.cell? ⟨x, 1, none⟩ = some (.slice none 0 0) := by simp [World.cell?, hX]
  obtain ⟨A, hA⟩ : ∃ A : Obj, A = .cells #[.int .i64 lo, .int .i64 hi, .iface ty d] 75 := ⟨_, rfl⟩
  obtain ⟨C, hC⟩ : ∃ C : Obj, C = .cells #[.int .i64 lo, .int .i64 hi, .iface ty d, .bool true] 102 := ⟨_, rfl⟩
  have hW : ((w.alloc A).alloc C).drew.heap[w.heap.size + 1]? = some (.cells [.int .i64 lo, .int .i64 hi, .iface ty d, .bool true].toArray 102 (0, 0)) := by
    have e := heap_alloc_new (w.alloc A) C
    rw [Go.Deep.nblk_alloc, hC] at e
    rw [hC]
    exact e
  have hbW : Below w.heap.size w ((w.alloc A).alloc C).drew := (two_below w A C).drew
  obtain ⟨ao', cap', w', hrun, hR', hg⟩ := hR.kplace hB.2 (by omega) [.int .i64 lo, .int .i64 hi, .iface ty d, .bool true] rfl (by simp [Value.oneCell']) hW hbW
  rw [hA, hC] at hrun
  have hne : ∀ k, (Value.slice ao R.length cap).ownBlock = some k → x < k := fun k hk => by have := (hR.lt hk).1; omega
  have hX' : w'.heap[x]? = some (.cells #[.slice ao R.length cap, .slice none 0 0] 60 (0, 0)) := (hg.block x hh (fun e => by have := hne x e.symm; omega)).trans hX
  have f3 := frz hX' 0
  have c3' : w'.cell? ⟨x, 0, none⟩ = some (.slice ao R.length cap) := by simp [World.cell?, hX']
  have HF : Hid (KaPost w x B (R ++ [[.int .i64 lo, .int .i64 hi, .iface ty d, .bool true]]) (.returned (.int .i64 ((R.length : Int) + 1))) (w'.setCell ⟨x, 0, none⟩ (.slice ao' (R.length + 1) cap'))) := by
    refine ⟨_, _, rfl, hR'.of_block (fun j hj => heap_put _ _ (by have := (hR'.lt hj).1; show j ≠ x; omega)), set_blk hX' 0 _, ⟨hg.os, hg.tape, hg.output, by simpa [World.setCell] using hg.size, fun k hk => ?_⟩⟩
    exact (heap_put _ _ (by show k ≠ x; omega)).trans (hg.block k (by omega) (fun q => by have := hne k q.symm; omega))
  have hx2 : x < w'.heap.size := box_lt hX'
  clear hR' hg hR hX hX' hW hbW hA hC hne
  have hl2 : R.length ≤ 100 := hL
  generalize hN : R.length = N at *
  go_enter Tryz.func39, Tryz.ntmps39
  go_wp2
  go_region
  go_wp2
  go_ret
  exact HF.out
theorem kix0 (so s : Nat) (u : World) : (Instr.index 95 (.agg #[.int .i64 0, .int .i64 64, .iface 89 (.pointer (some ⟨so, 0, none⟩)), .int .i64 0, .int .i64 1000, .iface 92 (.agg #[.pointer (some ⟨s, 0, none⟩)]), .int .i64 0, .int .i64 1000, .iface 92 (.agg #[.pointer (some ⟨s, 0, none⟩)]), .int .i64 1, .int .i64 1, .iface 89 (.pointer (some ⟨so, 0, none⟩))]) (.int .i64 0)).run Tryz.prog u = .ok (.agg #[.int .i64 0, .int .i64 64, .iface 89 (.pointer (some ⟨so, 0, none⟩))]) u := by kernel_rfl
theorem kix1 (so s : Nat) (u : World) : (Instr.index 95 (.agg #[.int .i64 0, .int .i64 64, .iface 89 (.pointer (some ⟨so, 0, none⟩)), .int .i64 0, .int .i64 1000, .iface 92 (.agg #[.pointer (some ⟨s, 0, none⟩)]), .int .i64 0, .int .i64 1000, .iface 92 (.agg #[.pointer (some ⟨s, 0, none⟩)]), .int .i64 1, .int .i64 1, .iface 89 (.pointer (some ⟨so, 0, none⟩))]) (.int .i64 1)).run Tryz.prog u = .ok (.agg #[.int .i64 0, .int .i64 1000, .iface 92 (.agg #[.pointer (some ⟨s, 0, none⟩)])]) u := by kernel_rfl
theorem kix2 (so s : Nat) (u : World) : (Instr.index 95 (.agg #[.int .i64 0, .int .i64 64, .iface 89 (.pointer (some ⟨so, 0, none⟩)), .int .i64 0, .int .i64 1000, .iface 92 (.agg #[.pointer (some ⟨s, 0, none⟩)]), .int .i64 0, .int .i64 1000, .iface 92 (.agg #[.pointer (some ⟨s, 0, none⟩)]), .int .i64 1, .int .i64 1, .iface 89 (.pointer (some ⟨so, 0, none⟩))]) (.int .i64 2)).run Tryz.prog u = .ok (.agg #[.int .i64 0, .int .i64 1000, .iface 92 (.agg #[.pointer (some ⟨s, 0, none⟩)])]) u := by kernel_rfl
theorem kix3 (so s : Nat) (u : World) : (Instr.index 95 (.agg #[.int .i64 0, .int .i64 64, .iface 89 (.pointer (some ⟨so, 0, none⟩)), .int .i64 0, .int .i64 1000, .iface 92 (.agg #[.pointer (some ⟨s, 0, none⟩)]), .int .i64 0, .int .i64 1000, .iface 92 (.agg #[.pointer (some ⟨s, 0, none⟩)]), .int .i64 1, .int .i64 1, .iface 89 (.pointer (some ⟨so, 0, none⟩))]) (.int .i64 3)).run Tryz.prog u = .ok (.agg #[.int .i64 1, .int .i64 1, .iface 89 (.pointer (some ⟨so, 0, none⟩))]) u := by kernel_rfl
set_option maxRecDepth 20000 in
set_option maxHeartbeats 1000000 in
theorem kindsIn_ok {w : World} {b : Nat} {Q : Nat → Nat → World → Prop} (hK : Calls Tryz.prog 38 #[.pointer (some ⟨b, 0, none⟩)] (w.alloc (.cells #[.slice none 0 0, .slice none 0 0] 60)) fun e w1 => ∃ so s, e = .returned (.tuple #[.pointer (some ⟨so, 0, none⟩), .agg #[.pointer (some ⟨s, 0, none⟩)]]) ∧ Q so s w1 ∧ w1.heap[w.heap.size]? = some (.cells #[.slice none 0 0, .slice none 0 0] 60 (0, 0))) :
    Calls Tryz.prog 23 #[.pointer (some ⟨b, 0, none⟩)] w fun e w' => ∃ so s w1 kb kc, e = .returned (.agg #[.slice (some ⟨kb, 0, none⟩) 4 kc, .slice none 0 0]) ∧ Q so s w1 ∧ Rs w' w1.heap.size 102 4 (.slice (some ⟨kb, 0, none⟩) 4 kc) (kindsR so s) ∧ Bt (fun k => k = w.heap.size) w1 w' := by
  go_enter Tryz.func23, Tryz.ntmps23
  go_wp2_with (go_at_call 38; refine hK.mono ?_; rintro e w1 ⟨so, s, rfl, hQ, hr⟩; have hrl := box_lt hr; clear hK)
  obtain ⟨wk, hwk⟩ : ∃ wk, wk = (w1.alloc (.cells #[.pointer (some ⟨s, 0, none⟩)] 92)).alloc (.cells #[.slice none 0 0, .slice none 0 0] 60) := ⟨_, rfl⟩
  have hx0 := heap_alloc_new (w1.alloc (.cells #[.pointer (some ⟨s, 0, none⟩)] 92)) (.cells #[.slice none 0 0, .slice none 0 0] 60)
  rw [Go.Deep.nblk_alloc, ← hwk] at hx0
  have hbk : Below w1.heap.size w1 wk := by rw [hwk]; exact two_below _ _ _
  have hsz : wk.heap.size = w1.heap.size + 2 := by rw [hwk, Go.Deep.nblk_alloc, Go.Deep.nblk_alloc]
  rw [← hwk]
  clear hwk
  obtain ⟨x, hx⟩ : ∃ x, x = w1.heap.size + 1 := ⟨_, rfl⟩
  obtain ⟨B, hBe⟩ : ∃ B, B = x + 1 := ⟨_, rfl⟩
  rw [← hx] at hx0 ⊢
  have HX : Hid (x = w1.heap.size + 1 ∧ wk.heap.size = w1.heap.size + 2 ∧ Below w1.heap.size w1 wk) := ⟨hx, hsz, hbk⟩
  clear hx hbk
  go_loopg [26] 5 (fun kx s26 wr => ∃ (J : Int) (v : Value), s26 = .int .i64 J ∧ (0 ≤ J ∧ J ≤ 4) ∧ 4 - J ≤ (kx : Int) ∧ wr.heap[x]? = some (.cells #[v, .slice none 0 0] 60 (0, 0)) ∧ Rs wr B 102 4 v ((kindsR so s).take J.toNat) ∧ Below x wk wr ∧ B ≤ wr.heap.size)
  case atStart => exact ⟨0, _, rfl, by omega, by omega, hx0, Rs.nil _ _ _ _, Below.refl _ _, by have := HX.out; omega⟩
  case round =>
    obtain ⟨J, v, rfl, hJ, hk, hX, hR, hB, hs⟩ := hrel
    have hc : J = 0 ∨ J = 1 ∨ J = 2 ∨ J = 3 ∨ J = 4 := by omega
    clear hJ
    rcases hc with rfl | rfl | rfl | rfl | rfl
    · have hA := kadd_ok (box_alloc hX (.cells #[.int .i64 0, .int .i64 64, .iface 89 (.pointer (some ⟨so, 0, none⟩))] 75)) (hR.below ((Below.refl _ _).alloc (Nat.le_refl _) _)) ⟨by omega, by rw [Go.Deep.nblk_alloc]; omega⟩ (by simp [kindsR]) 0 64 89 (.pointer (some ⟨so, 0, none⟩))
      have HB : Hid (Below x wk wr ∧ B ≤ wr.heap.size ∧ x < wr.heap.size) := ⟨hB, hs, box_lt hX⟩
      have hix := kix0 so s
      clear hX hR hB hs
      go_wp2_with (go_at_call 39; refine hA.mono ?_; rintro e w2 ⟨z, v', rfl, hR2, hX2, hB2⟩; clear hA)
      go_roundg (3)
      case measure => omega
      case rel =>
        have hs2 := hB2.size
        rw [Go.Deep.nblk_alloc] at hs2
        exact ⟨1, v', rfl, by omega, by omega, hX2, hR2, HB.out.1.trans (((Below.refl _ wr).alloc (Nat.le_of_lt HB.out.2.2) _).trans hB2), by have := HB.out.2.1; omega⟩
    · have hA := kadd_ok (box_alloc hX (.cells #[.int .i64 0, .int .i64 1000, .iface 92 (.agg #[.pointer (some ⟨s, 0, none⟩)])] 75)) (hR.below ((Below.refl _ _).alloc (Nat.le_refl _) _)) ⟨by omega, by rw [Go.Deep.nblk_alloc]; omega⟩ (by simp [kindsR]) 0 1000 92 (.agg #[.pointer (some ⟨s, 0, none⟩)])
      have HB : Hid (Below x wk wr ∧ B ≤ wr.heap.size ∧ x < wr.heap.size) := ⟨hB, hs, box_lt hX⟩
      have hix := kix1 so s
      clear hX hR hB hs
      go_wp2_with (go_at_call 39; refine hA.mono ?_; rintro e w2 ⟨z, v', rfl, hR2, hX2, hB2⟩; clear hA)
      go_roundg (2)
      case measure => omega
      case rel =>
        have hs2 := hB2.size
        rw [Go.Deep.nblk_alloc] at hs2
        exact ⟨2, v', rfl, by omega, by omega, hX2, hR2, HB.out.1.trans (((Below.refl _ wr).alloc (Nat.le_of_lt HB.out.2.2) _).trans hB2), by have := HB.out.2.1; omega⟩
    · have hA := kadd_ok (box_alloc hX (.cells #[.int .i64 0, .int .i64 1000, .iface 92 (.agg #[.pointer (some ⟨s, 0, none⟩)])] 75)) (hR.below ((Below.refl _ _).alloc (Nat.le_refl _) _)) ⟨by omega, by rw [Go.Deep.nblk_alloc]; omega⟩ (by simp [kindsR]) 0 1000 92 (.agg #[.pointer (some ⟨s, 0, none⟩)])
      have HB : Hid (Below x wk wr ∧ B ≤ wr.heap.size ∧ x < wr.heap.size) := ⟨hB, hs, box_lt hX⟩
      have hix := kix2 so s
      clear hX hR hB hs
      go_wp2_with (go_at_call 39; refine hA.mono ?_; rintro e w2 ⟨z, v', rfl, hR2, hX2, hB2⟩; clear hA)
      go_roundg (1)
      case measure => omega
      case rel =>
        have hs2 := hB2.size
        rw [Go.Deep.nblk_alloc] at hs2
        exact ⟨3, v', rfl, by omega, by omega, hX2, hR2, HB.out.1.trans (((Below.refl _ wr).alloc (Nat.le_of_lt HB.out.2.2) _).trans hB2), by have := HB.out.2.1; omega⟩
    · have hA := kadd_ok (box_alloc hX (.cells #[.int .i64 1, .int .i64 1, .iface 89 (.pointer (some ⟨so, 0, none⟩))] 75)) (hR.below ((Below.refl _ _).alloc (Nat.le_refl _) _)) ⟨by omega, by rw [Go.Deep.nblk_alloc]; omega⟩ (by simp [kindsR]) 1 1 89 (.pointer (some ⟨so, 0, none⟩))
      have HB : Hid (Below x wk wr ∧ B ≤ wr.heap.size ∧ x < wr.heap.size) := ⟨hB, hs, box_lt hX⟩
      have hix := kix3 so s
      clear hX hR hB hs
      go_wp2_with (go_at_call 39; refine hA.mono ?_; rintro e w2 ⟨z, v', rfl, hR2, hX2, hB2⟩; clear hA)
      go_roundg (0)
      case measure => omega
      case rel =>
        have hs2 := hB2.size
        rw [Go.Deep.nblk_alloc] at hs2
        exact ⟨4, v', rfl, by omega, by omega, hX2, hR2, HB.out.1.trans (((Below.refl _ wr).alloc (Nat.le_of_lt HB.out.2.2) _).trans hB2), by have := HB.out.2.1; omega⟩
    · obtain ⟨ao, cap, rfl⟩ := hR.form
      obtain ⟨kb, rfl, hkb, _⟩ := hR.cells (by simp [kindsR])
      have cX := blk2 hX
      have hxl := box_lt hX
      have hr2 : wr.heap[w.heap.size]? = some (.cells #[.slice none 0 0, .slice none 0 0] 60 (0, 0)) := by
        have h1 := HX.out
        exact (hB.block _ (by omega)).trans ((h1.2.2.block _ hrl).trans hr)
      have cR := blk2 hr2
      have hrl2 := box_lt hr2
      have hQ2 : Hid (Q so s w1) := hQ
      have hb4 : Hid (Bt (fun k => k = w.heap.size) w1 ((wr.setCell ⟨w.heap.size, 0, none⟩ (.slice (some ⟨kb, 0, none⟩) 4 cap)).setCell ⟨w.heap.size, 1, none⟩ (.slice none 0 0))) := by
        have h1 := HX.out
        have hs1 := hB.size
        refine ⟨hB.os.trans h1.2.2.os, hB.tape.trans h1.2.2.tape, hB.output.trans h1.2.2.output, by simp [World.setCell]; omega, fun k hk hn => ?_⟩
        rw [heap_put _ _ hn, heap_put _ _ hn]
        exact (hB.block k (by omega)).trans (h1.2.2.block k hk)
      have HR : Hid (Rs ((wr.setCell ⟨w.heap.size, 0, none⟩ (.slice (some ⟨kb, 0, none⟩) 4 cap)).setCell ⟨w.heap.size, 1, none⟩ (.slice none 0 0)) w1.heap.size 102 4 (.slice (some ⟨kb, 0, none⟩) 4 cap) (kindsR so s)) := by
        have h1 := HX.out
        refine Rs.lower (Rs.of_block hR fun j hj => ?_) (by omega)
        have := (hR.lt hj).1
        have hn : j ≠ w.heap.size := by omega
        rw [heap_put _ _ hn, heap_put _ _ hn]
      clear hQ hB hR hX
      go_wp2
      exact bodyPost_ret (results_cell_row rfl _ _ w.heap.size 60 _ (0, 0) _ rfl (set_blk (set_blk hr2 0 _) 1 _) Tryz.underlying60 rfl infoTb) rfl ⟨so, s, w1, kb, cap, rfl, hQ2.out, HR.out, hb4.out⟩
end Go.Proofs.YtbagecfgeagacaaGreat
