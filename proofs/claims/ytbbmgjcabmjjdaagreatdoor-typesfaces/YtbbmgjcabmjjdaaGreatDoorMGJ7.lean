/- The document's own Load: layout, a built-in class. -/
import Derived.Test.YtbbmgjcabmjjdaaGreatDoorMGJ6
namespace Go.Proofs.YtbbmgjcabmjjdaaGreatDoor
open Go.RowKit

attribute [local go_sem ↓] app_Y
set_option maxHeartbeats 16000000 in
set_option maxRecDepth 20000 in
theorem jlayB_ok {p : Pg} (hSup : SupOk p) (hFc : FaceOk p) {w : World} {cb : Nat} {S : Nat → Prop} {v : Value} {s : Fs} (h : Jc w cb p S v s) {k : Int} (hk : isJ p k = true) (hfa : faceJ p k = false) (hus : userJ p k = false) (h9 : (k == 9) = false) (hs0 : supJ p k < 0) : Calls Tryz.prog 24 #[.pointer (some ⟨cb, 0, none⟩), .int .i64 k] w (LyP ⟨[], 0, [], abvJ p k⟩ w) := by
  have H0 : Hid (Jc w cb p S v s) := h
  have hb0 : Below w.heap.size w (w.alloc (.cells #[.slice none 0 0, .int .i64 0, .slice none 0 0, .slice none 0 0] 58)) := (Below.refl _ _).alloc (Nat.le_refl _) _
  have hAB := jabove_ok hSup hFc (B := w.heap.size + 1) (cb := cb) (S := S) (v := v) (s := s) (by have := h.lt; omega) (fun b hb => by have := h.low b hb; omega) (nJ p + 1) (w.alloc (.cells #[.slice none 0 0, .int .i64 0, .slice none 0 0, .slice none 0 0] 58)) (.slice none 0 0) [] k (h.below hb0) (Rj.nil _ _) (by simp) hk ⟨List.nodup_nil, by simp⟩ (by simp)
  have HLN : Hid ((aboveJ p (nJ p + 1) k []).length ≤ 2097152) := by
    have h1 := (above_gd hSup hFc (nJ p + 1) k [] hk ⟨List.nodup_nil, by simp⟩).1.le
    have h2 := h.ok.n
    have h3 : nJ p = 11 + p.cls.length := rfl
    show _ ≤ _
    omega
  have HSU : Hid (SupOk p) := hSup
  have hcn := h.ok.n
  clear h hb0
  go_enter Tryz.func24, Tryz.ntmps24
  go_upto_region 2 with (first
    | (go_at_call 53; refine hAB.mono ?_; rintro e u1 ⟨v1, rfl, hr1, hb1⟩; obtain ⟨a1, c1, hv1⟩ := hr1.out.form; subst hv1; have hSO := jsorted_ok (soft_I hr1.out.sl) (fun k hk => hk.2) HLN.out; have HB1 : Hid _ := hb1.out; clear hAB hr1 hb1)
    | (go_at_call 52; refine hSO.mono ?_; rintro e u2 ⟨v3, rfl, hr2, hb2⟩; obtain ⟨a3, c3, hv3⟩ := hr2.out.form; subst hv3; have HL : Hid _ := lys_start (abv := abvJ p k) H0.out HB1.out hb2.out hr2.out; clear hSO hr2 hb2 HB1))
  generalize u2.alloc (.cells #[.slice none 0 0, .int .i64 0, .slice none 0 0, .slice a3 (sortJ (aboveJ p (nJ p + 1) k [])).length c3] 58) = y3 at HL ⊢
  obtain ⟨lb, hlb⟩ : ∃ lb, lb = u2.heap.size := ⟨_, rfl⟩
  rw [← hlb] at HL ⊢
  replace HL : Hid (LyS w cb p S v s lb y3 [] 0 [] (abvJ p k) (.slice none 0 0) (.slice none 0 0) (.slice a3 (abvJ p k).length c3) y3) := HL
  change Code.wp _ _ _ _ _ at ⊢
  clear hlb
  have hF := jface_ok HL.out.jc k
  rw [hfa] at hF
  have hsd : decide (0 ≤ supJ p k) = false := by simp; omega
  go_upto_region 16 with (first
    | (go_at_call 44; refine hF.mono ?_; rintro e u4 ⟨rfl, hb4⟩; have HL4 : Hid (LyS w cb p S v s lb y3 [] 0 [] (abvJ p k) (.slice none 0 0) (.slice none 0 0) (.slice a3 (abvJ p k).length c3) u4) := HL.out.below hb4; have hP := jsup_ok HL4.out.jc hk; clear HL hF hb4)
    | (go_at_call 45; refine hP.mono ?_; rintro e u5 ⟨rfl, hb5⟩; have HL5 : Hid (LyS w cb p S v s lb y3 [] 0 [] (abvJ p k) (.slice none 0 0) (.slice none 0 0) (.slice a3 (abvJ p k).length c3) u5) := HL4.out.below hb5; skip; clear HL4 hP hb5))
  have HL8 := HL5
  have hU := juser_ok HL8.out.jc k
  rw [hus] at hU
  clear HL5
  obtain ⟨k0, k1, k2, k3, -, -⟩ := HL8.out.cells
  have HRB : Hid _ := HL8.out.rb
  have rb0 : u5.cell? ⟨w.heap.size, 0, none⟩ = some (.slice none 0 0) := by have := HRB.out; simp [World.cell?, this]
  have rb1 : u5.cell? ⟨w.heap.size, 1, none⟩ = some (.int .i64 0) := by have := HRB.out; simp [World.cell?, this]
  have rb2 : u5.cell? ⟨w.heap.size, 2, none⟩ = some (.slice none 0 0) := by have := HRB.out; simp [World.cell?, this]
  have rb3 : u5.cell? ⟨w.heap.size, 3, none⟩ = some (.slice none 0 0) := by have := HRB.out; simp [World.cell?, this]
  have rf : ∀ j, u5.frozen? ⟨w.heap.size, j, none⟩ = false := fun j => by have := HRB.out; simp [World.frozen?, this]
  have rf0 := rf 0
  have rf1 := rf 1
  have rf2 := rf 2
  have rf3 := rf 3
  have rl := (Array.getElem?_eq_some_iff.1 HRB.out).1
  have hnl : w.heap.size ≠ lb := by have := HL8.out.lo; omega
  clear rf
  go_wp2_with (go_at_call 51; refine hU.mono ?_; rintro e w9 ⟨rfl, hw9⟩; replace hw9 := hw9.symm; subst hw9)
  have hb5 := hset (k := 3) (hset (k := 2) (hset (k := 1) (hset (k := 0) HRB.out (.slice none 0 0)) (.int .i64 0)) (.slice none 0 0)) (.slice a3 (abvJ p k).length c3)
  refine bodyPost_ret (results_cell_row rfl _ _ w.heap.size 58 #[.slice none 0 0, .int .i64 0, .slice none 0 0, .slice a3 (abvJ p k).length c3] (0, 0) _ rfl hb5 Tryz.underlying58 rfl infoLy) rfl ?_
  exact HL8.out.fin (W := (((((u5.setCell ⟨w.heap.size, 0, none⟩ (.slice none 0 0)).setCell ⟨w.heap.size, 1, none⟩ (.int .i64 0)).setCell ⟨w.heap.size, 2, none⟩ (.slice none 0 0)).setCell ⟨w.heap.size, 3, none⟩ (.slice a3 (abvJ p k).length c3)))) (fun b hb => by rw [Below.heap_setCell _ _ _ _ hb, Below.heap_setCell _ _ _ _ hb, Below.heap_setCell _ _ _ _ hb, Below.heap_setCell _ _ _ _ hb]) (by simp [World.setCell]) rfl rfl rfl

set_option maxHeartbeats 16000000 in
set_option maxRecDepth 20000 in
theorem jlayD_ok {p : Pg} (hSup : SupOk p) (hFc : FaceOk p) {w : World} {cb : Nat} {S : Nat → Prop} {v : Value} {s : Fs} (h : Jc w cb p S v s) {k : Int} (hk : isJ p k = true) (y : Ly) (hIH : ∀ u, Jc u cb p S v s → Calls Tryz.prog 24 #[.pointer (some ⟨cb, 0, none⟩), .int .i64 (supJ p k)] u (LyP y u)) (hs0 : 0 ≤ supJ p k) (hfa : faceJ p k = false) (hus : userJ p k = false) (h9 : (k == 9) = false) : Calls Tryz.prog 24 #[.pointer (some ⟨cb, 0, none⟩), .int .i64 k] w (LyP ⟨y.flds, (y.flds.length : Int), y.vir, abvJ p k⟩ w) := by
  have HIH : Hid (∀ u, Jc u cb p S v s → Calls Tryz.prog 24 #[.pointer (some ⟨cb, 0, none⟩), .int .i64 (supJ p k)] u (LyP y u)) := hIH
  clear hIH
  have H0 : Hid (Jc w cb p S v s) := h
  have hb0 : Below w.heap.size w (w.alloc (.cells #[.slice none 0 0, .int .i64 0, .slice none 0 0, .slice none 0 0] 58)) := (Below.refl _ _).alloc (Nat.le_refl _) _
  have hAB := jabove_ok hSup hFc (B := w.heap.size + 1) (cb := cb) (S := S) (v := v) (s := s) (by have := h.lt; omega) (fun b hb => by have := h.low b hb; omega) (nJ p + 1) (w.alloc (.cells #[.slice none 0 0, .int .i64 0, .slice none 0 0, .slice none 0 0] 58)) (.slice none 0 0) [] k (h.below hb0) (Rj.nil _ _) (by simp) hk ⟨List.nodup_nil, by simp⟩ (by simp)
  have HLN : Hid ((aboveJ p (nJ p + 1) k []).length ≤ 2097152) := by
    have h1 := (above_gd hSup hFc (nJ p + 1) k [] hk ⟨List.nodup_nil, by simp⟩).1.le
    have h2 := h.ok.n
    have h3 : nJ p = 11 + p.cls.length := rfl
    show _ ≤ _
    omega
  have HSU : Hid (SupOk p) := hSup
  have hcn := h.ok.n
  clear h hb0
  go_enter Tryz.func24, Tryz.ntmps24
  go_upto_region 2 with (first
    | (go_at_call 53; refine hAB.mono ?_; rintro e u1 ⟨v1, rfl, hr1, hb1⟩; obtain ⟨a1, c1, hv1⟩ := hr1.out.form; subst hv1; have hSO := jsorted_ok (soft_I hr1.out.sl) (fun k hk => hk.2) HLN.out; have HB1 : Hid _ := hb1.out; clear hAB hr1 hb1)
    | (go_at_call 52; refine hSO.mono ?_; rintro e u2 ⟨v3, rfl, hr2, hb2⟩; obtain ⟨a3, c3, hv3⟩ := hr2.out.form; subst hv3; have HL : Hid _ := lys_start (abv := abvJ p k) H0.out HB1.out hb2.out hr2.out; clear hSO hr2 hb2 HB1))
  generalize u2.alloc (.cells #[.slice none 0 0, .int .i64 0, .slice none 0 0, .slice a3 (sortJ (aboveJ p (nJ p + 1) k [])).length c3] 58) = y3 at HL ⊢
  obtain ⟨lb, hlb⟩ : ∃ lb, lb = u2.heap.size := ⟨_, rfl⟩
  rw [← hlb] at HL ⊢
  replace HL : Hid (LyS w cb p S v s lb y3 [] 0 [] (abvJ p k) (.slice none 0 0) (.slice none 0 0) (.slice a3 (abvJ p k).length c3) y3) := HL
  change Code.wp _ _ _ _ _ at ⊢
  clear hlb
  have hF := jface_ok HL.out.jc k
  rw [hfa] at hF
  have HSG : Hid (decide (0 ≤ supJ p k) = true) := by show _ = _; simp; exact hs0
  have hsg := HSG.out
  go_upto_region 13 with (first
    | (go_at_call 44; refine hF.mono ?_; rintro e u4 ⟨rfl, hb4⟩; have HL4 : Hid (LyS w cb p S v s lb y3 [] 0 [] (abvJ p k) (.slice none 0 0) (.slice none 0 0) (.slice a3 (abvJ p k).length c3) u4) := HL.out.below hb4; have hP := jsup_ok HL4.out.jc hk; clear HL hF hb4)
    | (go_at_call 45; refine hP.mono ?_; rintro e u5 ⟨rfl, hb5⟩; have HL5 : Hid (LyS w cb p S v s lb y3 [] 0 [] (abvJ p k) (.slice none 0 0) (.slice none 0 0) (.slice a3 (abvJ p k).length c3) u5) := HL4.out.below hb5; have hLx := HIH.out u5 HL5.out.jc; clear HL4 hP hb5)
    | (go_at_call 24; refine hLx.mono ?_; rintro e u6 ⟨b0, e0, b2, e2, b3, e3, rfl, hg6, hf6, -, hb6⟩; have HL6 : Hid (LyS w cb p S v s lb y3 [] 0 [] (abvJ p k) (.slice none 0 0) (.slice none 0 0) (.slice a3 (abvJ p k).length c3) u6) := HL5.out.below hb6; have HG6 : Hid _ := hg6; have HF6 : Hid _ := hf6; have HB6 : Hid _ := hb6; clear hLx hg6 hf6 hb6))
  have hx7 : (u6.alloc (.cells #[.slice b0 y.flds.length e0, .int .i64 y.off, .slice b2 y.vir.length e2, .slice b3 y.abv.length e3] 58)).heap[u6.heap.size]? = some (.cells #[.slice b0 y.flds.length e0, .int .i64 y.off, .slice b2 y.vir.length e2, .slice b3 y.abv.length e3] 58 (0, 0)) := heap_alloc_new _ _
  obtain ⟨kk0, kk1, kk2, kk3, kkf, kkl⟩ := HL6.out.cells
  have hal : (u6.alloc (.cells #[.slice b0 y.flds.length e0, .int .i64 y.off, .slice b2 y.vir.length e2, .slice b3 y.abv.length e3] 58)).heap[lb]? = u6.heap[lb]? := Below.heap_alloc _ _ _ kkl
  have hsz7 : (u6.alloc (.cells #[.slice b0 y.flds.length e0, .int .i64 y.off, .slice b2 y.vir.length e2, .slice b3 y.abv.length e3] 58)).heap.size = u6.heap.size + 1 := by simp
  have HAO : Hid (∀ b, b < u6.heap.size → (u6.alloc (.cells #[.slice b0 y.flds.length e0, .int .i64 y.off, .slice b2 y.vir.length e2, .slice b3 y.abv.length e3] 58)).heap[b]? = u6.heap[b]?) := fun b hb => Below.heap_alloc _ _ _ hb
  have HOS7 : Hid ((u6.alloc (.cells #[.slice b0 y.flds.length e0, .int .i64 y.off, .slice b2 y.vir.length e2, .slice b3 y.abv.length e3] 58)).os = u6.os ∧ (u6.alloc (.cells #[.slice b0 y.flds.length e0, .int .i64 y.off, .slice b2 y.vir.length e2, .slice b3 y.abv.length e3] 58)).tape = u6.tape ∧ (u6.alloc (.cells #[.slice b0 y.flds.length e0, .int .i64 y.off, .slice b2 y.vir.length e2, .slice b3 y.abv.length e3] 58)).output = u6.output) := ⟨rfl, rfl, rfl⟩
  generalize u6.alloc (.cells #[.slice b0 y.flds.length e0, .int .i64 y.off, .slice b2 y.vir.length e2, .slice b3 y.abv.length e3] 58) = u7 at *
  obtain ⟨xb, hxb⟩ : ∃ xb, xb = u6.heap.size := ⟨_, rfl⟩
  have HXB : Hid (xb = u6.heap.size) := hxb
  rw [← hxb] at hx7 ⊢
  have x0 : u7.cell? ⟨xb, 0, none⟩ = some (.slice b0 y.flds.length e0) := by simp [World.cell?, hx7]
  have x2 : u7.cell? ⟨xb, 2, none⟩ = some (.slice b2 y.vir.length e2) := by simp [World.cell?, hx7]
  have l0 : u7.cell? ⟨lb, 0, none⟩ = some (.slice none 0 0) := (cell_same hal 0).trans kk0
  have l1 : u7.cell? ⟨lb, 1, none⟩ = some (.int .i64 0) := (cell_same hal 1).trans kk1
  have l2 : u7.cell? ⟨lb, 2, none⟩ = some (.slice none 0 0) := (cell_same hal 2).trans kk2
  have lfz : ∀ j, u7.frozen? ⟨lb, j, none⟩ = false := fun j => by have := kkf j; simp only [World.frozen?, hal] at this ⊢; exact this
  have lf0 := lfz 0
  have lf1 := lfz 1
  have lf2 := lfz 2
  have ll7 : lb < u7.heap.size := by omega
  have hnx : lb ≠ xb := by omega
  have hnx' : xb ≠ lb := by omega
  have HLB7 : Hid (u7.heap[lb]? = some (.cells #[.slice none 0 0, .int .i64 0, .slice none 0 0, .slice a3 (abvJ p k).length c3] 58 (0, 0))) := hal.trans HL6.out.ly.gim.2.2
  have HSZ7 : Hid (u7.heap.size = u6.heap.size + 1) := hsz7
  clear hx7 kk0 kk1 kk2 kk3 kkf kkl hal hsz7 hxb lfz HL6 hsg HSG
  go_upto_region 16 with (fail)
  have HL8 : Hid (LyS w cb p S v s lb u5 y.flds (y.flds.length : Int) y.vir (abvJ p k) (.slice b0 y.flds.length e0) (.slice b2 y.vir.length e2) (.slice a3 (abvJ p k).length c3) (((u7.setCell ⟨lb, 0, none⟩ (.slice b0 y.flds.length e0)).setCell ⟨lb, 1, none⟩ (.int .i64 (y.flds.length : Int))).setCell ⟨lb, 2, none⟩ (.slice b2 y.vir.length e2))) :=
    HL5.out.up HG6.out HF6.out HB6.out _ (fun b hb hn => by rw [Below.heap_setCell _ _ _ _ hn, Below.heap_setCell _ _ _ _ hn, Below.heap_setCell _ _ _ _ hn]; exact HAO.out b hb) (by have := HSZ7.out; simp [World.setCell]; omega) HOS7.out.1 HOS7.out.2.1 HOS7.out.2.2 (hset (hset (hset HLB7.out _) _) _)
  generalize ((u7.setCell ⟨lb, 0, none⟩ (.slice b0 y.flds.length e0)).setCell ⟨lb, 1, none⟩ (.int .i64 (y.flds.length : Int))).setCell ⟨lb, 2, none⟩ (.slice b2 y.vir.length e2) = W8 at HL8 ⊢
  clear HAO HOS7 HXB x0 x2 l0 l1 l2 lf0 lf1 lf2 ll7 hnx hnx' HLB7 HSZ7 HL5 HG6 HF6 HB6
  have hU := juser_ok HL8.out.jc k
  rw [hus] at hU
  obtain ⟨k0, k1, k2, k3, -, -⟩ := HL8.out.cells
  obtain ⟨k0, k1, k2, k3, -, -⟩ := HL8.out.cells
  have HRB : Hid _ := HL8.out.rb
  have rb0 : W8.cell? ⟨w.heap.size, 0, none⟩ = some (.slice none 0 0) := by have := HRB.out; simp [World.cell?, this]
  have rb1 : W8.cell? ⟨w.heap.size, 1, none⟩ = some (.int .i64 0) := by have := HRB.out; simp [World.cell?, this]
  have rb2 : W8.cell? ⟨w.heap.size, 2, none⟩ = some (.slice none 0 0) := by have := HRB.out; simp [World.cell?, this]
  have rb3 : W8.cell? ⟨w.heap.size, 3, none⟩ = some (.slice none 0 0) := by have := HRB.out; simp [World.cell?, this]
  have rf : ∀ j, W8.frozen? ⟨w.heap.size, j, none⟩ = false := fun j => by have := HRB.out; simp [World.frozen?, this]
  have rf0 := rf 0
  have rf1 := rf 1
  have rf2 := rf 2
  have rf3 := rf 3
  have rl := (Array.getElem?_eq_some_iff.1 HRB.out).1
  have hnl : w.heap.size ≠ lb := by have := HL8.out.lo; omega
  clear rf
  go_wp2_with (go_at_call 51; refine hU.mono ?_; rintro e w9 ⟨rfl, hw9⟩; replace hw9 := hw9.symm; subst hw9)
  have hb5 := hset (k := 3) (hset (k := 2) (hset (k := 1) (hset (k := 0) HRB.out (.slice b0 y.flds.length e0)) (.int .i64 (y.flds.length : Int))) (.slice b2 y.vir.length e2)) (.slice a3 (abvJ p k).length c3)
  refine bodyPost_ret (results_cell_row rfl _ _ w.heap.size 58 #[.slice b0 y.flds.length e0, .int .i64 (y.flds.length : Int), .slice b2 y.vir.length e2, .slice a3 (abvJ p k).length c3] (0, 0) _ rfl hb5 Tryz.underlying58 rfl infoLy) rfl ?_
  exact HL8.out.fin (W := (((((W8.setCell ⟨w.heap.size, 0, none⟩ (.slice b0 y.flds.length e0)).setCell ⟨w.heap.size, 1, none⟩ (.int .i64 (y.flds.length : Int))).setCell ⟨w.heap.size, 2, none⟩ (.slice b2 y.vir.length e2)).setCell ⟨w.heap.size, 3, none⟩ (.slice a3 (abvJ p k).length c3)))) (fun b hb => by rw [Below.heap_setCell _ _ _ _ hb, Below.heap_setCell _ _ _ _ hb, Below.heap_setCell _ _ _ _ hb, Below.heap_setCell _ _ _ _ hb]) (by simp [World.setCell]) rfl rfl rfl

set_option maxHeartbeats 16000000 in
set_option maxRecDepth 20000 in
theorem jlayC_ok {p : Pg} (hSup : SupOk p) (hFc : FaceOk p) {w : World} {cb : Nat} {S : Nat → Prop} {v : Value} {s : Fs} (h : Jc w cb p S v s) {k : Int} (hk : isJ p k = true) (y : Ly) (hIH : ∀ u, Jc u cb p S v s → Calls Tryz.prog 24 #[.pointer (some ⟨cb, 0, none⟩), .int .i64 (supJ p k)] u (LyP y u)) (hs0 : 0 ≤ supJ p k) (hfa : faceJ p k = false) (hus : userJ p k = false) (h9 : (k == 9) = true) (hvl : y.vir.length ≤ 1073741824) : Calls Tryz.prog 24 #[.pointer (some ⟨cb, 0, none⟩), .int .i64 k] w (LyP ⟨y.flds, (y.flds.length : Int), y.vir ++ [runE], abvJ p k⟩ w) := by
  have HIH : Hid (∀ u, Jc u cb p S v s → Calls Tryz.prog 24 #[.pointer (some ⟨cb, 0, none⟩), .int .i64 (supJ p k)] u (LyP y u)) := hIH
  clear hIH
  obtain ⟨i0, hi0, hz0, hz1, hz2⟩ := info_parts infoLE
  have H0 : Hid (Jc w cb p S v s) := h
  have hb0 : Below w.heap.size w (w.alloc (.cells #[.slice none 0 0, .int .i64 0, .slice none 0 0, .slice none 0 0] 58)) := (Below.refl _ _).alloc (Nat.le_refl _) _
  have hAB := jabove_ok hSup hFc (B := w.heap.size + 1) (cb := cb) (S := S) (v := v) (s := s) (by have := h.lt; omega) (fun b hb => by have := h.low b hb; omega) (nJ p + 1) (w.alloc (.cells #[.slice none 0 0, .int .i64 0, .slice none 0 0, .slice none 0 0] 58)) (.slice none 0 0) [] k (h.below hb0) (Rj.nil _ _) (by simp) hk ⟨List.nodup_nil, by simp⟩ (by simp)
  have HLN : Hid ((aboveJ p (nJ p + 1) k []).length ≤ 2097152) := by
    have h1 := (above_gd hSup hFc (nJ p + 1) k [] hk ⟨List.nodup_nil, by simp⟩).1.le
    have h2 := h.ok.n
    have h3 : nJ p = 11 + p.cls.length := rfl
    show _ ≤ _
    omega
  have HSU : Hid (SupOk p) := hSup
  have hcn := h.ok.n
  clear h hb0
  go_enter Tryz.func24, Tryz.ntmps24
  go_upto_region 2 with (first
    | (go_at_call 53; refine hAB.mono ?_; rintro e u1 ⟨v1, rfl, hr1, hb1⟩; obtain ⟨a1, c1, hv1⟩ := hr1.out.form; subst hv1; have hSO := jsorted_ok (soft_I hr1.out.sl) (fun k hk => hk.2) HLN.out; have HB1 : Hid _ := hb1.out; clear hAB hr1 hb1)
    | (go_at_call 52; refine hSO.mono ?_; rintro e u2 ⟨v3, rfl, hr2, hb2⟩; obtain ⟨a3, c3, hv3⟩ := hr2.out.form; subst hv3; have HL : Hid _ := lys_start (abv := abvJ p k) H0.out HB1.out hb2.out hr2.out; clear hSO hr2 hb2 HB1))
  generalize u2.alloc (.cells #[.slice none 0 0, .int .i64 0, .slice none 0 0, .slice a3 (sortJ (aboveJ p (nJ p + 1) k [])).length c3] 58) = y3 at HL ⊢
  obtain ⟨lb, hlb⟩ : ∃ lb, lb = u2.heap.size := ⟨_, rfl⟩
  rw [← hlb] at HL ⊢
  replace HL : Hid (LyS w cb p S v s lb y3 [] 0 [] (abvJ p k) (.slice none 0 0) (.slice none 0 0) (.slice a3 (abvJ p k).length c3) y3) := HL
  change Code.wp _ _ _ _ _ at ⊢
  clear hlb
  have hF := jface_ok HL.out.jc k
  rw [hfa] at hF
  have HSG : Hid (decide (0 ≤ supJ p k) = true) := by show _ = _; simp; exact hs0
  have hsg := HSG.out
  go_upto_region 13 with (first
    | (go_at_call 44; refine hF.mono ?_; rintro e u4 ⟨rfl, hb4⟩; have HL4 : Hid (LyS w cb p S v s lb y3 [] 0 [] (abvJ p k) (.slice none 0 0) (.slice none 0 0) (.slice a3 (abvJ p k).length c3) u4) := HL.out.below hb4; have hP := jsup_ok HL4.out.jc hk; clear HL hF hb4)
    | (go_at_call 45; refine hP.mono ?_; rintro e u5 ⟨rfl, hb5⟩; have HL5 : Hid (LyS w cb p S v s lb y3 [] 0 [] (abvJ p k) (.slice none 0 0) (.slice none 0 0) (.slice a3 (abvJ p k).length c3) u5) := HL4.out.below hb5; have hLx := HIH.out u5 HL5.out.jc; clear HL4 hP hb5)
    | (go_at_call 24; refine hLx.mono ?_; rintro e u6 ⟨b0, e0, b2, e2, b3, e3, rfl, hg6, hf6, -, hb6⟩; have HL6 : Hid (LyS w cb p S v s lb y3 [] 0 [] (abvJ p k) (.slice none 0 0) (.slice none 0 0) (.slice a3 (abvJ p k).length c3) u6) := HL5.out.below hb6; have HG6 : Hid _ := hg6; have HF6 : Hid _ := hf6; have HB6 : Hid _ := hb6; clear hLx hg6 hf6 hb6))
  have hx7 : (u6.alloc (.cells #[.slice b0 y.flds.length e0, .int .i64 y.off, .slice b2 y.vir.length e2, .slice b3 y.abv.length e3] 58)).heap[u6.heap.size]? = some (.cells #[.slice b0 y.flds.length e0, .int .i64 y.off, .slice b2 y.vir.length e2, .slice b3 y.abv.length e3] 58 (0, 0)) := heap_alloc_new _ _
  obtain ⟨kk0, kk1, kk2, kk3, kkf, kkl⟩ := HL6.out.cells
  have hal : (u6.alloc (.cells #[.slice b0 y.flds.length e0, .int .i64 y.off, .slice b2 y.vir.length e2, .slice b3 y.abv.length e3] 58)).heap[lb]? = u6.heap[lb]? := Below.heap_alloc _ _ _ kkl
  have hsz7 : (u6.alloc (.cells #[.slice b0 y.flds.length e0, .int .i64 y.off, .slice b2 y.vir.length e2, .slice b3 y.abv.length e3] 58)).heap.size = u6.heap.size + 1 := by simp
  have HAO : Hid (∀ b, b < u6.heap.size → (u6.alloc (.cells #[.slice b0 y.flds.length e0, .int .i64 y.off, .slice b2 y.vir.length e2, .slice b3 y.abv.length e3] 58)).heap[b]? = u6.heap[b]?) := fun b hb => Below.heap_alloc _ _ _ hb
  have HOS7 : Hid ((u6.alloc (.cells #[.slice b0 y.flds.length e0, .int .i64 y.off, .slice b2 y.vir.length e2, .slice b3 y.abv.length e3] 58)).os = u6.os ∧ (u6.alloc (.cells #[.slice b0 y.flds.length e0, .int .i64 y.off, .slice b2 y.vir.length e2, .slice b3 y.abv.length e3] 58)).tape = u6.tape ∧ (u6.alloc (.cells #[.slice b0 y.flds.length e0, .int .i64 y.off, .slice b2 y.vir.length e2, .slice b3 y.abv.length e3] 58)).output = u6.output) := ⟨rfl, rfl, rfl⟩
  generalize u6.alloc (.cells #[.slice b0 y.flds.length e0, .int .i64 y.off, .slice b2 y.vir.length e2, .slice b3 y.abv.length e3] 58) = u7 at *
  obtain ⟨xb, hxb⟩ : ∃ xb, xb = u6.heap.size := ⟨_, rfl⟩
  have HXB : Hid (xb = u6.heap.size) := hxb
  rw [← hxb] at hx7 ⊢
  have x0 : u7.cell? ⟨xb, 0, none⟩ = some (.slice b0 y.flds.length e0) := by simp [World.cell?, hx7]
  have x2 : u7.cell? ⟨xb, 2, none⟩ = some (.slice b2 y.vir.length e2) := by simp [World.cell?, hx7]
  have l0 : u7.cell? ⟨lb, 0, none⟩ = some (.slice none 0 0) := (cell_same hal 0).trans kk0
  have l1 : u7.cell? ⟨lb, 1, none⟩ = some (.int .i64 0) := (cell_same hal 1).trans kk1
  have l2 : u7.cell? ⟨lb, 2, none⟩ = some (.slice none 0 0) := (cell_same hal 2).trans kk2
  have lfz : ∀ j, u7.frozen? ⟨lb, j, none⟩ = false := fun j => by have := kkf j; simp only [World.frozen?, hal] at this ⊢; exact this
  have lf0 := lfz 0
  have lf1 := lfz 1
  have lf2 := lfz 2
  have ll7 : lb < u7.heap.size := by omega
  have hnx : lb ≠ xb := by omega
  have hnx' : xb ≠ lb := by omega
  have HLB7 : Hid (u7.heap[lb]? = some (.cells #[.slice none 0 0, .int .i64 0, .slice none 0 0, .slice a3 (abvJ p k).length c3] 58 (0, 0))) := hal.trans HL6.out.ly.gim.2.2
  have HSZ7 : Hid (u7.heap.size = u6.heap.size + 1) := hsz7
  clear hx7 kk0 kk1 kk2 kk3 kkf kkl hal hsz7 hxb lfz HL6 hsg HSG
  go_upto_region 16 with (fail)
  have HL8 : Hid (LyS w cb p S v s lb u5 y.flds (y.flds.length : Int) y.vir (abvJ p k) (.slice b0 y.flds.length e0) (.slice b2 y.vir.length e2) (.slice a3 (abvJ p k).length c3) (((u7.setCell ⟨lb, 0, none⟩ (.slice b0 y.flds.length e0)).setCell ⟨lb, 1, none⟩ (.int .i64 (y.flds.length : Int))).setCell ⟨lb, 2, none⟩ (.slice b2 y.vir.length e2))) :=
    HL5.out.up HG6.out HF6.out HB6.out _ (fun b hb hn => by rw [Below.heap_setCell _ _ _ _ hn, Below.heap_setCell _ _ _ _ hn, Below.heap_setCell _ _ _ _ hn]; exact HAO.out b hb) (by have := HSZ7.out; simp [World.setCell]; omega) HOS7.out.1 HOS7.out.2.1 HOS7.out.2.2 (hset (hset (hset HLB7.out _) _) _)
  generalize ((u7.setCell ⟨lb, 0, none⟩ (.slice b0 y.flds.length e0)).setCell ⟨lb, 1, none⟩ (.int .i64 (y.flds.length : Int))).setCell ⟨lb, 2, none⟩ (.slice b2 y.vir.length e2) = W8 at HL8 ⊢
  clear HAO HOS7 HXB x0 x2 l0 l1 l2 lf0 lf1 lf2 ll7 hnx hnx' HLB7 HSZ7 HL5 HG6 HF6 HB6
  obtain ⟨hm3, gg, gc, w9, hr9, hm9, hG9, -⟩ := HL8.out.app hi0 hz0 hz1 hz2 rfl (Below.refl _ _) (x := runE) (cs := [.string ⟨#[114, 117, 110]⟩, .slice none 0 0, .int .i64 0, .int .i64 9, .int .i64 0]) ⟨_, rfl, Sl.nil _ _ _⟩ hvl
  have cz9 : w9.cell? ⟨lb, 2, none⟩ = some (.slice b2 y.vir.length e2) := by simp only [World.cell?]; rw [hm9]; rfl
  have fz9 : w9.frozen? ⟨lb, 2, none⟩ = false := by simp [World.frozen?, hm9]
  have lz9 := (Array.getElem?_eq_some_iff.1 hm9).1
  obtain ⟨-, -, k2, -, -, -⟩ := HL8.out.cells
  have HG9 : Hid _ := hG9
  clear hm3 hm9 hG9 HL8
  go_upto_region 18 with (fail)
  generalize w9.setCell ⟨lb, 2, none⟩ (.slice (some ⟨gg, 0, none⟩) (y.vir.length + 1) gc) = W9 at HG9 ⊢
  have hU := juser_ok HG9.out.jc k
  rw [hus] at hU
  obtain ⟨k0, k1, k2, k3, -, -⟩ := HG9.out.cells
  have HRB : Hid _ := HG9.out.rb
  have rb0 : W9.cell? ⟨w.heap.size, 0, none⟩ = some (.slice none 0 0) := by have := HRB.out; simp [World.cell?, this]
  have rb1 : W9.cell? ⟨w.heap.size, 1, none⟩ = some (.int .i64 0) := by have := HRB.out; simp [World.cell?, this]
  have rb2 : W9.cell? ⟨w.heap.size, 2, none⟩ = some (.slice none 0 0) := by have := HRB.out; simp [World.cell?, this]
  have rb3 : W9.cell? ⟨w.heap.size, 3, none⟩ = some (.slice none 0 0) := by have := HRB.out; simp [World.cell?, this]
  have rf : ∀ j, W9.frozen? ⟨w.heap.size, j, none⟩ = false := fun j => by have := HRB.out; simp [World.frozen?, this]
  have rf0 := rf 0
  have rf1 := rf 1
  have rf2 := rf 2
  have rf3 := rf 3
  have rl := (Array.getElem?_eq_some_iff.1 HRB.out).1
  have hnl : w.heap.size ≠ lb := by have := HG9.out.lo; omega
  clear rf
  go_wp2_with (go_at_call 51; refine hU.mono ?_; rintro e w9 ⟨rfl, hw9⟩; replace hw9 := hw9.symm; subst hw9)
  have hb5 := hset (k := 3) (hset (k := 2) (hset (k := 1) (hset (k := 0) HRB.out (.slice b0 y.flds.length e0)) (.int .i64 (y.flds.length : Int))) (.slice (some ⟨gg, 0, none⟩) (y.vir.length + 1) gc)) (.slice a3 (abvJ p k).length c3)
  refine bodyPost_ret (results_cell_row rfl _ _ w.heap.size 58 #[.slice b0 y.flds.length e0, .int .i64 (y.flds.length : Int), .slice (some ⟨gg, 0, none⟩) (y.vir.length + 1) gc, .slice a3 (abvJ p k).length c3] (0, 0) _ rfl hb5 Tryz.underlying58 rfl infoLy) rfl ?_
  have hGf : LyS w cb p S v s lb u5 y.flds (y.flds.length : Int) (y.vir ++ [runE]) (abvJ p k) (.slice b0 y.flds.length e0) (.slice (some ⟨gg, 0, none⟩) (y.vir ++ [runE]).length gc) (.slice a3 (abvJ p k).length c3) W9 := by rw [List.length_append]; exact HG9.out
  have hlx : y.vir.length + 1 = (y.vir ++ [runE]).length := by simp
  rw [hlx]
  exact hGf.fin (W := (((((W9.setCell ⟨w.heap.size, 0, none⟩ (.slice b0 y.flds.length e0)).setCell ⟨w.heap.size, 1, none⟩ (.int .i64 (y.flds.length : Int))).setCell ⟨w.heap.size, 2, none⟩ (.slice (some ⟨gg, 0, none⟩) ((y.vir ++ [runE]).length) gc)).setCell ⟨w.heap.size, 3, none⟩ (.slice a3 (abvJ p k).length c3)))) (fun b hb => by rw [Below.heap_setCell _ _ _ _ hb, Below.heap_setCell _ _ _ _ hb, Below.heap_setCell _ _ _ _ hb, Below.heap_setCell _ _ _ _ hb]) (by simp [World.setCell]) rfl rfl rfl

end Go.Proofs.YtbbmgjcabmjjdaaGreatDoor
/- The document's own Load: layout, a program's class. -/
namespace Go.Proofs.YtbbmgjcabmjjdaaGreatDoor
open Go.RowKit

theorem infoLFx : (Tryz.prog.info? 71).map (fun i => (i.zero, i.size, i.bytes)) = some (some (.agg #[.string ⟨#[]⟩, .int .i64 0]), 2, 24) := by kernel_rfl
theorem app_none (w : World) (t e : TypeId) (i : TypeInfo) (ht : Tryz.prog.underlying t = some (.slice e)) (hi : Tryz.prog.info? e = some i) (a d : Option Addr) (n cp c : Nat) (hn : n ≤ cp) : (appY #[t, t] t #[.slice d n cp, .slice a 0 c]).run Tryz.prog w = .ok (.slice d n cp) w := by
  simp [appY, Builtin.append_, run_underlying ht, sizeOf, typeInfo, hi, Builtin.lenOf, Builtin.firstCells, hn]
  cases a <;> cases d <;> rfl
/-- Fields appended to a row of the call's own. -/
theorem fld_app {w : World} {base : Nat} {v : Value} {fl : List Fd} {i : TypeInfo} {z : Value} (hi : Tryz.prog.info? 71 = some i) (hz : i.zero = some z) (hs : i.size = 2) (hby : i.bytes = 24) (hzs : z.cells.size = 2) (h : w.ownsRow base 71 2 v fl.length (fl.map clFd).flatten) (hB : base ≤ w.heap.size) {S : Nat → Prop} {a : Option Addr} {c : Nat} {xs : List Fd} (hv : Sl kFd w S (.slice a xs.length c) xs) (hl : fl.length + xs.length ≤ 1073741824) :
    ∃ ao cap w2, (appY #[32, 32] 32 #[v, .slice a xs.length c]).run Tryz.prog w = .ok (.slice ao (fl.length + xs.length) cap) w2 ∧ w2.ownsRow base 71 2 (.slice ao (fl.length + xs.length) cap) (fl ++ xs).length ((fl ++ xs).map clFd).flatten ∧ Below base w w2 := by
  obtain ⟨d, cp, hvf, hcp⟩ : ∃ d cp, v = .slice d fl.length cp ∧ fl.length ≤ cp := by
    rcases h.2 with ⟨h1, h2⟩ | ⟨g, cap, cur, h1, _, _, h3, _⟩
    · rw [h2]; exact ⟨none, 0, h1, Nat.le_refl _⟩
    · exact ⟨_, cap, h1, h3⟩
  rcases Nat.eq_zero_or_pos xs.length with h0 | h0
  · have hx : xs = [] := List.eq_nil_of_length_eq_zero h0
    subst hx
    subst hvf
    exact ⟨d, cp, w, app_none w _ _ i Tryz.underlying32 hi a d _ cp c hcp, by simpa using h, Below.refl _ _⟩
  · obtain ⟨b, o, rfl, -, hb, hlen, hcell⟩ := flat_cells (cl := clFd) (fun _ _ _ _ h => h) hv h0
    have hbyt : (fl.length + xs.length) * 24 ≤ 140737488355328 := by omega
    obtain ⟨g, cap, w2, hr, hown, hg, -, -⟩ := run_append_lies (P := Tryz.prog) w 32 32 base 71 i z 2 24 Tryz.underlying32 hi hz hs hby hzs (by decide) v fl.length _ h ⟨b, o, none⟩ xs.length c (xs.map clFd).flatten hlen hcell (one_flat (by intro x u hu; simp [clFd] at hu; rcases hu with rfl | rfl <;> rfl) xs) h0 (by unfold maxLen; omega) hbyt hB _ rfl
    refine ⟨_, cap, w2, hr, by rw [List.map_append, List.flatten_append, List.length_append]; exact hown, ⟨hg.os, hg.tape, hg.output, hg.size, fun k hk => hg.block k (by omega) (fun e => ?_)⟩⟩
    have := World.ownsRow.lt h k e.symm
    omega
theorem own_belowJ {w w' : World} {base : Nat} {T : TypeId} {k n : Nat} {v : Value} {xs : List Value} (h : w.ownsRow base T k v n xs) (hb : Below w.heap.size w w') : w'.ownsRow base T k v n xs := by
  refine ⟨h.1, ?_⟩
  rcases h.2 with r | ⟨g, cap, cur, rfl, h1, h2, h3⟩
  · exact .inl r
  · exact .inr ⟨g, cap, cur, rfl, h1, (hb.block g (Array.getElem?_eq_some_iff.1 h2).1).trans h2, h3⟩
theorem fld_sl {w : World} {base : Nat} {v : Value} {fl : List Fd} (h : w.ownsRow base 71 2 v fl.length (fl.map clFd).flatten) : Sl kFdU w (fun b => base ≤ b ∧ b < w.heap.size) v fl :=
  Gro.sl (K := kFdU) (T := 71) ⟨fl.map clFd, by simp, fun i x hx => ⟨clFd x, by rw [List.getElem?_map, hx]; rfl, rfl⟩, h⟩
theorem fld5 (a : ByteArray) (b c : Bool) (d : Int) (e g h : Value) (q : Option Addr) (n m : Nat) (w : World) : (Instr.field 34 (.agg #[.string a, .bool b, .bool c, .int .i64 d, e, .slice q n m, g, h]) 5).run Tryz.prog w = .ok (.slice q n m) w := by kernel_rfl
theorem virJ_stc {vir : List En} {k : Int} {ms : List Md} {j : Nat} {m : Md} (hm : ms[j]? = some m) (hs : m.stc = true) : virJ vir k ms (j + 1) = virJ vir k ms j := by rw [virJ, hm]; simp [hs]
theorem virJ_set {vir : List En} {k : Int} {ms : List Md} {j a : Nat} {m : Md} (hm : ms[j]? = some m) (hs : m.stc = false) (ho : OfJ (virJ vir k ms j) m.nm m.args m.ret = some a) : virJ vir k ms (j + 1) = (virJ vir k ms j).set a (ownJ m k j) := by
  rw [virJ, hm]; simp only [hs, putJ, ownJ]; rw [ho]; rfl
theorem virJ_add {vir : List En} {k : Int} {ms : List Md} {j : Nat} {m : Md} (hm : ms[j]? = some m) (hs : m.stc = false) (ho : OfJ (virJ vir k ms j) m.nm m.args m.ret = none) : virJ vir k ms (j + 1) = virJ vir k ms j ++ [ownJ m k j] := by
  rw [virJ, hm]; simp only [hs, putJ, ownJ]; rw [ho]; rfl
theorem virJ_len (vir : List En) (k : Int) (ms : List Md) : ∀ j, (virJ vir k ms j).length ≤ vir.length + j
  | 0 => Nat.le_refl _
  | j + 1 => by
    have ih := virJ_len vir k ms j
    rw [virJ]
    split
    · split
      · omega
      · unfold putJ
        split
        · rw [List.length_set]; omega
        · rw [List.length_append, List.length_singleton]; omega
    · omega
theorem of_lt {es : List En} {nm : ByteArray} {args : List Int} {ret : Int} {a : Nat} (h : OfJ es nm args ret = some a) : a < es.length := by
  unfold OfJ at h
  exact (List.findIdx?_eq_some_iff_getElem.1 h).1
theorem Gro.at_ {α : Type} {K : Kd α} {T : TypeId} {base g cap : Nat} {w : World} {xs : List α} (h : Gro K T base w (.slice (some ⟨g, 0, none⟩) xs.length cap) xs) {i : Nat} (hi : i < xs.length) : (∀ j, w.frozen? ⟨g, j, none⟩ = false) ∧ ∀ j, j < K.k → ∃ u, w.cell? ⟨g, i * K.k + j, none⟩ = some u := by
  obtain ⟨css, h1, h2, h3⟩ := h.css
  rcases h3.2 with ⟨q, _⟩ | ⟨g', cap', cur, q, e2, e3, e4, e5, e6, e7⟩
  · simp at q
  · simp only [Value.slice.injEq, Option.some.injEq, Addr.mk.injEq, and_true, true_and] at q
    obtain ⟨rfl, rfl⟩ := q
    refine ⟨fun j => by simp [World.frozen?, e3], fun j hj => ?_⟩
    have hlt : i * K.k + j < cur.size := by
      rw [e6]
      have : (i + 1) * K.k ≤ cap * K.k := Nat.mul_le_mul_right _ (by omega)
      rw [Nat.succ_mul] at this; omega
    exact ⟨cur[i * K.k + j], by simp [World.cell?, e3, Array.getElem?_eq_getElem hlt]⟩
attribute [local go_sem ↓] app_Y
attribute [local go_sem] ldJ
set_option maxHeartbeats 16000000 in
set_option maxRecDepth 20000 in
theorem jlayE_ok {p : Pg} (hSup : SupOk p) (hFc : FaceOk p) {w : World} {cb : Nat} {S : Nat → Prop} {v : Value} {s : Fs} (h : Jc w cb p S v s) {k : Int} (hk : isJ p k = true) (y : Ly) (hIH : ∀ u, Jc u cb p S v s → Calls Tryz.prog 24 #[.pointer (some ⟨cb, 0, none⟩), .int .i64 (supJ p k)] u (LyP y u)) (hs0 : 0 ≤ supJ p k) (hfa : faceJ p k = false) (hus : userJ p k = true) (h9 : (k == 9) = false) (hvl : y.vir.length ≤ 100000000) (hfl : y.flds.length ≤ 100000000) : Calls Tryz.prog 24 #[.pointer (some ⟨cb, 0, none⟩), .int .i64 k] w (LyP ⟨y.flds ++ (ofJ p k).flds, (y.flds.length : Int), virJ y.vir k (ofJ p k).mds (ofJ p k).mds.length, abvJ p k⟩ w) := by
  have HIH : Hid (∀ u, Jc u cb p S v s → Calls Tryz.prog 24 #[.pointer (some ⟨cb, 0, none⟩), .int .i64 (supJ p k)] u (LyP y u)) := hIH
  have HOC : Hid (OkC (ofJ p k)) := by
    obtain ⟨i, -, -, hi⟩ := user_at hus
    exact badOk h.ok hi
  clear hIH
  obtain ⟨i0, hi0, hz0, hz1, hz2⟩ := info_parts infoLE
  obtain ⟨i5, hi5, hy0, hy1, hy2⟩ := info_parts infoLFx
  have HI5 : Hid (Tryz.prog.info? 71 = some i5 ∧ i5.zero = some (.agg #[.string ⟨#[]⟩, .int .i64 0]) ∧ i5.size = 2 ∧ i5.bytes = 24) := ⟨hi5, hy0, hy1, hy2⟩
  clear hi5 hy0 hy1 hy2
  have H0 : Hid (Jc w cb p S v s) := h
  have hb0 : Below w.heap.size w (w.alloc (.cells #[.slice none 0 0, .int .i64 0, .slice none 0 0, .slice none 0 0] 58)) := (Below.refl _ _).alloc (Nat.le_refl _) _
  have hAB := jabove_ok hSup hFc (B := w.heap.size + 1) (cb := cb) (S := S) (v := v) (s := s) (by have := h.lt; omega) (fun b hb => by have := h.low b hb; omega) (nJ p + 1) (w.alloc (.cells #[.slice none 0 0, .int .i64 0, .slice none 0 0, .slice none 0 0] 58)) (.slice none 0 0) [] k (h.below hb0) (Rj.nil _ _) (by simp) hk ⟨List.nodup_nil, by simp⟩ (by simp)
  have HLN : Hid ((aboveJ p (nJ p + 1) k []).length ≤ 2097152) := by
    have h1 := (above_gd hSup hFc (nJ p + 1) k [] hk ⟨List.nodup_nil, by simp⟩).1.le
    have h2 := h.ok.n
    have h3 : nJ p = 11 + p.cls.length := rfl
    show _ ≤ _
    omega
  have HSU : Hid (SupOk p) := hSup
  have hcn := h.ok.n
  clear h hb0
  go_enter Tryz.func24, Tryz.ntmps24
  go_upto_region 2 with (first
    | (go_at_call 53; refine hAB.mono ?_; rintro e u1 ⟨v1, rfl, hr1, hb1⟩; obtain ⟨a1, c1, hv1⟩ := hr1.out.form; subst hv1; have hSO := jsorted_ok (soft_I hr1.out.sl) (fun k hk => hk.2) HLN.out; have HB1 : Hid _ := hb1.out; clear hAB hr1 hb1)
    | (go_at_call 52; refine hSO.mono ?_; rintro e u2 ⟨v3, rfl, hr2, hb2⟩; obtain ⟨a3, c3, hv3⟩ := hr2.out.form; subst hv3; have HL : Hid _ := lys_start (abv := abvJ p k) H0.out HB1.out hb2.out hr2.out; clear hSO hr2 hb2 HB1))
  generalize u2.alloc (.cells #[.slice none 0 0, .int .i64 0, .slice none 0 0, .slice a3 (sortJ (aboveJ p (nJ p + 1) k [])).length c3] 58) = y3 at HL ⊢
  obtain ⟨lb, hlb⟩ : ∃ lb, lb = u2.heap.size := ⟨_, rfl⟩
  rw [← hlb] at HL ⊢
  replace HL : Hid (LyS w cb p S v s lb y3 [] 0 [] (abvJ p k) (.slice none 0 0) (.slice none 0 0) (.slice a3 (abvJ p k).length c3) y3) := HL
  change Code.wp _ _ _ _ _ at ⊢
  clear hlb
  have hF := jface_ok HL.out.jc k
  rw [hfa] at hF
  have HSG : Hid (decide (0 ≤ supJ p k) = true) := by show _ = _; simp; exact hs0
  have hsg := HSG.out
  go_upto_region 13 with (first
    | (go_at_call 44; refine hF.mono ?_; rintro e u4 ⟨rfl, hb4⟩; have HL4 : Hid (LyS w cb p S v s lb y3 [] 0 [] (abvJ p k) (.slice none 0 0) (.slice none 0 0) (.slice a3 (abvJ p k).length c3) u4) := HL.out.below hb4; have hP := jsup_ok HL4.out.jc hk; clear HL hF hb4)
    | (go_at_call 45; refine hP.mono ?_; rintro e u5 ⟨rfl, hb5⟩; have HL5 : Hid (LyS w cb p S v s lb y3 [] 0 [] (abvJ p k) (.slice none 0 0) (.slice none 0 0) (.slice a3 (abvJ p k).length c3) u5) := HL4.out.below hb5; have hLx := HIH.out u5 HL5.out.jc; clear HL4 hP hb5)
    | (go_at_call 24; refine hLx.mono ?_; rintro e u6 ⟨b0, e0, b2, e2, b3, e3, rfl, hg6, hf6, -, hb6⟩; have HL6 : Hid (LyS w cb p S v s lb y3 [] 0 [] (abvJ p k) (.slice none 0 0) (.slice none 0 0) (.slice a3 (abvJ p k).length c3) u6) := HL5.out.below hb6; have HG6 : Hid _ := hg6; have HF6 : Hid _ := hf6; have HB6 : Hid _ := hb6; clear hLx hg6 hf6 hb6))
  have hx7 : (u6.alloc (.cells #[.slice b0 y.flds.length e0, .int .i64 y.off, .slice b2 y.vir.length e2, .slice b3 y.abv.length e3] 58)).heap[u6.heap.size]? = some (.cells #[.slice b0 y.flds.length e0, .int .i64 y.off, .slice b2 y.vir.length e2, .slice b3 y.abv.length e3] 58 (0, 0)) := heap_alloc_new _ _
  obtain ⟨kk0, kk1, kk2, kk3, kkf, kkl⟩ := HL6.out.cells
  have hal : (u6.alloc (.cells #[.slice b0 y.flds.length e0, .int .i64 y.off, .slice b2 y.vir.length e2, .slice b3 y.abv.length e3] 58)).heap[lb]? = u6.heap[lb]? := Below.heap_alloc _ _ _ kkl
  have hsz7 : (u6.alloc (.cells #[.slice b0 y.flds.length e0, .int .i64 y.off, .slice b2 y.vir.length e2, .slice b3 y.abv.length e3] 58)).heap.size = u6.heap.size + 1 := by simp
  have HAO : Hid (∀ b, b < u6.heap.size → (u6.alloc (.cells #[.slice b0 y.flds.length e0, .int .i64 y.off, .slice b2 y.vir.length e2, .slice b3 y.abv.length e3] 58)).heap[b]? = u6.heap[b]?) := fun b hb => Below.heap_alloc _ _ _ hb
  have HOS7 : Hid ((u6.alloc (.cells #[.slice b0 y.flds.length e0, .int .i64 y.off, .slice b2 y.vir.length e2, .slice b3 y.abv.length e3] 58)).os = u6.os ∧ (u6.alloc (.cells #[.slice b0 y.flds.length e0, .int .i64 y.off, .slice b2 y.vir.length e2, .slice b3 y.abv.length e3] 58)).tape = u6.tape ∧ (u6.alloc (.cells #[.slice b0 y.flds.length e0, .int .i64 y.off, .slice b2 y.vir.length e2, .slice b3 y.abv.length e3] 58)).output = u6.output) := ⟨rfl, rfl, rfl⟩
  generalize u6.alloc (.cells #[.slice b0 y.flds.length e0, .int .i64 y.off, .slice b2 y.vir.length e2, .slice b3 y.abv.length e3] 58) = u7 at *
  obtain ⟨xb, hxb⟩ : ∃ xb, xb = u6.heap.size := ⟨_, rfl⟩
  have HXB : Hid (xb = u6.heap.size) := hxb
  rw [← hxb] at hx7 ⊢
  have x0 : u7.cell? ⟨xb, 0, none⟩ = some (.slice b0 y.flds.length e0) := by simp [World.cell?, hx7]
  have x2 : u7.cell? ⟨xb, 2, none⟩ = some (.slice b2 y.vir.length e2) := by simp [World.cell?, hx7]
  have l0 : u7.cell? ⟨lb, 0, none⟩ = some (.slice none 0 0) := (cell_same hal 0).trans kk0
  have l1 : u7.cell? ⟨lb, 1, none⟩ = some (.int .i64 0) := (cell_same hal 1).trans kk1
  have l2 : u7.cell? ⟨lb, 2, none⟩ = some (.slice none 0 0) := (cell_same hal 2).trans kk2
  have lfz : ∀ j, u7.frozen? ⟨lb, j, none⟩ = false := fun j => by have := kkf j; simp only [World.frozen?, hal] at this ⊢; exact this
  have lf0 := lfz 0
  have lf1 := lfz 1
  have lf2 := lfz 2
  have ll7 : lb < u7.heap.size := by omega
  have hnx : lb ≠ xb := by omega
  have hnx' : xb ≠ lb := by omega
  have HLB7 : Hid (u7.heap[lb]? = some (.cells #[.slice none 0 0, .int .i64 0, .slice none 0 0, .slice a3 (abvJ p k).length c3] 58 (0, 0))) := hal.trans HL6.out.ly.gim.2.2
  have HSZ7 : Hid (u7.heap.size = u6.heap.size + 1) := hsz7
  clear hx7 kk0 kk1 kk2 kk3 kkf kkl hal hsz7 hxb lfz HL6 hsg HSG
  go_upto_region 16 with (fail)
  have HL8 : Hid (LyS w cb p S v s lb u5 y.flds (y.flds.length : Int) y.vir (abvJ p k) (.slice b0 y.flds.length e0) (.slice b2 y.vir.length e2) (.slice a3 (abvJ p k).length c3) (((u7.setCell ⟨lb, 0, none⟩ (.slice b0 y.flds.length e0)).setCell ⟨lb, 1, none⟩ (.int .i64 (y.flds.length : Int))).setCell ⟨lb, 2, none⟩ (.slice b2 y.vir.length e2))) :=
    HL5.out.up HG6.out HF6.out HB6.out _ (fun b hb hn => by rw [Below.heap_setCell _ _ _ _ hn, Below.heap_setCell _ _ _ _ hn, Below.heap_setCell _ _ _ _ hn]; exact HAO.out b hb) (by have := HSZ7.out; simp [World.setCell]; omega) HOS7.out.1 HOS7.out.2.1 HOS7.out.2.2 (hset (hset (hset HLB7.out _) _) _)
  generalize ((u7.setCell ⟨lb, 0, none⟩ (.slice b0 y.flds.length e0)).setCell ⟨lb, 1, none⟩ (.int .i64 (y.flds.length : Int))).setCell ⟨lb, 2, none⟩ (.slice b2 y.vir.length e2) = W8 at HL8 ⊢
  clear HAO HOS7 HXB x0 x2 l0 l1 l2 lf0 lf1 lf2 ll7 hnx hnx' HLB7 HSZ7 HL5 HG6 HF6 HB6
  have hU := juser_ok HL8.out.jc k
  rw [hus] at hU
  obtain ⟨k0, -, -, -, kf, kl⟩ := HL8.out.cells
  have kf0 := kf 0
  obtain ⟨ao1, cap1, w21, hr21, ho21, hb21⟩ := fld_app (base := W8.heap.size) (fl := []) HI5.out.1 HI5.out.2.1 HI5.out.2.2.1 HI5.out.2.2.2 rfl (own_empty W8 71 2) (by simp) ((soft_Fd HL8.out.ly.fld).keep (fun b hb => Below.heap_alloc W8 (.cells #[] 71) b hb.2.1)) (by simp; omega)
  rw [List.length_nil, Nat.zero_add] at hr21
  simp only [List.nil_append, List.length_nil, Nat.zero_add] at ho21
  have hbA : Below W8.heap.size W8 w21 := ((Below.refl _ _).alloc (Nat.le_refl _) _).trans hb21
  have HO21 : Hid (w21.ownsRow W8.heap.size 71 2 (.slice ao1 y.flds.length cap1) y.flds.length (y.flds.map clFd).flatten) := ho21
  have HBA : Hid (Below W8.heap.size W8 w21) := hbA
  have HL9 : Hid _ := HL8.out.below hbA
  have hO := jof_ok HL9.out.jc hus
  obtain ⟨l0, -, -, -, lf, ll⟩ := HL9.out.cells
  have nm := HOC.out.nmds
  have nfl := HOC.out.nflds
  clear ho21 hb21 hbA kf lf ll l0
  generalize hce : ofJ p k = c at *
  have HCE : Hid (ofJ p k = c) := hce
  clear hce
  go_upto_region 21 with (first
    | (go_at_call 51; refine hU.mono ?_; rintro e w9 ⟨rfl, hw9⟩; replace hw9 := hw9.symm; subst hw9)
    | (go_at_call 49; refine hO.mono ?_; rintro e u10 ⟨a1, x1, a2, x2, a4, x4, a5, x5, rfl, hsl, hb10⟩; have hf5 := fld5 c.nm c.face c.fin c.sup (.slice a1 c.faces.length x1) (.slice a4 c.stcs.length x4) (.slice a5 c.mds.length x5) a2 c.flds.length x2 u10; have HBX : Hid (Below W8.heap.size W8 u10) := HBA.out.trans (hb10.mono HBA.out.size); obtain ⟨ao2, cap2, w22, hr22, ho22, hb22⟩ := fld_app (base := W8.heap.size) (fl := y.flds) HI5.out.1 HI5.out.2.1 HI5.out.2.2.1 HI5.out.2.2.2 rfl (v := .slice ao1 y.flds.length cap1) (own_belowJ HO21.out hb10) HBX.out.size hsl.2.1 (by omega); have HS22 : Hid _ := fld_sl ho22; have HB22 : Hid (Below W8.heap.size W8 w22) := HBX.out.trans hb22; obtain ⟨m0, -, -, -, mf, ml⟩ := (HL8.out.below HB22.out).cells; have mf0 := mf 0; clear hO hsl hb10 ho22 hb22 mf))
  have HL10 : Hid (LyS w cb p S v s lb u5 (y.flds ++ c.flds) (y.flds.length : Int) y.vir (abvJ p k) (.slice ao2 (y.flds.length + c.flds.length) cap2) (.slice b2 y.vir.length e2) (.slice a3 (abvJ p k).length c3) (w22.setCell ⟨lb, 0, none⟩ (.slice ao2 (y.flds.length + c.flds.length) cap2))) := HL8.out.setFld HB22.out HS22.out
  generalize w22.setCell ⟨lb, 0, none⟩ (.slice ao2 (y.flds.length + c.flds.length) cap2) = W10 at HL10 ⊢
  have hO2 := jof_ok HL10.out.jc hus
  rw [HCE.out] at hO2
  clear HL8 HL9 HB22 HS22 HBX HBA HO21 hr21 hr22 hf5 k0 kf0 kl m0 mf0 ml hU
  go_wp2_with (go_at_call 49; refine hO2.mono ?_; rintro e u11 ⟨a6, x6, a7, x7, a8, x8, a9, x9, rfl, hsl, hb11⟩; have HL11 : Hid (LyS w cb p S v s lb u5 (y.flds ++ c.flds) (y.flds.length : Int) y.vir (abvJ p k) (.slice ao2 (y.flds.length + c.flds.length) cap2) (.slice b2 y.vir.length e2) (.slice a3 (abvJ p k).length c3) u11) := HL10.out.below hb11; have HMS : Hid (Sl kMd u11 S (.slice a9 c.mds.length x9) c.mds) := hsl.2.2.2; have hfl7 := fld7 c.nm c.face c.fin c.sup (.slice a6 c.faces.length x6) (.slice a7 c.flds.length x7) (.slice a8 c.stcs.length x8) a9 c.mds.length x9 u11; clear HL10 hO2 hsl hb11)
  go_loopg [11] (c.mds.length + 1) (fun kx s11 wr => ∃ (j : Nat) (vo : Value), s11 = .int .i64 j ∧ j ≤ c.mds.length ∧ c.mds.length - j ≤ kx ∧ Hid (LyS w cb p S v s lb u5 (y.flds ++ c.flds) (y.flds.length : Int) (virJ y.vir k c.mds j) (abvJ p k) (.slice ao2 (y.flds.length + c.flds.length) cap2) vo (.slice a3 (abvJ p k).length c3) wr))
  case atStart => exact ⟨0, _, rfl, by omega, by omega, HL11.out⟩
  case round =>
    obtain ⟨j, vo, rfl, hj, hkj, HA⟩ := hrel
    have HB11 : Hid (Below w.heap.size w u11) := HL11.out.bel
    clear HL11 hfl7
    by_cases hjl : j < c.mds.length
    · have hl2 : (j : Int) < (c.mds.length : Int) := by omega
      obtain ⟨m, hm⟩ : ∃ c1, c.mds[j]? = some c1 := ⟨_, List.getElem?_eq_getElem hjl⟩
      have HNA : Hid (m.args.length ≤ 1048576) := (HOC.out.mds m (List.mem_of_getElem? hm)).nargs
      have hmt := HA.out.mtds HB11.out HMS.out
      obtain ⟨mb, mo, d1, d2, d3, d4, h1, h2, h3, h4, hfx, ⟨t0, t1, t2, t3, t4, t5, t6, t7, t8⟩, hargs, -⟩ := mth_at hmt HA.out.jc.low hm
      have HMU : Hid (mb < u5.heap.size ∧ mb ≠ lb) := by
        have hb := HA.out.bel.size
        have h1 := HA.out.lo
        have h2 := HA.out.ly.lt
        obtain ⟨sb2, so2, e2', hs2, -⟩ := hmt.atJ hm
        rw [hfx] at e2'
        injection e2' with e2'
        injection e2' with e3' e4'
        have := HA.out.S_ sb2 hs2
        subst e3'
        exact ⟨by omega, by omega⟩
      subst hfx
      have HMM : Hid (c.mds[j]? = some m) := hm
      clear hm hmt
      rcases hst : m.stc with _ | _
      · rw [hst] at t1
        have HST : Hid (m.stc = false) := hst
        have HVN : Hid ((virJ y.vir k c.mds j).length ≤ 1000000000) := by show _ ≤ _; have := virJ_len y.vir k c.mds j; omega
        have HVS : Hid (∀ a, OfJ (virJ y.vir k c.mds j) m.nm m.args m.ret = some a → virJ y.vir k c.mds (j + 1) = (virJ y.vir k c.mds j).set a (ownJ m k j)) := fun a ho => virJ_set HMM.out hst ho
        have HVA : Hid (OfJ (virJ y.vir k c.mds j) m.nm m.args m.ret = none → virJ y.vir k c.mds (j + 1) = virJ y.vir k c.mds j ++ [ownJ m k j]) := fun ho => virJ_add HMM.out hst ho
        clear hst
        generalize virJ y.vir k c.mds j = vr at *
        obtain ⟨av, cv, hvo⟩ := HA.out.forms.2.1
        obtain ⟨nv, hnv⟩ : ∃ nv, nv = vr.length := ⟨_, rfl⟩
        have HNV : Hid (nv = vr.length) := hnv
        rw [← hnv] at hvo
        subst hvo
        clear hnv
        have HVE : Hid (Sl kEn wr (fun b => u5.heap.size ≤ b ∧ b < wr.heap.size) (.slice av nv cv) vr) := soft_En HA.out.ly.gim.1.sl
        have HAR : Hid (Sl kI wr S (.slice d1 m.args.length h1) m.args) := hargs
        have HOF : Hid (∀ n, Calls Tryz.prog 50 #[.slice av nv cv, .string m.nm, .slice d1 m.args.length h1, .int .i64 m.ret] (wr.drewN n) fun e w' => e = .returned (.int .i64 (ofI (OfJ vr m.nm m.args m.ret))) ∧ ∃ m', w' = (wr.drewN n).drewN m') := fun n => jOf_ok (w := wr.drewN n) (HVE.out.keep (fun _ _ => rfl)) (by have := HVN.out; omega) m.nm (HAR.out.keep (fun _ _ => rfl)) m.ret
        obtain ⟨-, -, z2, -, -, ll⟩ := HA.out.cells
        clear hargs
        obtain ⟨R, hR⟩ : ∃ R, ofI (OfJ vr m.nm m.args m.ret) = R := ⟨_, rfl⟩
        have HRR : Hid (ofI (OfJ vr m.nm m.args m.ret) = R) := hR
        rw [hR] at HOF
        clear hR
        go_upto_region 26 with (fail)
        go_quiet ((go_at_call 50; exact Calls.quiet_of (HOF.out _)))
        generalize hU : World.drewN _ _ = wq
        have HQ : Hid (Below wr.heap.size wr wq ∧ ∀ b : Nat, wq.heap[b]? = wr.heap[b]?) := by subst hU; exact ⟨below_drewN _ _ _, fun _ => rfl⟩
        have HAq : Hid (LyS w cb p S v s lb u5 (y.flds ++ c.flds) (y.flds.length : Int) vr (abvJ p k) (.slice ao2 (y.flds.length + c.flds.length) cap2) (.slice av nv cv) (.slice a3 (abvJ p k).length c3) wq) := HA.out.below HQ.out.1
        replace t0 := (cell_same (HQ.out.2 mb) _).trans t0
        replace t1 := (cell_same (HQ.out.2 mb) _).trans t1
        replace t2 := (cell_same (HQ.out.2 mb) _).trans t2
        replace t3 := (cell_same (HQ.out.2 mb) _).trans t3
        replace t4 := (cell_same (HQ.out.2 mb) _).trans t4
        replace t5 := (cell_same (HQ.out.2 mb) _).trans t5
        replace t6 := (cell_same (HQ.out.2 mb) _).trans t6
        replace t7 := (cell_same (HQ.out.2 mb) _).trans t7
        replace t8 := (cell_same (HQ.out.2 mb) _).trans t8
        have HOW : Hid (Calls Tryz.prog 54 #[.agg #[.string m.nm, .bool false, .slice d1 m.args.length h1, .int .i64 m.ret, .int .i64 m.lo, .int .i64 m.st, .slice d2 m.code.length h2, .slice d3 m.tab.length h3, .slice d4 m.maps.length h4], .int .i64 k, .int .i64 j] wq.drew (OwP m k j wq.drew)) := by
          have := HST.out
          have hq := jown_ok (w := wq.drew) (m := m) (d2 := d2) (d3 := d3) (d4 := d4) (h2 := h2) (h3 := h3) (h4 := h4) (HAR.out.keep (fun b _ => HQ.out.2 b)) HAq.out.jc.low HNA.out k j
          rw [this] at hq
          exact hq
        have HMB : Hid (mb < wq.heap.size) := cell_lt t0
        have HNE2 : Hid (lb ≠ mb) := fun q => HMU.out.2 q.symm
        have hnm := World.new_ne wq _ t0
        clear hU HA HVE HAR HOF z2 ll
        obtain ⟨-, -, z2, -, -, ll⟩ := HAq.out.cells
        rcases ho : OfJ vr m.nm m.args m.ret with _ | at_
        · have hR1 : R = -1 := by rw [← HRR.out, ho]; rfl
          subst hR1
          have HE : Hid (virJ y.vir k c.mds (j + 1) = vr ++ [ownJ m k j]) := HVA.out ho
          have HVL : Hid (vr.length ≤ 1073741824) := by show _ ≤ _; have := HVN.out; omega
          clear ho HRR HVS HVA
          go_upto_region 29 with (fail)
          rw [show Op.load 56 (.tmp 132) = ldJ 56 (.tmp 132) from rfl]
          go_region_held3 (fun w' => w'.cell? ⟨mb, mo + j * 9, none⟩ = some (.string m.nm) ∧ w'.cell? ⟨mb, mo + j * 9 + 1, none⟩ = some (.bool false) ∧ w'.cell? ⟨mb, mo + j * 9 + 2, none⟩ = some (.slice d1 m.args.length h1) ∧ w'.cell? ⟨mb, mo + j * 9 + 3, none⟩ = some (.int .i64 m.ret) ∧ w'.cell? ⟨mb, mo + j * 9 + 4, none⟩ = some (.int .i64 m.lo) ∧ w'.cell? ⟨mb, mo + j * 9 + 5, none⟩ = some (.int .i64 m.st) ∧ w'.cell? ⟨mb, mo + j * 9 + 6, none⟩ = some (.slice d2 m.code.length h2) ∧ w'.cell? ⟨mb, mo + j * 9 + 7, none⟩ = some (.slice d3 m.tab.length h3) ∧ w'.cell? ⟨mb, mo + j * 9 + 8, none⟩ = some (.slice d4 m.maps.length h4)) (first | go_keep | exact ⟨(World.cell?_setCell_far _ _ _ _ HNE2.out).trans tw0, (World.cell?_setCell_far _ _ _ _ HNE2.out).trans tw1, (World.cell?_setCell_far _ _ _ _ HNE2.out).trans tw2, (World.cell?_setCell_far _ _ _ _ HNE2.out).trans tw3, (World.cell?_setCell_far _ _ _ _ HNE2.out).trans tw4, (World.cell?_setCell_far _ _ _ _ HNE2.out).trans tw5, (World.cell?_setCell_far _ _ _ _ HNE2.out).trans tw6, (World.cell?_setCell_far _ _ _ _ HNE2.out).trans tw7, (World.cell?_setCell_far _ _ _ _ HNE2.out).trans tw8⟩) ((go_at_call 54; refine HOW.out.mono ?_; rintro e xa ⟨r1, q1, rfl, hsl, hbx⟩; have BDa : Hid (Below wq.heap.size wq xa) := bel_unJ hbx; obtain ⟨hm3, gg, gc, w9, hr9, hm9, hG9, hw8⟩ := HAq.out.app hi0 hz0 hz1 hz2 rfl BDa.out (ent_R (k := k) (i := j) hsl) HVL.out; have zz : xa.cell? ⟨lb, 2, none⟩ = some (.slice av nv cv) := (by simp only [World.cell?]; rw [hm3]; rfl); have cz9 : w9.cell? ⟨lb, 2, none⟩ = some (.slice av nv cv) := (by simp only [World.cell?]; rw [hm9]; rfl); have fz9 : w9.frozen? ⟨lb, 2, none⟩ = false := (by simp [World.frozen?, hm9]); have lz9 := (Array.getElem?_eq_some_iff.1 hm9).1; have lz3 := (Array.getElem?_eq_some_iff.1 hm3).1; have HG9 : Hid _ := hG9; have hb9 := BDa.out.block mb HMB.out; have hq9 := hw8 mb HMU.out.1 HMU.out.2; have tk0 := (cell_same hb9 (mo + j * 9)).trans t0; have tw0 := (cell_same hq9 (mo + j * 9)).trans t0; have tk1 := (cell_same hb9 (mo + j * 9 + 1)).trans t1; have tw1 := (cell_same hq9 (mo + j * 9 + 1)).trans t1; have tk2 := (cell_same hb9 (mo + j * 9 + 2)).trans t2; have tw2 := (cell_same hq9 (mo + j * 9 + 2)).trans t2; have tk3 := (cell_same hb9 (mo + j * 9 + 3)).trans t3; have tw3 := (cell_same hq9 (mo + j * 9 + 3)).trans t3; have tk4 := (cell_same hb9 (mo + j * 9 + 4)).trans t4; have tw4 := (cell_same hq9 (mo + j * 9 + 4)).trans t4; have tk5 := (cell_same hb9 (mo + j * 9 + 5)).trans t5; have tw5 := (cell_same hq9 (mo + j * 9 + 5)).trans t5; have tk6 := (cell_same hb9 (mo + j * 9 + 6)).trans t6; have tw6 := (cell_same hq9 (mo + j * 9 + 6)).trans t6; have tk7 := (cell_same hb9 (mo + j * 9 + 7)).trans t7; have tw7 := (cell_same hq9 (mo + j * 9 + 7)).trans t7; have tk8 := (cell_same hb9 (mo + j * 9 + 8)).trans t8; have tw8 := (cell_same hq9 (mo + j * 9 + 8)).trans t8; clear hm3 hm9 hG9 hbx hb9 hw8 hsl hq9))
          all_goals
            go_wp2_with (fail)
            go_roundg (c.mds.length - (j + 1))
            case measure => omega
            case rel => exact ⟨j + 1, _, by go_num, by omega, by omega, by rw [HE.out]; exact HG9.out⟩
        · have hR1 : R = (at_ : Int) := by rw [← HRR.out, ho]; rfl
          subst hR1
          have HE : Hid (virJ y.vir k c.mds (j + 1) = vr.set at_ (ownJ m k j)) := HVS.out at_ ho
          have HAT : Hid (at_ < vr.length) := of_lt ho
          obtain rfl := HNV.out
          obtain ⟨gv, rfl⟩ : ∃ gv, av = some ⟨gv, 0, none⟩ := by
            rcases HAq.out.ly.gim.1.shape with e | ⟨g, cap, e, -⟩
            · injection e with _ e; have := HAT.out; omega
            · injection e with e; exact ⟨g, e⟩
          have hGA := HAq.out.ly.gim.1.at_ HAT.out
          have HEF : Hid (∀ j, wq.frozen? ⟨gv, j, none⟩ = false) := hGA.1
          obtain ⟨q0, ec0⟩ := hGA.2 0 (by decide)
          obtain ⟨q1', ec1⟩ := hGA.2 1 (by decide)
          obtain ⟨q2, ec2⟩ := hGA.2 2 (by decide)
          obtain ⟨q3, ec3⟩ := hGA.2 3 (by decide)
          obtain ⟨q4, ec4⟩ := hGA.2 4 (by decide)
          have hgo := HAq.out.ly.gim.ownlt (g := gv) rfl
          have HGV : Hid (gv < wq.heap.size) := hgo.2
          have HLL : Hid (lb < wq.heap.size) := ll
          have hgm : gv ≠ mb := by have := HMU.out.1; omega
          have hgl : gv ≠ lb := by have := HAq.out.ly.lt; omega
          have ha9 : (at_ : Int) < (vr.length : Int) := by have := HAT.out; omega
          have ha8 : (0 : Int) ≤ (at_ : Int) := by omega
          have hnl9 := World.new_ne wq _ z2
          clear ho HRR HVS HVA hGA hgo
          go_upto_region 28 with (fail)
          go_region_held3 (fun w' => w'.cell? ⟨mb, mo + j * 9, none⟩ = some (.string m.nm) ∧ w'.cell? ⟨mb, mo + j * 9 + 1, none⟩ = some (.bool false) ∧ w'.cell? ⟨mb, mo + j * 9 + 2, none⟩ = some (.slice d1 m.args.length h1) ∧ w'.cell? ⟨mb, mo + j * 9 + 3, none⟩ = some (.int .i64 m.ret) ∧ w'.cell? ⟨mb, mo + j * 9 + 4, none⟩ = some (.int .i64 m.lo) ∧ w'.cell? ⟨mb, mo + j * 9 + 5, none⟩ = some (.int .i64 m.st) ∧ w'.cell? ⟨mb, mo + j * 9 + 6, none⟩ = some (.slice d2 m.code.length h2) ∧ w'.cell? ⟨mb, mo + j * 9 + 7, none⟩ = some (.slice d3 m.tab.length h3) ∧ w'.cell? ⟨mb, mo + j * 9 + 8, none⟩ = some (.slice d4 m.maps.length h4) ∧ w'.cell? ⟨lb, 2, none⟩ = some (.slice (some ⟨gv, 0, none⟩) vr.length cv)) (go_keep) ((go_at_call 54; refine HOW.out.mono ?_; rintro e xa ⟨r1, q1, rfl, hsl, hbx⟩; have BDa : Hid (Below wq.heap.size wq xa) := bel_unJ hbx; have hG9 := HAq.out.setAt (i := at_) HAT.out BDa.out (ent_R (k := k) (i := j) hsl); have HG9 : Hid _ := hG9; have hb9 := BDa.out.block mb HMB.out; have tk0 := (cell_same hb9 (mo + j * 9)).trans t0; have tk1 := (cell_same hb9 (mo + j * 9 + 1)).trans t1; have tk2 := (cell_same hb9 (mo + j * 9 + 2)).trans t2; have tk3 := (cell_same hb9 (mo + j * 9 + 3)).trans t3; have tk4 := (cell_same hb9 (mo + j * 9 + 4)).trans t4; have tk5 := (cell_same hb9 (mo + j * 9 + 5)).trans t5; have tk6 := (cell_same hb9 (mo + j * 9 + 6)).trans t6; have tk7 := (cell_same hb9 (mo + j * 9 + 7)).trans t7; have tk8 := (cell_same hb9 (mo + j * 9 + 8)).trans t8; have tkl := (cell_same (BDa.out.block lb HLL.out) 2).trans z2; have HS9 : Hid (xa.heap[gv]? = wq.heap[gv]?) := BDa.out.block gv HGV.out; have ff : ∀ j, xa.frozen? ⟨gv, j, none⟩ = false := (fun j => by have := HEF.out j; simp only [World.frozen?, HS9.out] at this ⊢; exact this); have cc0 := (cell_same HS9.out (at_ * 5)).trans ec0; have ff0 := ff (at_ * 5); have cc1 := (cell_same HS9.out (at_ * 5 + 1)).trans ec1; have ff1 := ff (at_ * 5 + 1); have cc2 := (cell_same HS9.out (at_ * 5 + 2)).trans ec2; have ff2 := ff (at_ * 5 + 2); have cc3 := (cell_same HS9.out (at_ * 5 + 3)).trans ec3; have ff3 := ff (at_ * 5 + 3); have cc4 := (cell_same HS9.out (at_ * 5 + 4)).trans ec4; have ff4 := ff (at_ * 5 + 4); have lgx := Nat.lt_of_lt_of_le HGV.out BDa.out.size; clear hG9 hbx hb9 hsl ff))
          all_goals
            go_wp2_with (fail)
            go_roundg (c.mds.length - (j + 1))
            case measure => omega
            case rel => exact ⟨j + 1, _, by go_num, by omega, by omega, by rw [HE.out]; exact HG9.out⟩
      · rw [hst] at t1
        have HE : Hid (virJ y.vir k c.mds (j + 1) = virJ y.vir k c.mds j) := virJ_stc HMM.out hst
        clear hst hargs
        go_wp2_with (fail)
        go_roundg (c.mds.length - (j + 1))
        case measure => omega
        case rel => exact ⟨j + 1, _, by go_num, by omega, by omega, by rw [HE.out]; exact HA.out⟩
    · have hj2 : j = c.mds.length := by omega
      subst hj2
      have hl2 : ¬ ((c.mds.length : Nat) : Int) < ((c.mds.length : Nat) : Int) := by omega
      generalize hvr : virJ y.vir k c.mds c.mds.length = vr at *
      have HVR : Hid (virJ y.vir k c.mds c.mds.length = vr) := hvr
      clear hvr
      obtain ⟨z2, y2, hz2'⟩ := HA.out.forms.2.1
      subst hz2'
      obtain ⟨k0, k1, k2, k3, -, -⟩ := HA.out.cells
      have HRB : Hid _ := HA.out.rb
      have rb0 : wr.cell? ⟨w.heap.size, 0, none⟩ = some (.slice none 0 0) := by have := HRB.out; simp [World.cell?, this]
      have rb1 : wr.cell? ⟨w.heap.size, 1, none⟩ = some (.int .i64 0) := by have := HRB.out; simp [World.cell?, this]
      have rb2 : wr.cell? ⟨w.heap.size, 2, none⟩ = some (.slice none 0 0) := by have := HRB.out; simp [World.cell?, this]
      have rb3 : wr.cell? ⟨w.heap.size, 3, none⟩ = some (.slice none 0 0) := by have := HRB.out; simp [World.cell?, this]
      have rf : ∀ j, wr.frozen? ⟨w.heap.size, j, none⟩ = false := fun j => by have := HRB.out; simp [World.frozen?, this]
      have rf0 := rf 0
      have rf1 := rf 1
      have rf2 := rf 2
      have rf3 := rf 3
      have rl := (Array.getElem?_eq_some_iff.1 HRB.out).1
      have hnl : w.heap.size ≠ lb := by have := HA.out.lo; omega
      clear rf
      go_wp2_with (fail)
      have hb5 := hset (k := 3) (hset (k := 2) (hset (k := 1) (hset (k := 0) HRB.out (.slice ao2 (y.flds.length + c.flds.length) cap2)) (.int .i64 (y.flds.length : Int))) (.slice z2 vr.length y2)) (.slice a3 (abvJ p k).length c3)
      refine bodyPost_ret (results_cell_row rfl _ _ w.heap.size 58 #[.slice ao2 (y.flds.length + c.flds.length) cap2, .int .i64 (y.flds.length : Int), .slice z2 vr.length y2, .slice a3 (abvJ p k).length c3] (0, 0) _ rfl hb5 Tryz.underlying58 rfl infoLy) rfl ?_
      have hGf : LyS w cb p S v s lb u5 (y.flds ++ c.flds) (y.flds.length : Int) vr (abvJ p k) (.slice ao2 (y.flds ++ c.flds).length cap2) (.slice z2 vr.length y2) (.slice a3 (abvJ p k).length c3) wr := by rw [List.length_append]; exact HA.out
      have hlx : y.flds.length + c.flds.length = (y.flds ++ c.flds).length := by simp
      rw [hlx]
      exact hGf.fin (W := (((((wr.setCell ⟨w.heap.size, 0, none⟩ (.slice ao2 (y.flds ++ c.flds).length cap2)).setCell ⟨w.heap.size, 1, none⟩ (.int .i64 (y.flds.length : Int))).setCell ⟨w.heap.size, 2, none⟩ (.slice z2 vr.length y2)).setCell ⟨w.heap.size, 3, none⟩ (.slice a3 (abvJ p k).length c3)))) (fun b hb => by rw [Below.heap_setCell _ _ _ _ hb, Below.heap_setCell _ _ _ _ hb, Below.heap_setCell _ _ _ _ hb, Below.heap_setCell _ _ _ _ hb]) (by simp [World.setCell]) rfl rfl rfl
end Go.Proofs.YtbbmgjcabmjjdaaGreatDoor
