/- Bounds of programs that Load is asked of: plain. -/
import Derived.Test.YtbbmgjcabmjjdaaGreatDoorMY32
import Derived.Test.YtbbmgjcabmjjdaaGreatDoorMY33
import Derived.Test.YtbbmgjcabmjjdaaGreatDoorMQVrt
import Derived.Test.YtbbmgjcabmjjdaaGreatDoorMY27
import Derived.Test.YtbbmgjcabmjjdaaGreatDoorMQApp
import Derived.Test.YtbbmgjcabmjjdaaGreatDoorMGJ8
namespace Go.Proofs.YtbbmgjcabmjjdaaGreatDoor
open Go.RowKit Go.Deep

/-- What virtual, what above is to answer. -/
def HVi (p : Pg) (c : Int) (es : List En) : Prop := ∀ (w : World) (S : Nat → Prop) (v vs : Value), Sl kCs w S v (trQ p) → Sl kEn w S vs es → (∀ k, S k → k < w.heap.size) → Calls Tryz.prog 107 #[v, .int .i64 c, vs] w fun e w' => ∃ v', e = .returned v' ∧ Below w.heap.size w w' ∧ Gro kEnU 79 w.heap.size w' v' (virQ es c (clQ p c).mds (clQ p c).mds.length)
def HAb (p : Pg) (c : Int) : Prop := ∀ (w : World) (S : Nat → Prop) (v : Value), Sl kCs w S v (trQ p) → (∀ k, S k → k < w.heap.size) → Calls Tryz.prog 108 #[v, .int .i64 c] w fun e w' => ∃ v', e = .returned v' ∧ Below w.heap.size w w' ∧ Sl kIU w' (fun k => w.heap.size ≤ k ∧ k < w'.heap.size) v' (abvJ p c)
/-- What layout answers. -/
def LayP (y : Ly) (w : World) (e : Ending) (w' : World) : Prop := ∃ a0 c0 a2 c2 a3 c3, e = .returned (.agg #[.slice a0 y.flds.length c0, .int .i64 y.off, .slice a2 y.vir.length c2, .slice a3 y.abv.length c3]) ∧ Below w.heap.size w w' ∧ kLyU.R w' (fun b => w.heap.size ≤ b ∧ b < w'.heap.size) y [.slice a0 y.flds.length c0, .int .i64 y.off, .slice a2 y.vir.length c2, .slice a3 y.abv.length c3]
theorem four_box {W : World} {b : Nat} {T : TypeId} {x0 x1 x2 x3 : Value} (e : W.heap[b]? = some (.cells #[x0, x1, x2, x3] T (0, 0))) : W.cell? ⟨b, 0, none⟩ = some x0 ∧ W.cell? ⟨b, 1, none⟩ = some x1 ∧ W.cell? ⟨b, 2, none⟩ = some x2 ∧ W.cell? ⟨b, 3, none⟩ = some x3 ∧ W.frozen? ⟨b, 0, none⟩ = false ∧ W.frozen? ⟨b, 1, none⟩ = false ∧ W.frozen? ⟨b, 2, none⟩ = false ∧ W.frozen? ⟨b, 3, none⟩ = false :=
  ⟨bxq_cell e rfl, bxq_cell e rfl, bxq_cell e rfl, bxq_cell e rfl, by simp [World.frozen?, e], by simp [World.frozen?, e], by simp [World.frozen?, e], by simp [World.frozen?, e]⟩
theorem Sl.form {α : Type} {K : Kd α} {w : World} {S : Nat → Prop} {v : Value} {xs : List α} (h : Sl K w S v xs) : ∃ ao cap, v = .slice ao xs.length cap := by
  obtain ⟨ao, cap, e, -⟩ := h
  exact ⟨ao, cap, e⟩
theorem infoLyy : (Tryz.prog.info? 58).map (·.size) = some 4 := by kernel_rfl
theorem lay_fin {w U x3 : World} {pf pv pa : Option Addr} {qf qv qa : Nat} {fl : List Fd} {vi : List En} {ab : List Int} {x0 x1 x2 x4 : Value} (hBU : Below w.heap.size w U) (hz : U.heap.size = w.heap.size + 2) (hF : Got U kFdU x3 (.slice pf fl.length qf) fl) (hV : Got U kEnU x3 (.slice pv vi.length qv) vi) (hA : Got U kIU x3 (.slice pa ab.length qa) ab) (hK : x3.heap[w.heap.size + 1]? = some (.cells #[x0, x1, x2, x4] 58 (0, 0))) (off : Int) : ∃ W, W = (((x3.setCell ⟨w.heap.size + 1, 0, none⟩ (.slice pf fl.length qf)).setCell ⟨w.heap.size + 1, 1, none⟩ (.int .i64 off)).setCell ⟨w.heap.size + 1, 2, none⟩ (.slice pv vi.length qv)).setCell ⟨w.heap.size + 1, 3, none⟩ (.slice pa ab.length qa) ∧ W.heap[w.heap.size + 1]? = some (.cells #[.slice pf fl.length qf, .int .i64 off, .slice pv vi.length qv, .slice pa ab.length qa] 58 (0, 0)) ∧ Below w.heap.size w W ∧ kLyU.R W (fun b => w.heap.size ≤ b ∧ b < W.heap.size) ⟨fl, off, vi, ab⟩ [.slice pf fl.length qf, .int .i64 off, .slice pv vi.length qv, .slice pa ab.length qa] := by
  obtain ⟨W, hW⟩ : ∃ W, W = (((x3.setCell ⟨w.heap.size + 1, 0, none⟩ (.slice pf fl.length qf)).setCell ⟨w.heap.size + 1, 1, none⟩ (.int .i64 off)).setCell ⟨w.heap.size + 1, 2, none⟩ (.slice pv vi.length qv)).setCell ⟨w.heap.size + 1, 3, none⟩ (.slice pa ab.length qa) := ⟨_, rfl⟩
  refine ⟨W, hW, ?_⟩
  have e : ∀ b, b ≠ w.heap.size + 1 → W.heap[b]? = x3.heap[b]? := fun b hb => by
    rw [hW, Below.heap_setCell _ _ _ _ hb, Below.heap_setCell _ _ _ _ hb, Below.heap_setCell _ _ _ _ hb, Below.heap_setCell _ _ _ _ hb]
  have z : W.heap.size = x3.heap.size := by rw [hW]; simp [World.setCell]
  have hb := hF.1
  have hbs := hb.size
  refine ⟨by rw [hW]; simp [World.setCell, Array.getElem?_modify, hK], (hBU.trans (hb.mono hBU.size)).trans ⟨by rw [hW]; rfl, by rw [hW]; rfl, by rw [hW]; rfl, by rw [z]; exact Nat.le_refl _, fun b q => e b (by omega)⟩, _, _, _, rfl, ?_, ?_, ?_⟩
  · exact (hF.2.keep fun b q => e b (by omega)).mono fun b q => ⟨by omega, by rw [z]; exact q.2⟩
  · exact (hV.2.keep fun b q => e b (by omega)).mono fun b q => ⟨by omega, by rw [z]; exact q.2⟩
  · exact (hA.2.keep fun b q => e b (by omega)).mono fun b q => ⟨by omega, by rw [z]; exact q.2⟩
set_option maxRecDepth 20000 in
set_option maxHeartbeats 8000000 in
theorem layout_ok {w : World} {S S2 : Nat → Prop} {v fv vv av : Value} {p : Pg} {c off : Int} {up : Ly} (hVi : HVi p c up.vir) (hAb : HAb p c) (hc : isJ p c = true) (h1 : Sl kCs w S v (trQ p)) (hS : ∀ k, S k → k < w.heap.size) (hF : Sl kFd w S2 fv up.flds) (hV : Sl kEn w S2 vv up.vir) (hS2 : ∀ k, S2 k → k < w.heap.size) (hl : up.flds.length + (clQ p c).flds.length ≤ 1048576) (hnm : ∀ f ∈ (clQ p c).flds, f.nm.size ≤ 281474976710656) : Calls Tryz.prog 78 #[v, .int .i64 c, .agg #[fv, .int .i64 off, vv, av]] w (LayP (qlay p c up) w) := by
  have hv := h1
  obtain ⟨ao, cap, rfl, -⟩ := hv
  obtain ⟨af, cf, rfl⟩ := hF.form
  obtain ⟨a2, c2, rfl⟩ := hV.form
  obtain ⟨U, hU⟩ : ∃ U, U = (w.alloc (.cells #[.slice af up.flds.length cf, .int .i64 off, .slice a2 up.vir.length c2, av] 58)).alloc (.cells #[.slice none 0 0, .int .i64 0, .slice none 0 0, .slice none 0 0] 58) := ⟨_, rfl⟩
  have hz1 : (w.alloc (.cells #[.slice af up.flds.length cf, .int .i64 off, .slice a2 up.vir.length c2, av] 58)).heap.size = w.heap.size + 1 := Array.size_push _
  have hzU : U.heap.size = w.heap.size + 2 := by rw [hU, World.size_alloc, hz1]
  have hbU : Below w.heap.size w U := by rw [hU]; exact ((Below.refl _ _).alloc (Nat.le_refl _) _).alloc (by omega) _
  have hn1 : U.heap[w.heap.size]? = some (.cells #[.slice af up.flds.length cf, .int .i64 off, .slice a2 up.vir.length c2, av] 58 (0, 0)) := by rw [hU]; exact (Below.heap_alloc _ _ _ (by omega)).trans (heap_alloc_new w _)
  have hn2 : U.heap[w.heap.size + 1]? = some (.cells #[.slice none 0 0, .int .i64 0, .slice none 0 0, .slice none 0 0] 58 (0, 0)) := by rw [hU, ← hz1]; exact heap_alloc_new _ _
  obtain ⟨i1, sb, so, f1, f2, f3, f4, g1, g2, g3, g4, e1, hi1, e2, hsb, ⟨-, t1, -, -, -, t5, -, -⟩, HSm⟩ := tq_get h1 hc
  have hFo := HSm.out.2.1
  subst e1 e2
  have HBU : Hid (Below w.heap.size w U) := hbU
  have HZU : Hid (U.heap.size = w.heap.size + 2) := hzU
  have hsbl := hS _ hsb
  have HQ : Hid (∀ w', Below U.heap.size U w' → w'.cell? ⟨w.heap.size, 0, none⟩ = some (.slice af up.flds.length cf) ∧ w'.cell? ⟨w.heap.size, 2, none⟩ = some (.slice a2 up.vir.length c2) ∧ w'.cell? ⟨sb, so + i1 * 8 + 5, none⟩ = some (.slice f2 (clQ p (i1 : Int)).flds.length g2)) := fun w' hb => by
    have e := (hb.block w.heap.size (by omega)).trans hn1
    exact ⟨bxq_cell e rfl, bxq_cell e rfl, cell_keep (cell_keep t5 (hbU.mono (Nat.le_refl _))) hb⟩
  have HK : Hid (∀ w', Below U.heap.size U w' → w'.heap[w.heap.size + 1]? = some (.cells #[.slice none 0 0, .int .i64 0, .slice none 0 0, .slice none 0 0] 58 (0, 0))) := fun w' hb => (hb.block _ (by omega)).trans hn2
  have HQF : Hid (∀ w', Below U.heap.size U w' → Calls Tryz.prog 106 #[.slice af up.flds.length cf, .slice f2 (clQ p (i1 : Int)).flds.length g2] w' (FldP w' (up.flds ++ (clQ p (i1 : Int)).flds))) := fun w' hb => by
    have hb2 := hbU.trans (hb.mono hbU.size)
    refine fieldsOf_ok (S := fun k => S k ∨ S2 k) ((hF.keep fun b q => hb2.block b (hS2 b q)).mono fun b q => .inr q) ((hFo.keep fun b q => hb2.block b (hS b q)).mono fun b q => .inl q) (fun k q => ?_) hl hnm
    have := hb2.size
    rcases q with q | q
    · have := hS k q; omega
    · have := hS2 k q; omega
  have HQV : Hid (∀ w', Below U.heap.size U w' → Calls Tryz.prog 107 #[.slice (some ⟨sb, so, none⟩) (trQ p).length cap, .int .i64 (i1 : Int), .slice a2 up.vir.length c2] w' fun e w'' => ∃ v', e = .returned v' ∧ Below w'.heap.size w' w'' ∧ Gro kEnU 79 w'.heap.size w'' v' (virQ up.vir (i1 : Int) (clQ p (i1 : Int)).mds (clQ p (i1 : Int)).mds.length)) := fun w' hb => by
    have hb2 := hbU.trans (hb.mono hbU.size)
    refine hVi w' (fun k => S k ∨ S2 k) _ _ ((h1.keep fun b q => hb2.block b (hS b q)).mono fun b q => .inl q) ((hV.keep fun b q => hb2.block b (hS2 b q)).mono fun b q => .inr q) (fun k q => ?_)
    have := hb2.size
    rcases q with q | q
    · have := hS k q; omega
    · have := hS2 k q; omega
  have HQA : Hid (∀ w', Below U.heap.size U w' → Calls Tryz.prog 108 #[.slice (some ⟨sb, so, none⟩) (trQ p).length cap, .int .i64 (i1 : Int)] w' fun e w'' => ∃ v', e = .returned v' ∧ Below w'.heap.size w' w'' ∧ Sl kIU w'' (fun k => w'.heap.size ≤ k ∧ k < w''.heap.size) v' (abvJ p (i1 : Int))) := fun w' hb => by
    have hb2 := hbU.trans (hb.mono hbU.size)
    exact hAb w' S _ (h1.keep fun b q => hb2.block b (hS b q)) (fun k q => Nat.lt_of_lt_of_le (hS k q) hb2.size)
  have T1 : U.cell? ⟨sb, so + i1 * 8 + 1, none⟩ = some (.bool (clQ p (i1 : Int)).face) := cell_keep t1 hbU
  have x0 : U.cell? ⟨w.heap.size, 0, none⟩ = some (.slice af up.flds.length cf) := (HQ.out U (Below.refl _ _)).1
  have hlt : (i1 : Int) < ((trQ p).length : Int) := by omega
  have ns1 : ¬ sb = w.heap.size + 1 := by omega
  have ns2 : ¬ w.heap.size + 1 = sb := by omega
  have BD : Hid (Below U.heap.size U U.drew) := (Below.refl _ _).drew
  have u0 : U.drew.cell? ⟨w.heap.size, 0, none⟩ = some (.slice af up.flds.length cf) := (HQ.out _ BD.out).1
  have u2 : U.drew.cell? ⟨w.heap.size, 2, none⟩ = some (.slice a2 up.vir.length c2) := (HQ.out _ BD.out).2.1
  have u5 : U.drew.cell? ⟨sb, so + i1 * 8 + 5, none⟩ = some (.slice f2 (clQ p (i1 : Int)).flds.length g2) := (HQ.out _ BD.out).2.2
  clear hVi hAb hc h1 hS hF hV hS2 hl hnm hFo HSm t1 t5 hsb hsbl hn1 hn2 hbU hzU hz1 hi1
  unfold qlay
  generalize (trQ p).length = N at *
  rcases hf : (clQ p (i1 : Int)).face with _ | _
  all_goals rw [hf] at T1
  all_goals clear hf
  all_goals go_enter Tryz.func78, Tryz.ntmps78
  all_goals go_upto_region 2 with fail
  all_goals rw [← hU]
  all_goals clear hU
  all_goals go_upto_region 4 with fail
  all_goals clear T1 x0
  all_goals go_region_held3 (fun w' => w'.cell? ⟨w.heap.size, 0, none⟩ = some (.slice af up.flds.length cf) ∧ w'.cell? ⟨w.heap.size, 2, none⟩ = some (.slice a2 up.vir.length c2) ∧ w'.cell? ⟨sb, so + i1 * 8 + 5, none⟩ = some (.slice f2 (clQ p (i1 : Int)).flds.length g2)) (go_keep) ((first
    | (go_at_call 106; refine (HQF.out _ (by with_reducible exact BD.out)).mono ?_; rintro e x1 ⟨vf, rfl, hb, hs⟩; have HF : Hid (Got U kFdU x1 vf (up.flds ++ (clQ p (i1 : Int)).flds)) := Got.mk_ BD.out hb hs; obtain ⟨pf, qf, rfl⟩ := hs.form; (try replace HV : Hid (Got U kEnU x1 _ _) := HV.out.keep hb); (try replace HA : Hid (Got U kIU x1 _ _) := HA.out.keep hb); replace BD : Hid (Below U.heap.size U x1) := HF.out.1; obtain ⟨k0, k2, k5⟩ := HQ.out x1 BD.out; obtain ⟨b0, b1, b2, b3, f0, f1, f2, f3⟩ := four_box (HK.out x1 BD.out); clear hb hs)
    | (go_at_call 107; refine (HQV.out _ (by with_reducible exact BD.out)).mono ?_; rintro e x2 ⟨v2, rfl, hb, hs⟩; have HV : Hid (Got U kEnU x2 v2 (virQ up.vir (i1 : Int) (clQ p (i1 : Int)).mds (clQ p (i1 : Int)).mds.length)) := Got.mk_ BD.out hb hs.sl; obtain ⟨pv, qv, rfl⟩ := hs.slice; (try replace HF : Hid (Got U kFdU x2 _ _) := HF.out.keep hb); (try replace HA : Hid (Got U kIU x2 _ _) := HA.out.keep hb); replace BD : Hid (Below U.heap.size U x2) := HV.out.1; obtain ⟨k0, k2, k5⟩ := HQ.out x2 BD.out; obtain ⟨b0, b1, b2, b3, f0, f1, f2, f3⟩ := four_box (HK.out x2 BD.out); clear hb hs)
    | (go_at_call 108; refine (HQA.out _ (by with_reducible exact BD.out)).mono ?_; rintro e x3 ⟨va, rfl, hb, hs⟩; have HA : Hid (Got U kIU x3 va (abvJ p (i1 : Int))) := Got.mk_ BD.out hb hs; obtain ⟨pa, qa, rfl⟩ := hs.form; (try replace HV : Hid (Got U kEnU x3 _ _) := HV.out.keep hb); (try replace HF : Hid (Got U kFdU x3 _ _) := HF.out.keep hb); replace BD : Hid (Below U.heap.size U x3) := HA.out.1; obtain ⟨k0, k2, k5⟩ := HQ.out x3 BD.out; obtain ⟨b0, b1, b2, b3, f0, f1, f2, f3⟩ := four_box (HK.out x3 BD.out); clear hb hs)))
  · obtain ⟨W, hW, q1, q2, q3⟩ := lay_fin HBU.out HZU.out HF.out HV.out HA.out (HK.out x3 BD.out) ((up.flds.length : Int))
    have HR : Hid (LayP ⟨up.flds ++ (clQ p (i1 : Int)).flds, (up.flds.length : Int), virQ up.vir (i1 : Int) (clQ p (i1 : Int)).mds (clQ p (i1 : Int)).mds.length, abvJ p (i1 : Int)⟩ w (.returned (.agg #[.slice pf (up.flds ++ (clQ p (i1 : Int)).flds).length qf, .int .i64 ((up.flds.length : Int)), .slice pv (virQ up.vir (i1 : Int) (clQ p (i1 : Int)).mds (clQ p (i1 : Int)).mds.length).length qv, .slice pa (abvJ p (i1 : Int)).length qa])) W) := ⟨pf, qf, pv, qv, pa, qa, rfl, q2, q3⟩
    simp only [List.length_append] at hW
    rw [← hW]
    clear hW q2 q3
    go_wp2
    refine bodyPost_ret (results_cell_row rfl _ _ (w.heap.size + 1) 58 _ (0, 0) _ rfl q1 Tryz.underlying58 rfl infoLyy) rfl ?_
    exact HR.out
  · obtain ⟨W, hW, q1, q2, q3⟩ := lay_fin HBU.out HZU.out HF.out HV.out HA.out (HK.out x3 BD.out) (-1)
    have HR : Hid (LayP ⟨up.flds ++ (clQ p (i1 : Int)).flds, -1, virQ up.vir (i1 : Int) (clQ p (i1 : Int)).mds (clQ p (i1 : Int)).mds.length, abvJ p (i1 : Int)⟩ w (.returned (.agg #[.slice pf (up.flds ++ (clQ p (i1 : Int)).flds).length qf, .int .i64 (-1), .slice pv (virQ up.vir (i1 : Int) (clQ p (i1 : Int)).mds (clQ p (i1 : Int)).mds.length).length qv, .slice pa (abvJ p (i1 : Int)).length qa])) W) := ⟨pf, qf, pv, qv, pa, qa, rfl, q2, q3⟩
    simp only [List.length_append] at hW
    rw [← hW]
    clear hW q2 q3
    go_wp2
    refine bodyPost_ret (results_cell_row rfl _ _ (w.heap.size + 1) 58 _ (0, 0) _ rfl q1 Tryz.underlying58 rfl infoLyy) rfl ?_
    exact HR.out
end Go.Proofs.YtbbmgjcabmjjdaaGreatDoor
namespace Go.Proofs.YtbbmgjcabmjjdaaGreatDoor
open Go.RowKit

/-- A block of cells. -/
def Ck (W : World) (b : Nat) : Prop := ∃ o : Obj, W.heap[b]? = some o ∧ o.isCells = true
theorem ck_cell {W : World} {b j : Nat} {u : Value} (h : W.cell? ⟨b, j, none⟩ = some u) : Ck W b := by
  unfold World.cell? at h
  simp only at h
  split at h
  · rename_i o hc
    exact ⟨_, hc, rfl⟩
  · cases h
theorem Ck.lt {W : World} {b : Nat} (h : Ck W b) : b < W.heap.size := by
  obtain ⟨o, h, -⟩ := h
  exact (Array.getElem?_eq_some_iff.1 h).1
theorem Ck.same {W W' : World} {b : Nat} (h : Ck W b) (e : W'.heap[b]? = W.heap[b]?) : Ck W' b := by
  obtain ⟨o, h, h2⟩ := h
  exact ⟨o, e.trans h, h2⟩
theorem sl_ck {α : Type} {K : Kd α} {w : World} {S : Nat → Prop} {v : Value} {xs : List α} (hK : ∀ x cs, K.R w S x cs → K.R w (fun b => S b ∧ Ck w b) x cs) (h : Sl K w S v xs) : Sl K w (fun b => S b ∧ Ck w b) v xs := by
  obtain ⟨ao, cap, hv, hn, h⟩ := h
  refine ⟨ao, cap, hv, hn, ?_⟩
  rcases h with h | ⟨b, o, h1, h2, h3, h4⟩
  · exact .inl h
  · cases xs with
    | nil => exact .inl rfl
    | cons x xs =>
      refine .inr ⟨b, o, h1, ⟨h2, ?_⟩, h3, fun i y hy => ?_⟩
      · obtain ⟨cs, r1, r2⟩ := h4 0 x rfl
        have hl := K.len r1
        have hp := K.pos
        exact ck_cell (r2 0 (cs[0]'(by omega)) (List.getElem?_eq_getElem (by omega)))
      · obtain ⟨cs, r1, r2⟩ := h4 i y hy
        exact ⟨cs, hK y cs r1, r2⟩
theorem lyR_ck {w : World} {S : Nat → Prop} {x : Ly} {cs : List Value} (h : kLyU.R w S x cs) : kLyU.R w (fun b => S b ∧ Ck w b) x cs := by
  obtain ⟨v1, v2, v3, rfl, h1, h2, h3⟩ := h
  exact ⟨v1, v2, v3, rfl, sl_ck (fun _ _ h => h) h1, sl_ck (fun _ _ ⟨v, e, q⟩ => ⟨v, e, sl_ck (fun _ _ h => h) q⟩) h2, sl_ck (fun _ _ h => h) h3⟩
/-- The row of layouts at block g: what it reaches are blocks of cells from lo on. -/
def Lb (W : World) (lo g : Nat) (b : Nat) : Prop := (lo ≤ b ∧ b ≠ g) ∧ Ck W b
structure LsR (W : World) (lo g N : Nat) (xs : List Ly) : Prop where
  len : xs.length = N
  css : ∃ CS : List (List Value), CS.length = N ∧ (∀ (i : Nat) (x : Ly), xs[i]? = some x → ∃ cs, CS[i]? = some cs ∧ kLyU.R W (Lb W lo g) x cs) ∧ W.ownsRow lo 58 4 (.slice (some ⟨g, 0, none⟩) N N) N CS.flatten
section
variable {W W' : World} {lo g N : Nat} {xs : List Ly}
theorem LsR.blk (h : LsR W lo g N xs) : ∃ cur, W.heap[g]? = some (.cells cur 58 (0, 0)) ∧ lo ≤ g ∧ cur.size = N * 4 := by
  obtain ⟨CS, h1, h2, h3⟩ := h.css
  rcases h3.2 with ⟨e, -⟩ | ⟨g', cap', cur, e, r1, r2, r3, r4, r5, r6⟩
  · cases e
  · injection e with e1 e2 e3
    injection e1 with e1
    injection e1 with e1
    subst e1 e3
    exact ⟨cur, r2, r1, r5⟩
/-- Nothing turns but what is no cells. -/
theorem LsR.turn (h : LsR W lo g N xs) (ht : ∀ b, Ck W b → lo ≤ b → W'.heap[b]? = W.heap[b]?) : LsR W' lo g N xs := by
  obtain ⟨cur, hb, hlo, -⟩ := h.blk
  obtain ⟨CS, h1, h2, h3⟩ := h.css
  have hg := ht g ⟨_, hb, rfl⟩ hlo
  refine ⟨h.len, CS, h1, fun i x hx => ?_, h3.1, ?_⟩
  · obtain ⟨cs, e1, e2⟩ := h2 i x hx
    exact ⟨cs, e1, (kLyU.keep (fun b q => ht b q.2 q.1.1) e2 |> kLyU.mono fun b q => ⟨q.1, q.2.same (ht b q.2 q.1.1)⟩)⟩
  · rcases h3.2 with q | ⟨g', cap', cur, e, r1, r2, r3⟩
    · exact .inl q
    · refine .inr ⟨g', cap', cur, e, r1, ?_, r3⟩
      injection e with e1 e2 e3
      injection e1 with e1
      injection e1 with e1
      subst e1
      exact hg.trans r2
/-- One place is written. -/
theorem LsR.set (h : LsR W lo g N xs) {i : Nat} (hi : i < N) {y : Ly} {cs : List Value} (hR : kLyU.R W (fun b => lo ≤ b ∧ b ≠ g) y cs) : LsR (W.setCells g (i * 4) cs) lo g N (xs.set i y) := by
  obtain ⟨CS, h1, h2, h3⟩ := h.css
  have hr : cs.length = 4 := kLyU.len hR
  have hl : ∀ z ∈ CS, z.length = 4 := fun z hz => by
    obtain ⟨j, hj, rfl⟩ := List.getElem_of_mem hz
    obtain ⟨c, e1, e2⟩ := h2 j (xs[j]'(by rw [h.len]; omega)) (List.getElem?_eq_getElem _)
    rw [List.getElem?_eq_getElem hj] at e1
    cases e1
    exact kLyU.len e2
  have hl' : ∀ z ∈ CS.set i cs, z.length = 4 := fun z hz => by
    rcases List.mem_or_eq_of_mem_set hz with q | q
    · exact hl z q
    · rw [q]; exact hr
  have hne : ∀ b, b ≠ g → (W.setCells g (i * 4) cs).heap[b]? = W.heap[b]? := fun b hb => setCellsJ_else hb _ _ _
  refine ⟨by rw [List.length_set]; exact h.len, CS.set i cs, by simp [h1], fun j x hx => ?_, ?_⟩
  · by_cases e : i = j
    · subst e
      rw [List.getElem?_set_self (by rw [h.len]; exact hi)] at hx
      obtain rfl := Option.some.inj hx
      exact ⟨cs, by rw [List.getElem?_set_self (by omega)], (kLyU.keep (fun b q => hne b q.1.2) (lyR_ck hR)) |> kLyU.mono fun b q => ⟨q.1, q.2.same (hne b q.1.2)⟩⟩
    · rw [List.getElem?_set_ne e] at hx
      obtain ⟨c, e1, e2⟩ := h2 j x hx
      exact ⟨c, by rw [List.getElem?_set_ne e]; exact e1, (kLyU.keep (fun b q => hne b q.1.2) e2) |> kLyU.mono fun b q => ⟨q.1, q.2.same (hne b q.1.2)⟩⟩
  · have hlf : CS.flatten.length = N * 4 := by rw [flat_len _ hl, h1]
    refine ⟨by rw [flat_len _ hl', List.length_set, h1], ?_⟩
    rcases h3.2 with ⟨e, -⟩ | ⟨g', cap', cur, e, r1, r2, r3, r4, r5, r6⟩
    · cases e
    · injection e with e1 e2 e3
      injection e1 with e1
      injection e1 with e1
      subst e1 e3
      obtain ⟨c', q1, q2, q3⟩ := setCellsJ_block cs (i * 4) W cur r2 (by rw [r5, hr]; omega)
      refine .inr ⟨g, N, c', rfl, r1, q1, r3, r4, q2.trans r5, ?_⟩
      apply List.ext_getElem?
      intro j
      by_cases hj : j < N * 4
      · have hd : j / 4 < CS.length := by omega
        have ej : j = (j / 4) * 4 + j % 4 := by omega
        have hm : j % 4 < 4 := by omega
        rw [List.getElem?_take, if_pos hj, Array.getElem?_toList, q3 j, hr]
        generalize hD : j / 4 = d at *
        generalize hM : j % 4 = t at *
        rw [ej]
        by_cases e : d = i
        · subst e
          rw [flat_at _ hl' d cs (by rw [List.getElem?_set_self hd]) t hm, if_pos (by omega), show d * 4 + t - d * 4 = t by omega]
        · obtain ⟨z, hz⟩ : ∃ z, CS[d]? = some z := ⟨_, List.getElem?_eq_getElem hd⟩
          rw [if_neg (by omega), flat_at _ hl' d z (by rw [List.getElem?_set_ne (fun q => e q.symm)]; exact hz) t hm, ← flat_at CS hl d z hz t hm, ← r6, List.getElem?_take, if_pos (by omega), Array.getElem?_toList]
      · rw [List.getElem?_eq_none (by rw [List.length_take]; omega), List.getElem?_eq_none (by rw [flat_len _ hl', List.length_set, h1]; omega)]
/-- A layout in the row. -/
theorem LsR.at_ (h : LsR W lo g N xs) {i : Nat} {x : Ly} (hx : xs[i]? = some x) : (∀ j, W.frozen? ⟨g, j, none⟩ = false) ∧ ∃ v1 v2 v3, W.cell? ⟨g, i * 4, none⟩ = some v1 ∧ W.cell? ⟨g, i * 4 + 1, none⟩ = some (.int .i64 x.off) ∧ W.cell? ⟨g, i * 4 + 2, none⟩ = some v2 ∧ W.cell? ⟨g, i * 4 + 3, none⟩ = some v3 ∧ Sl kFdU W (Lb W lo g) v1 x.flds ∧ Sl kEnU W (Lb W lo g) v2 x.vir ∧ Sl kIU W (Lb W lo g) v3 x.abv := by
  obtain ⟨CS, h1, h2, h3⟩ := h.css
  obtain ⟨cs, e1, v1, v2, v3, rfl, s1, s2, s3⟩ := h2 i x hx
  have hi := (List.getElem?_eq_some_iff.1 e1).1
  have hl : ∀ z ∈ CS, z.length = 4 := fun z hz => by
    obtain ⟨j, hj, rfl⟩ := List.getElem_of_mem hz
    obtain ⟨c, e1, e2⟩ := h2 j (xs[j]'(by rw [h.len]; omega)) (List.getElem?_eq_getElem _)
    rw [List.getElem?_eq_getElem hj] at e1
    cases e1
    exact kLyU.len e2
  rcases h3.2 with ⟨e, -⟩ | ⟨g', cap', cur, e, r1, r2, r3, r4, r5, r6⟩
  · cases e
  · injection e with f1 f2 f3
    injection f1 with f1
    injection f1 with f1
    subst f1 f3
    have hc : ∀ j u, j < 4 → [v1, Value.int .i64 x.off, v2, v3][j]? = some u → W.cell? ⟨g, i * 4 + j, none⟩ = some u := fun j u hj hu => by
      have := flat_at CS hl i _ e1 j hj
      rw [hu, ← r6, List.getElem?_take] at this
      split at this
      · exact bxq_cell r2 (by rw [← Array.getElem?_toList]; exact this)
      · cases this
    exact ⟨fun j => by simp [World.frozen?, r2], v1, v2, v3, hc 0 _ (by omega) rfl, hc 1 _ (by omega) rfl, hc 2 _ (by omega) rfl, hc 3 _ (by omega) rfl, s1, s2, s3⟩
theorem LsR.sl (h : LsR W lo g N xs) (hn : N ≤ maxLen) : Sl kLyU W (fun b => lo ≤ b ∧ b < W.heap.size) (.slice (some ⟨g, 0, none⟩) N N) xs := by
  obtain ⟨cur, hb, hlo, -⟩ := h.blk
  have hgl := (Array.getElem?_eq_some_iff.1 hb).1
  rw [← h.len] at hn ⊢
  refine ⟨_, _, rfl, hn, .inr ⟨g, 0, rfl, ⟨hlo, hgl⟩, ⟨hgl, fun _ j => by simp [World.frozen?, hb]⟩, fun i x hx => ?_⟩⟩
  obtain ⟨-, v1, v2, v3, c0, c1, c2, c3, s1, s2, s3⟩ := h.at_ hx
  refine ⟨_, ⟨v1, v2, v3, rfl, s1.mono fun b q => ⟨q.1.1, q.2.lt⟩, s2.mono fun b q => ⟨q.1.1, q.2.lt⟩, s3.mono fun b q => ⟨q.1.1, q.2.lt⟩⟩, fun j u hj => ?_⟩
  rw [show kLyU.k = 4 from rfl, Nat.zero_add]
  match j, hj with
  | 0, hj => injection hj with hj; rw [← hj]; exact c0
  | 1, hj => injection hj with hj; rw [← hj]; exact c1
  | 2, hj => injection hj with hj; rw [← hj]; exact c2
  | 3, hj => injection hj with hj; rw [← hj]; exact c3
end
end Go.Proofs.YtbbmgjcabmjjdaaGreatDoor
namespace Go.Proofs.YtbbmgjcabmjjdaaGreatDoor
open Go.RowKit Go.Shelf
attribute [local go_sem] Oper.semAt_some

theorem backI_ok (ao : Option Addr) (n cap : Nat) (w : World) :
    Calls Tryz.prog 76 #[.slice ao n cap] w fun e w' => e = .returned (.func (.func 104) #[] #[.pointer (some ⟨w.heap.size, 0, none⟩)]) ∧ w' = w.alloc (.cells #[.slice ao n cap] 26) := by
  go_enter Tryz.func76, Tryz.ntmps76
  go_wp2
  go_ret
  exact ⟨rfl, rfl⟩
/-- The places and what stands there, from the last one on. -/
def BkM (U : List Int) (i : Nat) (x : Nat × Int) : Prop := x.1 + (i + 1) = U.length ∧ U[x.1]? = some x.2
set_option maxRecDepth 100000 in
set_option maxHeartbeats 4000000 in
theorem back_gives {U : List Int} {g cap b1 : Nat} (hN : U.length ≤ 1073741824)
    (I : Nat → World → Prop) (hI : ∀ i W, I i W → W.cell? ⟨b1, 0, none⟩ = some (.slice (some ⟨g, 0, none⟩) U.length cap) ∧ ∀ (i : Nat) x, U[i]? = some x → W.cell? ⟨g, i, none⟩ = some (.int .i64 x)) (n : Nat) (hn : 1 ≤ n) : JointQ Fence.wide n Tryz.prog 104 #[.pointer (some ⟨b1, 0, none⟩)] (fun x : Nat × Int => #[Value.int .i64 x.1, .int .i64 x.2]) I (fun i x W => BkM U i x ∧ I i W) (fun i _ => i + 1) (fun i => i = U.length) 0 := by
  intro l Bk St W hBk hY h0 hb0
  have c1 := (hI 0 W h0).1
  have HY : Hid _ := hY
  have HI : Hid _ := hI
  have H0 : Hid (I 0 W ∧ Bk W) := ⟨h0, hb0⟩
  have HL : Hid (∀ i, i < U.length → ∃ x, U[i]? = some x) := fun i hi => ⟨U[i], List.getElem?_eq_getElem hi⟩
  have HM : Hid (∀ i j x, j + (i + 1) = U.length → U[j]? = some x → BkM U i (j, x)) := fun i j x h1 h2 => ⟨h1, h2⟩
  clear hY hI h0 hb0
  generalize U.length = N at *
  refine callsIn_of_wp Tryz.func104 rfl trivial ?_ rfl
  simp only [Tryz.ntmps104, List.size_toArray, List.length_cons, List.length_nil, Nat.reduceAdd, Nat.reduceSub, Array.replicate_succ, Array.replicate_zero, List.push_toArray, List.append_toArray, List.nil_append, List.cons_append]
  gi_wp2
  clear c1
  gi_loopg [3] N (fun k s3 wr => ∃ i : Nat, s3 = .int .i64 ((N : Int) - 1 - i) ∧ i ≤ N ∧ N - i = k ∧ Hid (I i wr ∧ Bk wr))
  case atStart => exact ⟨0, by go_num, by omega, rfl, H0⟩
  case round =>
    clear H0
    obtain ⟨i, rfl, hi, hk, h⟩ := hrel
    by_cases hlt : i < N
    · obtain ⟨j, hj⟩ : ∃ j : Nat, (j : Int) = (N : Int) - 1 - i := ⟨N - 1 - i, by omega⟩
      rw [← hj]
      have hj0 : (0 : Int) ≤ (j : Int) := by omega
      have hjN : (j : Int) < (N : Int) := by omega
      obtain ⟨x, hx⟩ := HL.out j (by omega)
      have c1 := (HI.out i wr h.out.1).1
      have c2 := (HI.out i wr h.out.1).2 j x hx
      obtain ⟨fn, tmps, assign, body, hy, hRd⟩ := HY.out i (j, x) wr ⟨HM.out i j x (by omega) hx, h.out.1⟩ h.out.2
      change (Instr.yield l #[.int .i64 j, .int .i64 x]).run Tryz.prog _ = _ at hy
      have HJ : Hid ((j : Int) = (N : Int) - 1 - i) := hj
      clear hx HL h hj
      gi_wp2
      refine hRd.mono ?_
      rintro e W3 (⟨rfl, hi3, hk3⟩ | ⟨rfl, hst⟩)
      · clear hy hRd c1 c2
        have H3 : Hid (I (i + 1) W3 ∧ Bk W3) := ⟨hi3, hk3⟩
        clear hi3 hk3
        gi_wp2
        gi_roundg (N - (i + 1))
        case rel => exact ⟨i + 1, by have := HJ.out; go_num, by omega, rfl, H3⟩
        case measure => omega
      · clear hy hRd c1 c2
        gi_wp2
        refine bodyPost_ret (results_none rfl _ _ _) rfl ?_
        exact ⟨⟨_, rfl⟩, .inr hst⟩
    · obtain rfl : i = N := by omega
      have hlt' : ¬ (0 : Int) ≤ (i : Int) - 1 - i := by omega
      gi_wp2
      go_end0
      exact ⟨⟨_, rfl⟩, .inl (by first | exact ⟨i, rfl, h.out⟩ | exact h.out)⟩
end Go.Proofs.YtbbmgjcabmjjdaaGreatDoor
namespace Go.Proofs.YtbbmgjcabmjjdaaGreatDoor
open Go.RowKit

structure Okl (p : Pg) : Prop where
  okz : Okz p
  nmf : ∀ c ∈ p.cls, ∀ f ∈ c.flds, f.nm.size ≤ 281474976710656
  nmm : ∀ c ∈ p.cls, ∀ m ∈ c.mds, m.nm.size ≤ 281474976710656
  nfc : ∀ c ∈ p.cls, c.faces.length ≤ 262144
theorem cl_or {p : Pg} {k : Int} (hk : isJ p k = true) : clQ p k ∈ p.cls ∨ ∃ i : Nat, clQ p k = bltC i := by
  unfold clQ
  by_cases h : k < 11
  · rw [if_pos h]; exact .inr ⟨_, rfl⟩
  · rw [if_neg h]
    simp [isJ] at hk
    unfold ofJ
    rw [List.getD_eq_getElem?_getD, List.getElem?_eq_getElem (show (k - 11).toNat < p.cls.length by omega)]
    exact .inl (List.getElem_mem _)
theorem blt_mds {i : Nat} {m : Md} (h : m ∈ (bltC i).mds) : m = runM := by
  unfold bltC at h
  simp only at h
  split at h
  · simpa using h
  · simp at h
structure OkK (c : Cs) : Prop where
  nflds : c.flds.length ≤ 1000
  nmds : c.mds.length ≤ 1000
  nmf : ∀ f ∈ c.flds, f.nm.size ≤ 281474976710656
  nmm : ∀ m ∈ c.mds, m.nm.size ≤ 281474976710656
  nfc : c.faces.length ≤ 262144
  args : ∀ m ∈ c.mds, m.args.length ≤ 1048576
theorem Okl.cl {p : Pg} (h : Okl p) {k : Int} (hk : isJ p k = true) : OkK (clQ p k) := by
  rcases cl_or hk with q | ⟨i, q⟩
  · have o := h.okz.cls _ q
    exact ⟨o.nflds, o.nmds, h.nmf _ q, h.nmm _ q, h.nfc _ q, fun m hm => (o.mds m hm).nargs⟩
  · rw [q]
    refine ⟨Nat.zero_le _, ?_, fun f hf => by simp [bltC] at hf, fun m hm => by rw [blt_mds hm]; decide, Nat.zero_le _, fun m hm => by rw [blt_mds hm]; decide⟩
    unfold bltC
    simp only
    split <;> simp
theorem put_all {P : En → Prop} {vir : List En} {e : En} (hv : ∀ x ∈ vir, P x) (he : P e) : ∀ x ∈ putJ vir e, P x := by
  intro x hx
  unfold putJ at hx
  split at hx
  · rcases List.mem_or_eq_of_mem_set hx with q | q
    · exact hv x q
    · rw [q]; exact he
  · rcases List.mem_append.1 hx with q | q
    · exact hv x q
    · rw [List.mem_singleton.1 q]; exact he
theorem vir_all {P : En → Prop} {vir : List En} {k : Int} {ms : List Md} (hv : ∀ x ∈ vir, P x) (hm : ∀ m ∈ ms, ∀ i, P (ownJ m k i)) : ∀ i, ∀ x ∈ virJ vir k ms i, P x
  | 0 => hv
  | i + 1 => by
    have ih := vir_all hv hm i
    unfold virJ
    rcases h : ms[i]? with _ | m
    · exact ih
    · simp only []
      split
      · exact ih
      · exact put_all ih (hm m (List.mem_of_getElem? h) i)
theorem of_args {p : Pg} (h : Okl p) (k : Int) {m : Md} (hm : m ∈ (ofJ p k).mds) : m.args.length ≤ 1048576 := by
  unfold ofJ at hm
  rw [List.getD_eq_getElem?_getD] at hm
  rcases he : p.cls[(k - 11).toNat]? with _ | c
  · rw [he] at hm; simp [cs0] at hm
  · rw [he] at hm
    exact ((h.okz.cls c (List.mem_of_getElem? he)).mds m hm).nargs
theorem lay_args {p : Pg} (h : Okl p) : ∀ (f : Nat) (k : Int), ∀ e ∈ (layJ p f k).vir, e.args.length ≤ 1048576
  | 0, _ => fun e he => by simp [layJ, ly0] at he
  | f + 1, k => by
    have ih := lay_args h f (supJ p k)
    rw [layJ]
    split
    · intro e he
      obtain ⟨i, hi, rfl⟩ := List.mem_mapIdx.1 he
      exact of_args h k (List.getElem_mem hi)
    · have hup : ∀ e ∈ (if 0 ≤ supJ p k then layJ p f (supJ p k) else ly0).vir, e.args.length ≤ 1048576 := by
        split
        · exact ih
        · intro e he; simp [ly0] at he
      simp only
      generalize (if 0 ≤ supJ p k then layJ p f (supJ p k) else ly0) = up at hup ⊢
      have hv : ∀ e ∈ (if k = 9 then up.vir ++ [runE] else up.vir), e.args.length ≤ 1048576 := by
        split
        · intro e he
          rcases List.mem_append.1 he with q | q
          · exact hup e q
          · rw [List.mem_singleton.1 q]; decide
        · exact hup
      generalize (if k = 9 then up.vir ++ [runE] else up.vir) = vir at hv ⊢
      split
      · exact vir_all (P := fun e => e.args.length ≤ 1048576) hv (fun m hm i => of_args h k hm) _
      · exact hv
/-- The super's layout, as layout is handed it. -/
def upL (p : Pg) (k : Int) : Ly := if k = 0 then ly0 else lyJ p (nxQ p k)
theorem upL_ok {p : Pg} (h : Okl p) {k : Int} (hk : isJ p k = true) : (upL p k).flds.length + (clQ p k).flds.length ≤ 1048576 ∧ (upL p k).vir.length + (clQ p k).mds.length ≤ 1048576 ∧ ∀ e ∈ (upL p k).vir, e.args.length ≤ 1048576 := by
  have o := h.cl hk
  have h1 := o.nflds
  have h2 := o.nmds
  have hn := h.okz.n
  unfold upL
  split
  · exact ⟨by simp [ly0]; omega, by simp [ly0]; omega, fun e he => by simp [ly0] at he⟩
  · obtain ⟨a, b⟩ := lay_len h.okz (nJ p + 1) (nxQ p k)
    have e : nJ p + 1 ≤ 1012 := by unfold nJ; omega
    have q1 : (nJ p + 1) * 1001 ≤ 1012 * 1001 := Nat.mul_le_mul_right _ e
    have q2 : (nJ p + 1) * 1000 ≤ 1012 * 1000 := Nat.mul_le_mul_right _ e
    exact ⟨by unfold lyJ; omega, by unfold lyJ; omega, lay_args h _ _⟩
end Go.Proofs.YtbbmgjcabmjjdaaGreatDoor
