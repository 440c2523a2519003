/- The program's own Load: layout, once virtual and above have their contracts. -/
import Derived.Test.YtbdfpodglfpjnaaGreatMY30
import Derived.Test.YtbdfpodglfpjnaaGreatMY31
import Derived.Test.YtbdfpodglfpjnaaGreatMQVrt
import Derived.Test.YtbdfpodglfpjnaaGreatMY25
namespace Go.Proofs.YtbdfpodglfpjnaaGreat
open Go.RowKit Go.Deep

/-- What virtual, what above is to answer. -/
def HVi (p : Pg) (c : Int) (es : List En) : Prop := ∀ (w : World) (S : Nat → Prop) (v vs : Value), Sl kCs w S v (trQ p) → Sl kEn w S vs es → (∀ k, S k → k < w.heap.size) → Calls Tryz.prog 89 #[v, .int .i64 c, vs] w fun e w' => ∃ v', e = .returned v' ∧ Below w.heap.size w w' ∧ Gro kEnU 72 w.heap.size w' v' (virQ es c (clQ p c).mds (clQ p c).mds.length)
def HAb (p : Pg) (c : Int) : Prop := ∀ (w : World) (S : Nat → Prop) (v : Value), Sl kCs w S v (trQ p) → (∀ k, S k → k < w.heap.size) → Calls Tryz.prog 90 #[v, .int .i64 c] w fun e w' => ∃ v', e = .returned v' ∧ Below w.heap.size w w' ∧ Sl kIU w' (fun k => w.heap.size ≤ k ∧ k < w'.heap.size) v' (abvJ p c)
/-- What layout answers. -/
def LayP (y : Ly) (w : World) (e : Ending) (w' : World) : Prop := ∃ a0 c0 a2 c2 a3 c3, e = .returned (.agg #[.slice a0 y.flds.length c0, .int .i64 y.off, .slice a2 y.vir.length c2, .slice a3 y.abv.length c3]) ∧ Below w.heap.size w w' ∧ kLyU.R w' (fun b => w.heap.size ≤ b ∧ b < w'.heap.size) y [.slice a0 y.flds.length c0, .int .i64 y.off, .slice a2 y.vir.length c2, .slice a3 y.abv.length c3]
theorem four_box {W : World} {b : Nat} {T : TypeId} {x0 x1 x2 x3 : Value} (e : W.heap[b]? = some (.cells #[x0, x1, x2, x3] T (0, 0))) : W.cell? ⟨b, 0, none⟩ = some x0 ∧ W.cell? ⟨b, 1, none⟩ = some x1 ∧ W.cell? ⟨b, 2, none⟩ = some x2 ∧ W.cell? ⟨b, 3, none⟩ = some x3 ∧ W.frozen? ⟨b, 0, none⟩ = false ∧ W.frozen? ⟨b, 1, none⟩ = false ∧ W.frozen? ⟨b, 2, none⟩ = false ∧ W.frozen? ⟨b, 3, none⟩ = false :=
  ⟨bxq_cell e rfl, bxq_cell e rfl, bxq_cell e rfl, bxq_cell e rfl, by simp [World.frozen?, e], by simp [World.frozen?, e], by simp [World.frozen?, e], by simp [World.frozen?, e]⟩
theorem Sl.form {α : Type} {K : Kd α} {w : World} {S : Nat → Prop} {v : Value} {xs : List α} (h : Sl K w S v xs) : ∃ ao cap, v = .slice ao xs.length cap := by
  obtain ⟨ao, cap, e, -⟩ := h
  exact ⟨ao, cap, e⟩
theorem infoLyy : (Tryz.prog.info? 54).map (·.size) = some 4 := by kernel_rfl
theorem lay_fin {w U x3 : World} {pf pv pa : Option Addr} {qf qv qa : Nat} {fl : List Fd} {vi : List En} {ab : List Int} {x0 x1 x2 x4 : Value} (hBU : Below w.heap.size w U) (hz : U.heap.size = w.heap.size + 2) (hF : Got U kFdU x3 (.slice pf fl.length qf) fl) (hV : Got U kEnU x3 (.slice pv vi.length qv) vi) (hA : Got U kIU x3 (.slice pa ab.length qa) ab) (hK : x3.heap[w.heap.size + 1]? = some (.cells #[x0, x1, x2, x4] 54 (0, 0))) (off : Int) : ∃ W, W = (((x3.setCell ⟨w.heap.size + 1, 0, none⟩ (.slice pf fl.length qf)).setCell ⟨w.heap.size + 1, 1, none⟩ (.int .i64 off)).setCell ⟨w.heap.size + 1, 2, none⟩ (.slice pv vi.length qv)).setCell ⟨w.heap.size + 1, 3, none⟩ (.slice pa ab.length qa) ∧ W.heap[w.heap.size + 1]? = some (.cells #[.slice pf fl.length qf, .int .i64 off, .slice pv vi.length qv, .slice pa ab.length qa] 54 (0, 0)) ∧ Below w.heap.size w W ∧ kLyU.R W (fun b => w.heap.size ≤ b ∧ b < W.heap.size) ⟨fl, off, vi, ab⟩ [.slice pf fl.length qf, .int .i64 off, .slice pv vi.length qv, .slice pa ab.length qa] := by
  obtain ⟨W, hW⟩ : ∃ W, W = (((x3.setCell ⟨w.heap.size + 1, 0, none⟩ (.slice pf fl.length qf)).setCell ⟨w.heap.size + 1, 1, none⟩ (.int .i64 off)).setCell ⟨w.heap.size + 1, 2, none⟩ (.slice pv vi.length qv)).setCell ⟨w.heap.size + 1, 3, none⟩ (.slice pa ab.length qa) := ⟨_, rfl⟩
  refine ⟨W, hW, ?_⟩
  have e : ∀ b, b ≠ w.heap.size + 1 → W.heap[b]? = x3.heap[b]? := fun b hb => by
    rw [hW, Below.heap_setCell _ _ _ _ hb, Below.heap_setCell _ _ _ _ hb, Below.heap_setCell _ _ _ _ hb, Below.heap_setCell _ _ _ _ hb]
  have z : W.heap.size = x3.heap.size := by rw [hW]; simp [World.setCell]
  have hb := hF.1
  have hbs := hb.size
  refine ⟨by rw [hW]; simp [World.setCell, Array.getElem?_modify, hK], (hBU.trans (hb.mono hBU.size)).trans ⟨by rw [hW]; rfl, by rw [hW]; rfl, by rw [hW]; rfl, by rw [z]; exact Nat.le_refl _, fun b q => e b (by omega)⟩, _, _, _, rfl, ?_, ?_, ?_⟩
  · exact (hF.2.keep fun b q => e b (by omega)).mono fun b q => ⟨by omega, by rw [z]; exact q.2⟩
  · exact (hV.2.keep fun b q => e b (by omega)).mono fun b q => ⟨by omega, by rw [z]; exact q.2⟩
  · exact (hA.2.keep fun b q => e b (by omega)).mono fun b q => ⟨by omega, by rw [z]; exact q.2⟩
set_option maxRecDepth 20000 in
set_option maxHeartbeats 8000000 in
theorem layout_ok {w : World} {S S2 : Nat → Prop} {v fv vv av : Value} {p : Pg} {c off : Int} {up : Ly} (hVi : HVi p c up.vir) (hAb : HAb p c) (hc : isJ p c = true) (h1 : Sl kCs w S v (trQ p)) (hS : ∀ k, S k → k < w.heap.size) (hF : Sl kFd w S2 fv up.flds) (hV : Sl kEn w S2 vv up.vir) (hS2 : ∀ k, S2 k → k < w.heap.size) (hl : up.flds.length + (clQ p c).flds.length ≤ 1048576) (hnm : ∀ f ∈ (clQ p c).flds, f.nm.size ≤ 281474976710656) : Calls Tryz.prog 68 #[v, .int .i64 c, .agg #[fv, .int .i64 off, vv, av]] w (LayP (qlay p c up) w) := by
  have hv := h1
  obtain ⟨ao, cap, rfl, -⟩ := hv
  obtain ⟨af, cf, rfl⟩ := hF.form
  obtain ⟨a2, c2, rfl⟩ := hV.form
  obtain ⟨U, hU⟩ : ∃ U, U = (w.alloc (.cells #[.slice af up.flds.length cf, .int .i64 off, .slice a2 up.vir.length c2, av] 54)).alloc (.cells #[.slice none 0 0, .int .i64 0, .slice none 0 0, .slice none 0 0] 54) := ⟨_, rfl⟩
  have hz1 : (w.alloc (.cells #[.slice af up.flds.length cf, .int .i64 off, .slice a2 up.vir.length c2, av] 54)).heap.size = w.heap.size + 1 := Array.size_push _
  have hzU : U.heap.size = w.heap.size + 2 := by rw [hU, World.size_alloc, hz1]
  have hbU : Below w.heap.size w U := by rw [hU]; exact ((Below.refl _ _).alloc (Nat.le_refl _) _).alloc (by omega) _
  have hn1 : U.heap[w.heap.size]? = some (.cells #[.slice af up.flds.length cf, .int .i64 off, .slice a2 up.vir.length c2, av] 54 (0, 0)) := by rw [hU]; exact (Below.heap_alloc _ _ _ (by omega)).trans (heap_alloc_new w _)
  have hn2 : U.heap[w.heap.size + 1]? = some (.cells #[.slice none 0 0, .int .i64 0, .slice none 0 0, .slice none 0 0] 54 (0, 0)) := by rw [hU, ← hz1]; exact heap_alloc_new _ _
  obtain ⟨i1, sb, so, f1, f2, f3, f4, g1, g2, g3, g4, e1, hi1, e2, hsb, ⟨-, t1, -, -, -, t5, -, -⟩, HSm⟩ := tq_get h1 hc
  have hFo := HSm.out.2.1
  subst e1 e2
  have HBU : Hid (Below w.heap.size w U) := hbU
  have HZU : Hid (U.heap.size = w.heap.size + 2) := hzU
  have hsbl := hS _ hsb
  have HQ : Hid (∀ w', Below U.heap.size U w' → w'.cell? ⟨w.heap.size, 0, none⟩ = some (.slice af up.flds.length cf) ∧ w'.cell? ⟨w.heap.size, 2, none⟩ = some (.slice a2 up.vir.length c2) ∧ w'.cell? ⟨sb, so + i1 * 8 + 5, none⟩ = some (.slice f2 (clQ p (i1 : Int)).flds.length g2)) := fun w' hb => by
    have e := (hb.block w.heap.size (by omega)).trans hn1
    exact ⟨bxq_cell e rfl, bxq_cell e rfl, cell_keep (cell_keep t5 (hbU.mono (Nat.le_refl _))) hb⟩
  have HK : Hid (∀ w', Below U.heap.size U w' → w'.heap[w.heap.size + 1]? = some (.cells #[.slice none 0 0, .int .i64 0, .slice none 0 0, .slice none 0 0] 54 (0, 0))) := fun w' hb => (hb.block _ (by omega)).trans hn2
  have HQF : Hid (∀ w', Below U.heap.size U w' → Calls Tryz.prog 88 #[.slice af up.flds.length cf, .slice f2 (clQ p (i1 : Int)).flds.length g2] w' (FldP w' (up.flds ++ (clQ p (i1 : Int)).flds))) := fun w' hb => by
    have hb2 := hbU.trans (hb.mono hbU.size)
    refine fieldsOf_ok (S := fun k => S k ∨ S2 k) ((hF.keep fun b q => hb2.block b (hS2 b q)).mono fun b q => .inr q) ((hFo.keep fun b q => hb2.block b (hS b q)).mono fun b q => .inl q) (fun k q => ?_) hl hnm
    have := hb2.size
    rcases q with q | q
    · have := hS k q; omega
    · have := hS2 k q; omega
  have HQV : Hid (∀ w', Below U.heap.size U w' → Calls Tryz.prog 89 #[.slice (some ⟨sb, so, none⟩) (trQ p).length cap, .int .i64 (i1 : Int), .slice a2 up.vir.length c2] w' fun e w'' => ∃ v', e = .returned v' ∧ Below w'.heap.size w' w'' ∧ Gro kEnU 72 w'.heap.size w'' v' (virQ up.vir (i1 : Int) (clQ p (i1 : Int)).mds (clQ p (i1 : Int)).mds.length)) := fun w' hb => by
    have hb2 := hbU.trans (hb.mono hbU.size)
    refine hVi w' (fun k => S k ∨ S2 k) _ _ ((h1.keep fun b q => hb2.block b (hS b q)).mono fun b q => .inl q) ((hV.keep fun b q => hb2.block b (hS2 b q)).mono fun b q => .inr q) (fun k q => ?_)
    have := hb2.size
    rcases q with q | q
    · have := hS k q; omega
    · have := hS2 k q; omega
  have HQA : Hid (∀ w', Below U.heap.size U w' → Calls Tryz.prog 90 #[.slice (some ⟨sb, so, none⟩) (trQ p).length cap, .int .i64 (i1 : Int)] w' fun e w'' => ∃ v', e = .returned v' ∧ Below w'.heap.size w' w'' ∧ Sl kIU w'' (fun k => w'.heap.size ≤ k ∧ k < w''.heap.size) v' (abvJ p (i1 : Int))) := fun w' hb => by
    have hb2 := hbU.trans (hb.mono hbU.size)
    exact hAb w' S _ (h1.keep fun b q => hb2.block b (hS b q)) (fun k q => Nat.lt_of_lt_of_le (hS k q) hb2.size)
  have T1 : U.cell? ⟨sb, so + i1 * 8 + 1, none⟩ = some (.bool (clQ p (i1 : Int)).face) := cell_keep t1 hbU
  have x0 : U.cell? ⟨w.heap.size, 0, none⟩ = some (.slice af up.flds.length cf) := (HQ.out U (Below.refl _ _)).1
  have hlt : (i1 : Int) < ((trQ p).length : Int) := by omega
  have ns1 : ¬ sb = w.heap.size + 1 := by omega
  have ns2 : ¬ w.heap.size + 1 = sb := by omega
  have BD : Hid (Below U.heap.size U U.drew) := (Below.refl _ _).drew
  have u0 : U.drew.cell? ⟨w.heap.size, 0, none⟩ = some (.slice af up.flds.length cf) := (HQ.out _ BD.out).1
  have u2 : U.drew.cell? ⟨w.heap.size, 2, none⟩ = some (.slice a2 up.vir.length c2) := (HQ.out _ BD.out).2.1
  have u5 : U.drew.cell? ⟨sb, so + i1 * 8 + 5, none⟩ = some (.slice f2 (clQ p (i1 : Int)).flds.length g2) := (HQ.out _ BD.out).2.2
  clear hVi hAb hc h1 hS hF hV hS2 hl hnm hFo HSm t1 t5 hsb hsbl hn1 hn2 hbU hzU hz1 hi1
  unfold qlay
  generalize (trQ p).length = N at *
  rcases hf : (clQ p (i1 : Int)).face with _ | _
  all_goals rw [hf] at T1
  all_goals clear hf
  all_goals go_enter Tryz.func68, Tryz.ntmps68
  all_goals go_upto_region 2 with fail
  all_goals rw [← hU]
  all_goals clear hU
  all_goals go_upto_region 4 with fail
  all_goals clear T1 x0
  all_goals go_region_held3 (fun w' => w'.cell? ⟨w.heap.size, 0, none⟩ = some (.slice af up.flds.length cf) ∧ w'.cell? ⟨w.heap.size, 2, none⟩ = some (.slice a2 up.vir.length c2) ∧ w'.cell? ⟨sb, so + i1 * 8 + 5, none⟩ = some (.slice f2 (clQ p (i1 : Int)).flds.length g2)) (go_keep) ((first
    | (go_at_call 88; refine (HQF.out _ (by with_reducible exact BD.out)).mono ?_; rintro e x1 ⟨vf, rfl, hb, hs⟩; have HF : Hid (Got U kFdU x1 vf (up.flds ++ (clQ p (i1 : Int)).flds)) := Got.mk_ BD.out hb hs; obtain ⟨pf, qf, rfl⟩ := hs.form; (try replace HV : Hid (Got U kEnU x1 _ _) := HV.out.keep hb); (try replace HA : Hid (Got U kIU x1 _ _) := HA.out.keep hb); replace BD : Hid (Below U.heap.size U x1) := HF.out.1; obtain ⟨k0, k2, k5⟩ := HQ.out x1 BD.out; obtain ⟨b0, b1, b2, b3, f0, f1, f2, f3⟩ := four_box (HK.out x1 BD.out); clear hb hs)
    | (go_at_call 89; refine (HQV.out _ (by with_reducible exact BD.out)).mono ?_; rintro e x2 ⟨v2, rfl, hb, hs⟩; have HV : Hid (Got U kEnU x2 v2 (virQ up.vir (i1 : Int) (clQ p (i1 : Int)).mds (clQ p (i1 : Int)).mds.length)) := Got.mk_ BD.out hb hs.sl; obtain ⟨pv, qv, rfl⟩ := hs.slice; (try replace HF : Hid (Got U kFdU x2 _ _) := HF.out.keep hb); (try replace HA : Hid (Got U kIU x2 _ _) := HA.out.keep hb); replace BD : Hid (Below U.heap.size U x2) := HV.out.1; obtain ⟨k0, k2, k5⟩ := HQ.out x2 BD.out; obtain ⟨b0, b1, b2, b3, f0, f1, f2, f3⟩ := four_box (HK.out x2 BD.out); clear hb hs)
    | (go_at_call 90; refine (HQA.out _ (by with_reducible exact BD.out)).mono ?_; rintro e x3 ⟨va, rfl, hb, hs⟩; have HA : Hid (Got U kIU x3 va (abvJ p (i1 : Int))) := Got.mk_ BD.out hb hs; obtain ⟨pa, qa, rfl⟩ := hs.form; (try replace HV : Hid (Got U kEnU x3 _ _) := HV.out.keep hb); (try replace HF : Hid (Got U kFdU x3 _ _) := HF.out.keep hb); replace BD : Hid (Below U.heap.size U x3) := HA.out.1; obtain ⟨k0, k2, k5⟩ := HQ.out x3 BD.out; obtain ⟨b0, b1, b2, b3, f0, f1, f2, f3⟩ := four_box (HK.out x3 BD.out); clear hb hs)))
  · obtain ⟨W, hW, q1, q2, q3⟩ := lay_fin HBU.out HZU.out HF.out HV.out HA.out (HK.out x3 BD.out) ((up.flds.length : Int))
    have HR : Hid (LayP ⟨up.flds ++ (clQ p (i1 : Int)).flds, (up.flds.length : Int), virQ up.vir (i1 : Int) (clQ p (i1 : Int)).mds (clQ p (i1 : Int)).mds.length, abvJ p (i1 : Int)⟩ w (.returned (.agg #[.slice pf (up.flds ++ (clQ p (i1 : Int)).flds).length qf, .int .i64 ((up.flds.length : Int)), .slice pv (virQ up.vir (i1 : Int) (clQ p (i1 : Int)).mds (clQ p (i1 : Int)).mds.length).length qv, .slice pa (abvJ p (i1 : Int)).length qa])) W) := ⟨pf, qf, pv, qv, pa, qa, rfl, q2, q3⟩
    simp only [List.length_append] at hW
    rw [← hW]
    clear hW q2 q3
    go_wp2
    refine bodyPost_ret (results_cell_row rfl _ _ (w.heap.size + 1) 54 _ (0, 0) _ rfl q1 Tryz.underlying54 rfl infoLyy) rfl ?_
    exact HR.out
  · obtain ⟨W, hW, q1, q2, q3⟩ := lay_fin HBU.out HZU.out HF.out HV.out HA.out (HK.out x3 BD.out) (-1)
    have HR : Hid (LayP ⟨up.flds ++ (clQ p (i1 : Int)).flds, -1, virQ up.vir (i1 : Int) (clQ p (i1 : Int)).mds (clQ p (i1 : Int)).mds.length, abvJ p (i1 : Int)⟩ w (.returned (.agg #[.slice pf (up.flds ++ (clQ p (i1 : Int)).flds).length qf, .int .i64 (-1), .slice pv (virQ up.vir (i1 : Int) (clQ p (i1 : Int)).mds (clQ p (i1 : Int)).mds.length).length qv, .slice pa (abvJ p (i1 : Int)).length qa])) W) := ⟨pf, qf, pv, qv, pa, qa, rfl, q2, q3⟩
    simp only [List.length_append] at hW
    rw [← hW]
    clear hW q2 q3
    go_wp2
    refine bodyPost_ret (results_cell_row rfl _ _ (w.heap.size + 1) 54 _ (0, 0) _ rfl q1 Tryz.underlying54 rfl infoLyy) rfl ?_
    exact HR.out
end Go.Proofs.YtbdfpodglfpjnaaGreat
