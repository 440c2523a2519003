/- The tracer looks, sweeps, begins. -/
import Derived.Test.YtchmamhlolcokaaGreatMC1
namespace Go.Proofs.YtchmamhlolcokaaGreat
open Go.RowKit
section
variable {B : Nat} {w0 w w' : World} {hb : Nat} {X : Cm} {Z : Cx}
theorem CvC.set3 (H : CvC B w0 w hb X Z) (a b c : Int) (hl : 0 ≤ b ∧ b ≤ c ∧ c ≤ 100000) : CvC B w0 (((w.setCell ⟨hb, 8, none⟩ (.int .i64 a)).setCell ⟨hb, 9, none⟩ (.int .i64 b)).setCell ⟨hb, 10, none⟩ (.int .i64 c)) hb { X with tr := { X.tr with lr := a, ln := b, lw := c } } Z ∧ Bt (Z.all hb X.T) w (((w.setCell ⟨hb, 8, none⟩ (.int .i64 a)).setCell ⟨hb, 9, none⟩ (.int .i64 b)).setCell ⟨hb, 10, none⟩ (.int .i64 c)) := by
  have hB : Bt (fun k => k = hb) w (((w.setCell ⟨hb, 8, none⟩ (.int .i64 a)).setCell ⟨hb, 9, none⟩ (.int .i64 b)).setCell ⟨hb, 10, none⟩ (.int .i64 c)) := (((Bt.refl (fun k => k = hb) w).set hb 8 _ (.inl rfl)).set hb 9 _ (.inl rfl)).set hb 10 _ (.inl rfl)
  refine ⟨H.poke (ph := X.ph) (cy := X.cy) hB rfl rfl rfl H.ok.swl hl ?_, hB.mono fun k _ hk => ⟨3, hk⟩⟩
  rw [mset (mset (mset H.here))]
  rfl
/-- What a look leaves. -/
def LkPost (B : Nat) (w0 w : World) (hb : Nat) (Z : Cx) (X : Cm) (b : Bool) (w' : World) : Prop :=
  (X.tr.ln < X.tr.lw ∧ b = true ∧ ∃ c', CcT B w0 w hb Z { X with m := X.m + 1, c := c', tr := { X.mw X.tr.lr X.tr.ln with ln := X.tr.ln + 1 } } w') ∨
  (¬ X.tr.ln < X.tr.lw ∧ X.tr.q = [] ∧ b = false ∧ CcT B w0 w hb Z X w') ∨
  (¬ X.tr.ln < X.tr.lw ∧ ∃ (p : Nat) (t : List Nat) (r : Int), X.tr.q = p :: t ∧ X.tr.row[p]? = some r ∧ b = true ∧ CcT B w0 w hb Z { X with tr := { X.tr with col := setC X.tr.col p 3, q := t, lr := r, ln := 0, lw := rfs X.S r } } w')
theorem mw_same (X : Cm) (r i : Int) : (X.mw r i).lr = X.tr.lr ∧ (X.mw r i).ln = X.tr.ln ∧ (X.mw r i).lw = X.tr.lw ∧ (X.mw r i).sw = X.tr.sw ∧ (X.mw r i).row = X.tr.row := by
  unfold Cm.mw Tr.mark Tr.grey
  split
  · split
    · split <;> exact ⟨rfl, rfl, rfl, rfl, rfl⟩
    · exact ⟨rfl, rfl, rfl, rfl, rfl⟩
  · exact ⟨rfl, rfl, rfl, rfl, rfl⟩
set_option maxRecDepth 20000 in
set_option maxHeartbeats 1000000 in
theorem look_ok (H : CvC B w0 w hb X Z) (hm : X.m ≤ 3999) :
    Calls Tryz.prog 78 #[.pointer (some ⟨hb, 4, none⟩)] w fun e w' => ∃ b, e = .returned (.bool b) ∧ LkPost B w0 w hb Z X b w' := by
  have hlt := H.hlt
  have cln := H.c9
  have clw := H.c10
  have hlk := H.ok.lk
  by_cases h1 : X.tr.ln < X.tr.lw
  · have HX : Hid (∀ w1, Below w.heap.size w w1 → (w1.cell? ⟨hb, 5, none⟩ = some (.int .i64 X.T) ∧ w1.cell? ⟨hb, 8, none⟩ = some (.int .i64 X.tr.lr) ∧ w1.cell? ⟨hb, 9, none⟩ = some (.int .i64 X.tr.ln)) ∧ Calls Tryz.prog 46 #[.pointer (some ⟨hb, 4, none⟩), .int .i64 X.T, .int .i64 X.tr.lr, .int .i64 X.tr.ln] w1 fun e w2 => e = .returned (.tuple #[]) ∧ (w2.cell? ⟨hb, 9, none⟩ = some (.int .i64 X.tr.ln) ∧ hb < w2.heap.size ∧ w2.frozen? ⟨hb, 9, none⟩ = false) ∧ LkPost B w0 w hb Z X true (w2.setCell ⟨hb, 9, none⟩ (.int .i64 (X.tr.ln + 1)))) := fun w1 hb1 => by
      have H1 := H.below hb1
      have c1 := H1.cells14.1
      refine ⟨⟨c1.2.2.2.2.2.1, c1.2.2.2.2.2.2.2.2.1, c1.2.2.2.2.2.2.2.2.2.1⟩, (markWord_ok H1 hm X.T X.tr.lr X.tr.ln (by omega)).mono ?_⟩
      rintro e w2 ⟨rfl, c', _, _, hT⟩
      obtain ⟨Z2, H2, b2, d2⟩ := CcT.after hb1 hT
      obtain ⟨e1, e2, e3, e4, e5⟩ := mw_same X X.tr.lr X.tr.ln
      have c2 := H2.cells14
      have c9 : w2.cell? ⟨hb, 9, none⟩ = some (.int .i64 X.tr.ln) := by rw [← e2]; exact c2.1.2.2.2.2.2.2.2.2.2.1
      refine ⟨rfl, ⟨c9, c2.2.1, c2.2.2 9⟩, .inl ⟨h1, rfl, c', Z2, ?_, ?_, d2⟩⟩
      · exact (H2.set 9 (.int .i64 (X.tr.ln + 1)) (tr := { X.mw X.tr.lr X.tr.ln with ln := X.tr.ln + 1 }) (ph := X.ph) (cy := X.cy) rfl rfl rfl (by show (X.mw _ _).sw ≤ (X.mw _ _).row.length; rw [e4, e5]; exact H.ok.swl) (by show 0 ≤ X.tr.ln + 1 ∧ X.tr.ln + 1 ≤ (X.mw _ _).lw ∧ (X.mw _ _).lw ≤ 100000; rw [e3]; omega) rfl).1
      · exact b2.wide (H2.set 9 (.int .i64 (X.tr.ln + 1)) (tr := { X.mw X.tr.lr X.tr.ln with ln := X.tr.ln + 1 }) (ph := X.ph) (cy := X.cy) rfl rfl rfl (by show (X.mw _ _).sw ≤ (X.mw _ _).row.length; rw [e4, e5]; exact H.ok.swl) (by show 0 ≤ X.tr.ln + 1 ∧ X.tr.ln + 1 ≤ (X.mw _ _).lw ∧ (X.mw _ _).lw ≤ 100000; rw [e3]; omega) rfl).2 d2
    generalize hln : X.tr.ln = ln at *
    generalize hlw : X.tr.lw = lw at *
    generalize hlr : X.tr.lr = lr at *
    have c5 := H.c5
    have c8 := H.c8
    rw [hlr] at c8
    clear H
    go_enter Tryz.func78, Tryz.ntmps78
    go_wp2
    go_region
    go_wp2
    go_region_with (go_at_call 46; refine (HX.out _ (by first | exact (Below.refl _ _).drew.drew | exact (Below.refl _ _).drew)).2.mono ?_; rintro e w2 ⟨rfl, k2, hP⟩; have HP : Hid (LkPost B w0 w hb Z X true (w2.setCell ⟨hb, 9, none⟩ (.int .i64 (ln + 1)))) := hP; clear hP HX)
    all_goals
      have hw : IntKind.i64.wrap (ln + 1) = ln + 1 := by rw [IntKind.wrap_i64]; omega
      go_wp2
      go_ret
      exact ⟨true, rfl, HP.out⟩
  · have hd : decide (X.tr.ln < X.tr.lw) = false := by simpa using h1
    cases hq : X.tr.q with
    | nil =>
      have hN : ∀ n, Calls Tryz.prog 100 #[.pointer (some ⟨Z.k, 0, none⟩)] (w.drewN n) fun e w' => e = .returned (.tuple #[.int .i64 0, .bool false]) ∧ w' = w.drewN n := fun n => by
        have := H.wk.drewN n
        rw [hq] at this
        exact mnext_none this
      have HF : Hid (∀ n, LkPost B w0 w hb Z X false (w.drewN n)) := fun n => .inr (.inl ⟨h1, hq, rfl, CcT.after (below_drewN _ _ _) (H.below (below_drewN _ _ _)).same⟩)
      generalize hln : X.tr.ln = ln at *
      generalize hlw : X.tr.lw = lw at *
      have c7 := H.c7
      clear H
      go_enter Tryz.func78, Tryz.ntmps78
      go_wp2
      go_region
      go_wp2_with (go_at_call 100; refine (hN 1).mono ?_; rintro e w9 ⟨rfl, hw9⟩; replace hw9 := hw9.symm; subst hw9)
      go_ret
      exact ⟨false, rfl, HF.out 1⟩
    | cons p t =>
      have hpl : p < X.tr.row.length := H.ok.inr p (by rw [hq]; simp)
      obtain ⟨r, hr⟩ : ∃ r, X.tr.row[p]? = some r := ⟨_, List.getElem?_eq_getElem hpl⟩
      have hfew := H.row_few
      have hrf : (rfs X.S r : Nat) ≤ 5000 := by
        have := rfs_few H.fit r
        have := H.lim.1.2
        omega
      obtain ⟨ao, cap, hv⟩ := H.row.form
      have hrow := H.row
      rw [hv] at hrow
      obtain ⟨rp, rfl, hrp, _, _, hrc⟩ := hrow.cells (by omega)
      have HX : Hid (∀ n, Calls Tryz.prog 100 #[.pointer (some ⟨Z.k, 0, none⟩)] (w.drewN n) fun e w1 => e = .returned (.tuple #[.int .i64 p, .bool true]) ∧ (w1.cell? ⟨hb, 6, none⟩ = some (.slice (some ⟨rp, 0, none⟩) X.tr.row.length cap) ∧ w1.cell? ⟨rp, p, none⟩ = some (.int .i64 r) ∧ hb < w1.heap.size ∧ rp < w1.heap.size) ∧ Calls Tryz.prog 72 #[.pointer (some ⟨hb, 4, none⟩), .int .i64 r] w1 fun e w2 => e = .returned (.int .i64 (rfs X.S r : Nat)) ∧ (((∃ v, w2.cell? ⟨hb, 8, none⟩ = some v) ∧ (∃ v, w2.cell? ⟨hb, 9, none⟩ = some v) ∧ ∃ v, w2.cell? ⟨hb, 10, none⟩ = some v) ∧ hb < w2.heap.size ∧ ∀ j, w2.frozen? ⟨hb, j, none⟩ = false) ∧ LkPost B w0 w hb Z X true (((w2.setCell ⟨hb, 8, none⟩ (.int .i64 r)).setCell ⟨hb, 9, none⟩ (.int .i64 0)).setCell ⟨hb, 10, none⟩ (.int .i64 (rfs X.S r : Nat)))) := fun n => by
        have H0 := H.below (below_drewN w n _)
        have hk0 := H0.wk
        rw [hq] at hk0
        refine (mnext_ok hk0).mono ?_
        rintro e w1 ⟨rfl, hk1, b1⟩
        have H1 := H0.cols hk1 b1 (fun x hx => H.ok.inr x (by rw [hq]; simp [hx]))
        have c1 := H1.cells14
        have hrow1 := H1.row
        rw [hv] at hrow1
        obtain ⟨rp', e, hrp1, _, _, hrc1⟩ := hrow1.cells (by show 0 < X.tr.row.length; omega)
        simp only [Option.some.injEq, Addr.mk.injEq, and_true] at e
        subst e
        refine ⟨rfl, ⟨by rw [c1.1.2.2.2.2.2.2.1, hv], hrc1 p r hr, c1.2.1, hrp1.2⟩, (refsIn_ok H1 (by show X.m ≤ 4000; omega) r).mono ?_⟩
        rintro e w2 ⟨rfl, hb2⟩
        have H2 := H1.below hb2
        obtain ⟨c2, l2, f2⟩ := H2.cells14
        obtain ⟨H3, b3⟩ := H2.set3 r 0 (rfs X.S r : Nat) (by omega)
        refine ⟨rfl, ⟨⟨⟨_, c2.2.2.2.2.2.2.2.2.1⟩, ⟨_, c2.2.2.2.2.2.2.2.2.2.1⟩, ⟨_, c2.2.2.2.2.2.2.2.2.2.2.1⟩⟩, l2, f2⟩, .inr (.inr ⟨h1, p, t, r, hq, hr, rfl, ?_⟩)⟩
        exact CcT.after (below_drewN w n _) ⟨Z, H3, (b1.mono fun k _ hk => ⟨2, hk⟩).trans ((Bt.of_below hb2).trans b3), Wider.refl _ _⟩
      generalize rfs X.S r = n at *
      generalize hln : X.tr.ln = ln at *
      generalize hlw : X.tr.lw = lw at *
      generalize X.tr.row.length = N at *
      have c7 := H.c7
      clear H hrow hrc hv hrp
      go_enter Tryz.func78, Tryz.ntmps78
      go_wp2
      go_region
      go_wp2_with (first
        | (go_at_call 100; refine (HX.out 1).mono ?_; rintro e w1 ⟨rfl, k1, hR⟩; clear HX)
        | (go_at_call 72; refine hR.mono ?_; rintro e w2 ⟨rfl, ⟨⟨⟨v8, k8⟩, ⟨v9, k9⟩, ⟨v10, k10⟩⟩, k11, k12⟩, hP⟩; have HP : Hid (LkPost B w0 w hb Z X true (((w2.setCell ⟨hb, 8, none⟩ (.int .i64 r)).setCell ⟨hb, 9, none⟩ (.int .i64 0)).setCell ⟨hb, 10, none⟩ (.int .i64 n))) := hP; clear hP hR))
      go_ret
      exact ⟨true, rfl, HP.out⟩
end
end Go.Proofs.YtchmamhlolcokaaGreat
