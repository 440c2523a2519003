/- (*play).act of HeapActs: Make. -/
import Derived.Test.YtnnjinkadcagdaaGreatMK4
import Derived.BigRegion
import Derived.Deep.DeepCutAuto
import Derived.BigQuiet
namespace Go.Proofs.YtnnjinkadcagdaaGreat
open Go.RowKit
set_option maxRecDepth 20000 in
set_option maxHeartbeats 8000000 in
theorem act9_make {B : Nat} {w0 w : World} {P : Nat → Prop} {h W G m : Nat} {c : Int → Int} {S : List (Option Cel)} {F : Nat → Nat → Int} {y : Nat} {va : Value} {L : List Lc} (H : Play9 B w0 w P h W G m c S F y va L) (hA : Agr9 S F L) (hm : m ≤ 3000) (K A q C I V : Int) (hK : K < 3) :
    Calls Tryz.prog 10 #[.pointer (some ⟨y, 0, none⟩), .agg #[.int .i64 K, .int .i64 A, .int .i64 q, .int .i64 C, .int .i64 I, .int .i64 V]] w (ActPost9 B w0 h W G (m + 1) y) := by
  have hlen := hA.few H
  obtain ⟨ao, cap, rfl, hFm⟩ := H.form
  have hx0 := Pb9.start H K A q C I V
  have HIx : Hid (∀ i, i < L.length → ∃ x g, L[i]? = some x ∧ ao = some ⟨g, 0, none⟩) := fun i hi => by
    obtain ⟨g, e, _⟩ := hFm i _ (List.getElem?_eq_getElem hi)
    exact ⟨_, g, List.getElem?_eq_getElem hi, e⟩
  have HA : Hid (Agr9 S F L) := hA
  have HL : Hid (L.length ≤ 1000) := hlen
  have HLb : L.length ≤ 1000 := hlen
  generalize hN : L.length = M at *
  have HN : Hid (L.length = M) := hN
  have HK : Hid (K < 3) := hK
  obtain ⟨bb, hbb⟩ : ∃ bb : Bool, bb = (decide (0 < M) && decide (0 ≤ q)) := ⟨_, rfl⟩
  have HB : Hid (bb = (decide (0 < M) && decide (0 ≤ q))) := hbb
  clear hN hA hK hbb H hlen hFm
  have c0 := hx0.play.cells
  have c1 := hx0.six
  go_enter Tryz.func10, Tryz.ntmps10
  go_upto_region 2 with fail
  generalize World.alloc _ _ = W1 at *
  go_cut [22] from 12 to 22 (fun s22 wx => s22 = .bool bb ∧ wx = W1)
  case first =>
    rcases Nat.eq_zero_or_pos M with hz | hz
    · have hz1 : decide ((0 : Int) < (M : Int)) = false := by simp; omega
      have hz2 : decide (0 < M) = false := by simp; omega
      as_aux_lemma =>
        go_wp2_with fail
        go_meet
        exact ⟨by rw [HB.out, hz2]; rfl, rfl⟩
    · have hz1 : (0 : Int) < (M : Int) := by omega
      by_cases p0 : 0 ≤ q
      · as_aux_lemma =>
          go_wp2_with fail
          go_meet
          exact ⟨by rw [HB.out, decide_eq_true hz, decide_eq_true p0]; rfl, rfl⟩
      · have p1 : decide (0 ≤ q) = false := by simp; omega
        as_aux_lemma =>
          go_wp2_with fail
          go_meet
          exact ⟨by rw [HB.out, decide_eq_true hz, p1]; rfl, rfl⟩
  case rest =>
  obtain ⟨rfl, rfl⟩ := hcut
  go_upto_if 22 with fail
  go_cut [5] from 23 to 37 (fun s5 wx => ∃ t : Int, s5 = .int .i64 t ∧ Pb9 B w0 wx P h W G m c S F y (.slice ao M cap) L w.heap.size K A q C I V)
  case first =>
    cases bb with
    | false =>
      as_aux_lemma =>
        go_wp2_with fail
        go_meet
        exact ⟨q, rfl, hx0⟩
    | true =>
      have hb2 := HB.out
      simp only [Bool.true_eq, Bool.and_eq_true, decide_eq_true_eq] at hb2
      obtain ⟨hn0, hp0⟩ := hb2
      obtain ⟨pn, rfl⟩ := Int.eq_ofNat_of_zero_le hp0
      have hj : pn % M < M := Nat.mod_lt _ hn0
      obtain ⟨x, g, hx, rfl⟩ := HIx.out (pn % M) hj
      have r0 := (hx0.play.four hx).1
      have hne : ((M : Int) == 0) = false := by simp; omega
      have hjj : ((pn : Int).tmod (M : Int)) = ((pn % M : Nat) : Int) := by rw [Int.tmod_eq_emod_of_nonneg (by omega)]; simp
      clear hx HB
      as_aux_lemma =>
        go_wp2_with fail
        go_quiet (fail)
        all_goals (go_wp2_with fail; go_meet; exact ⟨(x.ref : Int) + 1, by first | rfl | simp, hx0.below (below_drewN _ _ _)⟩)
  case rest =>
  obtain ⟨t, rfl, hx2⟩ := hcut
  clear hx0 c0 c1 HB
  have c0 := hx2.play.cells
  have c1 := hx2.six
  have hk := HK.out
  clear HK
  obtain ⟨R, hR⟩ := fnd9_any t L
  have hat := at9_ok hx2.play (by rw [HN.out]; exact HL.out) t R hR
  have k1 : K < 3 := hk
  have hM := mk9_any hx2.play HA.out hm K A q C I V
  clear hk hR
  go_wp2_with (first
    | (go_at_call 14; refine hat.mono ?_; rintro e w9 ⟨rfl, hw9⟩; replace hw9 := hw9.symm; subst hw9)
    | (go_at_call 25; refine hM.mono ?_; rintro e w3 ⟨rfl, hE⟩))
  go_ret
  exact ⟨rfl, hE⟩
end Go.Proofs.YtnnjinkadcagdaaGreat
/- (*play).act of HeapActs: Load and Put. -/
namespace Go.Proofs.YtnnjinkadcagdaaGreat
open Go.RowKit
set_option maxRecDepth 20000 in
set_option maxHeartbeats 8000000 in
theorem act9_word {B : Nat} {w0 w : World} {P : Nat → Prop} {h W G m : Nat} {c : Int → Int} {S : List (Option Cel)} {F : Nat → Nat → Int} {y : Nat} {va : Value} {L : List Lc} (H : Play9 B w0 w P h W G m c S F y va L) (hA : Agr9 S F L) (hm : m ≤ 3000) (K A q C I V : Int) (hK : 3 ≤ K ∧ K < 7) :
    Calls Tryz.prog 10 #[.pointer (some ⟨y, 0, none⟩), .agg #[.int .i64 K, .int .i64 A, .int .i64 q, .int .i64 C, .int .i64 I, .int .i64 V]] w (ActPost9 B w0 h W G (m + 1) y) := by
  have hlen := hA.few H
  obtain ⟨ao, cap, rfl, hFm⟩ := H.form
  have hx0 := Pb9.start H K A q C I V
  have HIx : Hid (∀ i, i < L.length → ∃ x g, L[i]? = some x ∧ ao = some ⟨g, 0, none⟩) := fun i hi => by
    obtain ⟨g, e, _⟩ := hFm i _ (List.getElem?_eq_getElem hi)
    exact ⟨_, g, List.getElem?_eq_getElem hi, e⟩
  have HA : Hid (Agr9 S F L) := hA
  have HL : Hid (L.length ≤ 1000) := hlen
  have HLb : L.length ≤ 1000 := hlen
  generalize hN : L.length = M at *
  have HN : Hid (L.length = M) := hN
  have HK : Hid (3 ≤ K ∧ K < 7) := hK
  obtain ⟨bb, hbb⟩ : ∃ bb : Bool, bb = (decide (0 < M) && decide (0 ≤ q)) := ⟨_, rfl⟩
  have HB : Hid (bb = (decide (0 < M) && decide (0 ≤ q))) := hbb
  clear hN hA hK hbb H hlen hFm
  have c0 := hx0.play.cells
  have c1 := hx0.six
  go_enter Tryz.func10, Tryz.ntmps10
  go_upto_region 2 with fail
  generalize World.alloc _ _ = W1 at *
  go_cut [22] from 12 to 22 (fun s22 wx => s22 = .bool bb ∧ wx = W1)
  case first =>
    rcases Nat.eq_zero_or_pos M with hz | hz
    · have hz1 : decide ((0 : Int) < (M : Int)) = false := by simp; omega
      have hz2 : decide (0 < M) = false := by simp; omega
      as_aux_lemma =>
        go_wp2_with fail
        go_meet
        exact ⟨by rw [HB.out, hz2]; rfl, rfl⟩
    · have hz1 : (0 : Int) < (M : Int) := by omega
      by_cases p0 : 0 ≤ q
      · as_aux_lemma =>
          go_wp2_with fail
          go_meet
          exact ⟨by rw [HB.out, decide_eq_true hz, decide_eq_true p0]; rfl, rfl⟩
      · have p1 : decide (0 ≤ q) = false := by simp; omega
        as_aux_lemma =>
          go_wp2_with fail
          go_meet
          exact ⟨by rw [HB.out, decide_eq_true hz, p1]; rfl, rfl⟩
  case rest =>
  obtain ⟨rfl, rfl⟩ := hcut
  go_upto_if 22 with fail
  go_cut [5] from 23 to 37 (fun s5 wx => ∃ t : Int, s5 = .int .i64 t ∧ Pb9 B w0 wx P h W G m c S F y (.slice ao M cap) L w.heap.size K A q C I V)
  case first =>
    cases bb with
    | false =>
      as_aux_lemma =>
        go_wp2_with fail
        go_meet
        exact ⟨q, rfl, hx0⟩
    | true =>
      have hb2 := HB.out
      simp only [Bool.true_eq, Bool.and_eq_true, decide_eq_true_eq] at hb2
      obtain ⟨hn0, hp0⟩ := hb2
      obtain ⟨pn, rfl⟩ := Int.eq_ofNat_of_zero_le hp0
      have hj : pn % M < M := Nat.mod_lt _ hn0
      obtain ⟨x, g, hx, rfl⟩ := HIx.out (pn % M) hj
      have r0 := (hx0.play.four hx).1
      have hne : ((M : Int) == 0) = false := by simp; omega
      have hjj : ((pn : Int).tmod (M : Int)) = ((pn % M : Nat) : Int) := by rw [Int.tmod_eq_emod_of_nonneg (by omega)]; simp
      clear hx HB
      as_aux_lemma =>
        go_wp2_with fail
        go_quiet (fail)
        all_goals (go_wp2_with fail; go_meet; exact ⟨(x.ref : Int) + 1, by first | rfl | simp, hx0.below (below_drewN _ _ _)⟩)
  case rest =>
  obtain ⟨t, rfl, hx2⟩ := hcut
  clear hx0 c0 c1 HB
  have c0 := hx2.play.cells
  have c1 := hx2.six
  have hk := HK.out
  clear HK
  obtain ⟨R, hR⟩ := fnd9_any t L
  have hat := at9_ok hx2.play (by rw [HN.out]; exact HL.out) t R hR
  have k1 : decide (K < 3) = false := by simp; omega
  have k2 : K < 7 := by omega
  have hM := wd9_any hx2.play HA.out hm K A q C I V t
  clear hk hR
  go_wp2_with (first
    | (go_at_call 14; refine hat.mono ?_; rintro e w9 ⟨rfl, hw9⟩; replace hw9 := hw9.symm; subst hw9)
    | (go_at_call 26; refine hM.mono ?_; rintro e w3 ⟨rfl, hE⟩))
  go_ret
  exact ⟨rfl, hE⟩
end Go.Proofs.YtnnjinkadcagdaaGreat
/- (*play).act of HeapActs: Cell. -/
namespace Go.Proofs.YtnnjinkadcagdaaGreat
open Go.RowKit
set_option maxRecDepth 20000 in
set_option maxHeartbeats 8000000 in
theorem act9_cell {B : Nat} {w0 w : World} {P : Nat → Prop} {h W G m : Nat} {c : Int → Int} {S : List (Option Cel)} {F : Nat → Nat → Int} {y : Nat} {va : Value} {L : List Lc} (H : Play9 B w0 w P h W G m c S F y va L) (hA : Agr9 S F L) (hm : m ≤ 3000) (K A q C I V : Int) (hK : 8 ≤ K) :
    Calls Tryz.prog 10 #[.pointer (some ⟨y, 0, none⟩), .agg #[.int .i64 K, .int .i64 A, .int .i64 q, .int .i64 C, .int .i64 I, .int .i64 V]] w (ActPost9 B w0 h W G (m + 1) y) := by
  have hlen := hA.few H
  obtain ⟨ao, cap, rfl, hFm⟩ := H.form
  have hx0 := Pb9.start H K A q C I V
  have HIx : Hid (∀ i, i < L.length → ∃ x g, L[i]? = some x ∧ ao = some ⟨g, 0, none⟩) := fun i hi => by
    obtain ⟨g, e, _⟩ := hFm i _ (List.getElem?_eq_getElem hi)
    exact ⟨_, g, List.getElem?_eq_getElem hi, e⟩
  have HA : Hid (Agr9 S F L) := hA
  have HL : Hid (L.length ≤ 1000) := hlen
  have HLb : L.length ≤ 1000 := hlen
  generalize hN : L.length = M at *
  have HN : Hid (L.length = M) := hN
  have HK : Hid (8 ≤ K) := hK
  obtain ⟨bb, hbb⟩ : ∃ bb : Bool, bb = (decide (0 < M) && decide (0 ≤ q)) := ⟨_, rfl⟩
  have HB : Hid (bb = (decide (0 < M) && decide (0 ≤ q))) := hbb
  clear hN hA hK hbb H hlen hFm
  have c0 := hx0.play.cells
  have c1 := hx0.six
  go_enter Tryz.func10, Tryz.ntmps10
  go_upto_region 2 with fail
  generalize World.alloc _ _ = W1 at *
  go_cut [22] from 12 to 22 (fun s22 wx => s22 = .bool bb ∧ wx = W1)
  case first =>
    rcases Nat.eq_zero_or_pos M with hz | hz
    · have hz1 : decide ((0 : Int) < (M : Int)) = false := by simp; omega
      have hz2 : decide (0 < M) = false := by simp; omega
      as_aux_lemma =>
        go_wp2_with fail
        go_meet
        exact ⟨by rw [HB.out, hz2]; rfl, rfl⟩
    · have hz1 : (0 : Int) < (M : Int) := by omega
      by_cases p0 : 0 ≤ q
      · as_aux_lemma =>
          go_wp2_with fail
          go_meet
          exact ⟨by rw [HB.out, decide_eq_true hz, decide_eq_true p0]; rfl, rfl⟩
      · have p1 : decide (0 ≤ q) = false := by simp; omega
        as_aux_lemma =>
          go_wp2_with fail
          go_meet
          exact ⟨by rw [HB.out, decide_eq_true hz, p1]; rfl, rfl⟩
  case rest =>
  obtain ⟨rfl, rfl⟩ := hcut
  go_upto_if 22 with fail
  go_cut [5] from 23 to 37 (fun s5 wx => ∃ t : Int, s5 = .int .i64 t ∧ Pb9 B w0 wx P h W G m c S F y (.slice ao M cap) L w.heap.size K A q C I V)
  case first =>
    cases bb with
    | false =>
      as_aux_lemma =>
        go_wp2_with fail
        go_meet
        exact ⟨q, rfl, hx0⟩
    | true =>
      have hb2 := HB.out
      simp only [Bool.true_eq, Bool.and_eq_true, decide_eq_true_eq] at hb2
      obtain ⟨hn0, hp0⟩ := hb2
      obtain ⟨pn, rfl⟩ := Int.eq_ofNat_of_zero_le hp0
      have hj : pn % M < M := Nat.mod_lt _ hn0
      obtain ⟨x, g, hx, rfl⟩ := HIx.out (pn % M) hj
      have r0 := (hx0.play.four hx).1
      have hne : ((M : Int) == 0) = false := by simp; omega
      have hjj : ((pn : Int).tmod (M : Int)) = ((pn % M : Nat) : Int) := by rw [Int.tmod_eq_emod_of_nonneg (by omega)]; simp
      clear hx HB
      as_aux_lemma =>
        go_wp2_with fail
        go_quiet (fail)
        all_goals (go_wp2_with fail; go_meet; exact ⟨(x.ref : Int) + 1, by first | rfl | simp, hx0.below (below_drewN _ _ _)⟩)
  case rest =>
  obtain ⟨t, rfl, hx2⟩ := hcut
  clear hx0 c0 c1 HB
  have c0 := hx2.play.cells
  have c1 := hx2.six
  have hk := HK.out
  clear HK
  obtain ⟨R, hR⟩ := fnd9_any t L
  have hat := at9_ok hx2.play (by rw [HN.out]; exact HL.out) t R hR
  have k1 : decide (K < 3) = false := by simp; omega
  have k2 : decide (K < 7) = false := by simp; omega
  have k3 : (K == 7) = false := by simp; omega
  clear hk
  by_cases hr : R < 0
  · obtain ⟨rfl, hmis⟩ := hR.miss hr
    have hC := z_cell_no hx2.play.hv (by omega) t (fun i cl e hi => by
      obtain ⟨x, hx, ex⟩ := HA.out.all i cl hi
      exact hmis x hx (by omega))
    clear hR hmis hr
    as_aux_lemma =>
      go_wp2_with (first
        | (go_at_call 14; refine hat.mono ?_; rintro e w9 ⟨rfl, hw9⟩; replace hw9 := hw9.symm; subst hw9)
        | (go_at_call 20; refine hC.mono ?_; rintro e w4 ⟨rfl, hb4⟩; have H4 := (hx2.below hb4).below ((Below.refl _ _).alloc (Nat.le_refl _) (.cells #[.int .i64 0, .int .i64 0, .int .i64 0] 50)); have HP : Hid _ := H4.play; clear hC hb4 hx2 H4)
        | (go_at_call 8; refine (num_any _ _).mono ?_; rintro e w9 ⟨rfl, hw9⟩; replace hw9 := hw9.symm; subst hw9))
      go_ret
      exact ⟨rfl, Edge9.same HP.out HA.out⟩
  · obtain ⟨i, x, hx, ex, rfl⟩ := hR.got hr
    obtain ⟨⟨ad, hlv⟩, _⟩ := HA.out.live x (List.mem_of_getElem? hx)
    have ex' : t = (x.ref : Int) + 1 := ex.symm
    have hC : Calls Tryz.prog 20 #[.pointer (some ⟨h, 0, none⟩), .int .i64 t] wc fun e w' => e = .returned (.tuple #[.agg #[.int .i64 x.kind, .int .i64 x.cls, .int .i64 x.n], .int .i64 0]) ∧ Below wc.heap.size wc w' := by rw [ex']; exact z_cell hx2.play.hv (by omega) hlv
    have r1 : decide ((i : Int) < 0) = false := by simp
    have hil : i < M := by have := (List.getElem?_eq_some_iff.1 hx).1; have := HN.out; omega
    have hil2 : (i : Int) < (M : Int) := by omega
    obtain ⟨x', g, _, rfl⟩ := HIx.out i hil
    have HX : Hid (L[i]? = some x) := hx
    have hn9 : x.n ≤ 100000 := by
      have h9 := hx2.play.hv.facts
      have h8 := (sumS_gone S _ _ hlv).1
      have h7 : roomW W = (W + 3) / 4 := rfl
      simp only at h8
      omega
    clear hR hr ex ex' hlv hx
    as_aux_lemma =>
      go_wp2_with (first
        | (go_at_call 14; refine hat.mono ?_; rintro e w9 ⟨rfl, hw9⟩; replace hw9 := hw9.symm; subst hw9)
        | (go_at_call 20; refine hC.mono ?_; rintro e w4 ⟨rfl, hb4⟩; have H4 := (hx2.below hb4).below ((Below.refl _ _).alloc (Nat.le_refl _) (.cells #[.int .i64 x.kind, .int .i64 x.cls, .int .i64 x.n] 50)); have cz := cell3 (heap_alloc_new w4 (.cells #[.int .i64 x.kind, .int .i64 x.cls, .int .i64 x.n] 50)); clear hC hb4 hx2 c0 c1)
        | (go_at_call 8; refine (num_any _ _).mono ?_; rintro e w9 ⟨rfl, hw9⟩; replace hw9 := hw9.symm; subst hw9))
      generalize World.alloc _ _ = w5 at *
      have c5 := H4.play.cells
      obtain ⟨e0, e1, e2, e3⟩ := H4.play.four HX.out
      go_quiet ((go_at_call 8; exact Calls.quiet_of_same (num_any _ _)))
      go_wp2
      go_ret
      exact ⟨rfl, Edge9.same (H4.below (below_drewN _ nq _)).play HA.out⟩
end Go.Proofs.YtnnjinkadcagdaaGreat
