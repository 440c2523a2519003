/- (*play).act of HeapActs: Free. -/
import Derived.Test.YtnnjinkadcagdaaGreatMK4
import Derived.BigRegion
import Derived.Deep.DeepCutAuto
import Derived.BigQuiet
namespace Go.Proofs.YtnnjinkadcagdaaGreat
open Go.RowKit
attribute [local go_sem ↓] app_C
set_option maxRecDepth 20000 in
set_option maxHeartbeats 8000000 in
theorem act9_free {B : Nat} {w0 w : World} {P : Nat → Prop} {h W G m : Nat} {c : Int → Int} {S : List (Option Cel)} {F : Nat → Nat → Int} {y : Nat} {va : Value} {L : List Lc} (H : Play9 B w0 w P h W G m c S F y va L) (hA : Agr9 S F L) (hm : m ≤ 3000) (K A q C I V : Int) (hK : K = 7) :
    Calls Tryz.prog 10 #[.pointer (some ⟨y, 0, none⟩), .agg #[.int .i64 K, .int .i64 A, .int .i64 q, .int .i64 C, .int .i64 I, .int .i64 V]] w (ActPost9 B w0 h W G (m + 1) y) := by
  have hlen := hA.few H
  obtain ⟨ao, cap, rfl, hFm⟩ := H.form
  have hx0 := Pb9.start H K A q C I V
  have HIx : Hid (∀ i, i < L.length → ∃ x g, L[i]? = some x ∧ ao = some ⟨g, 0, none⟩) := fun i hi => by
    obtain ⟨g, e, _⟩ := hFm i _ (List.getElem?_eq_getElem hi)
    exact ⟨_, g, List.getElem?_eq_getElem hi, e⟩
  have HA : Hid (Agr9 S F L) := hA
  have HL : Hid (L.length ≤ 1000) := hlen
  have HLb : L.length ≤ 1000 := hlen
  generalize hN : L.length = M at *
  have HN : Hid (L.length = M) := hN
  have HK : Hid (K = 7) := hK
  obtain ⟨bb, hbb⟩ : ∃ bb : Bool, bb = (decide (0 < M) && decide (0 ≤ q)) := ⟨_, rfl⟩
  have HB : Hid (bb = (decide (0 < M) && decide (0 ≤ q))) := hbb
  clear hN hA hK hbb H hlen hFm
  have c0 := hx0.play.cells
  have c1 := hx0.six
  go_enter Tryz.func10, Tryz.ntmps10
  go_upto_region 2 with fail
  generalize World.alloc _ _ = W1 at *
  go_cut [22] from 12 to 22 (fun s22 wx => s22 = .bool bb ∧ wx = W1)
  case first =>
    rcases Nat.eq_zero_or_pos M with hz | hz
    · have hz1 : decide ((0 : Int) < (M : Int)) = false := by simp; omega
      have hz2 : decide (0 < M) = false := by simp; omega
      as_aux_lemma =>
        go_wp2_with fail
        go_meet
        exact ⟨by rw [HB.out, hz2]; rfl, rfl⟩
    · have hz1 : (0 : Int) < (M : Int) := by omega
      by_cases p0 : 0 ≤ q
      · as_aux_lemma =>
          go_wp2_with fail
          go_meet
          exact ⟨by rw [HB.out, decide_eq_true hz, decide_eq_true p0]; rfl, rfl⟩
      · have p1 : decide (0 ≤ q) = false := by simp; omega
        as_aux_lemma =>
          go_wp2_with fail
          go_meet
          exact ⟨by rw [HB.out, decide_eq_true hz, p1]; rfl, rfl⟩
  case rest =>
  obtain ⟨rfl, rfl⟩ := hcut
  go_upto_if 22 with fail
  go_cut [5] from 23 to 37 (fun s5 wx => ∃ t : Int, s5 = .int .i64 t ∧ Pb9 B w0 wx P h W G m c S F y (.slice ao M cap) L w.heap.size K A q C I V)
  case first =>
    cases bb with
    | false =>
      as_aux_lemma =>
        go_wp2_with fail
        go_meet
        exact ⟨q, rfl, hx0⟩
    | true =>
      have hb2 := HB.out
      simp only [Bool.true_eq, Bool.and_eq_true, decide_eq_true_eq] at hb2
      obtain ⟨hn0, hp0⟩ := hb2
      obtain ⟨pn, rfl⟩ := Int.eq_ofNat_of_zero_le hp0
      have hj : pn % M < M := Nat.mod_lt _ hn0
      obtain ⟨x, g, hx, rfl⟩ := HIx.out (pn % M) hj
      have r0 := (hx0.play.four hx).1
      have hne : ((M : Int) == 0) = false := by simp; omega
      have hjj : ((pn : Int).tmod (M : Int)) = ((pn % M : Nat) : Int) := by rw [Int.tmod_eq_emod_of_nonneg (by omega)]; simp
      clear hx HB
      as_aux_lemma =>
        go_wp2_with fail
        go_quiet (fail)
        all_goals (go_wp2_with fail; go_meet; exact ⟨(x.ref : Int) + 1, by first | rfl | simp, hx0.below (below_drewN _ _ _)⟩)
  case rest =>
  obtain ⟨t, rfl, hx2⟩ := hcut
  clear hx0 c0 c1 HB
  have c0 := hx2.play.cells
  have c1 := hx2.six
  have hk := HK.out
  clear HK
  obtain ⟨R, hR⟩ := fnd9_any t L
  have hat := at9_ok hx2.play (by rw [HN.out]; exact HL.out) t R hR
  subst hk
  by_cases hn : (0 ≤ A ∧ A < (G : Int)) ∧ ¬ R < 0
  · obtain ⟨ha, hr⟩ := hn
    obtain ⟨i, x, hx, ex, rfl⟩ := hR.got hr
    obtain ⟨⟨ad, hlv⟩, _⟩ := HA.out.live x (List.mem_of_getElem? hx)
    have a2 : decide (A < 0) = false := by simp; omega
    have a3 : decide ((G : Int) ≤ A) = false := by simp; omega
    have r1 : decide ((i : Int) < 0) = false := by simp
    have hil : i < M := by have := (List.getElem?_eq_some_iff.1 hx).1; have := HN.out; omega
    have hil2 : (i : Int) < (M : Int) := by omega
    obtain ⟨x', g, _, rfl⟩ := HIx.out i hil
    have HG : Hid (Agr9 (S.set x.ref none) F (L.eraseIdx i)) := HA.out.freed hx hlv
    have ex' : t = (x.ref : Int) + 1 := ex.symm
    have HF : Hid (∀ u, Hv B w0 u P h W G m c S F → Calls Tryz.prog 19 #[.pointer (some ⟨h, 0, none⟩), .int .i64 A, .int .i64 t] u (ZFr B w0 u P h W G m S F x.ref)) := fun u hu => by rw [ex']; exact z_free hu (by omega) hlv A ha
    clear hR hr ex ex' hlv hx ha
    have l1 := hx2.apart.1
    have l2 := hx2.play.y_lt
    go_wp2_with (go_at_call 14; refine hat.mono ?_; rintro e w9 ⟨rfl, hw9⟩; replace hw9 := hw9.symm; subst hw9)
    clear hat
    have hd := hx2.below (below_drewN wc 1 _)
    have hF2 := HF.out _ hd.play.hv
    go_region_held3 (fun w' => w'.cell? ⟨y, 0, none⟩ = some (.pointer (some ⟨h, 0, none⟩)) ∧ w'.cell? ⟨w.heap.size, 1, none⟩ = some (.int .i64 A)) (go_keep) ((go_at_call 19; refine hF2.mono ?_; rintro e w6 ⟨rfl, c6', hT6⟩; obtain ⟨P6, hx6⟩ := hd.turn hT6; have f6 := hx6.six; have c6 := hx6.play.cells; clear hT6))
    clear hx2 hd c0 c1 hF2 HF l1 l2
    go_wp2
    go_quiet (fail)
    have hx7 := hx6.below (below_drewN w6 nq _)
    generalize World.drewN _ _ = w7 at *
    clear hx6 f6 c6
    have f7 := hx7.six
    have c7 := hx7.play.cells.2.2.2
    have z7 := hx7.play.frozen 3
    have y7 := hx7.play.y_lt
    have HP : Hid (Play9 B w0 w7 P6 h W G (m + 1) c6' (S.set x.ref none) F y (.slice (some ⟨g, 0, none⟩) L.length cap) L) := by rw [HN.out]; exact hx7.play
    have hcp : M ≤ cap := by
      have h1 := HP.out.row.cells (by rw [List.length_map, HN.out]; omega)
      obtain ⟨_, _, _, h2, _⟩ := h1
      rw [List.length_map, HN.out] at h2
      exact h2.1
    have hcm : cap ≤ maxLen := by
      have h1 := HP.out.row.cells (by rw [List.length_map, HN.out]; omega)
      obtain ⟨_, _, _, h2, _⟩ := h1
      exact h2.2
    clear hx7
    by_cases hcap : cap = i + 1
    · subst hcap
      obtain ⟨v1, w8, ao8, c8, w9, hr1, hr2, y8, y9, hP9⟩ := HP.out.del (i := i) (by rw [HN.out]; exact hil) (by rw [HN.out]; exact HLb) ⟨g, 0, none⟩ (.inr (by rw [HN.out]; omega)) 0
      have HP9 : Hid _ := hP9
      rw [HN.out, show M - (i + 1) = 0 by omega] at hr2
      rw [HN.out] at HP9
      have k8 : w8.cell? ⟨y, 3, none⟩ = some (.slice (some ⟨g, 0, none⟩) M (i + 1)) := (cell_of1 (a := ⟨y, 3, none⟩) y8).trans c7
      have k9 : w9.cell? ⟨y, 3, none⟩ = some (.slice (some ⟨g, 0, none⟩) M (i + 1)) := (cell_of1 (a := ⟨y, 3, none⟩) y9).trans c7
      have z9 : w9.frozen? ⟨y, 3, none⟩ = false := (World.frozen?_of_block (a := ⟨y, 3, none⟩) y9).trans z7
      have ya : ∀ ob, (w7.alloc ob).cell? ⟨y, 3, none⟩ = some (.slice (some ⟨g, 0, none⟩) M (i + 1)) := fun ob => cell_alloc c7 ob
      clear hP9 y8 y9
      as_aux_lemma =>
        go_wp2_with fail
        go_region
        go_wp2_with (go_at_call 8; refine (num_any _ _).mono ?_; rintro e w9 ⟨rfl, hw9⟩; replace hw9 := hw9.symm; subst hw9)
        go_ret
        exact ⟨rfl, P6, c6', _, F, _, _, HP9.out, HG.out⟩
    · have hc0 : ¬ cap = 0 := by omega
      obtain ⟨v1, w8, ao8, c8, w9, hr1, hr2, y8, y9, hP9⟩ := HP.out.del (i := i) (by rw [HN.out]; exact hil) (by rw [HN.out]; exact HLb) ⟨g, (i + 1) * 4, none⟩ (.inl rfl) (cap - (i + 1))
      have HP9 : Hid _ := hP9
      rw [HN.out] at hr2
      rw [HN.out] at HP9
      have k8 : w8.cell? ⟨y, 3, none⟩ = some (.slice (some ⟨g, 0, none⟩) M cap) := (cell_of1 (a := ⟨y, 3, none⟩) y8).trans c7
      have k9 : w9.cell? ⟨y, 3, none⟩ = some (.slice (some ⟨g, 0, none⟩) M cap) := (cell_of1 (a := ⟨y, 3, none⟩) y9).trans c7
      have z9 : w9.frozen? ⟨y, 3, none⟩ = false := (World.frozen?_of_block (a := ⟨y, 3, none⟩) y9).trans z7
      have ya : ∀ ob, (w7.alloc ob).cell? ⟨y, 3, none⟩ = some (.slice (some ⟨g, 0, none⟩) M cap) := fun ob => cell_alloc c7 ob
      clear hP9 y8 y9
      as_aux_lemma =>
        go_wp2_with fail
        go_region
        go_wp2_with (go_at_call 8; refine (num_any _ _).mono ?_; rintro e w9 ⟨rfl, hw9⟩; replace hw9 := hw9.symm; subst hw9)
        go_ret
        exact ⟨rfl, P6, c6', _, F, _, _, HP9.out, HG.out⟩
  · have hg : Gone G S A t := HA.out.gone hR (by omega)
    have HF : Hid (∀ u, Hv B w0 u P h W G m c S F → Calls Tryz.prog 19 #[.pointer (some ⟨h, 0, none⟩), .int .i64 A, .int .i64 t] u fun e w' => e = .returned (.int .i64 904) ∧ Below u.heap.size u w') := fun u hu => z_free_no hu (by omega) A t hg
    clear hR hg
    have l1 := hx2.apart.1
    have l2 := hx2.play.y_lt
    go_wp2_with (go_at_call 14; refine hat.mono ?_; rintro e w9 ⟨rfl, hw9⟩; replace hw9 := hw9.symm; subst hw9)
    clear hat
    have hd := hx2.below (below_drewN wc 1 _)
    have hF2 := HF.out _ hd.play.hv
    go_region_held3 (fun w' => w'.cell? ⟨y, 0, none⟩ = some (.pointer (some ⟨h, 0, none⟩)) ∧ w'.cell? ⟨w.heap.size, 1, none⟩ = some (.int .i64 A)) (go_keep) ((go_at_call 19; refine hF2.mono ?_; rintro e w6 ⟨rfl, hb6⟩; have hx6 := hd.below hb6; have f6 := hx6.six; have c6 := hx6.play.cells; clear hb6))
    clear hx2 hd c0 c1 hF2 HF l1 l2
    by_cases a0 : A < 0
    · clear hn
      as_aux_lemma =>
        go_wp2
        go_quiet (fail)
        all_goals
          have HX : Hid _ := (hx6.below (below_drewN w6 nq _)).play
          generalize World.drewN _ _ = w7 at *
          go_wp2_with (go_at_call 8; refine (num_any _ _).mono ?_; rintro e w9 ⟨rfl, hw9⟩; replace hw9 := hw9.symm; subst hw9)
          go_ret
          exact ⟨rfl, Edge9.same HX.out HA.out⟩
    · have a2 : decide (A < 0) = false := by simp; omega
      by_cases a1 : (G : Int) ≤ A
      · clear hn
        as_aux_lemma =>
          go_wp2
          go_quiet (fail)
          all_goals
            have HX : Hid _ := (hx6.below (below_drewN w6 nq _)).play
            generalize World.drewN _ _ = w7 at *
            go_wp2_with (go_at_call 8; refine (num_any _ _).mono ?_; rintro e w9 ⟨rfl, hw9⟩; replace hw9 := hw9.symm; subst hw9)
            go_ret
            exact ⟨rfl, Edge9.same HX.out HA.out⟩
      · have a3 : decide ((G : Int) ≤ A) = false := by simp; omega
        have hr : R < 0 := by omega
        clear hn a0 a1
        as_aux_lemma =>
          go_wp2
          go_quiet (fail)
          all_goals
            have HX : Hid _ := (hx6.below (below_drewN w6 nq _)).play
            generalize World.drewN _ _ = w7 at *
            go_wp2_with (go_at_call 8; refine (num_any _ _).mono ?_; rintro e w9 ⟨rfl, hw9⟩; replace hw9 := hw9.symm; subst hw9)
            go_ret
            exact ⟨rfl, Edge9.same HX.out HA.out⟩
end Go.Proofs.YtnnjinkadcagdaaGreat
