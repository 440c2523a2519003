/- (*play).act of SpineActs: Set. -/
import Derived.Test.YtjfjgfkfbbigbaaPEdge
import Derived.BigRegion
import Derived.Deep.DeepCutAuto
import Derived.BigQuiet
namespace Go.Proofs.Ytjfjgfkfbbigbaa
open Go.RowKit
set_option maxRecDepth 20000 in
set_option maxHeartbeats 8000000 in
theorem act_set {B : Nat} {w0 w : World} {P : Nat → Prop} {s b W y : Nat} {half : Int} {v : Value} {bg : Int} {un : Bool} {L : List Rec} {q : St} {V : Int → Int → Int} {c : Int → Int} (h : Play B w0 w P s b W y half v bg un L q V c) (hA : Agr7 q V half bg un L) {m : Nat} (hc : (∀ j, 0 ≤ c j ∧ c j ≤ 2000 * (m : Int)) ∧ q.given ≤ (m : Int) ∧ (0 ≤ bg ∧ bg ≤ (m : Int)) ∧ m ≤ 400) (K A p I n : Int) (hK : 4 ≤ K ∧ K < 6) :
    Calls Try.prog 8 #[.pointer (some ⟨y, 0, none⟩), .agg #[.int .i64 K, .int .i64 A, .int .i64 p, .int .i64 I, .int .i64 n]] w (ActPost7 B w0 s b W y half (m + 1)) := by
  have hlen : L.length ≤ 65536 := by
    obtain ⟨hW, bw, bs, vv, f, hS, hI⟩ := h.gd
    have h1 := hA.sum hI
    have h2 := hI.sums
    have h3 := hI.big
    have h4 := hI.base0
    have h5 := hI.half0
    have h6 := sumR_len L
    omega
  obtain ⟨ao, cap, rfl⟩ := h.row.form
  have hx0 := Pb.start h K A p I n
  have HIx : Hid (∀ i, i < L.length → ∃ x, L[i]? = some x) := fun i hi => ⟨_, List.getElem?_eq_getElem hi⟩
  have HFo : Hid (∀ t, ∃ R, Found L t R) := found_any L
  have HLe : Hid (L.length ≤ 65536) := hlen
  generalize hN : L.length = N at *
  have HN : Hid (L.length = N) := hN
  have HA : Hid (Agr7 q V half bg un L) := hA
  have Hc : Hid ((∀ j, 0 ≤ c j ∧ c j ≤ 2000 * (m : Int)) ∧ q.given ≤ (m : Int) ∧ (0 ≤ bg ∧ bg ≤ (m : Int)) ∧ m ≤ 400) := hc
  have HK : Hid (4 ≤ K ∧ K < 6) := hK
  have HNb : Hid (N ≤ 65536) := hlen
  obtain ⟨bb, hbb⟩ : ∃ bb : Bool, bb = (decide (0 < N) && decide (0 ≤ p)) := ⟨_, rfl⟩
  have HB : Hid (bb = (decide (0 < N) && decide (0 ≤ p))) := hbb
  obtain ⟨ag, hg⟩ : ∃ ag : Bool, ag = decide (0 ≤ A ∧ A < 3) := ⟨_, rfl⟩
  have Hg : Hid (ag = decide (0 ≤ A ∧ A < 3)) := hg
  clear hN hA hc hK hbb hg h hlen
  have c0 := hx0.play.here.cells
  have c1 := hx0.five
  go_enter Try.func8, Try.ntmps8
  go_upto_region 2 with fail
  generalize World.alloc _ _ = W1 at *
  go_cut [26] from 16 to 26 (fun s26 wx => s26 = .bool bb ∧ wx = W1)
  case first =>
    rcases Nat.eq_zero_or_pos N with hz | hz
    · have hz1 : decide ((0 : Int) < (N : Int)) = false := by simp; omega
      have hz2 : decide (0 < N) = false := by simp; omega
      as_aux_lemma =>
        go_wp2_with fail
        go_meet
        exact ⟨by rw [HB.out, hz2]; rfl, rfl⟩
    · have hz1 : (0 : Int) < (N : Int) := by omega
      by_cases p0 : 0 ≤ p
      · as_aux_lemma =>
          go_wp2_with fail
          go_meet
          exact ⟨by rw [HB.out, decide_eq_true hz, decide_eq_true p0]; rfl, rfl⟩
      · have p1 : decide (0 ≤ p) = false := by simp; omega
        as_aux_lemma =>
          go_wp2_with fail
          go_meet
          exact ⟨by rw [HB.out, decide_eq_true hz, p1]; rfl, rfl⟩
  case rest =>
  obtain ⟨rfl, rfl⟩ := hcut
  go_upto_if 26 with fail
  go_cut [5] from 27 to 41 (fun s5 wx => ∃ t : Int, s5 = .int .i64 t ∧ Pb B w0 wx P s b W y half (.slice ao N cap) bg un L q V c w.heap.size K A p I n)
  case first =>
    cases bb with
    | false =>
      as_aux_lemma =>
        go_wp2_with fail
        go_meet
        exact ⟨p, rfl, hx0⟩
    | true =>
      have hb2 := HB.out
      simp only [Bool.true_eq, Bool.and_eq_true, decide_eq_true_eq] at hb2
      obtain ⟨hn0, hp0⟩ := hb2
      obtain ⟨pn, rfl⟩ := Int.eq_ofNat_of_zero_le hp0
      have hj : pn % N < N := Nat.mod_lt _ hn0
      obtain ⟨x, hx⟩ := HIx.out (pn % N) hj
      obtain ⟨g, rfl⟩ := hx0.play.addr hx
      have r0 := (hx0.play.recd hx).1
      have HX : Hid (L[pn % N]? = some x) := hx
      have hne : ((N : Int) == 0) = false := by simp; omega
      have hjj : ((pn : Int).tmod (N : Int)) = ((pn % N : Nat) : Int) := by rw [Int.tmod_eq_emod_of_nonneg (by omega)]; simp
      clear hx HB
      as_aux_lemma =>
        go_wp2_with fail
        go_quiet (fail)
        all_goals (go_wp2_with fail; go_meet; exact ⟨x.id, by first | rfl | simp, hx0.below (below_drewN _ _ _)⟩)
  case rest =>
  obtain ⟨t, rfl, hx1⟩ := hcut
  clear hx0 c0 c1 HB
  obtain ⟨R, hR⟩ := HFo.out t
  have HR : Hid (Found L t R) := hR
  have c0 := hx1.play.here.cells
  have c1 := hx1.five
  have hat := pat_any hx1.play.here hx1.play.row (by rw [HN.out]; exact HLe.out) t R hR
  clear hR
  go_upto_region 5 with (go_at_call 22; refine hat.mono ?_; rintro e w9 ⟨rfl, hw9⟩; replace hw9 := hw9.symm; subst hw9)
  clear hat
  go_cut [7] from 45 to 52 (fun s7 wx => s7 = .bool ag ∧ Pb B w0 wx P s b W y half (.slice ao N cap) bg un L q V c w.heap.size K A p I n)
  case first =>
    by_cases a0 : 0 ≤ A
    · by_cases a1 : A < 3
      · as_aux_lemma =>
          go_wp2_with fail
          go_meet
          exact ⟨by rw [Hg.out, decide_eq_true ⟨a0, a1⟩], hx1⟩
      · have a1' : decide (A < 3) = false := by simp; omega
        as_aux_lemma =>
          go_wp2_with fail
          go_meet
          exact ⟨by rw [Hg.out, decide_eq_false (by omega)], hx1⟩
    · have a0' : decide (0 ≤ A) = false := by simp; omega
      as_aux_lemma =>
        go_wp2_with fail
        go_meet
        exact ⟨by rw [Hg.out, decide_eq_false (by omega)], hx1⟩
  case rest =>
  obtain ⟨rfl, hx2⟩ := hcut
  clear hx1 c0 c1
  have c0 := hx2.play.here.cells
  have c1 := hx2.five
  have hk := HK.out
  clear HK
  have k1 : decide (K < 2) = false := by simp; omega
  have k2 : decide (K < 4) = false := by simp; omega
  have k3 : K < 6 := by omega
  clear hk
  obtain ⟨bf, hbf, hS⟩ := hx2.steps_any
  have Hbf : Hid (0 ≤ A ∧ A < 3 → bf = c A) := hbf
  clear hbf
  cases hag : ag with
  | false =>
    have hno : ¬ (0 ≤ A ∧ A < 3) := by
      have := Hg.out; rw [hag] at this; simpa using this
    as_aux_lemma =>
      go_wp2
      go_quiet ((go_at_call 24; exact Calls.quiet_of_same (hS _)))
      have hx3 := hx2.below (below_drewN _ nq _)
      clear hx2 hS c0 c1
      generalize World.drewN _ nq = u3 at *
      have c3 := hx3.play.here.cells
      have f3 := hx3.five
      have hd := hx3.below (below_drewN u3 1 _)
      have hG := set_no hd.play.gd A t I n (fun r => hno r.1)
      go_wp2
      go_region_held3 (fun w' => w'.cell? ⟨y, 0, none⟩ = some (.pointer (some ⟨s, 0, none⟩)) ∧ w'.cell? ⟨w.heap.size, 1, none⟩ = some (.int .i64 A) ∧ w'.cell? ⟨w.heap.size, 3, none⟩ = some (.int .i64 I) ∧ w'.cell? ⟨w.heap.size, 4, none⟩ = some (.int .i64 n)) (go_keep) ((go_at_call 16; refine hG.mono ?_; rintro e w6 ⟨rfl, hb6⟩; have hx6 := hd.below hb6; have c6 := hx6.play.here.cells; have f6 := hx6.five; clear hb6))
      go_wp2_with (go_at_call 12; refine (num_any _ _).mono ?_; rintro e w9 ⟨rfl, hw9⟩; replace hw9 := hw9.symm; subst hw9)
      go_ret
      exact ⟨rfl, Edge7.same hx6.play HA.out Hc.out.1 Hc.out.2.1 Hc.out.2.2.1⟩
  | true =>
    have hyes : 0 ≤ A ∧ A < 3 := by
      have := Hg.out; rw [hag] at this; simpa using this
    by_cases hR : R < 0
    · obtain ⟨hR1, hmis⟩ := HR.out.miss hR
      subst hR1
      have hno := HA.out.not hmis
      clear hmis hR
      as_aux_lemma =>
        go_wp2
        go_quiet ((go_at_call 24; exact Calls.quiet_of_same (hS _)))
        have hx3 := hx2.below (below_drewN _ nq _)
        clear hx2 hS c0 c1
        generalize World.drewN _ nq = u3 at *
        have c3 := hx3.play.here.cells
        have f3 := hx3.five
        have hd := hx3.below (below_drewN u3 1 _)
        have hG := set_no hd.play.gd A t I n (fun r => by rw [hno] at r; exact absurd r.2 (by simp))
        go_wp2
        go_region_held3 (fun w' => w'.cell? ⟨y, 0, none⟩ = some (.pointer (some ⟨s, 0, none⟩)) ∧ w'.cell? ⟨w.heap.size, 1, none⟩ = some (.int .i64 A) ∧ w'.cell? ⟨w.heap.size, 3, none⟩ = some (.int .i64 I) ∧ w'.cell? ⟨w.heap.size, 4, none⟩ = some (.int .i64 n)) (go_keep) ((go_at_call 16; refine hG.mono ?_; rintro e w6 ⟨rfl, hb6⟩; have hx6 := hd.below hb6; have c6 := hx6.play.here.cells; have f6 := hx6.five; clear hb6))
        go_wp2_with (go_at_call 12; refine (num_any _ _).mono ?_; rintro e w9 ⟨rfl, hw9⟩; replace hw9 := hw9.symm; subst hw9)
        go_ret
        exact ⟨rfl, Edge7.same hx6.play HA.out Hc.out.1 Hc.out.2.1 Hc.out.2.2.1⟩
    · obtain ⟨i, x, hx, ht, hgo, hRi⟩ := HR.out.got hR
      subst hRi
      obtain ⟨z, hz, e1, e2⟩ := HA.out.hs (List.mem_of_getElem? hx) hgo
      obtain rfl : z.id = t := e1.trans ht
      obtain ⟨g, rfl⟩ := hx2.play.addr hx
      have HX : Hid (L[i]? = some x) := hx
      have HE : Hid (z.id = x.id ∧ z.n = x.n ∧ x.gone = false) := ⟨e1, e2, hgo⟩
      have hiN : i < N := by have := (List.getElem?_eq_some_iff.1 hx).1; have := HN.out; omega
      have hi0 : decide ((i : Int) < 0) = false := by simp
      have HZ : Hid (z ∈ q.xs) := hz
      clear e1 e2 ht hgo hz hR hx
      by_cases hlo : I < 0
      · as_aux_lemma =>
          go_wp2
          go_quiet ((go_at_call 24; exact Calls.quiet_of_same (hS _)))
          have hx3 := hx2.below (below_drewN _ nq _)
          clear hx2 hS c0 c1
          generalize World.drewN _ nq = u3 at *
          have c3 := hx3.play.here.cells
          have f3 := hx3.five
          have hd := hx3.below (below_drewN u3 1 _)
          have hG := set_bounds hd.play.gd HZ.out A I n hyes (by omega)
          go_wp2
          go_region_held3 (fun w' => w'.cell? ⟨y, 0, none⟩ = some (.pointer (some ⟨s, 0, none⟩)) ∧ w'.cell? ⟨w.heap.size, 1, none⟩ = some (.int .i64 A) ∧ w'.cell? ⟨w.heap.size, 3, none⟩ = some (.int .i64 I) ∧ w'.cell? ⟨w.heap.size, 4, none⟩ = some (.int .i64 n)) (go_keep) ((go_at_call 16; refine hG.mono ?_; rintro e w6 ⟨rfl, hb6⟩; have hx6 := hd.below hb6; have c6 := hx6.play.here.cells; have f6 := hx6.five; clear hb6))
          have r6 := hx6.play.recd HX.out
          go_wp2
          go_quiet (fail)
          go_wp2_with (go_at_call 12; refine (num_any _ _).mono ?_; rintro e w9 ⟨rfl, hw9⟩; replace hw9 := hw9.symm; subst hw9)
          go_ret
          exact ⟨rfl, Edge7.same (hx6.below (below_drewN _ nq _)).play HA.out Hc.out.1 Hc.out.2.1 Hc.out.2.2.1⟩
      · obtain ⟨In, rfl⟩ := Int.eq_ofNat_of_zero_le (show 0 ≤ I by omega)
        have hlo2 : decide ((In : Int) < 0) = false := by simp
        clear hlo
        by_cases hhi : x.n ≤ In
        · have hhi2 : (x.n : Int) ≤ (In : Int) := by omega
          as_aux_lemma =>
            go_wp2
            go_quiet ((go_at_call 24; exact Calls.quiet_of_same (hS _)))
            have hx3 := hx2.below (below_drewN _ nq _)
            clear hx2 hS c0 c1
            generalize World.drewN _ nq = u3 at *
            have c3 := hx3.play.here.cells
            have f3 := hx3.five
            have hd := hx3.below (below_drewN u3 1 _)
            have hG := set_bounds hd.play.gd HZ.out A In n hyes (by rw [HE.out.2.1]; omega)
            go_wp2
            go_region_held3 (fun w' => w'.cell? ⟨y, 0, none⟩ = some (.pointer (some ⟨s, 0, none⟩)) ∧ w'.cell? ⟨w.heap.size, 1, none⟩ = some (.int .i64 A) ∧ w'.cell? ⟨w.heap.size, 3, none⟩ = some (.int .i64 In) ∧ w'.cell? ⟨w.heap.size, 4, none⟩ = some (.int .i64 n)) (go_keep) ((go_at_call 16; refine hG.mono ?_; rintro e w6 ⟨rfl, hb6⟩; have hx6 := hd.below hb6; have c6 := hx6.play.here.cells; have f6 := hx6.five; clear hb6))
            have r6 := hx6.play.recd HX.out
            go_wp2
            go_quiet (fail)
            go_wp2_with (go_at_call 12; refine (num_any _ _).mono ?_; rintro e w9 ⟨rfl, hw9⟩; replace hw9 := hw9.symm; subst hw9)
            go_ret
            exact ⟨rfl, Edge7.same (hx6.below (below_drewN _ nq _)).play HA.out Hc.out.1 Hc.out.2.1 Hc.out.2.2.1⟩
        · have hhi2 : decide ((x.n : Int) ≤ (In : Int)) = false := by simp; omega
          have hlt : In < x.n := by omega
          clear hhi
          as_aux_lemma =>
            go_wp2
            go_quiet ((go_at_call 24; exact Calls.quiet_of_same (hS _)))
            have hx3 := hx2.below (below_drewN _ nq _)
            clear hx2 hS c0 c1
            generalize World.drewN _ nq = u3 at *
            have c3 := hx3.play.here.cells
            have f3 := hx3.five
            have hd := hx3.below (below_drewN u3 1 _)
            have hG := set_ok hd.play.gd HZ.out A In n hyes (by rw [HE.out.2.1]; omega)
            go_wp2
            go_region_held3 (fun w' => w'.cell? ⟨y, 0, none⟩ = some (.pointer (some ⟨s, 0, none⟩)) ∧ w'.cell? ⟨w.heap.size, 1, none⟩ = some (.int .i64 A) ∧ w'.cell? ⟨w.heap.size, 3, none⟩ = some (.int .i64 In) ∧ w'.cell? ⟨w.heap.size, 4, none⟩ = some (.int .i64 n)) (go_keep) ((go_at_call 16; refine hG.mono ?_; rintro e w6 ⟨rfl, c', htk, hT⟩; obtain ⟨P6, hx6⟩ := hd.turn hT; have c6 := hx6.play.here.cells; have f6 := hx6.five; have r6 := hx6.play.recd HX.out; have HT : Hid (Ticked c c' A 4) := htk; clear hT htk))
            have hle : c' A ≤ bf + 6 := by
              obtain ⟨_, d, d1, d2, d3⟩ := HT.out
              have h9 := Hc.out.1 A
              have h8 := Hc.out.2.2.2
              rw [IntWalk.wrap64_in _ (by omega)] at d3
              rw [Hbf.out hyes]; omega
            have hbr : 0 ≤ bf ∧ bf ≤ 1000000 := by
              have h9 := Hc.out.1 A
              have h8 := Hc.out.2.2.2
              rw [Hbf.out hyes]; omega
            go_wp2
            go_quiet (fail)
            have hx7 := hx6.below (below_drewN _ nq _)
            clear hx6 c6 f6 r6 hx3 c3 f3 hd
            generalize World.drewN _ nq = u7 at *
            have c7 := hx7.play.here.cells
            have f7 := hx7.five
            have r7 := hx7.play.recd HX.out
            have w7 := hx7.play.wd HX.out hlt
            have g7 := hx7.play.wf HX.out In
            go_wp2
            go_region
            have hx8 := (hx7.store HX.out In n).below (Below.refl _ _).drew
            clear hx7 c7 f7 r7 w7 g7
            generalize World.drew _ = u8 at *
            have c8 := hx8.play.here.cells
            have f8 := hx8.five
            have hS8 := fun k => (hx8.below (below_drewN _ k _)).play.gd.steps A (by omega)
            go_wp2
            go_quiet ((first | (go_at_call 12; exact Calls.quiet_of_same (num_any _ _)) | (go_at_call 24; exact Calls.quiet_of_same (hS8 _))))
            go_wp2
            go_ret
            exact ⟨rfl, _, _, bg, un, _, q, _, c', (hx8.below (below_drewN _ nq _)).play, by rw [HE.out.1]; exact HA.out.set HX.out In n, tick_le HT.out (by omega) Hc.out.2.2.2 Hc.out.1, by have := Hc.out.2.1; omega, Hc.out.2.2.1.1, by have := Hc.out.2.2.1.2; omega⟩
end Go.Proofs.Ytjfjgfkfbbigbaa
