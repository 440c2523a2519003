/- (*play).act of SpineActs: Drop. -/
import Derived.Test.YtjfjgfkfbbigbaaPEdge
import Derived.BigRegion
import Derived.Deep.DeepCutAuto
import Derived.BigQuiet
namespace Go.Proofs.Ytjfjgfkfbbigbaa
open Go.RowKit
set_option maxRecDepth 20000 in
set_option maxHeartbeats 8000000 in
theorem act_drop {B : Nat} {w0 w : World} {P : Nat → Prop} {s b W y : Nat} {half : Int} {v : Value} {bg : Int} {un : Bool} {L : List Rec} {q : St} {V : Int → Int → Int} {c : Int → Int} (h : Play B w0 w P s b W y half v bg un L q V c) (hA : Agr7 q V half bg un L) {m : Nat} (hc : (∀ j, 0 ≤ c j ∧ c j ≤ 2000 * (m : Int)) ∧ q.given ≤ (m : Int) ∧ (0 ≤ bg ∧ bg ≤ (m : Int)) ∧ m ≤ 400) (K A p I n : Int) (hK : K = 6) :
    Calls Try.prog 8 #[.pointer (some ⟨y, 0, none⟩), .agg #[.int .i64 K, .int .i64 A, .int .i64 p, .int .i64 I, .int .i64 n]] w (ActPost7 B w0 s b W y half (m + 1)) := by
  have hlen : L.length ≤ 65536 := by
    obtain ⟨hW, bw, bs, vv, f, hS, hI⟩ := h.gd
    have h1 := hA.sum hI
    have h2 := hI.sums
    have h3 := hI.big
    have h4 := hI.base0
    have h5 := hI.half0
    have h6 := sumR_len L
    omega
  obtain ⟨ao, cap, rfl⟩ := h.row.form
  have hx0 := Pb.start h K A p I n
  have HIx : Hid (∀ i, i < L.length → ∃ x, L[i]? = some x) := fun i hi => ⟨_, List.getElem?_eq_getElem hi⟩
  have HFo : Hid (∀ t, ∃ R, Found L t R) := found_any L
  have HLe : Hid (L.length ≤ 65536) := hlen
  generalize hN : L.length = N at *
  have HN : Hid (L.length = N) := hN
  have HA : Hid (Agr7 q V half bg un L) := hA
  have Hc : Hid ((∀ j, 0 ≤ c j ∧ c j ≤ 2000 * (m : Int)) ∧ q.given ≤ (m : Int) ∧ (0 ≤ bg ∧ bg ≤ (m : Int)) ∧ m ≤ 400) := hc
  have HK : Hid (K = 6) := hK
  have HNb : Hid (N ≤ 65536) := hlen
  obtain ⟨bb, hbb⟩ : ∃ bb : Bool, bb = (decide (0 < N) && decide (0 ≤ p)) := ⟨_, rfl⟩
  have HB : Hid (bb = (decide (0 < N) && decide (0 ≤ p))) := hbb
  obtain ⟨ag, hg⟩ : ∃ ag : Bool, ag = decide (0 ≤ A ∧ A < 3) := ⟨_, rfl⟩
  have Hg : Hid (ag = decide (0 ≤ A ∧ A < 3)) := hg
  clear hN hA hc hK hbb hg h hlen
  have c0 := hx0.play.here.cells
  have c1 := hx0.five
  go_enter Try.func8, Try.ntmps8
  go_upto_region 2 with fail
  generalize World.alloc _ _ = W1 at *
  go_cut [26] from 16 to 26 (fun s26 wx => s26 = .bool bb ∧ wx = W1)
  case first =>
    rcases Nat.eq_zero_or_pos N with hz | hz
    · have hz1 : decide ((0 : Int) < (N : Int)) = false := by simp; omega
      have hz2 : decide (0 < N) = false := by simp; omega
      as_aux_lemma =>
        go_wp2_with fail
        go_meet
        exact ⟨by rw [HB.out, hz2]; rfl, rfl⟩
    · have hz1 : (0 : Int) < (N : Int) := by omega
      by_cases p0 : 0 ≤ p
      · as_aux_lemma =>
          go_wp2_with fail
          go_meet
          exact ⟨by rw [HB.out, decide_eq_true hz, decide_eq_true p0]; rfl, rfl⟩
      · have p1 : decide (0 ≤ p) = false := by simp; omega
        as_aux_lemma =>
          go_wp2_with fail
          go_meet
          exact ⟨by rw [HB.out, decide_eq_true hz, p1]; rfl, rfl⟩
  case rest =>
  obtain ⟨rfl, rfl⟩ := hcut
  go_upto_if 26 with fail
  go_cut [5] from 27 to 41 (fun s5 wx => ∃ t : Int, s5 = .int .i64 t ∧ Pb B w0 wx P s b W y half (.slice ao N cap) bg un L q V c w.heap.size K A p I n)
  case first =>
    cases bb with
    | false =>
      as_aux_lemma =>
        go_wp2_with fail
        go_meet
        exact ⟨p, rfl, hx0⟩
    | true =>
      have hb2 := HB.out
      simp only [Bool.true_eq, Bool.and_eq_true, decide_eq_true_eq] at hb2
      obtain ⟨hn0, hp0⟩ := hb2
      obtain ⟨pn, rfl⟩ := Int.eq_ofNat_of_zero_le hp0
      have hj : pn % N < N := Nat.mod_lt _ hn0
      obtain ⟨x, hx⟩ := HIx.out (pn % N) hj
      obtain ⟨g, rfl⟩ := hx0.play.addr hx
      have r0 := (hx0.play.recd hx).1
      have HX : Hid (L[pn % N]? = some x) := hx
      have hne : ((N : Int) == 0) = false := by simp; omega
      have hjj : ((pn : Int).tmod (N : Int)) = ((pn % N : Nat) : Int) := by rw [Int.tmod_eq_emod_of_nonneg (by omega)]; simp
      clear hx HB
      as_aux_lemma =>
        go_wp2_with fail
        go_quiet (fail)
        all_goals (go_wp2_with fail; go_meet; exact ⟨x.id, by first | rfl | simp, hx0.below (below_drewN _ _ _)⟩)
  case rest =>
  obtain ⟨t, rfl, hx1⟩ := hcut
  clear hx0 c0 c1 HB
  obtain ⟨R, hR⟩ := HFo.out t
  have HR : Hid (Found L t R) := hR
  have c0 := hx1.play.here.cells
  have c1 := hx1.five
  have hat := pat_any hx1.play.here hx1.play.row (by rw [HN.out]; exact HLe.out) t R hR
  clear hR
  go_upto_region 5 with (go_at_call 22; refine hat.mono ?_; rintro e w9 ⟨rfl, hw9⟩; replace hw9 := hw9.symm; subst hw9)
  clear hat
  go_cut [7] from 45 to 52 (fun s7 wx => s7 = .bool ag ∧ Pb B w0 wx P s b W y half (.slice ao N cap) bg un L q V c w.heap.size K A p I n)
  case first =>
    by_cases a0 : 0 ≤ A
    · by_cases a1 : A < 3
      · as_aux_lemma =>
          go_wp2_with fail
          go_meet
          exact ⟨by rw [Hg.out, decide_eq_true ⟨a0, a1⟩], hx1⟩
      · have a1' : decide (A < 3) = false := by simp; omega
        as_aux_lemma =>
          go_wp2_with fail
          go_meet
          exact ⟨by rw [Hg.out, decide_eq_false (by omega)], hx1⟩
    · have a0' : decide (0 ≤ A) = false := by simp; omega
      as_aux_lemma =>
        go_wp2_with fail
        go_meet
        exact ⟨by rw [Hg.out, decide_eq_false (by omega)], hx1⟩
  case rest =>
  obtain ⟨rfl, hx2⟩ := hcut
  clear hx1 c0 c1
  have c0 := hx2.play.here.cells
  have c1 := hx2.five
  have hk := HK.out
  clear HK
  subst hk
  by_cases hR : R < 0
  · obtain ⟨hR1, hmis⟩ := HR.out.miss hR
    subst hR1
    have hD := drop_no hx2.play.gd t (HA.out.not hmis)
    clear hmis hR
    as_aux_lemma =>
      go_wp2_with (first
        | (go_at_call 17; refine hD.mono ?_; rintro e w6 ⟨rfl, hb6⟩; have hx6 := hx2.below hb6; clear hb6)
        | (go_at_call 12; refine (num_any _ _).mono ?_; rintro e w9 ⟨rfl, hw9⟩; replace hw9 := hw9.symm; subst hw9))
      go_ret
      exact ⟨rfl, Edge7.same hx6.play HA.out Hc.out.1 Hc.out.2.1 Hc.out.2.2.1⟩
  · obtain ⟨i, x, hx, ht, hgo, hRi⟩ := HR.out.got hR
    subst hRi
    obtain ⟨z, hz, e1, e2⟩ := HA.out.hs (List.mem_of_getElem? hx) hgo
    obtain rfl : z.id = t := e1.trans ht
    obtain ⟨g, rfl⟩ := hx2.play.addr hx
    have hD := drop_ok hx2.play.gd hz
    have HP : Hid (SortedA q.xs ∧ q.xs[pos q.xs z.id]? = some z) := by
      obtain ⟨_, _, _, _, _, _, hI⟩ := hx2.play.gd
      exact ⟨hI.sorted, (hI.at_id hz).2⟩
    have HX : Hid (L[i]? = some x) := hx
    have HE : Hid (z.id = x.id ∧ z.n = x.n ∧ x.gone = false) := ⟨e1, e2, hgo⟩
    have hiN : i < N := by have := (List.getElem?_eq_some_iff.1 hx).1; have := HN.out; omega
    have hi0 : decide ((i : Int) < 0) = false := by simp
    have HZ : Hid (z ∈ q.xs) := hz
    clear e1 e2 ht hgo hz hR hx
    as_aux_lemma =>
      go_wp2_with (go_at_call 17; refine hD.mono ?_; rintro e w6 ⟨rfl, hT⟩; obtain ⟨P6, hx6⟩ := hx2.turn hT; have c6 := hx6.play.here.cells; have f6 := hx6.five; have r6 := hx6.play.recd HX.out; clear hT)
      have g6 := fun j => (hx6.play.recd HX.out).2.2.2.2 j
      go_region
      go_wp2_with (go_at_call 12; refine (num_any _ _).mono ?_; rintro e w9 ⟨rfl, hw9⟩; replace hw9 := hw9.symm; subst hw9)
      go_ret
      have hps := HP.out
      have h8 := (hx6.play.mark (p := g) rfl HX.out true bg).below (Below.refl _ _).drew
      refine ⟨rfl, P6, _, bg, un, _, _, V, c, h8, HA.out.drop HX.out HE.out.2.2 hps.1 hps.2 HE.out.1 HE.out.2.1, same_le Hc.out.1, ?_, Hc.out.2.2.1.1, ?_⟩
      · show q.given ≤ _
        have := Hc.out.2.1; omega
      · have := Hc.out.2.2.1.2; omega
end Go.Proofs.Ytjfjgfkfbbigbaa
