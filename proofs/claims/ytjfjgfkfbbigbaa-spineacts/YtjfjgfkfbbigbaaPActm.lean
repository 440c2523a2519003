/- (*play).act of SpineActs: Make. -/
import Derived.Test.YtjfjgfkfbbigbaaPEdge
import Derived.BigRegion
import Derived.Deep.DeepCutAuto
import Derived.BigQuiet
namespace Go.Proofs.Ytjfjgfkfbbigbaa
open Go.RowKit
set_option maxRecDepth 20000 in
set_option maxHeartbeats 8000000 in
theorem act_make {B : Nat} {w0 w : World} {P : Nat → Prop} {s b W y : Nat} {half : Int} {v : Value} {bg : Int} {un : Bool} {L : List Rec} {q : St} {V : Int → Int → Int} {c : Int → Int} (h : Play B w0 w P s b W y half v bg un L q V c) (hA : Agr7 q V half bg un L) {m : Nat} (hc : (∀ j, 0 ≤ c j ∧ c j ≤ 2000 * (m : Int)) ∧ q.given ≤ (m : Int) ∧ (0 ≤ bg ∧ bg ≤ (m : Int)) ∧ m ≤ 400) (K A p I n : Int) (hK : K < 2) :
    Calls Try.prog 8 #[.pointer (some ⟨y, 0, none⟩), .agg #[.int .i64 K, .int .i64 A, .int .i64 p, .int .i64 I, .int .i64 n]] w (ActPost7 B w0 s b W y half (m + 1)) := by
  have hlen : L.length ≤ 65536 := by
    obtain ⟨hW, bw, bs, vv, f, hS, hI⟩ := h.gd
    have h1 := hA.sum hI
    have h2 := hI.sums
    have h3 := hI.big
    have h4 := hI.base0
    have h5 := hI.half0
    have h6 := sumR_len L
    omega
  obtain ⟨ao, cap, rfl⟩ := h.row.form
  have hx0 := Pb.start h K A p I n
  have HIx : Hid (∀ i, i < L.length → ∃ x, L[i]? = some x) := fun i hi => ⟨_, List.getElem?_eq_getElem hi⟩
  have HFo : Hid (∀ t, ∃ R, Found L t R) := found_any L
  have HLe : Hid (L.length ≤ 65536) := hlen
  generalize hN : L.length = N at *
  have HN : Hid (L.length = N) := hN
  have HA : Hid (Agr7 q V half bg un L) := hA
  have Hc : Hid ((∀ j, 0 ≤ c j ∧ c j ≤ 2000 * (m : Int)) ∧ q.given ≤ (m : Int) ∧ (0 ≤ bg ∧ bg ≤ (m : Int)) ∧ m ≤ 400) := hc
  have HK : Hid (K < 2) := hK
  have HNb : Hid (N ≤ 65536) := hlen
  obtain ⟨bb, hbb⟩ : ∃ bb : Bool, bb = (decide (0 < N) && decide (0 ≤ p)) := ⟨_, rfl⟩
  have HB : Hid (bb = (decide (0 < N) && decide (0 ≤ p))) := hbb
  obtain ⟨ag, hg⟩ : ∃ ag : Bool, ag = decide (0 ≤ A ∧ A < 3) := ⟨_, rfl⟩
  have Hg : Hid (ag = decide (0 ≤ A ∧ A < 3)) := hg
  clear hN hA hc hK hbb hg h hlen
  have c0 := hx0.play.here.cells
  have c1 := hx0.five
  go_enter Try.func8, Try.ntmps8
  go_upto_region 2 with fail
  generalize World.alloc _ _ = W1 at *
  go_cut [26] from 16 to 26 (fun s26 wx => s26 = .bool bb ∧ wx = W1)
  case first =>
    rcases Nat.eq_zero_or_pos N with hz | hz
    · have hz1 : decide ((0 : Int) < (N : Int)) = false := by simp; omega
      have hz2 : decide (0 < N) = false := by simp; omega
      as_aux_lemma =>
        go_wp2_with fail
        go_meet
        exact ⟨by rw [HB.out, hz2]; rfl, rfl⟩
    · have hz1 : (0 : Int) < (N : Int) := by omega
      by_cases p0 : 0 ≤ p
      · as_aux_lemma =>
          go_wp2_with fail
          go_meet
          exact ⟨by rw [HB.out, decide_eq_true hz, decide_eq_true p0]; rfl, rfl⟩
      · have p1 : decide (0 ≤ p) = false := by simp; omega
        as_aux_lemma =>
          go_wp2_with fail
          go_meet
          exact ⟨by rw [HB.out, decide_eq_true hz, p1]; rfl, rfl⟩
  case rest =>
  obtain ⟨rfl, rfl⟩ := hcut
  go_upto_if 26 with fail
  go_cut [5] from 27 to 41 (fun s5 wx => ∃ t : Int, s5 = .int .i64 t ∧ Pb B w0 wx P s b W y half (.slice ao N cap) bg un L q V c w.heap.size K A p I n)
  case first =>
    cases bb with
    | false =>
      as_aux_lemma =>
        go_wp2_with fail
        go_meet
        exact ⟨p, rfl, hx0⟩
    | true =>
      have hb2 := HB.out
      simp only [Bool.true_eq, Bool.and_eq_true, decide_eq_true_eq] at hb2
      obtain ⟨hn0, hp0⟩ := hb2
      obtain ⟨pn, rfl⟩ := Int.eq_ofNat_of_zero_le hp0
      have hj : pn % N < N := Nat.mod_lt _ hn0
      obtain ⟨x, hx⟩ := HIx.out (pn % N) hj
      obtain ⟨g, rfl⟩ := hx0.play.addr hx
      have r0 := (hx0.play.recd hx).1
      have HX : Hid (L[pn % N]? = some x) := hx
      have hne : ((N : Int) == 0) = false := by simp; omega
      have hjj : ((pn : Int).tmod (N : Int)) = ((pn % N : Nat) : Int) := by rw [Int.tmod_eq_emod_of_nonneg (by omega)]; simp
      clear hx HB
      as_aux_lemma =>
        go_wp2_with fail
        go_quiet (fail)
        all_goals (go_wp2_with fail; go_meet; exact ⟨x.id, by first | rfl | simp, hx0.below (below_drewN _ _ _)⟩)
  case rest =>
  obtain ⟨t, rfl, hx1⟩ := hcut
  clear hx0 c0 c1 HB
  obtain ⟨R, hR⟩ := HFo.out t
  have HR : Hid (Found L t R) := hR
  have c0 := hx1.play.here.cells
  have c1 := hx1.five
  have hat := pat_any hx1.play.here hx1.play.row (by rw [HN.out]; exact HLe.out) t R hR
  clear hR
  go_upto_region 5 with (go_at_call 22; refine hat.mono ?_; rintro e w9 ⟨rfl, hw9⟩; replace hw9 := hw9.symm; subst hw9)
  clear hat
  go_cut [7] from 45 to 52 (fun s7 wx => s7 = .bool ag ∧ Pb B w0 wx P s b W y half (.slice ao N cap) bg un L q V c w.heap.size K A p I n)
  case first =>
    by_cases a0 : 0 ≤ A
    · by_cases a1 : A < 3
      · as_aux_lemma =>
          go_wp2_with fail
          go_meet
          exact ⟨by rw [Hg.out, decide_eq_true ⟨a0, a1⟩], hx1⟩
      · have a1' : decide (A < 3) = false := by simp; omega
        as_aux_lemma =>
          go_wp2_with fail
          go_meet
          exact ⟨by rw [Hg.out, decide_eq_false (by omega)], hx1⟩
    · have a0' : decide (0 ≤ A) = false := by simp; omega
      as_aux_lemma =>
        go_wp2_with fail
        go_meet
        exact ⟨by rw [Hg.out, decide_eq_false (by omega)], hx1⟩
  case rest =>
  obtain ⟨rfl, hx2⟩ := hcut
  clear hx1 c0 c1
  have c0 := hx2.play.here.cells
  have c1 := hx2.five
  have hk := HK.out
  clear HK
  have k1 : K < 2 := hk
  by_cases hok : (0 ≤ A ∧ A < 3) ∧ (0 ≤ n ∧ n ≤ 1000) ∧ n + 4 ≤ q.half - q.taken
  · obtain ⟨nn, rfl⟩ := Int.eq_ofNat_of_zero_le hok.2.1.1
    have hM := pmake_ok hx2.play HA.out K A p I nn (by omega) (by omega) (by omega) (by have := Hc.out.2.1; have := Hc.out.2.2.2; omega)
    have HO : Hid (nn ≤ 1000) := (show nn ≤ 1000 by omega)
    clear hok hk
    as_aux_lemma =>
      go_wp2_with (go_at_call 23; refine hM.mono ?_; rintro e w3 ⟨rfl, P', v', blk, c', htk, h3⟩)
      go_ret
      refine ⟨rfl, P', v', bg, un, _, _, _, c', h3, HA.out.made ?_ nn blk, tick_le htk (by have := HO.out; omega) Hc.out.2.2.2 Hc.out.1, ?_, Hc.out.2.2.1.1, ?_⟩
      · obtain ⟨_, _, _, _, _, _, hI⟩ := hx2.play.gd
        exact hI.given0
      · show q.given + 1 ≤ _
        have := Hc.out.2.1; omega
      · have := Hc.out.2.2.1.2; omega
  · have hM : ∃ code : Int, (¬ (0 ≤ A ∧ A < 3) ∧ code = 704) ∨ ((0 ≤ A ∧ A < 3) ∧ ¬ (0 ≤ n ∧ n ≤ 1000) ∧ code = 700) ∨ ((0 ≤ A ∧ A < 3) ∧ (0 ≤ n ∧ n ≤ 1000) ∧ q.half - q.taken < n + 4 ∧ code = 702) := by
      by_cases h1 : 0 ≤ A ∧ A < 3
      · by_cases h2 : 0 ≤ n ∧ n ≤ 1000
        · exact ⟨702, .inr (.inr ⟨h1, h2, by omega, rfl⟩)⟩
        · exact ⟨700, .inr (.inl ⟨h1, h2, rfl⟩)⟩
      · exact ⟨704, .inl ⟨h1, rfl⟩⟩
    obtain ⟨code, hcode⟩ := hM
    have hM := pmake_no hx2.play HA.out K A p I n code hcode
    clear hcode hok hk
    as_aux_lemma =>
      go_wp2_with (go_at_call 23; refine hM.mono ?_; rintro e w3 ⟨rfl, h3⟩)
      go_ret
      exact ⟨rfl, Edge7.same h3 HA.out Hc.out.1 Hc.out.2.1 Hc.out.2.2.1⟩
end Go.Proofs.Ytjfjgfkfbbigbaa
