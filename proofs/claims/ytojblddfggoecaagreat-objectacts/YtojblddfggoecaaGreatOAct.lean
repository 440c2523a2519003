/- (*play).act of ObjectActs: make, word, free, Size. -/
import Derived.Test.YtojblddfggoecaaGreatOMky
import Derived.Test.YtojblddfggoecaaGreatOWl
import Derived.Test.YtojblddfggoecaaGreatOWp
import Derived.Test.YtojblddfggoecaaGreatOFry
import Derived.Test.YtojblddfggoecaaGreatOWd
import Derived.BigRegion
import Derived.Deep.DeepCutAuto
import Derived.BigQuiet
namespace Go.Proofs.YtojblddfggoecaaGreat
open Go.RowKit
set_option maxRecDepth 20000 in
set_option maxHeartbeats 8000000 in
theorem act8_make {B : Nat} {w0 w : World} {P : Nat → Prop} {so p b W N m : Nat} {cs ws : Nat → Int} {O : List Ob} {y : Nat} {vr vo : Value} {L : List Rc} (h : Play8 B w0 w P so p b W N m cs ws O y vr vo (rowR L) L) (hA : Agr8 ws O L) (hm : m ≤ 5000) (K A q I n : Int) (hw : (Lit.int .i64 q).wf = true) (hK : K < 2) :
    Calls Tryz.prog 6 #[.pointer (some ⟨y, 0, none⟩), .agg #[.int .i64 K, .int .i64 A, .int .i64 q, .int .i64 I, .int .i64 n]] w (ActPost8 B w0 so p b W N (m + 1) y) := by
  have hlen : L.length ≤ 1000 := by
    have h1 := tot_len O
    have h2 := h.ev.fit
    obtain ⟨_, _, e⟩ := h.ev.inv
    rw [hA.1, List.length_map, ← hA.1] at h1
    omega
  obtain ⟨ao, cap, evr⟩ := h.refs.form
  rw [rowR_len] at evr
  subst evr
  have hx0 := Pb8.start h K A q I n
  have HIx : Hid (∀ i, i < L.length → ∃ x g, L[i]? = some x ∧ ao = some ⟨g, 0, none⟩ ∧ ∀ u, Play8 B w0 u P so p b W N m cs ws O y (.slice ao L.length cap) vo (rowR L) L → u.cell? ⟨g, i, none⟩ = some (.int .i64 x.o.ref)) := fun i hi => by
    obtain ⟨g, e, _⟩ := h.refs.cells (by rw [rowR_len]; omega)
    refine ⟨L[i], g, List.getElem?_eq_getElem hi, e, fun u hu => ?_⟩
    obtain ⟨g2, e2, _, _, _, hc⟩ := hu.refs.cells (by rw [rowR_len]; omega)
    rw [e] at e2
    simp only [Option.some.injEq, Addr.mk.injEq, and_true] at e2
    subst e2
    exact hc i _ (by unfold rowR; rw [List.getElem?_map, List.getElem?_eq_getElem hi]; rfl)
  have Hwf : Hid (∀ x ∈ L, (Lit.int .i64 x.o.ref).wf = true) := fun x hx => by
    obtain ⟨mb, T, xs, nn, D, h1, _⟩ := h.ev.sto
    exact (h1.wf (by rw [hA.1]; exact List.mem_map.2 ⟨x, hx, rfl⟩)).1
  have Hq : Hid ((Lit.int .i64 q).wf = true) := hw
  have HA : Hid (Agr8 ws O L) := hA
  have HL : Hid (L.length ≤ 1000) := hlen
  generalize hN : L.length = M at *
  have HN : Hid (L.length = M) := hN
  have HK : Hid (K < 2) := hK
  obtain ⟨bb, hbb⟩ : ∃ bb : Bool, bb = (decide (0 < M) && decide (0 ≤ q)) := ⟨_, rfl⟩
  have HB : Hid (bb = (decide (0 < M) && decide (0 ≤ q))) := hbb
  clear hN hA hw hK hbb h hlen
  have c0 := hx0.play.cells
  have c1 := hx0.five
  go_enter Tryz.func6, Tryz.ntmps6
  go_upto_region 2 with fail
  generalize World.alloc _ _ = W1 at *
  go_cut [20] from 10 to 20 (fun s20 wx => s20 = .bool bb ∧ wx = W1)
  case first =>
    rcases Nat.eq_zero_or_pos M with hz | hz
    · have hz1 : decide ((0 : Int) < (M : Int)) = false := by simp; omega
      have hz2 : decide (0 < M) = false := by simp; omega
      as_aux_lemma =>
        go_wp2_with fail
        go_meet
        exact ⟨by rw [HB.out, hz2]; rfl, rfl⟩
    · have hz1 : (0 : Int) < (M : Int) := by omega
      by_cases p0 : 0 ≤ q
      · as_aux_lemma =>
          go_wp2_with fail
          go_meet
          exact ⟨by rw [HB.out, decide_eq_true hz, decide_eq_true p0]; rfl, rfl⟩
      · have p1 : decide (0 ≤ q) = false := by simp; omega
        as_aux_lemma =>
          go_wp2_with fail
          go_meet
          exact ⟨by rw [HB.out, decide_eq_true hz, p1]; rfl, rfl⟩
  case rest =>
  obtain ⟨rfl, rfl⟩ := hcut
  go_upto_if 20 with fail
  go_cut [5] from 21 to 34 (fun s5 wx => ∃ t : Int, s5 = .int .i64 t ∧ Hid ((Lit.int .i64 t).wf = true) ∧ Pb8 B w0 wx P so p b W N m cs ws O y (.slice ao M cap) vo (rowR L) L w.heap.size K A q I n)
  case first =>
    cases bb with
    | false =>
      have HQ2 := Hq.out
      have HQ3 : Hid (∀ z : Int, z = q → (Lit.int .i64 z).wf = true) := fun z hz => by rw [hz]; exact HQ2
      clear HQ2 Hq
      as_aux_lemma =>
        go_wp2_with fail
        go_meet
        exact ⟨q, rfl, HQ3.out q rfl, hx0⟩
    | true =>
      have hb2 := HB.out
      simp only [Bool.true_eq, Bool.and_eq_true, decide_eq_true_eq] at hb2
      obtain ⟨hn0, hp0⟩ := hb2
      obtain ⟨pn, rfl⟩ := Int.eq_ofNat_of_zero_le hp0
      have hj : pn % M < M := Nat.mod_lt _ hn0
      obtain ⟨x, g, hx, rfl, hcell⟩ := HIx.out (pn % M) hj
      have r0 := hcell _ hx0.play
      have HX : Hid ((Lit.int .i64 x.o.ref).wf = true) := Hwf.out x (List.mem_of_getElem? hx)
      have HX2 : Hid (∀ z : Int, z = x.o.ref → (Lit.int .i64 z).wf = true) := fun z hz => by rw [hz]; exact HX.out
      have hne : ((M : Int) == 0) = false := by simp; omega
      have hjj : ((pn : Int).tmod (M : Int)) = ((pn % M : Nat) : Int) := by rw [Int.tmod_eq_emod_of_nonneg (by omega)]; simp
      clear hx HB hcell HX Hq
      as_aux_lemma =>
        go_wp2_with fail
        go_quiet (fail)
        all_goals (go_wp2_with fail; go_meet; exact ⟨x.o.ref, by first | rfl | simp, HX2.out _ rfl, hx0.below (below_drewN _ _ _)⟩)
  case rest =>
  obtain ⟨t, rfl, Ht, hx2⟩ := hcut
  clear hx0 c0 c1 HB Hq
  have c0 := hx2.play.cells
  have c1 := hx2.five
  have k1 : K < 2 := HK.out
  clear HK
  by_cases ha : 0 ≤ A ∧ A < 3
  · by_cases hn : 0 ≤ n ∧ n ≤ 64
    · obtain ⟨nn, rfl⟩ := Int.eq_ofNat_of_zero_le hn.1
      by_cases hf : 1 + (nn + 5) / 6 + tot O ≤ N
      · have hC := mk8_ok hx2.play HA.out hm K A q I nn ha (by omega) hf
        clear Ht
        as_aux_lemma =>
          go_wp2_with (go_at_call 20; refine hC.mono ?_; rintro e w3 ⟨rfl, hE⟩)
          go_ret
          exact ⟨rfl, hE⟩
      · have hC := mk8_none hx2.play HA.out hm K A q I nn ha (by omega) hf
        clear Ht
        as_aux_lemma =>
          go_wp2_with (go_at_call 20; refine hC.mono ?_; rintro e w3 ⟨rfl, hE⟩)
          go_ret
          exact ⟨rfl, hE⟩
    · have hC := mk8_no hx2.play HA.out K A q I n 800 (.inr ⟨ha, hn, rfl⟩)
      clear Ht
      as_aux_lemma =>
        go_wp2_with (go_at_call 20; refine hC.mono ?_; rintro e w3 ⟨rfl, hE⟩)
        go_ret
        exact ⟨rfl, hE⟩
  · have hC := mk8_no hx2.play HA.out K A q I n 803 (.inl ⟨ha, rfl⟩)
    clear Ht
    as_aux_lemma =>
      go_wp2_with (go_at_call 20; refine hC.mono ?_; rintro e w3 ⟨rfl, hE⟩)
      go_ret
      exact ⟨rfl, hE⟩
set_option maxRecDepth 20000 in
set_option maxHeartbeats 8000000 in
theorem act8_word {B : Nat} {w0 w : World} {P : Nat → Prop} {so p b W N m : Nat} {cs ws : Nat → Int} {O : List Ob} {y : Nat} {vr vo : Value} {L : List Rc} (h : Play8 B w0 w P so p b W N m cs ws O y vr vo (rowR L) L) (hA : Agr8 ws O L) (hm : m ≤ 5000) (K A q I n : Int) (hw : (Lit.int .i64 q).wf = true) (hK : 2 ≤ K ∧ K < 6) :
    Calls Tryz.prog 6 #[.pointer (some ⟨y, 0, none⟩), .agg #[.int .i64 K, .int .i64 A, .int .i64 q, .int .i64 I, .int .i64 n]] w (ActPost8 B w0 so p b W N (m + 1) y) := by
  have hlen : L.length ≤ 1000 := by
    have h1 := tot_len O
    have h2 := h.ev.fit
    obtain ⟨_, _, e⟩ := h.ev.inv
    rw [hA.1, List.length_map, ← hA.1] at h1
    omega
  obtain ⟨ao, cap, evr⟩ := h.refs.form
  rw [rowR_len] at evr
  subst evr
  have hx0 := Pb8.start h K A q I n
  have HIx : Hid (∀ i, i < L.length → ∃ x g, L[i]? = some x ∧ ao = some ⟨g, 0, none⟩ ∧ ∀ u, Play8 B w0 u P so p b W N m cs ws O y (.slice ao L.length cap) vo (rowR L) L → u.cell? ⟨g, i, none⟩ = some (.int .i64 x.o.ref)) := fun i hi => by
    obtain ⟨g, e, _⟩ := h.refs.cells (by rw [rowR_len]; omega)
    refine ⟨L[i], g, List.getElem?_eq_getElem hi, e, fun u hu => ?_⟩
    obtain ⟨g2, e2, _, _, _, hc⟩ := hu.refs.cells (by rw [rowR_len]; omega)
    rw [e] at e2
    simp only [Option.some.injEq, Addr.mk.injEq, and_true] at e2
    subst e2
    exact hc i _ (by unfold rowR; rw [List.getElem?_map, List.getElem?_eq_getElem hi]; rfl)
  have Hwf : Hid (∀ x ∈ L, (Lit.int .i64 x.o.ref).wf = true) := fun x hx => by
    obtain ⟨mb, T, xs, nn, D, h1, _⟩ := h.ev.sto
    exact (h1.wf (by rw [hA.1]; exact List.mem_map.2 ⟨x, hx, rfl⟩)).1
  have Hq : Hid ((Lit.int .i64 q).wf = true) := hw
  have HA : Hid (Agr8 ws O L) := hA
  have HL : Hid (L.length ≤ 1000) := hlen
  generalize hN : L.length = M at *
  have HN : Hid (L.length = M) := hN
  have HK : Hid (2 ≤ K ∧ K < 6) := hK
  obtain ⟨bb, hbb⟩ : ∃ bb : Bool, bb = (decide (0 < M) && decide (0 ≤ q)) := ⟨_, rfl⟩
  have HB : Hid (bb = (decide (0 < M) && decide (0 ≤ q))) := hbb
  clear hN hA hw hK hbb h hlen
  have c0 := hx0.play.cells
  have c1 := hx0.five
  go_enter Tryz.func6, Tryz.ntmps6
  go_upto_region 2 with fail
  generalize World.alloc _ _ = W1 at *
  go_cut [20] from 10 to 20 (fun s20 wx => s20 = .bool bb ∧ wx = W1)
  case first =>
    rcases Nat.eq_zero_or_pos M with hz | hz
    · have hz1 : decide ((0 : Int) < (M : Int)) = false := by simp; omega
      have hz2 : decide (0 < M) = false := by simp; omega
      as_aux_lemma =>
        go_wp2_with fail
        go_meet
        exact ⟨by rw [HB.out, hz2]; rfl, rfl⟩
    · have hz1 : (0 : Int) < (M : Int) := by omega
      by_cases p0 : 0 ≤ q
      · as_aux_lemma =>
          go_wp2_with fail
          go_meet
          exact ⟨by rw [HB.out, decide_eq_true hz, decide_eq_true p0]; rfl, rfl⟩
      · have p1 : decide (0 ≤ q) = false := by simp; omega
        as_aux_lemma =>
          go_wp2_with fail
          go_meet
          exact ⟨by rw [HB.out, decide_eq_true hz, p1]; rfl, rfl⟩
  case rest =>
  obtain ⟨rfl, rfl⟩ := hcut
  go_upto_if 20 with fail
  go_cut [5] from 21 to 34 (fun s5 wx => ∃ t : Int, s5 = .int .i64 t ∧ Hid ((Lit.int .i64 t).wf = true) ∧ Pb8 B w0 wx P so p b W N m cs ws O y (.slice ao M cap) vo (rowR L) L w.heap.size K A q I n)
  case first =>
    cases bb with
    | false =>
      have HQ2 := Hq.out
      have HQ3 : Hid (∀ z : Int, z = q → (Lit.int .i64 z).wf = true) := fun z hz => by rw [hz]; exact HQ2
      clear HQ2 Hq
      as_aux_lemma =>
        go_wp2_with fail
        go_meet
        exact ⟨q, rfl, HQ3.out q rfl, hx0⟩
    | true =>
      have hb2 := HB.out
      simp only [Bool.true_eq, Bool.and_eq_true, decide_eq_true_eq] at hb2
      obtain ⟨hn0, hp0⟩ := hb2
      obtain ⟨pn, rfl⟩ := Int.eq_ofNat_of_zero_le hp0
      have hj : pn % M < M := Nat.mod_lt _ hn0
      obtain ⟨x, g, hx, rfl, hcell⟩ := HIx.out (pn % M) hj
      have r0 := hcell _ hx0.play
      have HX : Hid ((Lit.int .i64 x.o.ref).wf = true) := Hwf.out x (List.mem_of_getElem? hx)
      have HX2 : Hid (∀ z : Int, z = x.o.ref → (Lit.int .i64 z).wf = true) := fun z hz => by rw [hz]; exact HX.out
      have hne : ((M : Int) == 0) = false := by simp; omega
      have hjj : ((pn : Int).tmod (M : Int)) = ((pn % M : Nat) : Int) := by rw [Int.tmod_eq_emod_of_nonneg (by omega)]; simp
      clear hx HB hcell HX Hq
      as_aux_lemma =>
        go_wp2_with fail
        go_quiet (fail)
        all_goals (go_wp2_with fail; go_meet; exact ⟨x.o.ref, by first | rfl | simp, HX2.out _ rfl, hx0.below (below_drewN _ _ _)⟩)
  case rest =>
  obtain ⟨t, rfl, Ht, hx2⟩ := hcut
  clear hx0 c0 c1 HB Hq
  have c0 := hx2.play.cells
  have c1 := hx2.five
  have hk := HK.out
  clear HK
  have k1 : decide (K < 2) = false := by simp; omega
  have k2 : K < 6 := by omega
  by_cases k3 : K < 4
  · have hC := word_load hx2.play HA.out hm K A q I n t Ht.out k3
    clear Ht hk k3
    as_aux_lemma =>
      go_wp2_with (go_at_call 21; refine hC.mono ?_; rintro e w3 ⟨rfl, hE⟩)
      go_ret
      exact ⟨rfl, hE⟩
  · have hC := word_put hx2.play HA.out hm K A q I n t Ht.out (by omega)
    clear Ht hk k3
    as_aux_lemma =>
      go_wp2_with (go_at_call 21; refine hC.mono ?_; rintro e w3 ⟨rfl, hE⟩)
      go_ret
      exact ⟨rfl, hE⟩
set_option maxRecDepth 20000 in
set_option maxHeartbeats 8000000 in
theorem act8_free {B : Nat} {w0 w : World} {P : Nat → Prop} {so p b W N m : Nat} {cs ws : Nat → Int} {O : List Ob} {y : Nat} {vr vo : Value} {L : List Rc} (h : Play8 B w0 w P so p b W N m cs ws O y vr vo (rowR L) L) (hA : Agr8 ws O L) (hm : m ≤ 5000) (K A q I n : Int) (hw : (Lit.int .i64 q).wf = true) (hK : K = 6) :
    Calls Tryz.prog 6 #[.pointer (some ⟨y, 0, none⟩), .agg #[.int .i64 K, .int .i64 A, .int .i64 q, .int .i64 I, .int .i64 n]] w (ActPost8 B w0 so p b W N (m + 1) y) := by
  have hlen : L.length ≤ 1000 := by
    have h1 := tot_len O
    have h2 := h.ev.fit
    obtain ⟨_, _, e⟩ := h.ev.inv
    rw [hA.1, List.length_map, ← hA.1] at h1
    omega
  obtain ⟨ao, cap, evr⟩ := h.refs.form
  rw [rowR_len] at evr
  subst evr
  have hx0 := Pb8.start h K A q I n
  have HIx : Hid (∀ i, i < L.length → ∃ x g, L[i]? = some x ∧ ao = some ⟨g, 0, none⟩ ∧ ∀ u, Play8 B w0 u P so p b W N m cs ws O y (.slice ao L.length cap) vo (rowR L) L → u.cell? ⟨g, i, none⟩ = some (.int .i64 x.o.ref)) := fun i hi => by
    obtain ⟨g, e, _⟩ := h.refs.cells (by rw [rowR_len]; omega)
    refine ⟨L[i], g, List.getElem?_eq_getElem hi, e, fun u hu => ?_⟩
    obtain ⟨g2, e2, _, _, _, hc⟩ := hu.refs.cells (by rw [rowR_len]; omega)
    rw [e] at e2
    simp only [Option.some.injEq, Addr.mk.injEq, and_true] at e2
    subst e2
    exact hc i _ (by unfold rowR; rw [List.getElem?_map, List.getElem?_eq_getElem hi]; rfl)
  have Hwf : Hid (∀ x ∈ L, (Lit.int .i64 x.o.ref).wf = true) := fun x hx => by
    obtain ⟨mb, T, xs, nn, D, h1, _⟩ := h.ev.sto
    exact (h1.wf (by rw [hA.1]; exact List.mem_map.2 ⟨x, hx, rfl⟩)).1
  have Hq : Hid ((Lit.int .i64 q).wf = true) := hw
  have HA : Hid (Agr8 ws O L) := hA
  have HL : Hid (L.length ≤ 1000) := hlen
  generalize hN : L.length = M at *
  have HN : Hid (L.length = M) := hN
  have HK : Hid (K = 6) := hK
  obtain ⟨bb, hbb⟩ : ∃ bb : Bool, bb = (decide (0 < M) && decide (0 ≤ q)) := ⟨_, rfl⟩
  have HB : Hid (bb = (decide (0 < M) && decide (0 ≤ q))) := hbb
  clear hN hA hw hK hbb h hlen
  have c0 := hx0.play.cells
  have c1 := hx0.five
  go_enter Tryz.func6, Tryz.ntmps6
  go_upto_region 2 with fail
  generalize World.alloc _ _ = W1 at *
  go_cut [20] from 10 to 20 (fun s20 wx => s20 = .bool bb ∧ wx = W1)
  case first =>
    rcases Nat.eq_zero_or_pos M with hz | hz
    · have hz1 : decide ((0 : Int) < (M : Int)) = false := by simp; omega
      have hz2 : decide (0 < M) = false := by simp; omega
      as_aux_lemma =>
        go_wp2_with fail
        go_meet
        exact ⟨by rw [HB.out, hz2]; rfl, rfl⟩
    · have hz1 : (0 : Int) < (M : Int) := by omega
      by_cases p0 : 0 ≤ q
      · as_aux_lemma =>
          go_wp2_with fail
          go_meet
          exact ⟨by rw [HB.out, decide_eq_true hz, decide_eq_true p0]; rfl, rfl⟩
      · have p1 : decide (0 ≤ q) = false := by simp; omega
        as_aux_lemma =>
          go_wp2_with fail
          go_meet
          exact ⟨by rw [HB.out, decide_eq_true hz, p1]; rfl, rfl⟩
  case rest =>
  obtain ⟨rfl, rfl⟩ := hcut
  go_upto_if 20 with fail
  go_cut [5] from 21 to 34 (fun s5 wx => ∃ t : Int, s5 = .int .i64 t ∧ Hid ((Lit.int .i64 t).wf = true) ∧ Pb8 B w0 wx P so p b W N m cs ws O y (.slice ao M cap) vo (rowR L) L w.heap.size K A q I n)
  case first =>
    cases bb with
    | false =>
      have HQ2 := Hq.out
      have HQ3 : Hid (∀ z : Int, z = q → (Lit.int .i64 z).wf = true) := fun z hz => by rw [hz]; exact HQ2
      clear HQ2 Hq
      as_aux_lemma =>
        go_wp2_with fail
        go_meet
        exact ⟨q, rfl, HQ3.out q rfl, hx0⟩
    | true =>
      have hb2 := HB.out
      simp only [Bool.true_eq, Bool.and_eq_true, decide_eq_true_eq] at hb2
      obtain ⟨hn0, hp0⟩ := hb2
      obtain ⟨pn, rfl⟩ := Int.eq_ofNat_of_zero_le hp0
      have hj : pn % M < M := Nat.mod_lt _ hn0
      obtain ⟨x, g, hx, rfl, hcell⟩ := HIx.out (pn % M) hj
      have r0 := hcell _ hx0.play
      have HX : Hid ((Lit.int .i64 x.o.ref).wf = true) := Hwf.out x (List.mem_of_getElem? hx)
      have HX2 : Hid (∀ z : Int, z = x.o.ref → (Lit.int .i64 z).wf = true) := fun z hz => by rw [hz]; exact HX.out
      have hne : ((M : Int) == 0) = false := by simp; omega
      have hjj : ((pn : Int).tmod (M : Int)) = ((pn % M : Nat) : Int) := by rw [Int.tmod_eq_emod_of_nonneg (by omega)]; simp
      clear hx HB hcell HX Hq
      as_aux_lemma =>
        go_wp2_with fail
        go_quiet (fail)
        all_goals (go_wp2_with fail; go_meet; exact ⟨x.o.ref, by first | rfl | simp, HX2.out _ rfl, hx0.below (below_drewN _ _ _)⟩)
  case rest =>
  obtain ⟨t, rfl, Ht, hx2⟩ := hcut
  clear hx0 c0 c1 HB Hq
  have c0 := hx2.play.cells
  have c1 := hx2.five
  have hk := HK.out
  clear HK
  subst hk
  obtain ⟨R, hR⟩ := fnd_any t L
  by_cases hn : (0 ≤ A ∧ A < 3) ∧ ¬ R < 0
  · obtain ⟨i, x, hx, rfl, rfl⟩ := hR.got hn.2
    have hC := free8_ok hx2.play HA.out (by rw [HN.out]; exact HL.out) hm 6 A q I n hn.1 hx hR
    clear Ht hn hx hR
    as_aux_lemma =>
      go_wp2_with (go_at_call 22; refine hC.mono ?_; rintro e w3 ⟨rfl, hE⟩)
      go_ret
      exact ⟨rfl, hE⟩
  · have hC := free8_no hx2.play HA.out (by rw [HN.out]; exact HL.out) 6 A q I n t Ht.out R hR hn
    clear Ht hn hR
    as_aux_lemma =>
      go_wp2_with (go_at_call 22; refine hC.mono ?_; rintro e w3 ⟨rfl, hE⟩)
      go_ret
      exact ⟨rfl, hE⟩
set_option maxRecDepth 20000 in
set_option maxHeartbeats 8000000 in
theorem act8_size {B : Nat} {w0 w : World} {P : Nat → Prop} {so p b W N m : Nat} {cs ws : Nat → Int} {O : List Ob} {y : Nat} {vr vo : Value} {L : List Rc} (h : Play8 B w0 w P so p b W N m cs ws O y vr vo (rowR L) L) (hA : Agr8 ws O L) (_hm : m ≤ 5000) (K A q I n : Int) (hw : (Lit.int .i64 q).wf = true) (hK : 7 ≤ K) :
    Calls Tryz.prog 6 #[.pointer (some ⟨y, 0, none⟩), .agg #[.int .i64 K, .int .i64 A, .int .i64 q, .int .i64 I, .int .i64 n]] w (ActPost8 B w0 so p b W N (m + 1) y) := by
  have hlen : L.length ≤ 1000 := by
    have h1 := tot_len O
    have h2 := h.ev.fit
    obtain ⟨_, _, e⟩ := h.ev.inv
    rw [hA.1, List.length_map, ← hA.1] at h1
    omega
  obtain ⟨ao, cap, evr⟩ := h.refs.form
  rw [rowR_len] at evr
  subst evr
  have hx0 := Pb8.start h K A q I n
  have HIx : Hid (∀ i, i < L.length → ∃ x g, L[i]? = some x ∧ ao = some ⟨g, 0, none⟩ ∧ ∀ u, Play8 B w0 u P so p b W N m cs ws O y (.slice ao L.length cap) vo (rowR L) L → u.cell? ⟨g, i, none⟩ = some (.int .i64 x.o.ref)) := fun i hi => by
    obtain ⟨g, e, _⟩ := h.refs.cells (by rw [rowR_len]; omega)
    refine ⟨L[i], g, List.getElem?_eq_getElem hi, e, fun u hu => ?_⟩
    obtain ⟨g2, e2, _, _, _, hc⟩ := hu.refs.cells (by rw [rowR_len]; omega)
    rw [e] at e2
    simp only [Option.some.injEq, Addr.mk.injEq, and_true] at e2
    subst e2
    exact hc i _ (by unfold rowR; rw [List.getElem?_map, List.getElem?_eq_getElem hi]; rfl)
  have Hwf : Hid (∀ x ∈ L, (Lit.int .i64 x.o.ref).wf = true) := fun x hx => by
    obtain ⟨mb, T, xs, nn, D, h1, _⟩ := h.ev.sto
    exact (h1.wf (by rw [hA.1]; exact List.mem_map.2 ⟨x, hx, rfl⟩)).1
  have Hq : Hid ((Lit.int .i64 q).wf = true) := hw
  have HA : Hid (Agr8 ws O L) := hA
  have HL : Hid (L.length ≤ 1000) := hlen
  generalize hN : L.length = M at *
  have HN : Hid (L.length = M) := hN
  have HK : Hid (7 ≤ K) := hK
  obtain ⟨bb, hbb⟩ : ∃ bb : Bool, bb = (decide (0 < M) && decide (0 ≤ q)) := ⟨_, rfl⟩
  have HB : Hid (bb = (decide (0 < M) && decide (0 ≤ q))) := hbb
  clear hN hA hw hK hbb h hlen
  have c0 := hx0.play.cells
  have c1 := hx0.five
  go_enter Tryz.func6, Tryz.ntmps6
  go_upto_region 2 with fail
  generalize World.alloc _ _ = W1 at *
  go_cut [20] from 10 to 20 (fun s20 wx => s20 = .bool bb ∧ wx = W1)
  case first =>
    rcases Nat.eq_zero_or_pos M with hz | hz
    · have hz1 : decide ((0 : Int) < (M : Int)) = false := by simp; omega
      have hz2 : decide (0 < M) = false := by simp; omega
      as_aux_lemma =>
        go_wp2_with fail
        go_meet
        exact ⟨by rw [HB.out, hz2]; rfl, rfl⟩
    · have hz1 : (0 : Int) < (M : Int) := by omega
      by_cases p0 : 0 ≤ q
      · as_aux_lemma =>
          go_wp2_with fail
          go_meet
          exact ⟨by rw [HB.out, decide_eq_true hz, decide_eq_true p0]; rfl, rfl⟩
      · have p1 : decide (0 ≤ q) = false := by simp; omega
        as_aux_lemma =>
          go_wp2_with fail
          go_meet
          exact ⟨by rw [HB.out, decide_eq_true hz, p1]; rfl, rfl⟩
  case rest =>
  obtain ⟨rfl, rfl⟩ := hcut
  go_upto_if 20 with fail
  go_cut [5] from 21 to 34 (fun s5 wx => ∃ t : Int, s5 = .int .i64 t ∧ Hid ((Lit.int .i64 t).wf = true) ∧ Pb8 B w0 wx P so p b W N m cs ws O y (.slice ao M cap) vo (rowR L) L w.heap.size K A q I n)
  case first =>
    cases bb with
    | false =>
      have HQ2 := Hq.out
      have HQ3 : Hid (∀ z : Int, z = q → (Lit.int .i64 z).wf = true) := fun z hz => by rw [hz]; exact HQ2
      clear HQ2 Hq
      as_aux_lemma =>
        go_wp2_with fail
        go_meet
        exact ⟨q, rfl, HQ3.out q rfl, hx0⟩
    | true =>
      have hb2 := HB.out
      simp only [Bool.true_eq, Bool.and_eq_true, decide_eq_true_eq] at hb2
      obtain ⟨hn0, hp0⟩ := hb2
      obtain ⟨pn, rfl⟩ := Int.eq_ofNat_of_zero_le hp0
      have hj : pn % M < M := Nat.mod_lt _ hn0
      obtain ⟨x, g, hx, rfl, hcell⟩ := HIx.out (pn % M) hj
      have r0 := hcell _ hx0.play
      have HX : Hid ((Lit.int .i64 x.o.ref).wf = true) := Hwf.out x (List.mem_of_getElem? hx)
      have HX2 : Hid (∀ z : Int, z = x.o.ref → (Lit.int .i64 z).wf = true) := fun z hz => by rw [hz]; exact HX.out
      have hne : ((M : Int) == 0) = false := by simp; omega
      have hjj : ((pn : Int).tmod (M : Int)) = ((pn % M : Nat) : Int) := by rw [Int.tmod_eq_emod_of_nonneg (by omega)]; simp
      clear hx HB hcell HX Hq
      as_aux_lemma =>
        go_wp2_with fail
        go_quiet (fail)
        all_goals (go_wp2_with fail; go_meet; exact ⟨x.o.ref, by first | rfl | simp, HX2.out _ rfl, hx0.below (below_drewN _ _ _)⟩)
  case rest =>
  obtain ⟨t, rfl, Ht, hx2⟩ := hcut
  clear hx0 c0 c1 HB Hq
  have c0 := hx2.play.cells
  have c1 := hx2.five
  have hk := HK.out
  clear HK
  have k1 : decide (K < 2) = false := by simp; omega
  have k2 : decide (K < 6) = false := by simp; omega
  have k3 : (K == 6) = false := by simp; omega
  clear hk
  obtain ⟨R, hR⟩ := fnd_any t L
  have hat := fun k => at8_ok (hx2.below (below_drewN _ k _)).play (by rw [HN.out]; exact HL.out) t R hR
  have hat0 := at8_ok hx2.play (by rw [HN.out]; exact HL.out) t R hR
  by_cases hn : R < 0
  · obtain ⟨rfl, hmis⟩ := hR.miss hn
    have hS := v_sz_no hx2.play.ev Ht.out (ref := t) (fun o ho => by
      rw [HA.out.1] at ho
      obtain ⟨x, hx, rfl⟩ := List.mem_map.1 ho
      exact hmis x hx)
    clear Ht hR hmis hat hn
    as_aux_lemma =>
      go_wp2_with (first
        | (go_at_call 23; refine hS.mono ?_; rintro e w9 ⟨rfl, hw9⟩; replace hw9 := hw9.symm; subst hw9)
        | (go_at_call 8; refine hat0.mono ?_; rintro e w9 ⟨rfl, hw9⟩; replace hw9 := hw9.symm; subst hw9)
        | (go_at_call 11; refine (num_any _ _).mono ?_; rintro e w9 ⟨rfl, hw9⟩; replace hw9 := hw9.symm; subst hw9))
      go_ret
      exact ⟨rfl, Edge8.same hx2.play HA.out⟩
  · obtain ⟨i, x, hx, rfl, rfl⟩ := hR.got hn
    have hS := v_sz hx2.play.ev (HA.out.mem hx)
    obtain ⟨ao2, cap2, rfl⟩ := hx2.play.oform
    obtain ⟨g, rfl⟩ := hx2.play.oaddr hx
    have ho : ∀ k, (World.drewN _ k).cell? ⟨g, i, none⟩ = some (.slice (some ⟨x.blk, 0, none⟩) x.o.n x.o.n) := fun k => (hx2.below (below_drewN _ k _)).play.orow hx
    have hcc := fun k => (hx2.below (below_drewN _ k _)).play.cells
    have ho0 := hx2.play.orow hx
    have hi0 : decide ((i : Int) < 0) = false := by simp
    have hiN : i < M := by have := (List.getElem?_eq_some_iff.1 hx).1; have := HN.out; omega
    rw [HN.out] at c0 hcc
    clear Ht hR hn hx
    as_aux_lemma =>
      go_wp2_with (first
        | (go_at_call 23; refine hS.mono ?_; rintro e w9 ⟨rfl, hw9⟩; replace hw9 := hw9.symm; subst hw9)
        | (go_at_call 8; refine hat0.mono ?_; rintro e w9 ⟨rfl, hw9⟩; replace hw9 := hw9.symm; subst hw9)
        | (go_at_call 11; refine (num_any _ _).mono ?_; rintro e w9 ⟨rfl, hw9⟩; replace hw9 := hw9.symm; subst hw9))
      go_quiet ((first | (go_at_call 11; exact Calls.quiet_of_same (num_any _ _)) | (go_at_call 8; exact Calls.quiet_of_same (hat _))))
      go_wp2
      go_ret
      exact ⟨rfl, Edge8.same (hx2.below (below_drewN _ nq _)).play HA.out⟩
end Go.Proofs.YtojblddfggoecaaGreat
