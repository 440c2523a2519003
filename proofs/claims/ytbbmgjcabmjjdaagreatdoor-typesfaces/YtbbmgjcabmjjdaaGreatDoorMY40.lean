/- The program's own Load: a sorted row's world and cells; alike neighbours (plain). -/
import Derived.Test.YtbbmgjcabmjjdaaGreatDoorMY37
import Derived.Test.YtbbmgjcabmjjdaaGreatDoorMY26
import Derived.Test.YtbbmgjcabmjjdaaGreatDoorMY22
import Derived.Shelf.SlSortCmp.WholeK
import Derived.Shelf.SlSortCmp.NoneTotal
namespace Go.Proofs.YtbbmgjcabmjjdaaGreatDoor
open Go.RowKit Go.Shelf Go.Deep
attribute [local go_sem] Oper.semAt_some
attribute [local go_sem ↓] app_Y

theorem wkM_le {p : Pg} {K : Nat} (hfl : ∀ k, isJ p k = true → (fcQ p k).length ≤ K) (A : Nat → Bool) : ∀ N, N ≤ 11 + p.cls.length → wkM p N A ≤ N * K
  | 0, _ => by simp [wkM]
  | N + 1, h => by
    have ih := wkM_le hfl A N (by omega)
    have hk := hfl (N : Nat) (by simp [isJ]; omega)
    unfold wkM at ih ⊢
    rw [List.range_succ, List.map_append, List.sum_append, Nat.succ_mul]
    simp only [List.map_cons, List.map_nil, List.sum_cons, List.sum_nil]
    split <;> omega
set_option maxRecDepth 100000 in
set_option maxHeartbeats 8000000 in
theorem above_ok {w : World} {S : Nat → Prop} {v : Value} {p : Pg} (hSu : SupOk p) (hFa : FaceOk p) (h1 : ∀ i, i < p.cls.length → bad1 p i = false) (h2 : ∀ i, i < p.cls.length → bad2 p i = false) (h3 : ∀ i, i < p.cls.length → bad3 p i = false) (hn : p.cls.length ≤ 1000) (hfl : ∀ k, isJ p k = true → (fcQ p k).length ≤ 262144) (h : Sl kCs w S v (trQ p)) (hS : ∀ k, S k → k < w.heap.size) {c : Int} (hc : isJ p c = true) : Calls Tryz.prog 108 #[v, .int .i64 c] w (KsP w (abvJ p c)) := by
  have hp := upOk_of h1
  obtain ⟨hA, zA⟩ := AbI.start h hS
  obtain ⟨W4, hW4⟩ : ∃ W4, (((w.alloc (.cells #[v] 63)).alloc (.map #[] 0)).alloc (.cells #[.map (some (w.heap.size + 1))] 149)).alloc (.cells #[.slice none 0 0] 26) = W4 := ⟨_, rfl⟩
  rw [hW4] at hA zA
  have hL := line_ok hA.tr (fun k q => by have := hS k q; omega) c
  have hv := h
  obtain ⟨ao, cap, rfl, -⟩ := hv
  have hNl : (trQ p).length = 11 + p.cls.length := trQ_len p
  have HNL : Hid ((trQ p).length = 11 + p.cls.length) := hNl
  have t0 : W4.cell? ⟨w.heap.size, 0, none⟩ = some (.slice ao (trQ p).length cap) := hA.cells.1
  have HA : Hid (AbI w.heap.size w W4 S (.slice ao (trQ p).length cap) p W4 (fun _ => false) 0 [] (.slice none 0 0)) := hA
  have HZ4 : Hid (W4.heap.size = w.heap.size + 4) := zA
  have HP : Hid (UpOk p ∧ isJ p c = true) := ⟨hp, hc⟩
  have HE : Hid (∀ i, i = 11 + p.cls.length ∨ hasQ p c i = false → ∃ m, i = m + 1 ∧ itQ p c m = 0) := fun i hi => it_end h1 h2 hc hi
  have HFL : Hid (∀ i, (lnF p c i).length ≤ i * 262144) := lnF_len h1 hfl hc
  have HF : Hid (∀ k, isJ p k = true → (fcQ p k).length ≤ 262144) := hfl
  have HK : Hid (∀ i, isJ p (itQ p c i) = true) := itQ_ok hp hc
  have HLS : Hid (∀ i t, lnA p c (i + 1) t = if t = (itQ p c i).toNat then true else lnA p c i t) := lnA_succ hp hc
  have HN : Hid (p.cls.length ≤ 1000) := hn
  have HW : Hid (∀ m, itQ p c m = 0 → WkA p c (lnA p c (m + 1)) (lnF p c (m + 1))) := fun m hm => wka_line hSu hFa h1 h3 hc hm
  have HML : Hid (∀ A, wkM p (trQ p).length A ≤ (trQ p).length * 262144) := fun A => wkM_le hfl A _ (by omega)
  have HGo : Hid (∀ A fs f, WkA p c A (fs ++ [f]) → WkA p c (fun t => if t = f.toNat then true else A t) (fs ++ fcQ p f)) := fun A fs f h => h.gone hSu hFa hc (face_facts h1 h3)
  have HDo : Hid (∀ A, WkA p c A [] → rise (11 + p.cls.length) A = abvJ p c) := fun A h => h.done hSu hFa hc
  have hL2 := callsIn_wide (n := 6).2 hL
  have hmm : ∀ u : World, (Instr.makeMap 149 none).run Tryz.prog u = .ok (.map (some u.heap.size)) (u.alloc (.map #[] 0)) := fun u => run_makeMap _ _
  generalize (trQ p).length = N at *
  clear h hS hSu hFa h1 h2 h3 hn hfl hc hp hA zA hL hNl
  subst hW4
  refine (callsIn_wide (n := 7)).1 ?_
  refine callsIn_of_wp_marks Tryz.func108 rfl trivial ?_ rfl
  simp only [Tryz.ntmps108, List.size_toArray, List.length_cons, List.length_nil, Nat.reduceAdd, Nat.reduceSub, Array.replicate_succ, Array.replicate_zero, List.push_toArray, List.append_toArray, List.nil_append, List.cons_append]
  gi_wp2_with (refine ⟨trivial, ?_⟩; gi_at_call 58; refine hL2.mono ?_; rintro e w3 ⟨rfl, hU, hl3, hz3⟩; have HU : Hid _ := hU; have HL3 : Hid _ := hl3; have HZ3 : Hid _ := hz3; clear hL2 hU hl3 hz3)
  clear hmm
  have HU3 : Hid (UpB w3 S (.slice ao N cap) p c (w.heap.size + 4) N) := by have := HU.out; rw [HZ4.out] at this; exact this
  have HX8 : Hid (w.heap.size + 8 ≤ w3.heap.size) := by have := HZ3.out; rw [HZ4.out] at this; show _ ≤ _; omega
  have HA3 : Hid (AbI w.heap.size w w3 S (.slice ao N cap) p w3 (fun _ => false) 0 [] (.slice none 0 0)) := (HA.out.keep HL3.out.bl).next
  have H0 : Hid (IabQ w w3 S (.slice ao N cap) p c 0 w3) := ⟨0, _, HA3.out, Nat.le_refl _⟩
  have HN1 : Hid (N ≤ 1073741824) := by show _ ≤ _; have := HNL.out; have := HN.out; omega
  clear HU HZ3 HL3 HA HA3 HZ4 t0
  refine range_jointQ (F := Fence.wide) (n := 7) rfl (by decide) (gf := 116) (lb := #[.pointer (some ⟨w.heap.size + 4 + 1, 0, none⟩), .pointer (some ⟨w.heap.size + 4 + 3, 0, none⟩), .pointer (some ⟨w.heap.size + 4 + 2, 0, none⟩)]) rfl trivial (enters_of Tryz.func116 (by kernel_rfl) rfl) (fun _ => False)
    (up_joint (I := IabQ w w3 S (.slice ao N cap) p c) HN1.out HP.out.1 HP.out.2 (fun i W h => by obtain ⟨cN, fv, h, -⟩ := h; exact h.upB HU3.out HX8.out) 6 (by decide)) (fun _ => rfl)
    iab_own (fun _ _ _ _ h _ _ => h) (fun x i A A' row h hg hr => ⟨h.1, iab_own i A A' row h.2 hg hr⟩) H0.out
    (fun x => { tmps := #[.slice ao N cap, .int .i64 c, .pointer (some ⟨w.heap.size, 0, none⟩), undef, .slice none 0 0, .pointer (some ⟨w.heap.size + 1 + 1, 0, none⟩), .pointer (some ⟨w.heap.size + 1 + 1 + 1, 0, none⟩), .int .i64 x, undef, undef, undef, .map (some (w.heap.size + 1)), .slice ao N cap, .int .i64 c, .func (.func 116) #[] #[.pointer (some ⟨w.heap.size + 1 + 1 + 1 + 1 + 1, 0, none⟩), .pointer (some ⟨w.heap.size + 1 + 1 + 1 + 1 + 3, 0, none⟩), .pointer (some ⟨w.heap.size + 1 + 1 + 1 + 1 + 2, 0, none⟩)], .int .i64 x] ++ Array.replicate 45 undef, defers := [] }) ?assign ?body ?done ?stop
  case stop => intro D W hD hX; exact hX.elim
  case assign =>
    intro l x W K hK
    simp only [Array.replicate_succ, Array.replicate_zero, List.push_toArray, List.append_toArray, List.nil_append, List.cons_append] at hK
    gi_wp2
    exact hK
  case body =>
    rintro l j x W ⟨⟨rfl, hjN, hh⟩, cN, fv, hI, hcN⟩
    have hk := HK.out j
    obtain ⟨t, ht, htl⟩ : ∃ t : Nat, itQ p c j = (t : Int) ∧ t < 11 + p.cls.length := ⟨_, (nat_isJ hk).1.symm, (nat_isJ hk).2⟩
    have HLF : Hid (lnF p c (j + 1) = lnF p c j ++ fcQ p t) := by have := lnF_succ p c j; rw [ht] at this; exact this
    have HLA : Hid (lnA p c (j + 1) = fun s => if s = t then true else lnA p c j s) := funext fun s => by rw [HLS.out j s, ht]; rfl
    rw [ht] at hk ⊢
    have k2 : W.cell? ⟨w.heap.size + 1 + 1, 0, none⟩ = some (.map (some (w.heap.size + 1))) := hI.cells.2.1
    obtain ⟨W5, hrun, hI5, hz5, hne5⟩ := hI.store htl (by have := HN.out; omega) (by have := HNL.out; have := HN1.out; omega)
    have HW5 : Hid (KeepsFrom w3.heap.size W W5) := ⟨by omega, fun i o hB hi ho => (hne5 i (by have := HX8.out; omega)).trans hi⟩
    obtain ⟨i1, sb, so, f1, f2, f3, f4, g1, g2, g3, g4, e1, hi1, rfl, -, ⟨-, -, -, -, t4, -, -, -⟩, HS⟩ := tq_get hI5.tr hk
    obtain rfl : t = i1 := by omega
    have ht1 : (t : Int) < (N : Int) := by omega
    obtain ⟨fv2, W6, hrun2, hI6, hc6, hf6, hko, ao2, n2, cap2, rfl⟩ := hI5.drew.app (k := (t : Int)) (a := f1) (c := g1) (HS.out.1.keep fun b q => rfl) (by have := HFL.out j; have := HF.out _ hk; have := HNL.out; have := HN.out; omega)
    have HI6 : Hid _ := hI6
    have HC6 : Hid (W6.cell? ⟨w.heap.size + 1 + 1 + 1, 0, none⟩ = some fv) := hc6
    have c6 : W6.cell? ⟨w.heap.size + 1 + 1 + 1, 0, none⟩ = some fv := hc6
    have f6 : W6.frozen? ⟨w.heap.size + 1 + 1 + 1, 0, none⟩ = false := hf6
    have HKO : Hid _ := hko
    unfold fcQ at hrun2
    have m0 : W5.cell? ⟨w.heap.size, 0, none⟩ = some (.slice (some ⟨sb, so, none⟩) N cap) := hI5.cells.1
    have m3 : W5.cell? ⟨w.heap.size + 1 + 1 + 1, 0, none⟩ = some fv := hI5.cells.2.2
    have HI5 : Hid _ := hI5
    have HJN : Hid (j < N) := hjN
    have HCN : Hid (cN ≤ j) := hcN
    clear hko hI hI5 hI6 hz5 hne5 hjN hh hcN ht H0 hc6 hf6 e1
    simp only [Array.replicate_succ, Array.replicate_zero, List.push_toArray, List.append_toArray, List.nil_append, List.cons_append]
    gi_wp2
    have hmo : Tryz.prog.follows .mixedOrders = true := by kernel_rfl
    gi_region_o
    all_goals gi_wp2
    all_goals exact ⟨HW5.out.trans (show KeepsFrom w3.heap.size W5 (W6.setCell ⟨w.heap.size + 3, 0, none⟩ _) from ⟨HKO.out.size, fun i o _ hi ho => HKO.out.same i o hi ho⟩), trivial, _, _, by rw [HLF.out, HLA.out]; exact HI6.out, by have := HCN.out; omega⟩
  case done =>
    rintro D j W hD ⟨hjN, hE⟩ ⟨cN, fv, hI, hcN⟩ hK
    obtain ⟨m, rfl, hm⟩ := HE.out j (hE.imp (fun e => by have := HNL.out; omega) id)
    have HWk : Hid (WkA p c (lnA p c (m + 1)) (lnF p c (m + 1))) := HW.out m hm
    have HI : Hid _ := hI
    have HD : Hid (W.heap[D]? = some (.deferred (some []))) := hK
    have HDD : Hid (w3.heap.size ≤ D) := hD
    have k3 : W.cell? ⟨w.heap.size + 1 + 1 + 1, 0, none⟩ = some fv := hI.cells.2.2
    clear hI hK hE hD H0
    obtain ⟨K0, hK0⟩ : ∃ K0, wkM p N (lnA p c (m + 1)) + (lnF p c (m + 1)).length = K0 := ⟨_, rfl⟩
    have HB0 : Hid (K0 ≤ 1000000000) := by
      have a := HML.out (lnA p c (m + 1))
      have b := HFL.out (m + 1)
      have := HNL.out; have := HN.out
      have c1 : N * 262144 ≤ 1011 * 262144 := Nat.mul_le_mul_right _ (by omega)
      have c2 : (m + 1) * 262144 ≤ 1011 * 262144 := Nat.mul_le_mul_right _ (by omega)
      show K0 ≤ _
      omega
    have HM1 : Hid (m + 1 ≤ N) := hjN
    clear hjN
    gi_wp2
    clear k3
    gi_loopg [8, 9, 10] K0 (fun k s8 s9 s10 wr => ∃ A cN fs fv, Hid (AbI w.heap.size w w3 S (.slice ao N cap) p wr A cN fs fv) ∧ Hid (WkA p c A fs) ∧ wkM p N A + fs.length = k ∧ cN + k ≤ N + K0 ∧ Hid (wr.heap[D]? = some (.deferred (some []))))
    case atStart => exact ⟨_, cN, _, fv, HI, HWk, hK0, by have := HM1.out; omega, HD⟩
    case round =>
      clear HI HWk hK0 hcN hm HD
      obtain ⟨A, cN, fs, fv, HI, HWk, hk, hcN, HD⟩ := hrel
      rcases List.eq_nil_or_concat fs with rfl | ⟨fs, f, rfl⟩
      · obtain ⟨ao2, cap2, rfl⟩ := HI.out.row.form
        have k3 : wr.cell? ⟨w.heap.size + 1 + 1 + 1, 0, none⟩ = some (.slice ao2 ([] : List Int).length cap2) := HI.out.cells.2.2
        have k2 : wr.cell? ⟨w.heap.size + 1 + 1, 0, none⟩ = some (.map (some (w.heap.size + 1))) := HI.out.cells.2.1
        have hk1 := keys_in 5 (some (w.heap.size + 1)) wr
        have hs1 := (callsIn_wide (n := 6)).2 ((callsIn_wide (n := 5)).1 (sorted_ts HI.out.ts (by have := HN.out; omega)))
        rw [HDo.out A HWk.out] at hs1
        clear hk hcN
        gi_wp2_with (refine ⟨trivial, ?_⟩; first
          | (gi_at_call 130; refine hk1.mono ?_; rintro e w5 ⟨rfl, hw5⟩; subst hw5)
          | (gi_at_call 129; refine hs1.mono ?_; rintro e w6 ⟨vr, rfl, hrow, hb6⟩; have HROW : Hid _ := hrow; have HB6 : Hid (Below wr.heap.size wr w6) := hb6; clear hs1 hk1 hrow hb6))
        have hD6 : w6.heap[D]? = some (.deferred (some [])) := (HB6.out.block D (Array.getElem?_eq_some_iff.1 HD.out).1).trans HD.out
        gi_wp2
        refine ⟨by simp, .inl ⟨_, _, rfl, run_takeDeferred hD6, ?_⟩⟩
        refine ⟨_, results_tmp rfl _ _ _, vr, rfl, ownsRow_base_a (ownsRow_putObj HROW.out _ hD6 rfl) HI.out.bel.size, ?_⟩
        have hx := HI.out.bel.trans (HB6.out.mono HI.out.bel.size)
        exact ⟨hx.os, hx.tape, hx.output, by rw [World.putObj_size]; exact hx.size, fun k hk => (World.putObj_heap_other (by have := HDD.out; have := HX8.out; omega)).trans (hx.block k hk)⟩
      · rw [List.concat_eq_append] at HI HWk hk
        obtain ⟨ao2, cap2, rfl⟩ := HI.out.row.form
        obtain ⟨-, hcap, g, rfl, hg, hcl, hI⟩ := HI.out.pop
        have hL1 : (fs ++ [f]).length = fs.length + 1 := by simp
        rw [hL1] at HI hcap hk
        have hbig : fs.length ≤ 2000000000 := by have := HB0.out; have := HM1.out; have := HNL.out; have := HN.out; omega
        have hgt : (0 : Int) < ((fs.length + 1 : Nat) : Int) := by omega
        have hlt : (fs.length : Int) < ((fs.length + 1 : Nat) : Int) := by omega
        have hle : (fs.length : Int) ≤ (cap2 : Int) := by omega
        have k3 : wr.cell? ⟨w.heap.size + 1 + 1 + 1, 0, none⟩ = some (.slice (some ⟨g, 0, none⟩) (fs.length + 1) cap2) := HI.out.cells.2.2
        have hfz : wr.frozen? ⟨w.heap.size + 1 + 1 + 1, 0, none⟩ = false := by have := HI.out.fb; simp [World.frozen?, this]
        have hj := (HWk.out.fsn f (by simp)).2.1
        obtain ⟨t, htf, htl⟩ : ∃ t : Nat, f = (t : Int) ∧ t < 11 + p.cls.length := ⟨_, (nat_isJ hj).1.symm, (nat_isJ hj).2⟩
        subst htf
        have u2 : (wr.setCell ⟨w.heap.size + 1 + 1 + 1, 0, none⟩ (.slice (some ⟨g, 0, none⟩) fs.length cap2)).cell? ⟨w.heap.size + 1 + 1, 0, none⟩ = some (.map (some (w.heap.size + 1))) := hI.cells.2.1
        have hlk : (Instr.lookup 149 (.map (some (w.heap.size + 1))) (.int .i64 t) true).run Tryz.prog (wr.setCell ⟨w.heap.size + 1 + 1 + 1, 0, none⟩ (.slice (some ⟨g, 0, none⟩) fs.length cap2)) = .ok (.tuple #[.agg #[], .bool (A t)]) (wr.setCell ⟨w.heap.size + 1 + 1 + 1, 0, none⟩ (.slice (some ⟨g, 0, none⟩) fs.length cap2)) := hI.look htl (by have := HN.out; omega)
        have hsz1 : (wr.setCell ⟨w.heap.size + 1 + 1 + 1, 0, none⟩ (.slice (some ⟨g, 0, none⟩) fs.length cap2)).heap.size = wr.heap.size := by simp only [World.setCell, Array.size_modify]
        have hI1 : AbI w.heap.size w w3 S (.slice ao N cap) p ((wr.setCell ⟨w.heap.size + 1 + 1 + 1, 0, none⟩ (.slice (some ⟨g, 0, none⟩) fs.length cap2)).alloc (.cells #[] 150)) A cN fs (.slice (some ⟨g, 0, none⟩) fs.length cap2) := hI.keep ((Below.refl _ _).alloc (Nat.le_refl _) _)
        have HD1 : Hid (((wr.setCell ⟨w.heap.size + 1 + 1 + 1, 0, none⟩ (.slice (some ⟨g, 0, none⟩) fs.length cap2)).alloc (.cells #[] 150)).heap[D]? = some (.deferred (some []))) := (Below.heap_alloc _ _ _ (by rw [hsz1]; exact (Array.getElem?_eq_some_iff.1 HD.out).1)).trans ((KeepsOthers.setCell wr ⟨w.heap.size + 1 + 1 + 1, 0, none⟩ (.slice (some ⟨g, 0, none⟩) fs.length cap2)).same D _ HD.out rfl)
        have HI1 : Hid _ := hI1
        have HJ : Hid (isJ p (t : Int) = true) := hj
        have HHK : Hid (wkM p N A + (fs.length + 1) = gk) := hk
        have HHC : Hid (cN + gk ≤ N + K0) := hcN
        rcases hAt : A t with _ | _
        · rw [hAt] at hlk
          have v2 : ((wr.setCell ⟨w.heap.size + 1 + 1 + 1, 0, none⟩ (.slice (some ⟨g, 0, none⟩) fs.length cap2)).alloc (.cells #[] 150)).cell? ⟨w.heap.size + 1 + 1, 0, none⟩ = some (.map (some (w.heap.size + 1))) := hI1.cells.2.1
          obtain ⟨W5, hrun, hI5, hz5, hne5⟩ := hI1.store htl (by have := HN.out; omega) (by have := HNL.out; have := HN1.out; have := HB0.out; omega)
          have HD5 : Hid (W5.heap[D]? = some (.deferred (some []))) := (hne5 D (by have := HDD.out; have := HX8.out; omega)).trans HD1.out
          obtain ⟨i1, sb, so, f1, f2, f3, f4, g1, g2, g3, g4, e1, hi1, rfl, -, ⟨-, -, -, -, t4, -, -, -⟩, HS⟩ := tq_get hI5.tr hj
          obtain rfl : t = i1 := by omega
          have ht1 : (t : Int) < (N : Int) := by omega
          obtain ⟨fv2, W6, hrun2, hI6, hc6, hf6, hko, ao2, n2, cap3, rfl⟩ := hI5.drew.app (k := (t : Int)) (a := f1) (c := g1) (HS.out.1.keep fun b q => rfl) (by have := HF.out _ hj; omega)
          have HI6 : Hid _ := hI6
          have HD6 : Hid ((W6.setCell ⟨w.heap.size + 1 + 1 + 1, 0, none⟩ (.slice ao2 n2 cap3)).heap[D]? = some (.deferred (some []))) := hko.same D _ HD5.out rfl
          have c6 : W6.cell? ⟨w.heap.size + 1 + 1 + 1, 0, none⟩ = some (.slice (some ⟨g, 0, none⟩) fs.length cap2) := hc6
          have f6 : W6.frozen? ⟨w.heap.size + 1 + 1 + 1, 0, none⟩ = false := hf6
          unfold fcQ at hrun2
          have m0 : W5.cell? ⟨w.heap.size, 0, none⟩ = some (.slice (some ⟨sb, so, none⟩) N cap) := hI5.cells.1
          have m3 : W5.cell? ⟨w.heap.size + 1 + 1 + 1, 0, none⟩ = some (.slice (some ⟨g, 0, none⟩) fs.length cap2) := hI5.cells.2.2
          have HAt : Hid (A t = false) := hAt
          have hmo : Tryz.prog.follows .mixedOrders = true := by kernel_rfl
          clear hI HI hL1 hk hcN hg hj hI1 hI5 hI6 hz5 hne5 hko hc6 hf6 e1 hsz1
          gi_wp2
          gi_region_o
          all_goals gi_wp2
          gi_roundg (gk - 1)
          case rel =>
            have hws := wkM_set (p := p) HAt.out (N := N) (f := t) (by omega)
            refine ⟨_, cN + 1, _, _, HI6, HGo.out A fs (t : Int) HWk.out, ?_, by have := HHC.out; have := HHK.out; omega, HD6⟩
            rw [List.length_append]
            have h1 := HHK.out
            have h2 : wkM p N (fun s => if s = ((t : Int)).toNat then true else A s) + (fcQ p (t : Nat)).length = wkM p N A := hws
            omega
          case measure => have := HHK.out; omega
        · rw [hAt] at hlk
          have HAt : Hid (A t = true) := hAt
          clear hI HI hL1 hk hcN hg hj hI1 hsz1
          gi_wp2
          gi_roundg (gk - 1)
          case rel => exact ⟨A, cN, fs, _, HI1, HWk.out.met HAt.out, by have := HHK.out; omega, by have := HHC.out; omega, HD1⟩
          case measure => have := HHK.out; omega
end Go.Proofs.YtbbmgjcabmjjdaaGreatDoor
namespace Go.Proofs.YtbbmgjcabmjjdaaGreatDoor
open Go.RowKit Go.Deep

theorem Cg.swo {α : Type} [Inhabited α] {c : α → α → Int} (h : Cg c) : Go.Sort.SWO (ltOf c) where
  irrefl x := by
    unfold ltOf
    have := h.anti x x
    simp; omega
  trans x y z h1 h2 := by
    unfold ltOf at *
    simp at *
    have a3 := h.le x y z (by omega) (by omega)
    by_cases e : c x z = 0
    · exfalso
      have e2 := h.zero e
      have := h.le z x y (by omega) (by omega)
      have k := (h.anti y z).1 h2
      omega
    · omega
  ntrans x y z h1 h2 := by
    unfold ltOf at *
    simp at *
    have b1 : c y x ≤ 0 := by
      have := h.anti y x
      have k := h.anti x y
      by_cases q : 0 < c y x
      · have := k.2 q; omega
      · omega
    have b2 : c z y ≤ 0 := by
      have k := h.anti y z
      by_cases q : 0 < c z y
      · have := k.2 q; omega
      · omega
    have b3 := h.le z y x b2 b1
    have k := h.anti x z
    by_cases q : c x z < 0
    · have := k.1 q; omega
    · omega
/-- A row of one's own holds its elements. -/
theorem holdsK_own {α : Type} [Inhabited α] {w : World} {base : Nat} {T : TypeId} {k : Nat} (hp : 0 < k) {enc : α → List Value} (hk : ∀ x, (enc x).length = k) {U : List α} {g cap : Nat} (h : w.ownsRow base T k (.slice (some ⟨g, 0, none⟩) U.length cap) U.length (U.map enc).flatten) : g < w.heap.size ∧ base ≤ g ∧ Go.Sort.HoldsK enc k w g 0 U.toArray := by
  have hc := h
  rcases h.2 with ⟨e1, -⟩ | ⟨g2, cap2, cur, e1, e2, e3, -, -, -, -⟩
  · cases e1
  · injection e1 with e1 _ _
    injection e1 with e1
    injection e1 with e1 _ _
    subst e1
    refine ⟨(Array.getElem?_eq_some_iff.1 e3).1, e2, fun j hj => ?_⟩
    rw [Go.Sort.size_flatK] at hj
    rw [Go.Sort.get_flatK _ _ _ _ hj]
    have hj' : j < U.length * k := by simpa using hj
    have hdiv : j / k < U.length := Nat.div_lt_of_lt_mul (by rw [Nat.mul_comm]; exact hj')
    have hmod : j % k < k := Nat.mod_lt _ hp
    have hdm : j / k * k + j % k = j := by rw [Nat.mul_comm]; exact Nat.div_add_mod j k
    have hU : U.toArray[j / k]! = U[j / k] := by rw [getElem!_pos _ _ (by simpa using hdiv)]; simp
    have hfl := flat_at (k := k) (U.map enc) (fun r hr => by obtain ⟨x, -, rfl⟩ := List.mem_map.1 hr; exact hk x) (j / k) (enc U[j / k]) (by rw [List.getElem?_map, List.getElem?_eq_getElem hdiv]; rfl) (j % k) hmod
    rw [hdm] at hfl
    refine ⟨?_, by simp [World.frozen?, e3]⟩
    rw [Nat.zero_add, hc.cellAt _ hj', hfl, hU, List.getElem?_eq_getElem (by rw [hk]; exact hmod)]
    rw [getElem!_pos _ _ (by rw [hk]; exact hmod)]
    rfl
theorem sortW_other {α : Type} [Inhabited α] {enc : α → List Value} {k : Nat} {w : World} {blk off m : Nat} {dk : Array α} {os : Array Obj} {b : Nat} (hb : b ≠ blk) (hl : b < w.heap.size) : (sortWorldK enc k w blk off m dk os).heap[b]? = w.heap[b]? := by
  unfold sortWorldK Go.Sort.grow Go.Sort.putRowK Go.Sort.putRow Go.Sort.mapBlock Go.Sort.ahead
  simp only []
  rw [Array.getElem?_append_left (by simp; exact hl), Array.getElem?_modify, if_neg (by omega)]
theorem sortW_below {α : Type} [Inhabited α] {enc : α → List Value} {k : Nat} {w0 w : World} {B blk off m : Nat} {dk : Array α} {os : Array Obj} (h : Below B w0 w) (hB : B ≤ blk) (hz : B ≤ w.heap.size) : Below B w0 (sortWorldK enc k w blk off m dk os) :=
  h.trans ⟨rfl, rfl, rfl, size_sortWorldK_c enc k w blk off m dk os, fun i hi => sortW_other (by omega) (by omega)⟩
/-- Whether two are alike, asked of neighbours of the sorted row. -/
theorem alike_sorted {α : Type} [Inhabited α] {c : α → α → Int} (C : Cg c) {U : List α} {d : Array α} (hs : d.size = U.length) (hp : Go.Sort.PermIn 0 U.toArray.size U.toArray d) (hS : Go.Sort.SortedIn (ltOf c) 0 U.toArray.size d) : pairJ (fun x y => c x y == 0) U U.length = false ↔ ∀ i (hi : i + 1 < d.size), c d[i] d[i + 1] ≠ 0 := by
  have hperm : d.toList.Perm U := by
    obtain ⟨h1, -, h3⟩ := hp
    have e1 : (d.extract 0 U.toArray.size) = d := by rw [← h1]; exact Array.extract_size
    have e2 : (U.toArray.extract 0 U.toArray.size) = U.toArray := Array.extract_size
    rw [e1, e2] at h3
    exact h3
  have hsym : ∀ x y : α, (c x y == 0) = (c y x == 0) := fun x y => by
    by_cases e : c x y = 0
    · rw [e, C.zero e]
    · have : c y x ≠ 0 := fun q => e (C.zero q)
      rw [beq_eq_false_iff_ne.2 e, beq_eq_false_iff_ne.2 this]
  have hsz : U.toArray.size = d.size := by simp [hs]
  rw [pair_iff (eq := fun x y => c x y == 0) hsym, ← hperm.pairwise_iff (fun {x y} (hxy : (c x y == 0) = false) => (hsym x y).symm.trans hxy), adj_iff C]
  · simp
  · intro i j hi hj hij
    have hi' : i < d.size := by simpa using hi
    have hj' : j < d.size := by simpa using hj
    have := hS i j (Nat.zero_le _) hij (by omega)
    rw [getElem!_pos d i hi', getElem!_pos d j hj'] at this
    unfold ltOf at this
    simpa using this
end Go.Proofs.YtbbmgjcabmjjdaaGreatDoor
