/- The walk of HeapAgain. -/
import Derived.Test.YtnnjinkadcagdaaGreatMHSteps
import Derived.Test.YtnnjinkadcagdaaGreatMH1
import Derived.Deep.LoopGhost
namespace Go.Proofs.YtnnjinkadcagdaaGreat
open Go.RowKit
attribute [local go_sem ↓] app_C
theorem mask1 (n : Int) : bits BinOp.and .i64 n 1 = n % 2 := by
  have e : (BitVec.ofInt 64 n &&& BitVec.ofInt 64 1).toNat = (n % 18446744073709551616).toNat % 2 := by
    rw [BitVec.toNat_and, BitVec.toNat_ofInt, show (BitVec.ofInt 64 1).toNat = 2 ^ 1 - 1 from by decide, Nat.and_two_pow_sub_one_eq_mod]; rfl
  show IntKind.i64.wrap ((BitVec.ofInt 64 n &&& BitVec.ofInt 64 1).toNat : Nat) = n % 2
  rw [e, IntKind.wrap_i64]; omega
/-- These places hold cells, each of them once. -/
def Live (S : List (Option Cel)) (I : List Nat) : Prop := I.Nodup ∧ ∀ i ∈ I, ∃ cl, S[i]? = some (some cl)
theorem Live.nil (S : List (Option Cel)) : Live S [] := ⟨List.nodup_nil, fun i h => by simp at h⟩
theorem Live.more {S S' : List (Option Cel)} {I : List Nat} {i : Nat} {c : Cel} (h : Live S I) (ha : Added S S' i c) : Live S' (I ++ [i]) := by
  refine ⟨List.nodup_append.2 ⟨h.1, by simp, fun a ha' b hb => ?_⟩, fun k hk => ?_⟩
  · rw [List.mem_singleton.1 hb]
    rintro rfl
    obtain ⟨cl, e⟩ := h.2 _ ha'
    exact ha.free cl e
  · by_cases e : k = i
    · subst e; exact ⟨c, ha.new⟩
    · rcases List.mem_append.1 hk with q | q
      · obtain ⟨cl, e2⟩ := h.2 k q
        exact ⟨cl, by rw [ha.old k e]; exact e2⟩
      · exact absurd (List.mem_singleton.1 q) e
theorem Live.gone {S : List (Option Cel)} {i : Nat} {I : List Nat} (h : Live S (i :: I)) : Live (S.set i none) I := by
  have hn := List.nodup_cons.1 h.1
  refine ⟨hn.2, fun k hk => ?_⟩
  obtain ⟨cl, e⟩ := h.2 k (by simp [hk])
  refine ⟨cl, ?_⟩
  have hne : i ≠ k := fun q => hn.1 (by rw [q]; exact hk)
  rw [List.getElem?_set_ne hne]
  exact e
theorem cnt_zero : ∀ S : List (Option Cel), cntS S = 0 → sumS S = 0
  | [], _ => rfl
  | none :: r, h => cnt_zero r h
  | some c :: r, h => by simp only [cntS] at h; omega
def numI (I : List Nat) : List Int := I.map fun i : Nat => (i : Int) + 1
/-- The heap, and the law's row of numbers beside it. -/
structure Ag (B : Nat) (w0 w : World) (P : Nat → Prop) (h m : Nat) (c : Int → Int) (S : List (Option Cel)) (F : Nat → Nat → Int) (v : Value) (I : List Nat) : Prop where
  hv : Hv B w0 w P h 4096 1 m c S F
  row : Ri w B v (numI I)
  off : ∀ k, v.ownBlock = some k → ¬ P k
section
variable {B : Nat} {w0 w w' : World} {P : Nat → Prop} {h m : Nat} {c : Int → Int} {S : List (Option Cel)} {F : Nat → Nat → Int} {v : Value} {I : List Nat}
theorem Ag.below (H : Ag B w0 w P h m c S F v I) (hb : Below w.heap.size w w') : Ag B w0 w' P h m c S F v I := ⟨H.hv.below hb, H.row.below hb, H.off⟩
theorem Ag.turn (H : Ag B w0 w P h m c S F v I) {m' : Nat} {c' : Int → Int} {S' : List (Option Cel)} {F' : Nat → Nat → Int} (ht : HvT B w0 w P h 4096 1 m' c' S' F' w') : ∃ P', Ag B w0 w' P' h m' c' S' F' v I := by
  obtain ⟨P', h1, h2, h3⟩ := ht
  exact ⟨P', h1, H.row.of_block (fun k hk => h2.block k (H.row.lt hk).2 (H.off k hk)), fun k hk r => (h3 k r).elim (H.off k hk) (fun q => by have := (H.row.lt hk).2; omega)⟩
theorem Ag.app (H : Ag B w0 w P h m c S F v I) (i : Nat) (hl : I.length ≤ 1000) : ∃ ao cap w', (appC #[37, 37] 37 #[v, .slice (some ⟨w.heap.size, 0, none⟩) 1 1]).run Tryz.prog (w.alloc (.cells #[.int .i64 ((i : Int) + 1)] 3)) = .ok (.slice ao (I.length + 1) cap) w' ∧ Ag B w0 w' P h m c S F (.slice ao (I.length + 1) cap) (I ++ [i]) := by
  have hlen : (numI I).length = I.length := List.length_map _
  obtain ⟨ao, cap, w', hrun, hR, hg, hat⟩ := H.row.more ((i : Int) + 1) H.hv.size (by rw [hlen]; omega) (heap_alloc_new w (.cells #[.int .i64 ((i : Int) + 1)] 3)) ((Below.refl _ _).alloc (Nat.le_refl _) _)
  rw [hlen] at hrun hR hat
  have kp : ∀ k, P k → w'.heap[k]? = w.heap[k]? := fun k hk => hg.block k (H.hv.lt k hk) (fun q => H.off k q.symm hk)
  have hb : Below B w0 w' := H.hv.bel.trans ⟨hg.os, hg.tape, hg.output, hg.size, fun k hk => hg.block k (by have := H.hv.size; omega) (fun q => by have := (H.row.lt q.symm).1; omega)⟩
  refine ⟨ao, cap, w', hrun, H.hv.keep kp hg.size hb, ?_, fun k hk => ?_⟩
  · unfold numI
    rw [List.map_append]
    exact hR
  · rcases hat with q | ⟨j, q1, q2⟩
    · exact H.off k (by rw [← q]; exact hk)
    · rw [q1] at hk
      obtain rfl : j = k := by simpa using hk
      exact fun r => by have := H.hv.lt _ r; omega
theorem Ag.cells {ao : Option Addr} {n cap : Nat} (H : Ag B w0 w P h m c S F (.slice ao n cap) I) (hn : 0 < I.length) : ∃ p, ao = some ⟨p, 0, none⟩ ∧ ∀ (t i : Nat), I[t]? = some i → w.cell? ⟨p, t, none⟩ = some (.int .i64 ((i : Int) + 1)) := by
  obtain ⟨p, e, _, _, _, hc⟩ := H.row.cells (by unfold numI; rw [List.length_map]; exact hn)
  exact ⟨p, e, fun t i ht => hc t _ (by unfold numI; rw [List.getElem?_map, ht]; rfl)⟩
end
/-- What stands between two rounds. -/
def AgO (B : Nat) (w0 w : World) (h i : Nat) : Prop := ∃ P m c S F, Hv B w0 w P h 4096 1 m c S F ∧ cntS S = 0 ∧ m ≤ 40 * i
def AgI (B : Nat) (w0 w : World) (h i j : Nat) (v : Value) (I : List Nat) (S : List (Option Cel)) : Prop := ∃ P m c F, Ag B w0 w P h m c S F v I ∧ Live S I ∧ cntS S = I.length ∧ m ≤ 40 * i + 3 * j ∧ I.length ≤ j
def AgF (B : Nat) (w0 w : World) (h i t : Nat) (v : Value) (I : List Nat) : Prop := ∃ P m c S F, Ag B w0 w P h m c S F v I ∧ Live S (I.drop t) ∧ cntS S + t = I.length ∧ m ≤ 40 * i + 30 + t
set_option maxRecDepth 20000 in
set_option maxHeartbeats 4000000 in
theorem again_walk (v : Value) (N : Nat) (f : Nat → Int) (rounds : Int) (w : World) (hv : Ints w v N f) : Calls Tryz.prog 4 #[v, .int .i64 rounds] w fun e w' => e = .returned (.bool true) ∧ Below w.heap.size w w' := by
  obtain ⟨R, hR, hR2⟩ := masked31 rounds
  obtain ⟨ao, cap, rfl, hv0⟩ := hv
  have H0 : Hid (N = 0 ∨ ∃ B o : Nat, ao = some ⟨B, o, none⟩ ∧ B < w.heap.size ∧ ∀ i, i < N → w.cell? ⟨B, o + i, none⟩ = some (.int .i64 (f i))) := hv0
  clear hv0
  go_enter Tryz.func4, Tryz.ntmps4
  go_wp2_with (first
    | (go_at_call 9; refine (awake9 w).mono ?_; rintro e w1 ⟨rfl, hb1⟩; have hN := z_new 4096 1 4096 1 w1 rfl rfl (by omega) (by omega))
    | (go_at_call 7; refine hN.mono ?_; rintro e w2 ⟨h, P2, rfl, H2⟩; have HS : Hid (AgO w.heap.size w w2 h 0) := ⟨P2, 0, _, _, _, H2.lower hb1.size hb1, rfl, by omega⟩; clear hN H2 hb1))
  go_loopg [7] (R + 2) (fun kx s7 wr => ∃ i : Nat, s7 = .int .i64 i ∧ i ≤ R + 1 ∧ R + 1 - i ≤ kx ∧ AgO w.heap.size w wr h i)
  case atStart => exact ⟨0, rfl, by omega, by omega, HS.out⟩
  case round =>
    clear HS
    obtain ⟨i, rfl, hi, hk, hO⟩ := hrel
    by_cases hir : i ≤ R
    · have hir' : (i : Int) ≤ (R : Int) := by omega
      obtain ⟨P, m, c, S, F, hH, hc0, hm⟩ := hO
      have hs0 := cnt_zero S hc0
      have HI : Hid (AgI w.heap.size w wr h i 0 (.slice none 0 0) [] S ∧ sumS S = 0) := ⟨⟨P, m, c, F, ⟨hH, Ri.nil _ _, fun k hk => by simp [Value.ownBlock] at hk⟩, Live.nil _, hc0, by omega, by simp⟩, hs0⟩
      clear hH hc0 hs0 hm
      go_wp2
      go_loopg [8, 9, 10] 11 (fun kx s8 s9 s10 wx => ∃ (j : Nat) (I : List Nat) (S : List (Option Cel)) (sa : Option Addr) (sc : Nat), s8 = .slice sa I.length sc ∧ s9 = .int .i64 (1024 - (sumS S : Int)) ∧ s10 = .int .i64 j ∧ j ≤ 10 ∧ 10 - j ≤ kx ∧ AgI w.heap.size w wx h i j (.slice sa I.length sc) I S)
      case atStart => exact ⟨0, [], S, none, 0, rfl, by rw [HI.out.2]; rfl, rfl, by omega, by omega, HI.out.1⟩
      case round =>
      clear HI
      obtain ⟨j, I, S0, sa, sc, rfl, rfl, rfl, hj, hk2, P, m, c, F, hG, hLv, hct, hm, hIj⟩ := hrel
      by_cases hjn : j < N ∧ j < 10
      · have j1 : (j : Int) < (N : Int) := by omega
        have j2 : (j : Int) < 10 := by omega
        obtain ⟨B, o, rfl, hB, hc⟩ : ∃ B o : Nat, ao = some ⟨B, o, none⟩ ∧ B < w.heap.size ∧ ∀ i, i < N → w.cell? ⟨B, o + i, none⟩ = some (.int .i64 (f i)) := by
          rcases H0.out with q | q
          · omega
          · exact q
        have cj : ∀ u, Below w.heap.size w u → u.cell? ⟨B, o + j, none⟩ = some (.int .i64 (f j)) := fun u hb => (cell_of1 (hb.block B hB)).trans (hc j hjn.1)
        have cj0 := cj _ hG.hv.bel
        have hBs : B < wr.heap.size := Nat.lt_of_lt_of_le hB hG.hv.bel.size
        clear hc cj
        obtain ⟨kk, hkk, hk200⟩ := at_mod 200 (f j) (by omega) (by omega)
        have hkk' : wrap64 ((IntKind.u64.wrap (f j)).tmod 200) = (kk : Int) := hkk
        have hsf := hG.hv.facts.1
        have hsf2 : sumS S0 ≤ 1024 := hsf
        clear hkk hsf
        by_cases hfit0 : (1024 - (sumS S0 : Int)) < (kk : Int) + 16
        · have HG : Hid (AgI w.heap.size w wr h i (j + 1) (.slice sa I.length sc) I S0) := ⟨P, m, c, F, hG, hLv, hct, by omega, by omega⟩
          clear hG hLv hct hm hIj
          go_wp2
          go_roundg (10 - (j + 1))
          case measure => omega
          case rel => exact ⟨j + 1, I, S0, sa, sc, rfl, rfl, by go_num, by omega, by omega, HG.out⟩
        · have hfit : sumS S0 + (kk + 16) ≤ roomW 4096 := by show _ ≤ 1024; omega
          have hfit1 : decide ((1024 - (sumS S0 : Int)) < (kk : Int) + 16) = false := by simp; omega
          have hpar : bits BinOp.and .i64 (j : Int) 1 = 0 ∨ bits BinOp.and .i64 (j : Int) 1 = 1 := by rw [mask1]; omega
          clear hfit0
          have hm4 : m ≤ 2000 := by omega
          by_cases hbig : 64 < kk
          · have q2 : (0 : Int) < (kk : Int) := by omega
            rcases hpar with hp | hp
            · as_aux_lemma =>
              have q1 : decide ((kk : Int) ≤ 64) = false := by simp; omega
              have hM := z_make (hG.hv.below ((Below.refl _ _).alloc (Nat.le_refl _) (.cells #[.int .i64 2, .int .i64 3] 3))) (by omega) 0 2 j kk kk rfl (by omega) (by omega) (by show (0 : Int) ≤ kk ∧ (kk : Int) ≤ 1000; omega) (by omega) hfit
              have hG1 := hG.below ((Below.refl _ _).alloc (Nat.le_refl _) (.cells #[.int .i64 2, .int .i64 3] 3))
              have HL : Hid (Live S0 I ∧ cntS S0 = I.length ∧ m ≤ 40 * i + 3 * j ∧ I.length ≤ j) := ⟨hLv, hct, hm, hIj⟩
              clear hLv hct hIj hG
              go_wp2_with (first
                | (go_at_call 16; refine hM.mono ?_; rintro e w3 ⟨ix, S3, ad, c3, rfl, hAd, hT3⟩; obtain ⟨P3, hG3⟩ := hG1.turn hT3; have hx := hAd.new; have HA : Hid (Live S3 (I ++ [ix]) ∧ cntS S3 = I.length + 1 ∧ sumS S3 = sumS S0 + (kk + 16)) := ⟨HL.out.1.more hAd, by rw [hAd.cnt, HL.out.2.1], hAd.sum⟩; have hLd := z_load hG3.hv (by omega) hx 0 ((kk : Int) - 1) (kk - 1) (by omega) (by omega) (show kk - 1 < kk by omega); clear hM hT3 hAd hG1)
                | (go_at_call 17; refine hLd.mono ?_; rintro e w4 ⟨rfl, c4, _, _, hT4⟩; obtain ⟨P4, hG4⟩ := hG3.turn hT4; rw [setF_at]; have hPt := z_put hG4.hv (by omega) hx 0 ((kk : Int) - 1) 77 (kk - 1) (by omega) (by omega) (show kk - 1 < kk by omega); clear hLd hT4 hG3)
                | (go_at_call 18; refine hPt.mono ?_; rintro e w5 ⟨rfl, c5, _, _, hT5⟩; obtain ⟨P7, hG5⟩ := hG4.turn hT5; clear hPt hT5 hG4; obtain ⟨ao7, cap7, w7, hrun, hG7⟩ := hG5.app ix (by have := HL.out.2.2.2; omega); clear hG5; obtain ⟨m7, hm7⟩ : ∃ m7, m7 = m + 1 + 1 + 1 := ⟨_, rfl⟩; rw [← hm7] at hG7; obtain ⟨c7, hc7⟩ : ∃ c7, c7 = c5 := ⟨_, rfl⟩; rw [← hc7] at hG7; clear hc7)
                | (go_at_call 8; refine (num_any _ _).mono ?_; rintro e w9 ⟨rfl, hw9⟩; replace hw9 := hw9.symm; subst hw9))
              obtain ⟨F7, hF7⟩ : ∃ F7, Ag w.heap.size w w7 P7 h m7 c7 S3 F7 (.slice ao7 (I.length + 1) cap7) (I ++ [ix]) := ⟨_, hG7⟩
              replace hG7 := hF7
              go_roundg (10 - (j + 1))
              case measure => omega
              case rel =>
                obtain ⟨l1, l2, l3, l4⟩ := HL.out
                obtain ⟨b1, b2, b3⟩ := HA.out
                exact ⟨j + 1, I ++ [ix], S3, ao7, cap7, by rw [List.length_append]; rfl, congrArg (Value.int .i64) (by omega), by go_num, by omega, by omega, P7, m7, c7, F7, by rw [List.length_append]; exact hG7, b1, by rw [b2, List.length_append]; rfl, by omega, by rw [List.length_append]; show I.length + 1 ≤ j + 1; omega⟩
            · as_aux_lemma =>
              have q1 : decide ((kk : Int) ≤ 64) = false := by simp; omega
              have hM := z_make (hG.hv.below ((Below.refl _ _).alloc (Nat.le_refl _) (.cells #[.int .i64 2, .int .i64 3] 3))) (by omega) 0 3 j kk kk rfl (by omega) (by omega) (by show (0 : Int) ≤ kk ∧ (kk : Int) ≤ 1000; omega) (by omega) hfit
              have hG1 := hG.below ((Below.refl _ _).alloc (Nat.le_refl _) (.cells #[.int .i64 2, .int .i64 3] 3))
              have HL : Hid (Live S0 I ∧ cntS S0 = I.length ∧ m ≤ 40 * i + 3 * j ∧ I.length ≤ j) := ⟨hLv, hct, hm, hIj⟩
              clear hLv hct hIj hG
              go_wp2_with (first
                | (go_at_call 16; refine hM.mono ?_; rintro e w3 ⟨ix, S3, ad, c3, rfl, hAd, hT3⟩; obtain ⟨P3, hG3⟩ := hG1.turn hT3; have hx := hAd.new; have HA : Hid (Live S3 (I ++ [ix]) ∧ cntS S3 = I.length + 1 ∧ sumS S3 = sumS S0 + (kk + 16)) := ⟨HL.out.1.more hAd, by rw [hAd.cnt, HL.out.2.1], hAd.sum⟩; have hLd := z_load hG3.hv (by omega) hx 0 ((kk : Int) - 1) (kk - 1) (by omega) (by omega) (show kk - 1 < kk by omega); clear hM hT3 hAd hG1)
                | (go_at_call 17; refine hLd.mono ?_; rintro e w4 ⟨rfl, c4, _, _, hT4⟩; obtain ⟨P4, hG4⟩ := hG3.turn hT4; rw [setF_at]; have hPt := z_put hG4.hv (by omega) hx 0 ((kk : Int) - 1) 77 (kk - 1) (by omega) (by omega) (show kk - 1 < kk by omega); clear hLd hT4 hG3)
                | (go_at_call 18; refine hPt.mono ?_; rintro e w5 ⟨rfl, c5, _, _, hT5⟩; obtain ⟨P7, hG5⟩ := hG4.turn hT5; clear hPt hT5 hG4; obtain ⟨ao7, cap7, w7, hrun, hG7⟩ := hG5.app ix (by have := HL.out.2.2.2; omega); clear hG5; obtain ⟨m7, hm7⟩ : ∃ m7, m7 = m + 1 + 1 + 1 := ⟨_, rfl⟩; rw [← hm7] at hG7; obtain ⟨c7, hc7⟩ : ∃ c7, c7 = c5 := ⟨_, rfl⟩; rw [← hc7] at hG7; clear hc7)
                | (go_at_call 8; refine (num_any _ _).mono ?_; rintro e w9 ⟨rfl, hw9⟩; replace hw9 := hw9.symm; subst hw9))
              obtain ⟨F7, hF7⟩ : ∃ F7, Ag w.heap.size w w7 P7 h m7 c7 S3 F7 (.slice ao7 (I.length + 1) cap7) (I ++ [ix]) := ⟨_, hG7⟩
              replace hG7 := hF7
              go_roundg (10 - (j + 1))
              case measure => omega
              case rel =>
                obtain ⟨l1, l2, l3, l4⟩ := HL.out
                obtain ⟨b1, b2, b3⟩ := HA.out
                exact ⟨j + 1, I ++ [ix], S3, ao7, cap7, by rw [List.length_append]; rfl, congrArg (Value.int .i64) (by omega), by go_num, by omega, by omega, P7, m7, c7, F7, by rw [List.length_append]; exact hG7, b1, by rw [b2, List.length_append]; rfl, by omega, by rw [List.length_append]; show I.length + 1 ≤ j + 1; omega⟩
          · by_cases hodd : bits BinOp.and .i64 (f j) 1 = 1
            · have q3 : (bits BinOp.and .i64 (f j) 1 == 1) = true := by simpa using hodd
              clear hodd
              by_cases hz : 0 < kk
              · have q2 : (0 : Int) < (kk : Int) := by omega
                rcases hpar with hp | hp
                · as_aux_lemma =>
                  have q1 : (kk : Int) ≤ 64 := by omega
                  have hM := z_make (hG.hv.below ((Below.refl _ _).alloc (Nat.le_refl _) (.cells #[.int .i64 2, .int .i64 3] 3))) (by omega) 0 1 j kk kk rfl (by omega) (by omega) (by show (0 : Int) ≤ kk ∧ (kk : Int) ≤ 64; omega) (by omega) hfit
                  have hG1 := hG.below ((Below.refl _ _).alloc (Nat.le_refl _) (.cells #[.int .i64 2, .int .i64 3] 3))
                  have HL : Hid (Live S0 I ∧ cntS S0 = I.length ∧ m ≤ 40 * i + 3 * j ∧ I.length ≤ j) := ⟨hLv, hct, hm, hIj⟩
                  clear hLv hct hIj hG
                  go_wp2_with (first
                    | (go_at_call 16; refine hM.mono ?_; rintro e w3 ⟨ix, S3, ad, c3, rfl, hAd, hT3⟩; obtain ⟨P3, hG3⟩ := hG1.turn hT3; have hx := hAd.new; have HA : Hid (Live S3 (I ++ [ix]) ∧ cntS S3 = I.length + 1 ∧ sumS S3 = sumS S0 + (kk + 16)) := ⟨HL.out.1.more hAd, by rw [hAd.cnt, HL.out.2.1], hAd.sum⟩; have hLd := z_load hG3.hv (by omega) hx 0 ((kk : Int) - 1) (kk - 1) (by omega) (by omega) (show kk - 1 < kk by omega); clear hM hT3 hAd hG1)
                    | (go_at_call 17; refine hLd.mono ?_; rintro e w4 ⟨rfl, c4, _, _, hT4⟩; obtain ⟨P4, hG4⟩ := hG3.turn hT4; rw [setF_at]; have hPt := z_put hG4.hv (by omega) hx 0 ((kk : Int) - 1) 77 (kk - 1) (by omega) (by omega) (show kk - 1 < kk by omega); clear hLd hT4 hG3)
                    | (go_at_call 18; refine hPt.mono ?_; rintro e w5 ⟨rfl, c5, _, _, hT5⟩; obtain ⟨P7, hG5⟩ := hG4.turn hT5; clear hPt hT5 hG4; obtain ⟨ao7, cap7, w7, hrun, hG7⟩ := hG5.app ix (by have := HL.out.2.2.2; omega); clear hG5; obtain ⟨m7, hm7⟩ : ∃ m7, m7 = m + 1 + 1 + 1 := ⟨_, rfl⟩; rw [← hm7] at hG7; obtain ⟨c7, hc7⟩ : ∃ c7, c7 = c5 := ⟨_, rfl⟩; rw [← hc7] at hG7; clear hc7)
                    | (go_at_call 8; refine (num_any _ _).mono ?_; rintro e w9 ⟨rfl, hw9⟩; replace hw9 := hw9.symm; subst hw9))
                  obtain ⟨F7, hF7⟩ : ∃ F7, Ag w.heap.size w w7 P7 h m7 c7 S3 F7 (.slice ao7 (I.length + 1) cap7) (I ++ [ix]) := ⟨_, hG7⟩
                  replace hG7 := hF7
                  go_roundg (10 - (j + 1))
                  case measure => omega
                  case rel =>
                    obtain ⟨l1, l2, l3, l4⟩ := HL.out
                    obtain ⟨b1, b2, b3⟩ := HA.out
                    exact ⟨j + 1, I ++ [ix], S3, ao7, cap7, by rw [List.length_append]; rfl, congrArg (Value.int .i64) (by omega), by go_num, by omega, by omega, P7, m7, c7, F7, by rw [List.length_append]; exact hG7, b1, by rw [b2, List.length_append]; rfl, by omega, by rw [List.length_append]; show I.length + 1 ≤ j + 1; omega⟩
                · as_aux_lemma =>
                  have q1 : (kk : Int) ≤ 64 := by omega
                  have hM := z_make (hG.hv.below ((Below.refl _ _).alloc (Nat.le_refl _) (.cells #[.int .i64 2, .int .i64 3] 3))) (by omega) 0 1 j kk kk rfl (by omega) (by omega) (by show (0 : Int) ≤ kk ∧ (kk : Int) ≤ 64; omega) (by omega) hfit
                  have hG1 := hG.below ((Below.refl _ _).alloc (Nat.le_refl _) (.cells #[.int .i64 2, .int .i64 3] 3))
                  have HL : Hid (Live S0 I ∧ cntS S0 = I.length ∧ m ≤ 40 * i + 3 * j ∧ I.length ≤ j) := ⟨hLv, hct, hm, hIj⟩
                  clear hLv hct hIj hG
                  go_wp2_with (first
                    | (go_at_call 16; refine hM.mono ?_; rintro e w3 ⟨ix, S3, ad, c3, rfl, hAd, hT3⟩; obtain ⟨P3, hG3⟩ := hG1.turn hT3; have hx := hAd.new; have HA : Hid (Live S3 (I ++ [ix]) ∧ cntS S3 = I.length + 1 ∧ sumS S3 = sumS S0 + (kk + 16)) := ⟨HL.out.1.more hAd, by rw [hAd.cnt, HL.out.2.1], hAd.sum⟩; have hLd := z_load hG3.hv (by omega) hx 0 ((kk : Int) - 1) (kk - 1) (by omega) (by omega) (show kk - 1 < kk by omega); clear hM hT3 hAd hG1)
                    | (go_at_call 17; refine hLd.mono ?_; rintro e w4 ⟨rfl, c4, _, _, hT4⟩; obtain ⟨P4, hG4⟩ := hG3.turn hT4; rw [setF_at]; have hPt := z_put hG4.hv (by omega) hx 0 ((kk : Int) - 1) 77 (kk - 1) (by omega) (by omega) (show kk - 1 < kk by omega); clear hLd hT4 hG3)
                    | (go_at_call 18; refine hPt.mono ?_; rintro e w5 ⟨rfl, c5, _, _, hT5⟩; obtain ⟨P7, hG5⟩ := hG4.turn hT5; clear hPt hT5 hG4; obtain ⟨ao7, cap7, w7, hrun, hG7⟩ := hG5.app ix (by have := HL.out.2.2.2; omega); clear hG5; obtain ⟨m7, hm7⟩ : ∃ m7, m7 = m + 1 + 1 + 1 := ⟨_, rfl⟩; rw [← hm7] at hG7; obtain ⟨c7, hc7⟩ : ∃ c7, c7 = c5 := ⟨_, rfl⟩; rw [← hc7] at hG7; clear hc7)
                    | (go_at_call 8; refine (num_any _ _).mono ?_; rintro e w9 ⟨rfl, hw9⟩; replace hw9 := hw9.symm; subst hw9))
                  obtain ⟨F7, hF7⟩ : ∃ F7, Ag w.heap.size w w7 P7 h m7 c7 S3 F7 (.slice ao7 (I.length + 1) cap7) (I ++ [ix]) := ⟨_, hG7⟩
                  replace hG7 := hF7
                  go_roundg (10 - (j + 1))
                  case measure => omega
                  case rel =>
                    obtain ⟨l1, l2, l3, l4⟩ := HL.out
                    obtain ⟨b1, b2, b3⟩ := HA.out
                    exact ⟨j + 1, I ++ [ix], S3, ao7, cap7, by rw [List.length_append]; rfl, congrArg (Value.int .i64) (by omega), by go_num, by omega, by omega, P7, m7, c7, F7, by rw [List.length_append]; exact hG7, b1, by rw [b2, List.length_append]; rfl, by omega, by rw [List.length_append]; show I.length + 1 ≤ j + 1; omega⟩
              · have q2 : decide ((0 : Int) < (kk : Int)) = false := by simp; omega
                rcases hpar with hp | hp
                · as_aux_lemma =>
                  have q1 : (kk : Int) ≤ 64 := by omega
                  have hM := z_make (hG.hv.below ((Below.refl _ _).alloc (Nat.le_refl _) (.cells #[.int .i64 2, .int .i64 3] 3))) (by omega) 0 1 j kk kk rfl (by omega) (by omega) (by show (0 : Int) ≤ kk ∧ (kk : Int) ≤ 64; omega) (by omega) hfit
                  have hG1 := hG.below ((Below.refl _ _).alloc (Nat.le_refl _) (.cells #[.int .i64 2, .int .i64 3] 3))
                  have HL : Hid (Live S0 I ∧ cntS S0 = I.length ∧ m ≤ 40 * i + 3 * j ∧ I.length ≤ j) := ⟨hLv, hct, hm, hIj⟩
                  clear hLv hct hIj hG
                  go_wp2_with (first
                    | (go_at_call 16; refine hM.mono ?_; rintro e w3 ⟨ix, S3, ad, c7, rfl, hAd, hT3⟩; obtain ⟨P7, hG3⟩ := hG1.turn hT3; have HA : Hid (Live S3 (I ++ [ix]) ∧ cntS S3 = I.length + 1 ∧ sumS S3 = sumS S0 + (kk + 16)) := ⟨HL.out.1.more hAd, by rw [hAd.cnt, HL.out.2.1], hAd.sum⟩; clear hM hT3 hAd hG1; obtain ⟨ao7, cap7, w7, hrun, hG7⟩ := hG3.app ix (by have := HL.out.2.2.2; omega); clear hG3; obtain ⟨m7, hm7⟩ : ∃ m7, m7 = m + 1 := ⟨_, rfl⟩; rw [← hm7] at hG7)
                    | (go_at_call 8; refine (num_any _ _).mono ?_; rintro e w9 ⟨rfl, hw9⟩; replace hw9 := hw9.symm; subst hw9))
                  obtain ⟨F7, hF7⟩ : ∃ F7, Ag w.heap.size w w7 P7 h m7 c7 S3 F7 (.slice ao7 (I.length + 1) cap7) (I ++ [ix]) := ⟨_, hG7⟩
                  replace hG7 := hF7
                  go_roundg (10 - (j + 1))
                  case measure => omega
                  case rel =>
                    obtain ⟨l1, l2, l3, l4⟩ := HL.out
                    obtain ⟨b1, b2, b3⟩ := HA.out
                    exact ⟨j + 1, I ++ [ix], S3, ao7, cap7, by rw [List.length_append]; rfl, congrArg (Value.int .i64) (by omega), by go_num, by omega, by omega, P7, m7, c7, F7, by rw [List.length_append]; exact hG7, b1, by rw [b2, List.length_append]; rfl, by omega, by rw [List.length_append]; show I.length + 1 ≤ j + 1; omega⟩
                · as_aux_lemma =>
                  have q1 : (kk : Int) ≤ 64 := by omega
                  have hM := z_make (hG.hv.below ((Below.refl _ _).alloc (Nat.le_refl _) (.cells #[.int .i64 2, .int .i64 3] 3))) (by omega) 0 1 j kk kk rfl (by omega) (by omega) (by show (0 : Int) ≤ kk ∧ (kk : Int) ≤ 64; omega) (by omega) hfit
                  have hG1 := hG.below ((Below.refl _ _).alloc (Nat.le_refl _) (.cells #[.int .i64 2, .int .i64 3] 3))
                  have HL : Hid (Live S0 I ∧ cntS S0 = I.length ∧ m ≤ 40 * i + 3 * j ∧ I.length ≤ j) := ⟨hLv, hct, hm, hIj⟩
                  clear hLv hct hIj hG
                  go_wp2_with (first
                    | (go_at_call 16; refine hM.mono ?_; rintro e w3 ⟨ix, S3, ad, c7, rfl, hAd, hT3⟩; obtain ⟨P7, hG3⟩ := hG1.turn hT3; have HA : Hid (Live S3 (I ++ [ix]) ∧ cntS S3 = I.length + 1 ∧ sumS S3 = sumS S0 + (kk + 16)) := ⟨HL.out.1.more hAd, by rw [hAd.cnt, HL.out.2.1], hAd.sum⟩; clear hM hT3 hAd hG1; obtain ⟨ao7, cap7, w7, hrun, hG7⟩ := hG3.app ix (by have := HL.out.2.2.2; omega); clear hG3; obtain ⟨m7, hm7⟩ : ∃ m7, m7 = m + 1 := ⟨_, rfl⟩; rw [← hm7] at hG7)
                    | (go_at_call 8; refine (num_any _ _).mono ?_; rintro e w9 ⟨rfl, hw9⟩; replace hw9 := hw9.symm; subst hw9))
                  obtain ⟨F7, hF7⟩ : ∃ F7, Ag w.heap.size w w7 P7 h m7 c7 S3 F7 (.slice ao7 (I.length + 1) cap7) (I ++ [ix]) := ⟨_, hG7⟩
                  replace hG7 := hF7
                  go_roundg (10 - (j + 1))
                  case measure => omega
                  case rel =>
                    obtain ⟨l1, l2, l3, l4⟩ := HL.out
                    obtain ⟨b1, b2, b3⟩ := HA.out
                    exact ⟨j + 1, I ++ [ix], S3, ao7, cap7, by rw [List.length_append]; rfl, congrArg (Value.int .i64) (by omega), by go_num, by omega, by omega, P7, m7, c7, F7, by rw [List.length_append]; exact hG7, b1, by rw [b2, List.length_append]; rfl, by omega, by rw [List.length_append]; show I.length + 1 ≤ j + 1; omega⟩
            · have q3 : (bits BinOp.and .i64 (f j) 1 == 1) = false := by simpa using hodd
              clear hodd
              by_cases hz : 0 < kk
              · have q2 : (0 : Int) < (kk : Int) := by omega
                rcases hpar with hp | hp
                · as_aux_lemma =>
                  have q1 : (kk : Int) ≤ 64 := by omega
                  have hM := z_make (hG.hv.below ((Below.refl _ _).alloc (Nat.le_refl _) (.cells #[.int .i64 2, .int .i64 3] 3))) (by omega) 0 2 j kk kk rfl (by omega) (by omega) (by show (0 : Int) ≤ kk ∧ (kk : Int) ≤ 1000; omega) (by omega) hfit
                  have hG1 := hG.below ((Below.refl _ _).alloc (Nat.le_refl _) (.cells #[.int .i64 2, .int .i64 3] 3))
                  have HL : Hid (Live S0 I ∧ cntS S0 = I.length ∧ m ≤ 40 * i + 3 * j ∧ I.length ≤ j) := ⟨hLv, hct, hm, hIj⟩
                  clear hLv hct hIj hG
                  go_wp2_with (first
                    | (go_at_call 16; refine hM.mono ?_; rintro e w3 ⟨ix, S3, ad, c3, rfl, hAd, hT3⟩; obtain ⟨P3, hG3⟩ := hG1.turn hT3; have hx := hAd.new; have HA : Hid (Live S3 (I ++ [ix]) ∧ cntS S3 = I.length + 1 ∧ sumS S3 = sumS S0 + (kk + 16)) := ⟨HL.out.1.more hAd, by rw [hAd.cnt, HL.out.2.1], hAd.sum⟩; have hLd := z_load hG3.hv (by omega) hx 0 ((kk : Int) - 1) (kk - 1) (by omega) (by omega) (show kk - 1 < kk by omega); clear hM hT3 hAd hG1)
                    | (go_at_call 17; refine hLd.mono ?_; rintro e w4 ⟨rfl, c4, _, _, hT4⟩; obtain ⟨P4, hG4⟩ := hG3.turn hT4; rw [setF_at]; have hPt := z_put hG4.hv (by omega) hx 0 ((kk : Int) - 1) 77 (kk - 1) (by omega) (by omega) (show kk - 1 < kk by omega); clear hLd hT4 hG3)
                    | (go_at_call 18; refine hPt.mono ?_; rintro e w5 ⟨rfl, c5, _, _, hT5⟩; obtain ⟨P7, hG5⟩ := hG4.turn hT5; clear hPt hT5 hG4; obtain ⟨ao7, cap7, w7, hrun, hG7⟩ := hG5.app ix (by have := HL.out.2.2.2; omega); clear hG5; obtain ⟨m7, hm7⟩ : ∃ m7, m7 = m + 1 + 1 + 1 := ⟨_, rfl⟩; rw [← hm7] at hG7; obtain ⟨c7, hc7⟩ : ∃ c7, c7 = c5 := ⟨_, rfl⟩; rw [← hc7] at hG7; clear hc7)
                    | (go_at_call 8; refine (num_any _ _).mono ?_; rintro e w9 ⟨rfl, hw9⟩; replace hw9 := hw9.symm; subst hw9))
                  obtain ⟨F7, hF7⟩ : ∃ F7, Ag w.heap.size w w7 P7 h m7 c7 S3 F7 (.slice ao7 (I.length + 1) cap7) (I ++ [ix]) := ⟨_, hG7⟩
                  replace hG7 := hF7
                  go_roundg (10 - (j + 1))
                  case measure => omega
                  case rel =>
                    obtain ⟨l1, l2, l3, l4⟩ := HL.out
                    obtain ⟨b1, b2, b3⟩ := HA.out
                    exact ⟨j + 1, I ++ [ix], S3, ao7, cap7, by rw [List.length_append]; rfl, congrArg (Value.int .i64) (by omega), by go_num, by omega, by omega, P7, m7, c7, F7, by rw [List.length_append]; exact hG7, b1, by rw [b2, List.length_append]; rfl, by omega, by rw [List.length_append]; show I.length + 1 ≤ j + 1; omega⟩
                · as_aux_lemma =>
                  have q1 : (kk : Int) ≤ 64 := by omega
                  have hM := z_make (hG.hv.below ((Below.refl _ _).alloc (Nat.le_refl _) (.cells #[.int .i64 2, .int .i64 3] 3))) (by omega) 0 3 j kk kk rfl (by omega) (by omega) (by show (0 : Int) ≤ kk ∧ (kk : Int) ≤ 1000; omega) (by omega) hfit
                  have hG1 := hG.below ((Below.refl _ _).alloc (Nat.le_refl _) (.cells #[.int .i64 2, .int .i64 3] 3))
                  have HL : Hid (Live S0 I ∧ cntS S0 = I.length ∧ m ≤ 40 * i + 3 * j ∧ I.length ≤ j) := ⟨hLv, hct, hm, hIj⟩
                  clear hLv hct hIj hG
                  go_wp2_with (first
                    | (go_at_call 16; refine hM.mono ?_; rintro e w3 ⟨ix, S3, ad, c3, rfl, hAd, hT3⟩; obtain ⟨P3, hG3⟩ := hG1.turn hT3; have hx := hAd.new; have HA : Hid (Live S3 (I ++ [ix]) ∧ cntS S3 = I.length + 1 ∧ sumS S3 = sumS S0 + (kk + 16)) := ⟨HL.out.1.more hAd, by rw [hAd.cnt, HL.out.2.1], hAd.sum⟩; have hLd := z_load hG3.hv (by omega) hx 0 ((kk : Int) - 1) (kk - 1) (by omega) (by omega) (show kk - 1 < kk by omega); clear hM hT3 hAd hG1)
                    | (go_at_call 17; refine hLd.mono ?_; rintro e w4 ⟨rfl, c4, _, _, hT4⟩; obtain ⟨P4, hG4⟩ := hG3.turn hT4; rw [setF_at]; have hPt := z_put hG4.hv (by omega) hx 0 ((kk : Int) - 1) 77 (kk - 1) (by omega) (by omega) (show kk - 1 < kk by omega); clear hLd hT4 hG3)
                    | (go_at_call 18; refine hPt.mono ?_; rintro e w5 ⟨rfl, c5, _, _, hT5⟩; obtain ⟨P7, hG5⟩ := hG4.turn hT5; clear hPt hT5 hG4; obtain ⟨ao7, cap7, w7, hrun, hG7⟩ := hG5.app ix (by have := HL.out.2.2.2; omega); clear hG5; obtain ⟨m7, hm7⟩ : ∃ m7, m7 = m + 1 + 1 + 1 := ⟨_, rfl⟩; rw [← hm7] at hG7; obtain ⟨c7, hc7⟩ : ∃ c7, c7 = c5 := ⟨_, rfl⟩; rw [← hc7] at hG7; clear hc7)
                    | (go_at_call 8; refine (num_any _ _).mono ?_; rintro e w9 ⟨rfl, hw9⟩; replace hw9 := hw9.symm; subst hw9))
                  obtain ⟨F7, hF7⟩ : ∃ F7, Ag w.heap.size w w7 P7 h m7 c7 S3 F7 (.slice ao7 (I.length + 1) cap7) (I ++ [ix]) := ⟨_, hG7⟩
                  replace hG7 := hF7
                  go_roundg (10 - (j + 1))
                  case measure => omega
                  case rel =>
                    obtain ⟨l1, l2, l3, l4⟩ := HL.out
                    obtain ⟨b1, b2, b3⟩ := HA.out
                    exact ⟨j + 1, I ++ [ix], S3, ao7, cap7, by rw [List.length_append]; rfl, congrArg (Value.int .i64) (by omega), by go_num, by omega, by omega, P7, m7, c7, F7, by rw [List.length_append]; exact hG7, b1, by rw [b2, List.length_append]; rfl, by omega, by rw [List.length_append]; show I.length + 1 ≤ j + 1; omega⟩
              · have q2 : decide ((0 : Int) < (kk : Int)) = false := by simp; omega
                rcases hpar with hp | hp
                · as_aux_lemma =>
                  have q1 : (kk : Int) ≤ 64 := by omega
                  have hM := z_make (hG.hv.below ((Below.refl _ _).alloc (Nat.le_refl _) (.cells #[.int .i64 2, .int .i64 3] 3))) (by omega) 0 2 j kk kk rfl (by omega) (by omega) (by show (0 : Int) ≤ kk ∧ (kk : Int) ≤ 1000; omega) (by omega) hfit
                  have hG1 := hG.below ((Below.refl _ _).alloc (Nat.le_refl _) (.cells #[.int .i64 2, .int .i64 3] 3))
                  have HL : Hid (Live S0 I ∧ cntS S0 = I.length ∧ m ≤ 40 * i + 3 * j ∧ I.length ≤ j) := ⟨hLv, hct, hm, hIj⟩
                  clear hLv hct hIj hG
                  go_wp2_with (first
                    | (go_at_call 16; refine hM.mono ?_; rintro e w3 ⟨ix, S3, ad, c7, rfl, hAd, hT3⟩; obtain ⟨P7, hG3⟩ := hG1.turn hT3; have HA : Hid (Live S3 (I ++ [ix]) ∧ cntS S3 = I.length + 1 ∧ sumS S3 = sumS S0 + (kk + 16)) := ⟨HL.out.1.more hAd, by rw [hAd.cnt, HL.out.2.1], hAd.sum⟩; clear hM hT3 hAd hG1; obtain ⟨ao7, cap7, w7, hrun, hG7⟩ := hG3.app ix (by have := HL.out.2.2.2; omega); clear hG3; obtain ⟨m7, hm7⟩ : ∃ m7, m7 = m + 1 := ⟨_, rfl⟩; rw [← hm7] at hG7)
                    | (go_at_call 8; refine (num_any _ _).mono ?_; rintro e w9 ⟨rfl, hw9⟩; replace hw9 := hw9.symm; subst hw9))
                  obtain ⟨F7, hF7⟩ : ∃ F7, Ag w.heap.size w w7 P7 h m7 c7 S3 F7 (.slice ao7 (I.length + 1) cap7) (I ++ [ix]) := ⟨_, hG7⟩
                  replace hG7 := hF7
                  go_roundg (10 - (j + 1))
                  case measure => omega
                  case rel =>
                    obtain ⟨l1, l2, l3, l4⟩ := HL.out
                    obtain ⟨b1, b2, b3⟩ := HA.out
                    exact ⟨j + 1, I ++ [ix], S3, ao7, cap7, by rw [List.length_append]; rfl, congrArg (Value.int .i64) (by omega), by go_num, by omega, by omega, P7, m7, c7, F7, by rw [List.length_append]; exact hG7, b1, by rw [b2, List.length_append]; rfl, by omega, by rw [List.length_append]; show I.length + 1 ≤ j + 1; omega⟩
                · as_aux_lemma =>
                  have q1 : (kk : Int) ≤ 64 := by omega
                  have hM := z_make (hG.hv.below ((Below.refl _ _).alloc (Nat.le_refl _) (.cells #[.int .i64 2, .int .i64 3] 3))) (by omega) 0 3 j kk kk rfl (by omega) (by omega) (by show (0 : Int) ≤ kk ∧ (kk : Int) ≤ 1000; omega) (by omega) hfit
                  have hG1 := hG.below ((Below.refl _ _).alloc (Nat.le_refl _) (.cells #[.int .i64 2, .int .i64 3] 3))
                  have HL : Hid (Live S0 I ∧ cntS S0 = I.length ∧ m ≤ 40 * i + 3 * j ∧ I.length ≤ j) := ⟨hLv, hct, hm, hIj⟩
                  clear hLv hct hIj hG
                  go_wp2_with (first
                    | (go_at_call 16; refine hM.mono ?_; rintro e w3 ⟨ix, S3, ad, c7, rfl, hAd, hT3⟩; obtain ⟨P7, hG3⟩ := hG1.turn hT3; have HA : Hid (Live S3 (I ++ [ix]) ∧ cntS S3 = I.length + 1 ∧ sumS S3 = sumS S0 + (kk + 16)) := ⟨HL.out.1.more hAd, by rw [hAd.cnt, HL.out.2.1], hAd.sum⟩; clear hM hT3 hAd hG1; obtain ⟨ao7, cap7, w7, hrun, hG7⟩ := hG3.app ix (by have := HL.out.2.2.2; omega); clear hG3; obtain ⟨m7, hm7⟩ : ∃ m7, m7 = m + 1 := ⟨_, rfl⟩; rw [← hm7] at hG7)
                    | (go_at_call 8; refine (num_any _ _).mono ?_; rintro e w9 ⟨rfl, hw9⟩; replace hw9 := hw9.symm; subst hw9))
                  obtain ⟨F7, hF7⟩ : ∃ F7, Ag w.heap.size w w7 P7 h m7 c7 S3 F7 (.slice ao7 (I.length + 1) cap7) (I ++ [ix]) := ⟨_, hG7⟩
                  replace hG7 := hF7
                  go_roundg (10 - (j + 1))
                  case measure => omega
                  case rel =>
                    obtain ⟨l1, l2, l3, l4⟩ := HL.out
                    obtain ⟨b1, b2, b3⟩ := HA.out
                    exact ⟨j + 1, I ++ [ix], S3, ao7, cap7, by rw [List.length_append]; rfl, congrArg (Value.int .i64) (by omega), by go_num, by omega, by omega, P7, m7, c7, F7, by rw [List.length_append]; exact hG7, b1, by rw [b2, List.length_append]; rfl, by omega, by rw [List.length_append]; show I.length + 1 ≤ j + 1; omega⟩
      · have HF : Hid (AgF w.heap.size w wr h i 0 (.slice sa I.length sc) I) := ⟨P, m, c, S0, F, hG, hLv, by omega, by omega⟩
        have HN : Hid (I.length ≤ 10 ∧ i ≤ R) := ⟨by omega, hir⟩
        have hLv0 := hLv
        have hIj0 := hIj
        have hj0 := hj
        clear hG hLv hct hm hIj
        by_cases hjN : j < N
        · have j1 : (j : Int) < (N : Int) := by omega
          have j2 : ¬ (j : Int) < 10 := by omega
          as_aux_lemma =>
            go_wp2
            clear hLv0 hIj0 hj0 hk2
            go_loopg [17] (I.length + 1) (fun kx s17 wx => ∃ t : Nat, s17 = .int .i64 t ∧ t ≤ I.length ∧ I.length - t ≤ kx ∧ AgF w.heap.size w wx h i t (.slice sa I.length sc) I)
            case atStart => exact ⟨0, rfl, by omega, by omega, HF.out⟩
            case round =>
            clear HF
            obtain ⟨t, rfl, ht, hk3, P, m, c, S, F, hG, hLv, hct, hm⟩ := hrel
            by_cases htl : t < I.length
            · have htl' : (t : Int) < (I.length : Int) := by omega
              have ht10 : t < 10 := by have := HN.out.1; omega
              obtain ⟨p, rfl, hc⟩ := hG.cells (by omega)
              have hx : I[t]? = some I[t] := List.getElem?_eq_getElem htl
              have ci := hc t _ hx
              have hdr : I.drop t = I[t] :: I.drop (t + 1) := List.drop_eq_getElem_cons htl
              rw [hdr] at hLv
              obtain ⟨cl, hcl⟩ := hLv.2 I[t] List.mem_cons_self
              have hLv2 := hLv.gone
              have hcn := (sumS_gone S I[t] cl hcl).2
              generalize I[t] = ix at *
              have hFr := z_free hG.hv (by have := HN.out.1; have := HN.out.2; omega) hcl 0 (by omega)
              have HL : Hid (Live (S.set ix none) (I.drop (t + 1)) ∧ cntS (S.set ix none) + (t + 1) = I.length ∧ m + 1 ≤ 40 * i + 30 + (t + 1)) := ⟨hLv2, by omega, by omega⟩
              clear hLv hct hm hx hc hdr hLv2 hcn hcl
              generalize hln : I.length = ln at *
              go_wp2_with (first
                | (go_at_call 19; refine hFr.mono ?_; rintro e w5 ⟨rfl, c5, hT5⟩; obtain ⟨P5, hG5⟩ := hG.turn hT5; clear hFr hT5)
                | (go_at_call 8; refine (num_any _ _).mono ?_; rintro e w9 ⟨rfl, hw9⟩; replace hw9 := hw9.symm; subst hw9))
              go_roundg (ln - (t + 1))
              case measure => omega
              case rel => exact ⟨t + 1, by go_num, by omega, by omega, P5, _, c5, _, F, hG5, HL.out.1, by rw [hln]; exact HL.out.2.1, HL.out.2.2⟩
            · have htl' : ¬ (t : Int) < (I.length : Int) := by omega
              have HO : Hid (AgO w.heap.size w wr h (i + 1)) := ⟨P, m, c, S, F, hG.hv, by omega, by have := HN.out.1; omega⟩
              clear hLv hct hm hG
              go_wp2
              go_roundg (R - i)
              case measure => have := HN.out.2; omega
              case rel => exact ⟨i + 1, by go_num, by have := HN.out.2; omega, by have := HN.out.2; omega, HO.out⟩
        · have j1 : ¬ (j : Int) < (N : Int) := by omega
          as_aux_lemma =>
            go_wp2
            clear hLv0 hIj0 hj0 hk2
            go_loopg [17] (I.length + 1) (fun kx s17 wx => ∃ t : Nat, s17 = .int .i64 t ∧ t ≤ I.length ∧ I.length - t ≤ kx ∧ AgF w.heap.size w wx h i t (.slice sa I.length sc) I)
            case atStart => exact ⟨0, rfl, by omega, by omega, HF.out⟩
            case round =>
            clear HF
            obtain ⟨t, rfl, ht, hk3, P, m, c, S, F, hG, hLv, hct, hm⟩ := hrel
            by_cases htl : t < I.length
            · have htl' : (t : Int) < (I.length : Int) := by omega
              have ht10 : t < 10 := by have := HN.out.1; omega
              obtain ⟨p, rfl, hc⟩ := hG.cells (by omega)
              have hx : I[t]? = some I[t] := List.getElem?_eq_getElem htl
              have ci := hc t _ hx
              have hdr : I.drop t = I[t] :: I.drop (t + 1) := List.drop_eq_getElem_cons htl
              rw [hdr] at hLv
              obtain ⟨cl, hcl⟩ := hLv.2 I[t] List.mem_cons_self
              have hLv2 := hLv.gone
              have hcn := (sumS_gone S I[t] cl hcl).2
              generalize I[t] = ix at *
              have hFr := z_free hG.hv (by have := HN.out.1; have := HN.out.2; omega) hcl 0 (by omega)
              have HL : Hid (Live (S.set ix none) (I.drop (t + 1)) ∧ cntS (S.set ix none) + (t + 1) = I.length ∧ m + 1 ≤ 40 * i + 30 + (t + 1)) := ⟨hLv2, by omega, by omega⟩
              clear hLv hct hm hx hc hdr hLv2 hcn hcl
              generalize hln : I.length = ln at *
              go_wp2_with (first
                | (go_at_call 19; refine hFr.mono ?_; rintro e w5 ⟨rfl, c5, hT5⟩; obtain ⟨P5, hG5⟩ := hG.turn hT5; clear hFr hT5)
                | (go_at_call 8; refine (num_any _ _).mono ?_; rintro e w9 ⟨rfl, hw9⟩; replace hw9 := hw9.symm; subst hw9))
              go_roundg (ln - (t + 1))
              case measure => omega
              case rel => exact ⟨t + 1, by go_num, by omega, by omega, P5, _, c5, _, F, hG5, HL.out.1, by rw [hln]; exact HL.out.2.1, HL.out.2.2⟩
            · have htl' : ¬ (t : Int) < (I.length : Int) := by omega
              have HO : Hid (AgO w.heap.size w wr h (i + 1)) := ⟨P, m, c, S, F, hG.hv, by omega, by have := HN.out.1; omega⟩
              clear hLv hct hm hG
              go_wp2
              go_roundg (R - i)
              case measure => have := HN.out.2; omega
              case rel => exact ⟨i + 1, by go_num, by have := HN.out.2; omega, by have := HN.out.2; omega, HO.out⟩
    · have hir' : ¬ (i : Int) ≤ (R : Int) := by omega
      obtain ⟨P, m, c, S, F, hH, hc0, hm⟩ := hO
      have hRf := z_refs hH (by omega)
      have HC : Hid (cntS S = 0) := hc0
      clear hc0
      go_wp2_with (first
        | (go_at_call 13; refine hRf.mono ?_; rintro e w6 ⟨v, rfl, hRi, hb6⟩; obtain ⟨ao6, cap6, rfl⟩ := hRi.form; rw [nums_len, HC.out]; have HB : Hid (Below w.heap.size w w6) := (hH.below hb6).bel; clear hRf hb6 hRi)
        | (go_at_call 8; refine (num_any _ _).mono ?_; rintro e w9 ⟨rfl, hw9⟩; replace hw9 := hw9.symm; subst hw9))
      go_ret
      exact ⟨rfl, HB.out⟩
end Go.Proofs.YtnnjinkadcagdaaGreat
