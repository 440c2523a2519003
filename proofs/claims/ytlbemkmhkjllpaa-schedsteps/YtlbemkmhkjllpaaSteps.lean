/- The walk of the law SchedSteps: whatever it is called with it returns true, and of what was there nothing turns. -/
import Derived.Test.YtlbemkmhkjllpaaNow
namespace Go.Proofs.Ytlbemkmhkjllpaa
open Go.RowKit Go.Conc

set_option maxRecDepth 20000 in
theorem bad_agents (x : Int) (v1 v2 v : Value) (N M : Nat) (f g : Nat → Int) (w : World) (hx : ¬ (1 ≤ x ∧ x ≤ 12)) (hN : N ≤ 17592186043904) (hM : M ≤ 17592186043904) (h1 : Ints w v1 N f) (h2 : Ints w v2 M g) :
    Calls Try.prog 3 #[.int .i64 x, v1, v2, v] w fun e w' => e = .returned (.bool true) ∧ Below w.heap.size w w' := by
  have hn := fun v1 v2 wx => new_no x v1 v2 wx hx
  have hl := lend_any v1 N f w hN h1
  have hl2 := fun wx (hb : Below w.heap.size w wx) => lend_any v2 M g wx hM (h2.below hb)
  have hc : x < 1 ∨ (1 ≤ x ∧ 12 < x) := by omega
  clear hx h1 h2
  rcases hc with hc | ⟨hc, hd⟩ <;>
  · go_enter Try.func3, Try.ntmps3
    go_wp2_with (first
      | (go_at_call 7; refine (hl2 _ hb1).mono ?_; rintro e w2 ⟨p2, c2, rfl, l2, hL2, hb2⟩)
      | (go_at_call 7; refine hl.mono ?_; rintro e w1 ⟨p1, c1, rfl, l1, hL1, hb1⟩)
      | (go_at_call 8; refine (hn _ _ _).mono ?_; rintro e w3 ⟨rfl, rfl⟩)
      | (go_at_call 9; refine (num_any _ _).mono ?_; rintro e wn ⟨rfl, rfl⟩)
      | (go_at_call 10; refine (awake_any _).mono ?_; rintro e w4 ⟨rfl, hb4⟩))
    go_ret
    have hb := hb1.trans (hb2.mono hb1.size)
    exact ⟨rfl, hb.trans (hb4.mono hb.size)⟩

set_option maxHeartbeats 20000000 in
set_option maxRecDepth 20000 in
theorem main_walk (G N M : Nat) (v1 v2 : Value) (f g : Nat → Int) (ao : Option Addr) (len cap : Nat) (w : World) (hG : 1 ≤ G) (hG' : G ≤ 12) (hN : N ≤ 17592186043904) (hM : M ≤ 17592186043904) (h1 : Ints w v1 N f) (h2 : Ints w v2 M g) (hlen : len ≤ maxLen)
    (hs : len = 0 ∨ ∃ (B o : Nat) (F : Nat → Nat → Int), ao = some ⟨B, o, none⟩ ∧ B < w.heap.size ∧ ∀ i j, i < len → j < 3 → w.cell? ⟨B, o + i * 3 + j, none⟩ = some (.int .i64 (F i j))) :
    Calls Try.prog 3 #[.int .i64 G, v1, v2, .slice ao len cap] w fun e w' => e = .returned (.bool true) ∧ Below w.heap.size w w' := by
  unfold maxLen at hlen
  have hmk := run_make_row' (P := Try.prog) 22 3 (.int .i64 0) 8 Try.underlying22 info3 rfl .i64 .i64 G (by omega) (by omega)
  have hl := lend_any v1 N f w hN h1
  have hl2 := fun wx (hb : Below w.heap.size w wx) => lend_any v2 M g wx hM (h2.below hb)
  have h2' := h2
  obtain ⟨ao1, cap1, rfl, hv1⟩ := h1
  obtain ⟨ao2, cap2, rfl, hv2⟩ := h2
  go_enter Try.func3, Try.ntmps3
  go_upto_region 6 with (first
    | (go_at_call 7; refine (hl2 _ hb1).mono ?_; rintro e w2 ⟨qy, cy, rfl, l2, hL2, hb2⟩; have hb12 := hb1.trans (hb2.mono hb1.size); have hL1' := hL1.of_block (hb2.block _ hL1.lt))
    | (go_at_call 7; refine hl.mono ?_; rintro e w1 ⟨p1, c1, rfl, l1, hL1, hb1⟩)
    | (go_at_call 8; refine (new_far G N M _ _ f g w _ hG hG' (by omega) (by omega) hb12 hL1'.ints hL2.ints).mono ?_; rintro e w3 ⟨b, ba, bp, bi, rfl, hR, hb3, li⟩; have hL3 := hL1'.of_block (hb3.block _ hL1'.lt))
    | (go_at_call 11; refine (spoil_any hL3).mono ?_; rintro e w4 ⟨rfl, hb4⟩))
  have hR4 := hR.spoilt hL3 hb4 (by have := hL1'.lt; omega) l1
  have hY4 := (hL2.of_block (hb3.block _ hL2.lt)).of_block (hb4.block _ (Nat.lt_of_lt_of_le hL2.lt hb3.size) (by have := hL1.lt; omega) (by have := hL1.lt; omega))
  clear hl hl2 hL1 hL1' hL2 hL3 hb1 hb2 hb12 hb3 hb4 hR li l1 l2
  go_cut [13, 14] (fun v13 v14 wx => ∃ ps pp, v13 = .slice (some ⟨ps, 0, none⟩) G G ∧ v14 = .slice (some ⟨pp, 0, none⟩) G G ∧ Even w wx b ba bp bi ps pp qy cy G N M (fun _ => 0) (fun i => plc G (f i)) 0 g 0)
  case first =>
    go_region
    · as_aux_lemma =>
        go_wp2_with fail
        go_meet
        obtain ⟨r1, r2⟩ := two_rows w4 G G
        exact ⟨_, _, rfl, rfl, even_start hR4 hY4 (feed_start w4 _ _).drew r1.drew r2.drew (by omega) (by omega) (by omega)⟩
    · as_aux_lemma =>
        go_wp2_with fail
        go_meet
        obtain ⟨r1, r2⟩ := two_rows w4 G G
        exact ⟨_, _, rfl, rfl, even_start hR4 hY4 (feed_start w4 _ _).drew r2.drew r1.drew (by omega) (by omega) (by omega)⟩
  case rest =>
    obtain ⟨ps, pp, rfl, rfl, hE⟩ := hcut
    clear hmk hR4 hY4
    go_wp2_with fail
    go_loopg [15, 16, 17, 18] 300 (fun rem v15 v16 v17 v18 wr => ∃ (k t r s : Nat) (cs : Nat → Int), rem = 300 - k ∧ k ≤ len ∧ k ≤ 300 ∧ v15 = .int .i64 t ∧ v16 = .int .i64 r ∧ v17 = .int .i64 s ∧ v18 = .int .i64 k ∧ r ≤ M ∧ Fit G N t s cs ∧ Even w wr b ba bp bi ps pp qy cy G N M cs (fun i => plc G (f i)) t g r)
    case atStart => exact ⟨0, 0, 0, 0, _, rfl, by omega, by omega, rfl, rfl, rfl, rfl, by omega, fit_start G N, hE⟩
    case round =>
      clear hE
      obtain ⟨k, t, r, s, cs, rfl, hk1, hk2, rfl, rfl, rfl, rfl, hr, hF, hE⟩ := hrel
      have hT1 := hF.le
      have hT2 := hF.tot
      have hT3 := total_nonneg cs hF.pos G
      have hS : s ≤ t := by omega
      clear hT2 hT3
      by_cases hgo : k < len ∧ k < 300
      · obtain ⟨g1, g2⟩ := hgo
        rcases hs with h0 | ⟨B, o, F, rfl, hB, hFs⟩
        · omega
        have cel : ∀ j, j < 3 → wr.cell? ⟨B, o + k * 3 + j, none⟩ = some (.int .i64 (F k j)) := fun j hj => (hE.run.bel.cell hB).trans (hFs k j g1 hj)
        obtain ⟨K, hK⟩ : ∃ K, F k 0 = K := ⟨_, rfl⟩
        obtain ⟨A, hA⟩ : ∃ A, F k 1 = A := ⟨_, rfl⟩
        obtain ⟨S, hSv⟩ : ∃ S, F k 2 = S := ⟨_, rfl⟩
        have d0 := cel 0 (by omega)
        have d1 := cel 1 (by omega)
        have d2 := cel 2 (by omega)
        rw [hK] at d0
        rw [hA] at d1
        rw [hSv] at d2
        rw [Nat.add_zero] at d0
        clear cel hFs hK hA hSv
        have hN0 := hE.look K A S
        have e0 := hN0.f0
        have e1 := hN0.f1
        have e2 := hN0.f2
        by_cases hK5 : K < 5
        · by_cases hend : t = N
          · have hp := hN0.none_ hend
            clear e1 e2 hv1 hv2
            as_aux_lemma =>
              go_wp2_with (first | (go_at_call 12; refine hp.mono ?_; rintro e w5 ⟨rfl, hN5⟩) | (go_at_call 16; refine (hN5.skips hF hG' (by omega)).mono ?_; rintro e w8 ⟨rfl, hN8⟩) | (go_at_call 17; refine (hN8.at_ _ rfl).mono ?_; rintro e w9 ⟨rfl, rfl⟩))
              go_roundg (300 - (k + 1))
              case rel => exact ⟨k + 1, t, r, s, cs, rfl, by omega, by omega, by rw [hend], rfl, rfl, by go_num, hr, hF, hN8.even rfl rfl⟩
              case measure => omega
          · obtain h0 | ⟨B1, o1, rfl, hB1, hc1⟩ := hv1
            · omega
            have htN : t < N := by omega
            have ds := fun wx (hb : Below w.heap.size w wx) => (hb.cell hB1).trans (hc1 t htN)
            have hof := fun wx => of_any G (f t) wx hG hG'
            obtain ⟨q, hq⟩ : ∃ q, plc G (f t) = q := ⟨_, rfl⟩
            have hqG : q < G := by rw [← hq]; exact plc_lt G _ hG
            rw [hq] at hof
            clear hc1 hv2 e1 e2
            by_cases hrdy : cs (q * 2) = 0
            · obtain ⟨p, hp, hpt⟩ := hF.small hqG
              have hpk := hN0.ready htN (by omega) q p hq hqG hG' hrdy hp (by omega)
              have hF2 := hF.ready htN hqG hp
              have HF2 : Hid _ := hF2
              have HP : Hid _ := hp
              have HR : Hid _ := hrdy
              clear hF2 hp hrdy hq hF
              as_aux_lemma =>
                go_wp2_with (first | (go_at_call 12; refine hpk.mono ?_; rintro e w5 ⟨rfl, hN5⟩; have d5 := ds _ hN5.run.bel; have c5 := hN5.rs.cell hqG; have c6 := hN5.rk.cell hqG; have f6 := hN5.rk.frozen q; simp only [HR.out] at c5; simp only [HP.out] at c6) | (go_at_call 13; refine (hof _).mono ?_; rintro e w6 ⟨rfl, rfl⟩) | (go_at_call 16; refine ((hN5.picked q ((p : Int) + 1)).skips HF2.out hG' (by omega)).mono ?_; rintro e w8 ⟨rfl, hN8⟩) | (go_at_call 17; refine (hN8.at_ _ rfl).mono ?_; rintro e w9 ⟨rfl, rfl⟩))
                go_roundg (300 - (k + 1))
                case rel => exact ⟨k + 1, t + 1, r, s, _, rfl, by omega, by omega, by go_num, rfl, rfl, by go_num, hr, HF2.out, hN8.even (even_pick' cs q _) (even_pick cs q _)⟩
                case measure => omega
            · have hpk := hN0.skip htN (by omega) q hq hqG hrdy
              have hF2 := hF.skip htN
              have hb0 : (cs (q * 2) != 0) = true := by simp [hrdy]
              have HF2 : Hid _ := hF2
              clear hF2 hrdy hq hF
              as_aux_lemma =>
                go_wp2_with (first | (go_at_call 12; refine hpk.mono ?_; rintro e w5 ⟨rfl, hN5⟩; have d5 := ds _ hN5.run.bel; have c5 := hN5.rs.cell hqG) | (go_at_call 13; refine (hof _).mono ?_; rintro e w6 ⟨rfl, rfl⟩) | (go_at_call 16; refine (hN5.skips HF2.out hG' (by omega)).mono ?_; rintro e w8 ⟨rfl, hN8⟩) | (go_at_call 17; refine (hN8.at_ _ rfl).mono ?_; rintro e w9 ⟨rfl, rfl⟩))
                go_roundg (300 - (k + 1))
                case rel => exact ⟨k + 1, t + 1, r, s + 1, cs, rfl, by omega, by omega, by go_num, rfl, by go_num, by go_num, hr, HF2.out, hN8.even rfl rfl⟩
                case measure => omega
        · by_cases hK6 : K = 5
          · subst hK6
            clear e1 e2 hv1
            by_cases hin : r < M
            · obtain h0 | ⟨B2, o2, rfl, hB2, hc2⟩ := hv2
              · omega
              have ds := (hN0.run.bel.cell hB2).trans (hc2 r hin)
              clear hc2
              as_aux_lemma =>
                go_wp2_with (first | (go_at_call 14; refine (hN0.input hin (by omega)).mono ?_; rintro e w5 ⟨rfl, hN5⟩) | (go_at_call 16; refine (hN5.skips hF hG' (by omega)).mono ?_; rintro e w8 ⟨rfl, hN8⟩) | (go_at_call 17; refine (hN8.at_ _ rfl).mono ?_; rintro e w9 ⟨rfl, rfl⟩))
                go_roundg (300 - (k + 1))
                case rel => exact ⟨k + 1, t, r + 1, s, cs, rfl, by omega, by omega, rfl, by go_num, rfl, by go_num, by omega, hF, hN8.even rfl rfl⟩
                case measure => omega
            · have hrM : r = M := by omega
              clear hv2
              as_aux_lemma =>
                go_wp2_with (first | (go_at_call 14; refine (hN0.no_input hrM).mono ?_; rintro e w5 ⟨rfl, hN5⟩) | (go_at_call 16; refine (hN5.skips hF hG' (by omega)).mono ?_; rintro e w8 ⟨rfl, hN8⟩) | (go_at_call 17; refine (hN8.at_ _ rfl).mono ?_; rintro e w9 ⟨rfl, rfl⟩))
                go_roundg (300 - (k + 1))
                case rel => exact ⟨k + 1, t, r, s, cs, rfl, by omega, by omega, rfl, by rw [hrM], rfl, by go_num, hr, hF, hN8.even rfl rfl⟩
                case measure => omega
          · have hK6' : (K == 5) = false := by simp [hK6]
            clear hv1 hv2
            by_cases hbad : 0 ≤ A ∧ A < G ∧ 0 ≤ S ∧ S ≤ 2
            · obtain ⟨q, rfl⟩ := Int.eq_ofNat_of_zero_le hbad.1
              obtain ⟨_, hq1, hs0, hs2⟩ := hbad
              have hqG : q < G := by omega
              have hn1 : decide ((G : Int) ≤ (q : Int)) = false := by simp; omega
              have hn2 : decide (S < 0) = false := by simp; omega
              have hn3 : decide (2 < S) = false := by simp; omega
              by_cases hdead : cs (q * 2) = 2
              · have hp := hN0.set_dead q S hqG ⟨hs0, hs2⟩ hdead
                have c1 := hN0.rs.cell hqG
                simp only [hdead] at c1
                as_aux_lemma =>
                  go_wp2_with (first | (go_at_call 15; refine hp.mono ?_; rintro e w5 ⟨rfl, rfl⟩) | (go_at_call 9; refine (num_any _ _).mono ?_; rintro e wn ⟨rfl, rfl⟩) | (go_at_call 16; refine (hN0.skips hF hG' (by omega)).mono ?_; rintro e w8 ⟨rfl, hN8⟩) | (go_at_call 17; refine (hN8.at_ _ rfl).mono ?_; rintro e w9 ⟨rfl, rfl⟩))
                  go_roundg (300 - (k + 1))
                  case rel => exact ⟨k + 1, t, r, s, cs, rfl, by omega, by omega, rfl, rfl, rfl, by go_num, hr, hF, hN8.even rfl rfl⟩
                  case measure => omega
              · have hp := hN0.set_live q S hqG ⟨hs0, hs2⟩ hdead
                have hb0 : (cs (q * 2) != 2) = true := by simp [hdead]
                have HF2 : Hid _ := hF.set q S
                clear hdead
                as_aux_lemma =>
                  go_wp2_with (first | (go_at_call 15; refine hp.mono ?_; rintro e w5 ⟨rfl, hN5⟩; have e5 := hN5.f1; have e6 := hN5.f2; have c5 := hN5.rs.cell hqG; have f5 := hN5.rs.frozen q) | (go_at_call 9; refine (num_any _ _).mono ?_; rintro e wn ⟨rfl, rfl⟩) | (go_at_call 16; refine ((hN5.state q S).skips HF2.out hG' (by omega)).mono ?_; rintro e w8 ⟨rfl, hN8⟩) | (go_at_call 17; refine (hN8.at_ _ rfl).mono ?_; rintro e w9 ⟨rfl, rfl⟩))
                  go_roundg (300 - (k + 1))
                  case rel => exact ⟨k + 1, t, r, s, _, rfl, by omega, by omega, rfl, rfl, rfl, by go_num, hr, HF2.out, hN8.even (even_set cs q S) (even_set' cs q S)⟩
                  case measure => omega
            · have hp := hN0.set_bad A S hbad
              by_cases ha0 : A < 0
              · clear hbad
                as_aux_lemma =>
                  go_wp2_with (first | (go_at_call 15; refine hp.mono ?_; rintro e w5 ⟨rfl, rfl⟩) | (go_at_call 9; refine (num_any _ _).mono ?_; rintro e wn ⟨rfl, rfl⟩) | (go_at_call 16; refine (hN0.skips hF hG' (by omega)).mono ?_; rintro e w8 ⟨rfl, hN8⟩) | (go_at_call 17; refine (hN8.at_ _ rfl).mono ?_; rintro e w9 ⟨rfl, rfl⟩))
                  go_roundg (300 - (k + 1))
                  case rel => exact ⟨k + 1, t, r, s, cs, rfl, by omega, by omega, rfl, rfl, rfl, by go_num, hr, hF, hN8.even rfl rfl⟩
                  case measure => omega
              · by_cases ha1 : (G : Int) ≤ A
                · clear hbad
                  as_aux_lemma =>
                    go_wp2_with (first | (go_at_call 15; refine hp.mono ?_; rintro e w5 ⟨rfl, rfl⟩) | (go_at_call 9; refine (num_any _ _).mono ?_; rintro e wn ⟨rfl, rfl⟩) | (go_at_call 16; refine (hN0.skips hF hG' (by omega)).mono ?_; rintro e w8 ⟨rfl, hN8⟩) | (go_at_call 17; refine (hN8.at_ _ rfl).mono ?_; rintro e w9 ⟨rfl, rfl⟩))
                    go_roundg (300 - (k + 1))
                    case rel => exact ⟨k + 1, t, r, s, cs, rfl, by omega, by omega, rfl, rfl, rfl, by go_num, hr, hF, hN8.even rfl rfl⟩
                    case measure => omega
                · have hn1 : decide ((G : Int) ≤ A) = false := by simp [ha1]
                  by_cases hs0 : S < 0
                  · clear hbad
                    as_aux_lemma =>
                      go_wp2_with (first | (go_at_call 15; refine hp.mono ?_; rintro e w5 ⟨rfl, rfl⟩) | (go_at_call 9; refine (num_any _ _).mono ?_; rintro e wn ⟨rfl, rfl⟩) | (go_at_call 16; refine (hN0.skips hF hG' (by omega)).mono ?_; rintro e w8 ⟨rfl, hN8⟩) | (go_at_call 17; refine (hN8.at_ _ rfl).mono ?_; rintro e w9 ⟨rfl, rfl⟩))
                      go_roundg (300 - (k + 1))
                      case rel => exact ⟨k + 1, t, r, s, cs, rfl, by omega, by omega, rfl, rfl, rfl, by go_num, hr, hF, hN8.even rfl rfl⟩
                      case measure => omega
                  · have hn2 : decide (S < 0) = false := by simp [hs0]
                    have hs1 : 2 < S := by omega
                    clear hbad
                    as_aux_lemma =>
                      go_wp2_with (first | (go_at_call 15; refine hp.mono ?_; rintro e w5 ⟨rfl, rfl⟩) | (go_at_call 9; refine (num_any _ _).mono ?_; rintro e wn ⟨rfl, rfl⟩) | (go_at_call 16; refine (hN0.skips hF hG' (by omega)).mono ?_; rintro e w8 ⟨rfl, hN8⟩) | (go_at_call 17; refine (hN8.at_ _ rfl).mono ?_; rintro e w9 ⟨rfl, rfl⟩))
                      go_roundg (300 - (k + 1))
                      case rel => exact ⟨k + 1, t, r, s, cs, rfl, by omega, by omega, rfl, rfl, rfl, by go_num, hr, hF, hN8.even rfl rfl⟩
                      case measure => omega
      · by_cases hl : k < len
        · have h3 : k = 300 := by omega
          subst h3
          clear hgo
          as_aux_lemma =>
            go_wp2_with (first
              | (go_at_call 9; refine (num_any _ _).mono ?_; rintro e wn ⟨rfl, rfl⟩)
              | (go_at_call 18; refine (counted_any hE.run.sc hG' hE.rk).mono ?_; rintro e w5 ⟨rfl, hb5⟩; have hb05 := hE.run.bel.trans (hb5.mono hE.run.bel.size))
              | (go_at_call 19; refine (kept_any (hE.ry.of_block (hb5.block _ hE.ry.lt)) hM _ (h2'.below hb05)).mono ?_; rintro e w6 ⟨rfl, hb6⟩; have hb06 := hb05.trans (hb6.mono hb05.size))
              | (go_at_call 10; refine (awake_any _).mono ?_; rintro e w7 ⟨rfl, hb7⟩))
            go_ret
            exact ⟨rfl, hb06.trans (hb7.mono hb06.size)⟩
        · clear hgo
          as_aux_lemma =>
            go_wp2_with (first
              | (go_at_call 9; refine (num_any _ _).mono ?_; rintro e wn ⟨rfl, rfl⟩)
              | (go_at_call 18; refine (counted_any hE.run.sc hG' hE.rk).mono ?_; rintro e w5 ⟨rfl, hb5⟩; have hb05 := hE.run.bel.trans (hb5.mono hE.run.bel.size))
              | (go_at_call 19; refine (kept_any (hE.ry.of_block (hb5.block _ hE.ry.lt)) hM _ (h2'.below hb05)).mono ?_; rintro e w6 ⟨rfl, hb6⟩; have hb06 := hb05.trans (hb6.mono hb05.size))
              | (go_at_call 10; refine (awake_any _).mono ?_; rintro e w7 ⟨rfl, hb7⟩))
            go_ret
            exact ⟨rfl, hb06.trans (hb7.mono hb06.size)⟩
end Go.Proofs.Ytlbemkmhkjllpaa
