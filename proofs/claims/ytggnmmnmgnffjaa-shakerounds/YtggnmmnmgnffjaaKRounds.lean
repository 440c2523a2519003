/- The walk of the law ShakeRounds. -/
import Derived.Test.YtggnmmnmgnffjaaKAwake
import Derived.Test.YtggnmmnmgnffjaaKOrder
import Derived.Test.YtggnmmnmgnffjaaSInts
namespace Go.Proofs.Ytggnmmnmgnffjaa
open Go.RowKit
theorem ordA_val {N O i j : Nat} : ((j : Int) * (2 * (O : Int) + 1) + i).tmod N = (ordA N O i j : Nat) := by
  unfold ordA
  rw [Int.tmod_eq_emod_of_nonneg (by exact Int.add_nonneg (Int.mul_nonneg (by omega) (by omega)) (by omega))]
  simp
set_option maxHeartbeats 2000000 in
set_option maxRecDepth 20000 in
theorem rounds_walk (a b c : Int) (w : World) : Calls Try.prog 4 #[.int .i64 a, .int .i64 b, .int .i64 c] w fun e w' => e = .returned (.bool true) ∧ Below w.heap.size w w' := by
  obtain ⟨q, hq, hq8⟩ := masked7 a
  obtain ⟨R, hR, hR16⟩ := masked15 b
  obtain ⟨O, hO, hO4⟩ := masked3 c
  obtain ⟨N, hN⟩ : ∃ N : Nat, N = 1 + q := ⟨_, rfl⟩
  have hN1 : 1 ≤ N ∧ N ≤ 8 := by omega
  have hNe : (1 : Int) + (q : Int) = (N : Int) := by omega
  clear hN hq8
  go_enter Try.func4, Try.ntmps4
  go_wp2_with (first
    | (go_at_call 7; refine (awake_any w).mono ?_; rintro e w1 ⟨rfl, hb1⟩)
    | (go_at_call 5; refine (knew_ok N w1 hN1.1 hN1.2).mono ?_; rintro e w2 ⟨s, m, rfl, hS2, hb2, l1, l2⟩))
  have HG : Hid (w.heap.size ≤ s ∧ w.heap.size ≤ m) := ⟨Nat.le_trans hb1.size l1, Nat.le_trans hb1.size l2⟩
  have HB : Hid (Below w.heap.size w w2) := hb1.trans (hb2.mono hb1.size)
  have HS : Hid (Sk w2 s m N (fun _ => true) 0 0) := hS2
  clear hS2 hb1 hb2 l1 l2 hq hNe
  go_loopg [10, 11, 12, 13, 14, 15, 16] 16 (fun kx s10 s11 s12 s13 s14 s15 s16 wr => ∃ i : Nat, s10 = .int .i64 i ∧ i ≤ R ∧ R - i ≤ kx ∧ ∃ A x, Hid (Sk wr s m N A x i) ∧ Hid (allB N A = true) ∧ Hid (Below w.heap.size w wr))
  case atStart => exact ⟨0, rfl, by omega, by omega, _, _, HS, by show allB N _ = true; rw [allB_iff]; exact fun _ _ => rfl, HB⟩
  case round =>
    clear HB HS
    obtain ⟨i, rfl, hi, hk, A, x, hS, hA, hB⟩ := hrel
    by_cases hlt : i < R
    · have hask := ask_ok hS.out (100 + (i : Int)) hA.out
      rw [show wrap64 ((i : Int) + 1) = (i : Int) + 1 from by unfold wrap64; omega, show (i : Int) + 1 = ((i + 1 : Nat) : Int) by omega] at hask
      have hlt' : (i : Int) < (R : Int) := by omega
      have HB0 := hB
      clear hS hA hB
      go_wp2_with (go_at_call 8; refine hask.mono ?_; rintro e w3 ⟨rfl, hS3, hB3⟩)
      have HS3 : Hid (Sk w3 s m N (ordS N O i 0) (100 + (i : Int)) ((i + 1 : Nat) : Int)) := hS3
      have HB3 : Hid (Below w.heap.size w w3) := Bt.under HB0.out HB0.out.size (sb_ge HG.out.1 HG.out.2) hB3
      clear hS3 hB3 HB0 hask
      go_loopg [12, 13, 14, 15, 16] 8 (fun ky s12 s13 s14 s15 s16 wy => ∃ j : Nat, s12 = .int .i64 j ∧ j ≤ N ∧ N - j ≤ ky ∧ Hid (Sk wy s m N (ordS N O i j) (100 + (i : Int)) ((i + 1 : Nat) : Int)) ∧ Hid (Below w.heap.size w wy))
      case atStart => exact ⟨0, rfl, by omega, by omega, HS3, HB3⟩
      case round =>
        clear HS3 HB3
        obtain ⟨j, rfl, hj, hkj, hSj, hBj⟩ := hrel
        by_cases hjl : j < N
        · have hjl' : (j : Int) < (N : Int) := by omega
          go_upto_region 12 with fail
          go_cut [13] (fun s13 wx => s13 = .int .i64 (ordA N O i j : Nat) ∧ wr = wx)
          case first =>
            have h8 : N = 1 ∨ N = 2 ∨ N = 3 ∨ N = 4 ∨ N = 5 ∨ N = 6 ∨ N = 7 ∨ N = 8 := by omega
            have h4 : O = 0 ∨ O = 1 ∨ O = 2 ∨ O = 3 := by omega
            rcases h4 with rfl | rfl | rfl | rfl
            all_goals rcases h8 with rfl | rfl | rfl | rfl | rfl | rfl | rfl | rfl
            all_goals
              go_wp2_with fail
              go_meet
              exact ⟨congrArg (Value.int .i64) (by unfold ordA; first | omega | (rw [Int.tmod_eq_emod_of_nonneg (by omega)]; omega)), rfl⟩
          case rest =>
          obtain ⟨rfl, rfl⟩ := hcut
          go_upto_region 13 with fail
          go_cut [64] (fun s64 wx => s64 = .bool (ordP N) ∧ wr = wx)
          case first =>
            have h8 : N = 1 ∨ N = 2 ∨ N = 3 ∨ N = 4 ∨ N = 5 ∨ N = 6 ∨ N = 7 ∨ N = 8 := by omega
            rcases h8 with rfl | rfl | rfl | rfl | rfl | rfl | rfl | rfl
            all_goals
              go_wp2_with fail
              go_meet
              exact ⟨congrArg Value.bool (by decide), rfl⟩
          case rest =>
          obtain ⟨rfl, rfl⟩ := hcut
          go_upto_if 64 with fail
          go_cut [13] (fun s13 wx => s13 = .int .i64 (ordT N O i j : Nat) ∧ wr = wx)
          case first =>
            cases hp : ordP N with
            | true =>
              have h8 : N = 1 ∨ N = 2 ∨ N = 3 ∨ N = 4 ∨ N = 5 ∨ N = 6 ∨ N = 7 ∨ N = 8 := by omega
              have HP : Hid (ordP N = true) := hp
              clear hp
              rcases h8 with rfl | rfl | rfl | rfl | rfl | rfl | rfl | rfl
              all_goals
                go_wp2_with fail
                go_meet
                exact ⟨congrArg (Value.int .i64) (by unfold ordT; rw [if_pos HP.out]; first | omega | (rw [Int.tmod_eq_emod_of_nonneg (by omega)]; omega)), rfl⟩
            | false =>
              have HP : Hid (ordP N = false) := hp
              clear hp
              go_wp2_with fail
              go_meet
              exact ⟨congrArg (Value.int .i64) (by unfold ordT; rw [if_neg (by rw [HP.out]; decide)]), rfl⟩
          case rest =>
          obtain ⟨rfl, rfl⟩ := hcut
          have ht := ordT_lt O i j (show 0 < N by omega)
          have hsee := see_ok hSj.out _ ht (ordS_new (by omega) hO4 (by omega) hjl)
          have HO : Hid (setB (setB (ordS N O i j) (ordT N O i j) true) (ordT N O i j) true = ordS N O i (j + 1) ∧ ordS N O i (j + 1) (ordT N O i j) = true) := by
            rw [ordS_next, setB_same (by rw [← ordS_next, setB_at]), ← ordS_next, setB_at]; exact ⟨rfl, rfl⟩
          have HD : Hid (allB N (ordS N O i j) = false) := by
            show allB N (ordS N O i j) = false
            unfold allB; rw [ordS_cnt (by omega) hO4 (by omega) j hj]; simp; omega
          generalize ordT N O i j = tt at ht hsee HO ⊢
          go_wp2_with (first
            | (go_at_call 6; refine (num_any _ _).mono ?_; rintro e w9 ⟨rfl, rfl⟩)
            | (go_at_call 9; refine (see_old h8 tt ht HO.out.2).mono ?_; rintro e w9 ⟨rfl, h9, b9⟩)
            | (go_at_call 9; refine hsee.mono ?_; rintro e w4 ⟨rfl, h4, b4⟩)
            | (go_at_call 11; refine (done_ok h4).mono ?_; rintro e w5 ⟨rfl, q5, rfl⟩; rw [HD.out]; have h5 := h4.drewN q5)
            | (go_at_call 10; refine (answer_ok h6 tt ht).mono ?_; rintro e w8 ⟨rfl, h8, b8⟩; rw [HO.out.1] at h8)
            | (go_at_call 10; refine (answer_ok h5 tt ht).mono ?_; rintro e w6 ⟨rfl, h6, b6⟩))
          go_roundg (N - (j + 1))
          case rel => exact ⟨j + 1, by go_num, by omega, by omega, h9, Bt.under (Bt.under (below_drewN _ _ _ |> (Bt.under hBj.out hBj.out.size (sb_ge HG.out.1 HG.out.2) b4).trans) (Nat.le_trans hBj.out.size b4.size) (sb_ge HG.out.1 HG.out.2) (b6.trans b8)) (Nat.le_trans (Nat.le_trans hBj.out.size b4.size) (b6.trans b8).size) (sb_ge HG.out.1 HG.out.2) b9⟩
          case measure => omega
        · obtain rfl : j = N := by omega
          have hjl' : ¬ (j : Int) < (j : Int) := by omega
          have HD : Hid (allB j (ordS j O i j) = true) := by
            show allB j (ordS j O i j) = true
            unfold allB; rw [ordS_cnt (by omega) hO4 (by omega) j (by omega)]; simp
          go_wp2_with (first
            | (go_at_call 6; refine (num_any _ _).mono ?_; rintro e w9 ⟨rfl, rfl⟩)
            | (go_at_call 11; refine (done_ok hSj.out).mono ?_; rintro e w5 ⟨rfl, q5, rfl⟩; rw [HD.out]; have h5 := hSj.out.drewN q5))
          go_roundg (R - (i + 1))
          case rel => exact ⟨i + 1, by go_num, by omega, by omega, _, _, h5, HD, hBj.out.trans (below_drewN _ _ _)⟩
          case measure => omega
    · obtain rfl : i = R := by omega
      have hlt' : ¬ (i : Int) < (i : Int) := by omega
      go_wp2_with (first
        | (go_at_call 6; refine (num_any _ _).mono ?_; rintro e w9 ⟨rfl, rfl⟩)
        | (go_at_call 12; refine (rounds_ok hS.out).mono ?_; rintro e w10 ⟨rfl, hw10⟩; replace hw10 := hw10.symm; subst hw10))
      go_ret
      exact ⟨rfl, hB.out⟩
end Go.Proofs.Ytggnmmnmgnffjaa
