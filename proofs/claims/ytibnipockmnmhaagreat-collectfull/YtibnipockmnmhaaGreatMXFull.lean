/- The walk of CollectFull. -/
import Derived.Test.YtibnipockmnmhaaGreatMC5
namespace Go.Proofs.YtibnipockmnmhaaGreat
open Go.RowKit
section
variable {B : Nat} {w0 w w' : World} {hb i k n j r : Nat}
/-- Between two rounds. -/
def FuO (B : Nat) (w0 : World) (hb i : Nat) (w : World) : Prop := ∃ X Z, CvC B w0 w hb X Z ∧ Fi X ∧ X.rt 0 = [] ∧ nums 0 X.S = [] ∧ X.m ≤ 50000 * i ∧ 0 ≤ X.cy ∧ X.cy ≤ 100 * (i : Int)
/-- So many cells are made. -/
def FuM (B : Nat) (w0 : World) (hb i k n : Nat) (w : World) : Prop := ∃ X Z, CvC B w0 w hb X Z ∧ Fi X ∧ (X.rt 0).length = n ∧ (sumS X.S = n * (k + 16) ∧ cntS X.S = n) ∧ X.m ≤ 50000 * i + 500 * n ∧ 0 ≤ X.cy ∧ X.cy ≤ 100 * (i : Int)
/-- So many roots are left. -/
def FuP (B : Nat) (w0 : World) (hb i n : Nat) (w : World) : Prop := ∃ X Z, CvC B w0 w hb X Z ∧ Fi X ∧ (X.rt 0).length = n ∧ cntS X.S ≤ 28 ∧ X.m ≤ 50000 * i + 500 * 28 ∧ 0 ≤ X.cy ∧ X.cy ≤ 100 * (i : Int)
def FuT (B : Nat) (w0 : World) (hb i r : Nat) (w : World) : Prop := ∃ X Z, CvC B w0 w hb X Z ∧ Fz X r ∧ X.m + 500 * r ≤ 50000 * i + 50000 ∧ 0 ≤ X.cy ∧ X.cy + r ≤ 100 * (i : Int) + 100
theorem fits_ints {n : Nat} (h1 : n ≤ 1000) : Fits 2 0 n := ⟨by omega, ⟨by unfold kmin; rw [if_neg (by omega)]; omega, by unfold kmax; rw [if_neg (by omega), if_neg (by omega)]; omega⟩, by omega⟩
theorem fu_start (h : FuO B w0 hb i w) : FuM B w0 hb i k 0 w := by
  obtain ⟨X, Z, h1, h2, h3, h4, h5, h6⟩ := h
  exact ⟨X, Z, h1, h2, by rw [h3]; rfl, ⟨by rw [sum_none h4]; omega, by rw [← nums_len 0 X.S, h4]; rfl⟩, by omega, h6⟩
theorem fu_make (h : FuM B w0 hb i k n w) (hi : i ≤ 3) (hk : 20 ≤ k ∧ k ≤ 83) (hn : (n + 1) * (k + 16) ≤ 1024) : Calls Tryz.prog 14 #[.pointer (some ⟨hb, 0, none⟩), .int .i64 0, .int .i64 2, .int .i64 0, .int .i64 k] w fun e w' => (∃ x, e = .returned (.tuple #[.int .i64 x, .int .i64 0])) ∧ FuM B w0 hb i k (n + 1) w' := by
  obtain ⟨X, Z, H, ⟨hT, hW, hp, hl, ha⟩, h3, h4, h5, h6⟩ := h
  have e1 : (n + 1) * (k + 16) = n * (k + 16) + (k + 16) := Nat.succ_mul _ _
  have hn2 : n ≤ 28 := by
    have : (n + 1) * 36 ≤ (n + 1) * (k + 16) := Nat.mul_le_mul_left _ (by omega)
    omega
  refine (cmake_ok H (by omega) 0 2 0 k (by omega) (fits_ints (by omega)) (by omega) (by rw [hW, h4.1]; omega)).mono ?_
  rintro e w' ⟨x, S', a, c', rfl, hAd, Z', H', _, _⟩
  refine ⟨⟨_, rfl⟩, _, Z', H', ⟨hT, hW, hp, hl, ha⟩, ?_, ?_, ?_, h6⟩
  · show (setL X.rt 0 (X.rt 0 ++ [(x : Int) + 1]) 0).length = n + 1
    simp [setL, h3]
  · show sumS S' = _ ∧ cntS S' = _
    rw [hAd.sum, hAd.cnt, h4.1, h4.2, e1]; exact ⟨rfl, rfl⟩
  · show X.m + 500 ≤ _; omega
theorem fu_full (h : FuM B w0 hb i k n w) (hk : 20 ≤ k ∧ k ≤ 83) (hn1 : n * (k + 16) ≤ 1024) (hn : 1024 < (n + 1) * (k + 16)) : Calls Tryz.prog 14 #[.pointer (some ⟨hb, 0, none⟩), .int .i64 0, .int .i64 2, .int .i64 0, .int .i64 k] w fun e w' => e = .returned (.tuple #[.int .i64 0, .int .i64 1201]) ∧ FuP B w0 hb i n w' := by
  obtain ⟨X, Z, H, ⟨hT, hW, hp, hl, ha⟩, h3, h4, h5, h6⟩ := h
  have e1 : (n + 1) * (k + 16) = n * (k + 16) + (k + 16) := Nat.succ_mul _ _
  have hn2 : n ≤ 28 := by
    have : n * 36 ≤ n * (k + 16) := Nat.mul_le_mul_left _ (by omega)
    omega
  refine (cmake_full H 0 2 0 k (by omega) (fits_ints (by omega)) (by omega) (by rw [hW, h4.1]; omega)).mono ?_
  rintro e w' ⟨rfl, hb1⟩
  exact ⟨rfl, X, Z, H.below hb1, ⟨hT, hW, hp, hl, ha⟩, h3, by omega, by omega, h6⟩
theorem fu_pop (h : FuP B w0 hb i (n + 1) w) : Calls Tryz.prog 16 #[.pointer (some ⟨hb, 0, none⟩), .int .i64 0] w fun e w' => (∃ x y, e = .returned (.tuple #[.int .i64 x, .int .i64 y])) ∧ FuP B w0 hb i n w' := by
  obtain ⟨X, Z, H, ⟨hT, hW, hp, hl, ha⟩, h3, h4, h5, h6⟩ := h
  rcases List.eq_nil_or_concat (X.rt 0) with e | ⟨U, x, e⟩
  · rw [e] at h3; simp at h3
  · rw [List.concat_eq_append] at e
    refine (cpop_ok H 0 (by omega) e).mono ?_
    rintro e' w' ⟨rfl, Z', H', _, _⟩
    have et : X.popTr x = X.tr := if_neg (by omega)
    rw [et] at H'
    refine ⟨⟨_, _, rfl⟩, _, Z', H', ⟨hT, hW, hp, hl, ha⟩, ?_, h4, h5, h6⟩
    show (setL X.rt 0 U 0).length = n
    rw [e, List.length_append] at h3
    simp at h3
    simp [setL, h3]
theorem fu_begin (h : FuP B w0 hb i 0 w) (hi : i ≤ 3) : Calls Tryz.prog 18 #[.pointer (some ⟨hb, 0, none⟩)] w fun e w' => e = .returned (.int .i64 0) ∧ ∃ r, r ≤ 32 ∧ FuT B w0 hb i r w' := by
  obtain ⟨X, Z, H, ⟨hT, hW, hp, hl, ha⟩, h3, h4, h5, h6⟩ := h
  refine (cbegin_idle H (by omega) hp (by rw [hT, all1]; exact ha)).mono ?_
  rintro e w' ⟨rfl, rr, Z', H', _, _⟩
  have hnl : (nums 0 X.S).length = cntS X.S := nums_len 0 X.S
  refine ⟨rfl, (nums 0 X.S).length + 4, by omega, _, Z', H', ⟨hT, hW, hl, List.length_eq_zero_iff.1 h3, fun p => rfl, .inl ⟨rfl, rfl, rfl, rfl, .inl ⟨rfl, rfl⟩⟩⟩, ?_, h6.1, ?_⟩
  · show X.m + _ ≤ _; omega
  · show X.cy + _ ≤ _; omega
theorem fu_turn (h : FuT B w0 hb i r w) (hi : i ≤ 3) : Calls Tryz.prog 25 #[.pointer (some ⟨hb, 0, none⟩), .int .i64 1] w fun e w' => (e = .returned (.bool true) ∧ ∃ r', r' < r ∧ FuT B w0 hb i r' w') ∨ (e = .returned (.bool false) ∧ FuO B w0 hb (i + 1) w') := by
  obtain ⟨X, Z, H, hz, h5, h6, h7⟩ := h
  have hT := hz.1
  have hph : X.phs := by
    rcases hz.2.2.2.2.2 with q | ⟨q | q, _⟩
    · exact .inr (.inl q.1)
    · exact .inr (.inr (.inr q.1))
    · exact .inr (.inr (.inl q.1))
  have hr1 : 1 ≤ r := by
    rcases hz.2.2.2.2.2 with ⟨_, _, _, _, ⟨_, q⟩ | ⟨_, q⟩⟩ | ⟨⟨_, q⟩ | ⟨_, q⟩, _⟩ <;> omega
  refine (turn_ok H (by omega) hph ⟨h6, by omega⟩ 1 (by rw [hT]; rfl)).mono ?_
  rintro e w' ⟨X1, hs, rfl, Z', H', _, _⟩
  obtain ⟨m1, m2⟩ := turn_cost hs
  have q := fz_turn hz hs
  rcases q with ⟨q1, r', q2, q3⟩ | ⟨q1, q2, q3, q4⟩
  · refine .inl ⟨by rw [show (X1.ph != 0) = true by simpa using q1], r', q2, _, Z', H', q3, by omega, ?_, ?_⟩
    · rcases m2 with m2 | m2 <;> omega
    · rcases m2 with m2 | m2 <;> omega
  · refine .inr ⟨by rw [q1]; rfl, _, Z', H', q2, q3, q4, by omega, ?_, ?_⟩
    · rcases m2 with m2 | m2 <;> omega
    · rcases m2 with m2 | m2 <;> omega
theorem fu_refs (h : FuO B w0 hb i w) (hi : i ≤ 4) : Calls Tryz.prog 21 #[.pointer (some ⟨hb, 0, none⟩)] w fun e w' => (∃ ao cap, e = .returned (.slice ao 0 cap)) ∧ FuO B w0 hb i w' := by
  obtain ⟨X, Z, H, h2, h3, h4, h5, h6⟩ := h
  refine (crefs_ok H (by omega)).mono ?_
  rintro e w' ⟨v, rfl, hr, hb1⟩
  obtain ⟨ao, cap, rfl⟩ := hr.form
  rw [h4]
  exact ⟨⟨ao, cap, rfl⟩, X, Z, H.below hb1, h2, h3, h4, h5, h6⟩
theorem FuO.bel (h : FuO B w0 hb i w) : Below B w0 w := let ⟨_, _, H, _⟩ := h; H.hv.bel
end
set_option maxRecDepth 20000 in
set_option maxHeartbeats 2000000 in
theorem full_walk (size rounds : Int) (w : World) : Calls Tryz.prog 7 #[.int .i64 size, .int .i64 rounds] w fun e w' => e = .returned (.bool true) ∧ Below w.heap.size w w' := by
  obtain ⟨s0, hs0, ls0⟩ := masked63 size
  obtain ⟨R, hR, lR⟩ := masked3 rounds
  have hA := awake12 w
  obtain ⟨k, hk⟩ : ∃ k : Nat, k = 20 + s0 := ⟨_, rfl⟩
  have hki : (20 : Int) + (s0 : Int) = (k : Int) := by omega
  have hkb : 20 ≤ k ∧ k ≤ 83 := by omega
  obtain ⟨q, hq⟩ : ∃ q, q = 1024 / (k + 16) := ⟨_, rfl⟩
  have hqi : (1024 : Int).tdiv ((k : Int) + 16) = (q : Int) := by rw [hq, Int.tdiv_eq_ediv_of_nonneg (by omega)]; rfl
  have HQ : Hid (q * (k + 16) ≤ 1024 ∧ 1024 < (q + 1) * (k + 16)) := by
    refine ⟨by rw [hq]; exact Nat.div_mul_le_self _ _, ?_⟩
    have h1 := Nat.lt_mul_div_succ 1024 (show 0 < k + 16 by omega)
    rw [← hq, Nat.mul_comm] at h1
    exact h1
  have hq28 : q ≤ 28 := by
    have h1 := HQ.out.1
    have : q * 36 ≤ q * (k + 16) := Nat.mul_le_mul_left _ (by omega)
    omega
  clear hk hq
  go_enter Tryz.func7, Tryz.ntmps7
  go_wp2_with (first
    | (go_at_call 13; refine hA.mono ?_; rintro e w1 ⟨rfl, hb1⟩; clear hA; have hN := cnew_of 4096 1 4096 1 w1 rfl rfl (by omega) (by omega))
    | (go_at_call 9; refine hN.mono ?_; rintro e w2 ⟨hb, Z2, rfl, H2⟩; have HS : Hid (FuO w1.heap.size w1 hb 0 w2) := ⟨_, Z2, H2, ⟨rfl, rfl, rfl, by show ¬ (0 : Int) < 0; omega, rfl⟩, rfl, rfl, Nat.le_refl _, by show (0 : Int) ≤ 0; omega, by show (0 : Int) ≤ 100 * ((0 : Nat) : Int); omega⟩; clear hN H2))
  go_loopg [8] (R + 2) (fun kx s8 wr => ∃ i : Nat, s8 = .int .i64 i ∧ i ≤ R + 1 ∧ R + 1 - i ≤ kx ∧ Hid (FuO w1.heap.size w1 hb i wr))
  case atStart => exact ⟨0, rfl, by omega, by omega, HS.out⟩
  case round =>
    clear HS
    obtain ⟨i, rfl, hi, hkx, HI⟩ := hrel
    by_cases hir : i ≤ R
    · have hli : (i : Int) ≤ (R : Int) := by omega
      go_wp2_with fail
      go_loopg [9] 40 (fun kx s9 wx => ∃ n : Nat, s9 = .int .i64 n ∧ n ≤ q ∧ q - n ≤ kx ∧ Hid (FuM w1.heap.size w1 hb i k n wx))
      case atStart => exact ⟨0, rfl, by omega, by omega, fu_start HI.out⟩
      case round =>
        obtain ⟨n, rfl, hn, hkn, HM⟩ := hrel
        by_cases hnq : n < q
        · have hMk := fu_make HM.out (by omega) hkb (by
            have h1 := HQ.out.1
            have : (n + 1) * (k + 16) ≤ q * (k + 16) := Nat.mul_le_mul_right _ (by omega)
            omega)
          have hd : decide ((64 : Int) ≤ (n : Int)) = false := by simp; omega
          go_wp2_with (first
            | (go_at_call 14; refine hMk.mono ?_; rintro e w3 ⟨⟨x, rfl⟩, hP⟩; have HP : Hid (FuM w1.heap.size w1 hb i k (n + 1) w3) := hP; clear hMk hP)
            | (go_at_call 10; refine (num_any _ _).mono ?_; rintro e w9 ⟨rfl, hw9⟩; replace hw9 := hw9.symm; subst hw9))
          go_roundg (q - (n + 1))
          case measure => omega
          case rel => exact ⟨n + 1, by go_num, by omega, by omega, HP.out⟩
        · obtain rfl : n = q := by omega
          have hMk := fu_full HM.out hkb HQ.out.1 HQ.out.2
          go_wp2_with (first
            | (go_at_call 14; refine hMk.mono ?_; rintro e w3 ⟨rfl, hP⟩; have HP : Hid (FuP w1.heap.size w1 hb i n w3) := hP; clear hMk hP)
            | (go_at_call 10; refine (num_any _ _).mono ?_; rintro e w9 ⟨rfl, hw9⟩; replace hw9 := hw9.symm; subst hw9))
          clear HM HI
          go_loopg [12] 40 (fun kx s12 wx => ∃ j : Nat, s12 = .int .i64 j ∧ j ≤ n ∧ n - j ≤ kx ∧ Hid (FuP w1.heap.size w1 hb i (n - j) wx))
          case atStart => exact ⟨0, rfl, by omega, by omega, HP.out⟩
          case round =>
            clear HP
            obtain ⟨j, rfl, hj, hkj, HJ⟩ := hrel
            by_cases hjn : j < n
            · have hlj : (j : Int) < (n : Int) := by omega
              have hPp := fu_pop (n := n - (j + 1)) (by rw [show n - (j + 1) + 1 = n - j by omega]; exact HJ.out)
              go_wp2_with (go_at_call 16; refine hPp.mono ?_; rintro e w4 ⟨⟨x, y, rfl⟩, hP⟩; have HP4 : Hid (FuP w1.heap.size w1 hb i (n - (j + 1)) w4) := hP; clear hPp hP)
              go_roundg (n - (j + 1))
              case measure => omega
              case rel => exact ⟨j + 1, by go_num, by omega, by omega, HP4.out⟩
            · obtain rfl : j = n := by omega
              have hlj : ¬ (j : Int) < (j : Int) := by omega
              have hBg := fu_begin (i := i) (by have := HJ.out; rw [Nat.sub_self] at this; exact this) (by omega)
              clear HJ
              go_wp2_with (go_at_call 18; refine hBg.mono ?_; rintro e w5 ⟨rfl, r, hr32, hT⟩; have HT : Hid (FuT w1.heap.size w1 hb i r w5) := hT; clear hBg hT)
              go_loopg [13] 40 (fun kx s13 wx => ∃ (jj rr : Nat), s13 = .int .i64 jj ∧ jj + rr ≤ 32 ∧ rr ≤ kx ∧ Hid (FuT w1.heap.size w1 hb i rr wx))
              case atStart => exact ⟨0, r, rfl, by omega, by omega, HT.out⟩
              case round =>
                clear HT
                obtain ⟨jj, rr, rfl, hjr, hkr, HR⟩ := hrel
                have hTn := fu_turn HR.out (by omega)
                clear HR
                have hd : decide ((8000 : Int) < (jj : Int)) = false := by simp; omega
                go_wp2_with fail
                refine hTn.mono ?_
                rintro e w6 (⟨rfl, r', hr', hT6⟩ | ⟨rfl, hO6⟩)
                · have HT6 : Hid (FuT w1.heap.size w1 hb i r' w6) := hT6
                  clear hT6 hTn
                  go_wp2
                  go_roundg (r')
                  case measure => omega
                  case rel => exact ⟨jj + 1, r', by go_num, by omega, by omega, HT6.out⟩
                · have hRf := fu_refs hO6 (by omega)
                  clear hO6 hTn
                  go_wp2_with (go_at_call 21; refine hRf.mono ?_; rintro e w7 ⟨⟨ao, cap, rfl⟩, hO7⟩; have HO7 : Hid (FuO w1.heap.size w1 hb (i + 1) w7) := hO7; clear hRf hO7)
                  go_roundg (R - i)
                  case measure => omega
                  case rel => exact ⟨i + 1, by go_num, by omega, by omega, HO7.out⟩
    · have hli : ¬ (i : Int) ≤ (R : Int) := by omega
      have hbe : Hid (Below w.heap.size w wr) := hb1.trans (HI.out.bel.mono hb1.size)
      go_wp2_with (go_at_call 10; refine (num_any _ _).mono ?_; rintro e w9 ⟨rfl, hw9⟩; replace hw9 := hw9.symm; subst hw9)
      go_ret
      exact ⟨rfl, hbe.out⟩
end Go.Proofs.YtibnipockmnmhaaGreat
