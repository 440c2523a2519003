/- The walk of the law ShakeActs: whatever it is called with it returns true, and of what was there nothing turns. -/
import Derived.Test.YtggnmmnmgnffjaaKNow
namespace Go.Proofs.Ytggnmmnmgnffjaa
open Go.RowKit
set_option maxRecDepth 20000 in
theorem acts10_bad (n : Int) (v : Value) (w : World) (hn : ¬ (1 ≤ n ∧ n ≤ 8)) :
    Calls Try.prog 3 #[.int .i64 n, v] w fun e w' => e = .returned (.bool true) ∧ Below w.heap.size w w' := by
  have hk := new_no n w hn
  by_cases h1 : n < 1
  · clear hn
    go_enter Try.func3, Try.ntmps3
    go_wp2_with (first | (go_at_call 5; refine hk.mono ?_; rintro e w1 ⟨rfl, rfl⟩) | (go_at_call 6; refine (num_any _ _).mono ?_; rintro e w2 ⟨rfl, rfl⟩) | (go_at_call 7; refine (awake_any _).mono ?_; rintro e w3 ⟨rfl, hb⟩))
    go_ret
    exact ⟨rfl, hb⟩
  · have h2 : 8 < n := by omega
    have h3 : decide (n < 1) = false := by simp; omega
    clear hn h1
    go_enter Try.func3, Try.ntmps3
    go_wp2_with (first | (go_at_call 5; refine hk.mono ?_; rintro e w1 ⟨rfl, rfl⟩) | (go_at_call 6; refine (num_any _ _).mono ?_; rintro e w2 ⟨rfl, rfl⟩) | (go_at_call 7; refine (awake_any _).mono ?_; rintro e w3 ⟨rfl, hb⟩))
    go_ret
    exact ⟨rfl, hb⟩
set_option maxHeartbeats 20000000 in
set_option maxRecDepth 20000 in
theorem acts10_main (N : Nat) (ao : Option Addr) (len cap : Nat) (w : World) (hN1 : 1 ≤ N) (hN8 : N ≤ 8) (hlen : len ≤ maxLen)
    (hs : len = 0 ∨ ∃ (B o : Nat) (F : Nat → Nat → Int), ao = some ⟨B, o, none⟩ ∧ B < w.heap.size ∧ ∀ i j, i < len → j < 3 → w.cell? ⟨B, o + i * 3 + j, none⟩ = some (.int .i64 (F i j))) :
    Calls Try.prog 3 #[.int .i64 N, .slice ao len cap] w fun e w' => e = .returned (.bool true) ∧ Below w.heap.size w w' := by
  unfold maxLen at hlen
  have hmk := run_make_row' (P := Try.prog) 29 4 (.bool false) 1 Try.underlying29 kinfo4 rfl .i64 .i64 N (by omega) (by omega)
  have d1 : decide ((N : Int) < 1) = false := by simp; omega
  have d2 : decide ((8 : Int) < (N : Int)) = false := by simp; omega
  go_enter Try.func3, Try.ntmps3
  go_wp2_with (go_at_call 5; refine (knew_ok N _ hN1 hN8).mono ?_; rintro e w1 ⟨s, m, rfl, h1, b1, l1, l2⟩)
  have a1 := (Below.refl w1.heap.size w1).alloc (Nat.le_refl _) (.cells (madeCells #[.bool false] N) 4)
  have HE : Hid (Ek w.heap.size w (w1.alloc (.cells (madeCells #[.bool false] N) 4)) s m w1.heap.size N (fun _ => true) (fun _ => false) 0 0) :=
    ⟨h1.below a1, World.rowIs_made w1 (.bool false) N 4, b1.trans (a1.mono b1.size), Nat.le_trans b1.size a1.size, l1, l2, b1.size⟩
  clear hmk d1 d2 h1 b1 l1 l2 a1
  generalize w1.heap.size = g at HE ⊢
  go_loopg [8, 9, 10, 11, 12, 13, 14, 15, 16, 17, 18, 19, 20, 21] 200 (fun kx s8 s9 s10 s11 s12 s13 s14 s15 s16 s17 s18 s19 s20 s21 wr => ∃ (i r : Nat) (A : Nat → Bool) (x : Int), s8 = .bool (!allB N A) ∧ s9 = .int .i64 x ∧ s10 = .int .i64 r ∧ s11 = .int .i64 i ∧ i ≤ len ∧ i ≤ 200 ∧ r ≤ i ∧ 200 - i ≤ kx ∧ Hid (Ek w.heap.size w wr s m g N A (fun j => !A j) x r))
  case atStart => exact ⟨0, 0, fun _ => true, 0, congrArg Value.bool (by rw [allB_iff.2 (fun _ _ => rfl)]; rfl), rfl, rfl, rfl, by omega, by omega, by omega, by omega, HE.out.congr (fun _ _ => rfl)⟩
  case round =>
    clear HE
    obtain ⟨i, r, A, x, rfl, rfl, rfl, rfl, hi1, hi2, hr, hkx, hE⟩ := hrel
    by_cases hgo : i < len ∧ i < 200
    · obtain ⟨g1, g2⟩ := hgo
      rcases hs with h0 | ⟨B, o, F, rfl, hB, hF⟩
      · omega
      have cel : ∀ j, j < 3 → wr.cell? ⟨B, o + i * 3 + j, none⟩ = some (.int .i64 (F i j)) := fun j hj => (hE.out.bel.cell hB).trans (hF i j g1 hj)
      obtain ⟨K, hK⟩ : ∃ K, F i 0 = K := ⟨_, rfl⟩
      obtain ⟨T, hT⟩ : ∃ T, F i 1 = T := ⟨_, rfl⟩
      obtain ⟨V, hV⟩ : ∃ V, F i 2 = V := ⟨_, rfl⟩
      have c0 := cel 0 (by omega)
      have c1 := cel 1 (by omega)
      have c2 := cel 2 (by omega)
      rw [hK, Nat.add_zero] at c0
      rw [hT] at c1
      rw [hV] at c2
      clear cel hF hK hT hV
      have HN0 : Hid _ := hE.out.look K T V
      have e0 := HN0.out.f0
      have e1 := HN0.out.f1
      have e2 := HN0.out.f2
      obtain ⟨I, hI⟩ : ∃ I : Bool, I = (decide (0 ≤ T) && decide (T < (N : Int))) := ⟨_, rfl⟩
      have HI : Hid (I = (decide (0 ≤ T) && decide (T < (N : Int)))) := hI
      clear hI
      go_upto_region 10 with fail
      go_cut [13] (fun s13 wx => s13 = .bool I ∧ wr.alloc (.cells #[.int .i64 K, .int .i64 T, .int .i64 V] 31) = wx)
      case first =>
        by_cases hT0 : 0 ≤ T
        · by_cases hT1 : T < (N : Int)
          · as_aux_lemma =>
              go_wp2_with fail
              go_meet
              exact ⟨congrArg Value.bool (by rw [HI.out]; simp [hT0, hT1]), rfl⟩
          · have hT2 : decide (T < (N : Int)) = false := by simp [hT1]
            as_aux_lemma =>
              go_wp2_with fail
              go_meet
              exact ⟨congrArg Value.bool (by rw [HI.out]; simp [hT1]), rfl⟩
        · have hT2 : decide (0 ≤ T) = false := by simp [hT0]
          as_aux_lemma =>
            go_wp2_with fail
            go_meet
            exact ⟨congrArg Value.bool (by rw [HI.out, hT2]; rfl), rfl⟩
      case rest =>
      obtain ⟨rfl, rfl⟩ := hcut
      clear c0 c1 c2 hE
      generalize wr.heap.size = p at HN0 e0 e1 e2 ⊢
      generalize wr.alloc (.cells #[.int .i64 K, .int .i64 T, .int .i64 V] 31) = wa at HN0 e0 e1 e2 ⊢
      by_cases hK2 : K < 2
      · clear HI
        cases hA : allB N A with
        | true =>
          have hask := ask_ok HN0.out.ek.sk V hA
          rw [IntWalk.wrap64_in _ (by omega), show (r : Int) + 1 = ((r + 1 : Nat) : Int) by omega] at hask
          have HF : Hid (allB N (fun _ => false) = false) := allB_none N hN1
          as_aux_lemma =>
            go_wp2_with (first
              | (go_at_call 6; refine (num_any _ _).mono ?_; rintro e w9 ⟨rfl, hw9⟩; replace hw9 := hw9.symm; subst hw9)
              | (go_at_call 8; refine hask.mono ?_; rintro e w5 ⟨rfl, h5, b5⟩; have hN5 := HN0.out.call h5 b5; have f2 := hN5.f2))
            go_quiet (fail)
            have HN6 : Hid _ := hN5.drewN nq
            clear hN5 h5 b5 f2 hask hA
            go_wp2
            go_loopg [15] N (fun ky s15 wr => ∃ k : Nat, s15 = .int .i64 k ∧ k ≤ N ∧ N - k ≤ ky ∧ Hid (Nk w.heap.size w wr s m g N p (fun _ => false) (fun j => decide (j < k) || !A j) V ((r + 1 : Nat) : Int) K T V))
            case atStart => exact ⟨0, rfl, by omega, by omega, HN6.out.congr (fun j _ => by simp)⟩
            case round =>
              clear HN6
              obtain ⟨k, rfl, hk, hky, hN⟩ := hrel
              by_cases hkN : k < N
              · have hkN' : (k : Int) < (N : Int) := by omega
                have r0 := hN.out.ek.row.cell hkN
                have z0 := hN.out.ek.row.frozen k
                go_wp2
                go_roundg (N - (k + 1))
                case rel =>
                  refine ⟨k + 1, by go_num, by omega, by omega, (hN.out.put k true).congr (fun j _ => ?_)⟩
                  unfold setB
                  split
                  · rename_i e; subst e; simp
                  · rename_i e
                    have : (j < k + 1) = (j < k) := by simp; omega
                    simp [this]
                case measure => omega
              · obtain rfl : k = N := by omega
                have hkN' : ¬ (k : Int) < (k : Int) := by omega
                have hN5 := hN.out.congr (C' := fun j => !(fun _ : Nat => false) j) (fun j hj => by simp [hj])
                have hd := HF.out
                go_wp2_with (first
                  | (go_at_call 11; refine (done_ok hN5.ek.sk).mono ?_; rintro e w7 ⟨rfl, q7, rfl⟩; have hN7 := hN5.drewN q7) | (go_at_call 12; refine (rounds_ok hN7.ek.sk).mono ?_; rintro e w8 ⟨rfl, hw8⟩; replace hw8 := hw8.symm; subst hw8))
                go_roundg (200 - (i + 1))
                case rel => exact ⟨i + 1, r + 1, fun _ => false, V, congrArg Value.bool (by rw [HF.out]; rfl), rfl, by go_num, by go_num, by omega, by omega, by omega, by omega, hN7.ek⟩
                case measure => omega
        | false =>
          have hask := ask_no HN0.out.ek.sk V hA
          have HF : Hid (allB N A = false) := hA
          as_aux_lemma =>
            go_wp2_with (first
              | (go_at_call 6; refine (num_any _ _).mono ?_; rintro e w9 ⟨rfl, hw9⟩; replace hw9 := hw9.symm; subst hw9)
              | (go_at_call 8; refine hask.mono ?_; rintro e w5 ⟨rfl, h5, b5⟩; have hN5 := HN0.out.call h5 b5)
              | (go_at_call 11; refine (done_ok hN5.ek.sk).mono ?_; rintro e w7 ⟨rfl, q7, rfl⟩; have hN7 := hN5.drewN q7) | (go_at_call 12; refine (rounds_ok hN7.ek.sk).mono ?_; rintro e w8 ⟨rfl, hw8⟩; replace hw8 := hw8.symm; subst hw8))
            go_roundg (200 - (i + 1))
            case rel => exact ⟨i + 1, r, _, _, congrArg Value.bool (by rw [HF.out]; rfl), rfl, rfl, by go_num, by omega, by omega, by omega, by omega, hN7.ek⟩
            case measure => omega
      · have hK2' : decide (K < 2) = false := by simp [hK2]
        cases hI : I with
        | false =>
          have hbad : ¬ (0 ≤ T ∧ T < (N : Int)) := by
            have := HI.out; rw [hI] at this; simp at this; omega
          clear HI
          have hsee := see_no HN0.out.ek.sk T hbad
          have hans := answer_no HN0.out.ek.sk T hbad
          have hN5 := HN0.out
          clear hbad
          by_cases hK4 : K < 4
          · as_aux_lemma =>
              go_wp2_with (first
              | (go_at_call 6; refine (num_any _ _).mono ?_; rintro e w9 ⟨rfl, hw9⟩; replace hw9 := hw9.symm; subst hw9)
              | (go_at_call 9; refine hsee.mono ?_; rintro e w5 ⟨rfl, hw5⟩; replace hw5 := hw5.symm; subst hw5)
              | (go_at_call 11; refine (done_ok hN5.ek.sk).mono ?_; rintro e w7 ⟨rfl, q7, rfl⟩; have hN7 := hN5.drewN q7) | (go_at_call 12; refine (rounds_ok hN7.ek.sk).mono ?_; rintro e w8 ⟨rfl, hw8⟩; replace hw8 := hw8.symm; subst hw8))
              go_roundg (200 - (i + 1))
              case rel => exact ⟨i + 1, r, _, _, rfl, rfl, rfl, by go_num, by omega, by omega, by omega, by omega, hN7.ek⟩
              case measure => omega
          · have hK4' : decide (K < 4) = false := by simp [hK4]
            as_aux_lemma =>
              go_wp2_with (first
              | (go_at_call 6; refine (num_any _ _).mono ?_; rintro e w9 ⟨rfl, hw9⟩; replace hw9 := hw9.symm; subst hw9)
              | (go_at_call 10; refine hans.mono ?_; rintro e w5 ⟨rfl, hw5⟩; replace hw5 := hw5.symm; subst hw5)
              | (go_at_call 11; refine (done_ok hN5.ek.sk).mono ?_; rintro e w7 ⟨rfl, q7, rfl⟩; have hN7 := hN5.drewN q7) | (go_at_call 12; refine (rounds_ok hN7.ek.sk).mono ?_; rintro e w8 ⟨rfl, hw8⟩; replace hw8 := hw8.symm; subst hw8))
              go_roundg (200 - (i + 1))
              case rel => exact ⟨i + 1, r, _, _, rfl, rfl, rfl, by go_num, by omega, by omega, by omega, by omega, hN7.ek⟩
              case measure => omega
        | true =>
          have hgood : 0 ≤ T ∧ T < (N : Int) := by
            have := HI.out; rw [hI] at this; simp at this; omega
          clear HI
          obtain ⟨t, rfl⟩ := Int.eq_ofNat_of_zero_le hgood.1
          have ht : t < N := by omega
          clear hgood
          by_cases hK4 : K < 4
          · cases hA : A t with
            | true =>
              have hsee := see_old HN0.out.ek.sk t ht hA
              as_aux_lemma =>
                go_wp2_with (first
                | (go_at_call 6; refine (num_any _ _).mono ?_; rintro e w9 ⟨rfl, hw9⟩; replace hw9 := hw9.symm; subst hw9)
                | (go_at_call 9; refine hsee.mono ?_; rintro e w5 ⟨rfl, h5, b5⟩; have hN5 := HN0.out.call h5 b5; have f1 := hN5.f1; have r0 := hN5.ek.row.cell ht)
                | (go_at_call 11; refine (done_ok hN5.ek.sk).mono ?_; rintro e w7 ⟨rfl, q7, rfl⟩; have hN7 := hN5.drewN q7) | (go_at_call 12; refine (rounds_ok hN7.ek.sk).mono ?_; rintro e w8 ⟨rfl, hw8⟩; replace hw8 := hw8.symm; subst hw8))
                go_roundg (200 - (i + 1))
                case rel => exact ⟨i + 1, r, _, _, rfl, rfl, rfl, by go_num, by omega, by omega, by omega, by omega, hN7.ek⟩
                case measure => omega
            | false =>
              have hsee := see_ok HN0.out.ek.sk t ht hA
              as_aux_lemma =>
                go_wp2_with (first
                | (go_at_call 6; refine (num_any _ _).mono ?_; rintro e w9 ⟨rfl, hw9⟩; replace hw9 := hw9.symm; subst hw9)
                | (go_at_call 9; refine hsee.mono ?_; rintro e w5 ⟨rfl, h5, b5⟩; have hN5 := HN0.out.call h5 b5; have f1 := hN5.f1; have r0 := hN5.ek.row.cell ht)
                | (go_at_call 11; refine (done_ok hN5.ek.sk).mono ?_; rintro e w7 ⟨rfl, q7, rfl⟩; have hN7 := hN5.drewN q7) | (go_at_call 12; refine (rounds_ok hN7.ek.sk).mono ?_; rintro e w8 ⟨rfl, hw8⟩; replace hw8 := hw8.symm; subst hw8))
                go_roundg (200 - (i + 1))
                case rel => exact ⟨i + 1, r, _, _, rfl, rfl, rfl, by go_num, by omega, by omega, by omega, by omega, hN7.ek⟩
                case measure => omega
          · have hK4' : decide (K < 4) = false := by simp [hK4]
            have hans := answer_ok HN0.out.ek.sk t ht
            obtain ⟨A', hA'⟩ : ∃ A', A' = setB A t true := ⟨_, rfl⟩
            have HA' : Hid (A' = setB A t true) := hA'
            rw [← hA'] at hans
            clear hA'
            as_aux_lemma =>
              go_wp2_with (first
                | (go_at_call 6; refine (num_any _ _).mono ?_; rintro e w9 ⟨rfl, hw9⟩; replace hw9 := hw9.symm; subst hw9)
                | (go_at_call 10; refine hans.mono ?_; rintro e w5 ⟨rfl, h5, b5⟩; have hN5 := HN0.out.call h5 b5; have f1 := hN5.f1; have r0 := hN5.ek.row.cell ht; have z0 := hN5.ek.row.frozen t))
              have HN6 : Hid (Nk w.heap.size w (w5.setCell ⟨g, t, none⟩ (.bool false)) s m g N p A' (fun j => !A' j) x r K t V) := by
                refine (hN5.put t false).congr (fun j _ => ?_)
                rw [HA'.out]
                unfold setB
                split <;> rfl
              clear hN5 h5 b5 f1 r0 z0 hans HN0 HA'
              go_loopg [8, 21] N (fun ky s8 s21 wr => ∃ k : Nat, s21 = .int .i64 k ∧ k ≤ N ∧ N - k ≤ ky ∧ s8 = .bool (!allB k A') ∧ Hid (Nk w.heap.size w wr s m g N p A' (fun j => !A' j) x r K t V))
              case atStart => exact ⟨0, rfl, by omega, by omega, rfl, HN6⟩
              case round =>
                clear HN6
                obtain ⟨k, rfl, hk, hky, rfl, hN⟩ := hrel
                by_cases hkN : k < N
                · have hkN' : (k : Int) < (N : Int) := by omega
                  have r0 := hN.out.ek.row.cell hkN
                  have HB : Hid (allB (k + 1) A' = (allB k A' && A' k)) := allB_next k A'
                  generalize allB k A' = y at HB ⊢
                  generalize A' k = z at HB r0
                  cases y with
                  | true =>
                    go_wp2
                    go_roundg (N - (k + 1))
                    case rel => exact ⟨k + 1, by go_num, by omega, by omega, congrArg Value.bool (by rw [HB.out]; simp), hN⟩
                    case measure => omega
                  | false =>
                    go_wp2
                    go_roundg (N - (k + 1))
                    case rel => exact ⟨k + 1, by go_num, by omega, by omega, congrArg Value.bool (by rw [HB.out]; simp), hN⟩
                    case measure => omega
                · obtain rfl : k = N := by omega
                  have hkN' : ¬ (k : Int) < (k : Int) := by omega
                  have hN5 := hN.out
                  go_wp2_with (first
                    | (go_at_call 11; refine (done_ok hN5.ek.sk).mono ?_; rintro e w7 ⟨rfl, q7, rfl⟩; have hN7 := hN5.drewN q7) | (go_at_call 12; refine (rounds_ok hN7.ek.sk).mono ?_; rintro e w8 ⟨rfl, hw8⟩; replace hw8 := hw8.symm; subst hw8))
                  go_roundg (200 - (i + 1))
                  case rel => exact ⟨i + 1, r, _, _, rfl, rfl, rfl, by go_num, by omega, by omega, by omega, by omega, hN7.ek⟩
                  case measure => omega
    · by_cases hl : i < len
      · obtain rfl : i = 200 := by omega
        clear hgo
        as_aux_lemma =>
          go_wp2_with (first | (go_at_call 6; refine (num_any _ _).mono ?_; rintro e w9 ⟨rfl, hw9⟩; replace hw9 := hw9.symm; subst hw9) | (go_at_call 7; refine (awake_any _).mono ?_; rintro e w7 ⟨rfl, hb7⟩))
          go_ret
          exact ⟨rfl, hE.out.bel.trans (hb7.mono hE.out.big)⟩
      · have hl' : ¬ (i : Int) < (len : Int) := by omega
        clear hgo
        as_aux_lemma =>
          go_wp2_with (first | (go_at_call 6; refine (num_any _ _).mono ?_; rintro e w9 ⟨rfl, hw9⟩; replace hw9 := hw9.symm; subst hw9) | (go_at_call 7; refine (awake_any _).mono ?_; rintro e w7 ⟨rfl, hb7⟩))
          go_ret
          exact ⟨rfl, hE.out.bel.trans (hb7.mono hE.out.big)⟩
theorem acts10_walk (n : Int) (ao : Option Addr) (len cap : Nat) (w : World) (hlen : len ≤ maxLen)
    (hs : len = 0 ∨ ∃ (B o : Nat) (F : Nat → Nat → Int), ao = some ⟨B, o, none⟩ ∧ B < w.heap.size ∧ ∀ i j, i < len → j < 3 → w.cell? ⟨B, o + i * 3 + j, none⟩ = some (.int .i64 (F i j))) :
    Calls Try.prog 3 #[.int .i64 n, .slice ao len cap] w fun e w' => e = .returned (.bool true) ∧ Below w.heap.size w w' := by
  by_cases hn : 1 ≤ n ∧ n ≤ 8
  · obtain ⟨N, rfl⟩ := Int.eq_ofNat_of_zero_le (show 0 ≤ n by omega)
    exact acts10_main N ao len cap w (by omega) (by omega) hlen hs
  · exact acts10_bad n _ w hn
end Go.Proofs.Ytggnmmnmgnffjaa
