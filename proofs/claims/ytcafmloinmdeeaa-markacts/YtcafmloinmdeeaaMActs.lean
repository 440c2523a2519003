/- The walk of the law MarkActs: whatever it is called with it returns true, and of what was there nothing turns. -/
import Derived.Test.YtcafmloinmdeeaaMNow
namespace Go.Proofs.Ytcafmloinmdeeaa
open Go.RowKit
set_option maxRecDepth 20000 in
theorem acts11_bad (n : Int) (v : Value) (w : World) (hn : ¬ (1 ≤ n ∧ n ≤ 4096)) :
    Calls Try.prog 3 #[.int .i64 n, v] w fun e w' => e = .returned (.bool true) ∧ Below w.heap.size w w' := by
  have hk := mnew_no n w hn
  by_cases h1 : n < 1
  · clear hn
    go_enter Try.func3, Try.ntmps3
    go_wp2_with (first | (go_at_call 5; refine hk.mono ?_; rintro e w1 ⟨rfl, rfl⟩) | (go_at_call 6; refine (num_any _ _).mono ?_; rintro e w2 ⟨rfl, rfl⟩) | (go_at_call 7; refine (awake_any _).mono ?_; rintro e w3 ⟨rfl, hb⟩))
    go_ret
    exact ⟨rfl, hb⟩
  · have h2 : 4096 < n := by omega
    have h3 : decide (n < 1) = false := by simp; omega
    clear hn h1
    go_enter Try.func3, Try.ntmps3
    go_wp2_with (first | (go_at_call 5; refine hk.mono ?_; rintro e w1 ⟨rfl, rfl⟩) | (go_at_call 6; refine (num_any _ _).mono ?_; rintro e w2 ⟨rfl, rfl⟩) | (go_at_call 7; refine (awake_any _).mono ?_; rintro e w3 ⟨rfl, hb⟩))
    go_ret
    exact ⟨rfl, hb⟩
attribute [local go_sem ↓] ap_M
set_option maxHeartbeats 20000000 in
set_option maxRecDepth 20000 in
theorem acts11_main (N : Nat) (ao : Option Addr) (len cap : Nat) (w : World) (hN1 : 1 ≤ N) (hN2 : N ≤ 4096) (hlen : len ≤ maxLen)
    (hs : len = 0 ∨ ∃ (B o : Nat) (F : Nat → Nat → Int), ao = some ⟨B, o, none⟩ ∧ B < w.heap.size ∧ ∀ i j, i < len → j < 2 → w.cell? ⟨B, o + i * 2 + j, none⟩ = some (.int .i64 (F i j))) :
    Calls Try.prog 3 #[.int .i64 N, .slice ao len cap] w fun e w' => e = .returned (.bool true) ∧ Below w.heap.size w w' := by
  unfold maxLen at hlen
  have hmk := run_make_row' (P := Try.prog) 29 3 (.int .i64 0) 8 Try.underlying29 minfo3 rfl .i64 .i64 N (by omega) (by omega)
  have d1 : decide ((N : Int) < 1) = false := by simp; omega
  have d2 : decide ((4096 : Int) < (N : Int)) = false := by simp; omega
  go_enter Try.func3, Try.ntmps3
  go_wp2_with (go_at_call 5; refine (mnew_ok N _ hN1 hN2).mono ?_; rintro e w1 ⟨s, bc, bi, rfl, h1, b1, l1⟩)
  have a1 := (Below.refl w1.heap.size w1).alloc (Nat.le_refl _) (.cells (madeCells #[.int .i64 0] N) 3)
  have HP : Hid (Pm w.heap.size w (w1.alloc (.cells (madeCells #[.int .i64 0] N) 3)) s bc bi N (fun _ => 1) [] w1.heap.size (fun _ => 0) (.slice none 0 0) []) :=
    ⟨h1.below a1, World.rowIs_made w1 (.int .i64 0) N 3, Que.nil _ _, fun m => by have := h1.mb_lt _ m; omega, b1.size, b1.trans (a1.mono b1.size), Nat.le_trans b1.size a1.size, l1⟩
  clear hmk d1 d2 h1 b1 l1 a1
  generalize w1.heap.size = gs at HP ⊢
  generalize w1.alloc (.cells (madeCells #[.int .i64 0] N) 3) = w2 at HP ⊢
  go_loopg [8] N (fun kx s8 wr => ∃ k : Nat, s8 = .int .i64 k ∧ k ≤ N ∧ N - k ≤ kx ∧ Hid (Pm w.heap.size w wr s bc bi N (fun _ => 1) [] gs (fun i => if i < k then 1 else 0) (.slice none 0 0) []))
  case atStart => exact ⟨0, rfl, by omega, by omega, HP.out.congr (fun _ _ => by simp)⟩
  case round =>
    clear HP
    obtain ⟨k, rfl, hk, hkx, hP⟩ := hrel
    by_cases hkN : k < N
    · have hkN' : (k : Int) < (N : Int) := by omega
      have r0 := hP.out.row.cell hkN
      have z0 := hP.out.row.frozen k
      have HP2 : Hid (Pm w.heap.size w (wr.setCell ⟨gs, k, none⟩ (.int .i64 1)) s bc bi N (fun _ => 1) [] gs (fun i => if i < k + 1 then 1 else 0) (.slice none 0 0) []) := (hP.out.put k 1).congr (fun j _ => by
        unfold setC
        by_cases e : j = k
        · subst e; simp
        · have : (j < k + 1) = (j < k) := by simp; omega
          simp [e, this])
      clear hP
      go_wp2
      go_roundg (N - (k + 1))
      case rel => exact ⟨k + 1, by go_num, by omega, by omega, HP2⟩
      case measure => omega
    · obtain rfl : N = k := by omega
      have hkN' : ¬ (N : Int) < (N : Int) := by omega
      have HP1 : Hid (Pm w.heap.size w wr s bc bi N (fun _ => 1) [] gs (fun _ => 1) (.slice none 0 0) []) := hP.out.congr (fun j hj => by simp [hj])
      clear hP hk hkx hkN
      go_wp2
      clear hkN'
      go_loopg [9, 10, 11, 12, 13, 14, 15, 16, 17, 18, 19] 300 (fun kx s9 s10 s11 s12 s13 s14 s15 s16 s17 s18 s19 wr => ∃ (i m : Nat) (qo : Option Addr) (qc : Nat) (c : Nat → Int) (q : List Nat), s9 = .slice qo m qc ∧ s10 = .int .i64 i ∧ i ≤ len ∧ i ≤ 300 ∧ 300 - i ≤ kx ∧ Hid (m = q.length) ∧ Hid (Pm w.heap.size w wr s bc bi N c q gs c (.slice qo m qc) q))
      case atStart => exact ⟨0, 0, none, 0, _, [], rfl, rfl, by omega, by omega, by omega, rfl, HP1⟩
      case round =>
        clear HP1
        obtain ⟨i, m, qo, qc, c, q, rfl, rfl, hi1, hi2, hkx, Hm, hP⟩ := hrel
        by_cases hgo : i < len ∧ i < 300
        · obtain ⟨g1, g2⟩ := hgo
          rcases hs with h0 | ⟨B, o, F, rfl, hB, hF⟩
          · omega
          have cel : ∀ j, j < 2 → wr.cell? ⟨B, o + i * 2 + j, none⟩ = some (.int .i64 (F i j)) := fun j hj => (hP.out.bel.cell hB).trans (hF i j g1 hj)
          obtain ⟨K, hK⟩ : ∃ K, F i 0 = K := ⟨_, rfl⟩
          obtain ⟨T, hT⟩ : ∃ T, F i 1 = T := ⟨_, rfl⟩
          have c0 := cel 0 (by omega)
          have c1 := cel 1 (by omega)
          rw [hK, Nat.add_zero] at c0
          rw [hT] at c1
          clear cel hF hK hT
          have HN0 : Hid _ := hP.out.look K T
          have e0 := HN0.out.f0
          have e1 := HN0.out.f1
          obtain ⟨I, hI⟩ : ∃ I : Bool, I = (decide (0 ≤ T) && decide (T < (N : Int))) := ⟨_, rfl⟩
          have HI : Hid (I = (decide (0 ≤ T) && decide (T < (N : Int)))) := hI
          clear hI
          go_upto_region 14 with fail
          go_cut [12] (fun s12 wx => s12 = .bool I ∧ wr.alloc (.cells #[.int .i64 K, .int .i64 T] 31) = wx)
          case first =>
            by_cases hT0 : 0 ≤ T
            · by_cases hT1 : T < (N : Int)
              · as_aux_lemma =>
                  go_wp2_with fail
                  go_meet
                  exact ⟨congrArg Value.bool (by rw [HI.out]; simp [hT0, hT1]), rfl⟩
              · have hT2 : decide (T < (N : Int)) = false := by simp [hT1]
                as_aux_lemma =>
                  go_wp2_with fail
                  go_meet
                  exact ⟨congrArg Value.bool (by rw [HI.out]; simp [hT1]), rfl⟩
            · have hT2 : decide (0 ≤ T) = false := by simp [hT0]
              as_aux_lemma =>
                go_wp2_with fail
                go_meet
                exact ⟨congrArg Value.bool (by rw [HI.out, hT2]; rfl), rfl⟩
          case rest =>
          obtain ⟨rfl, rfl⟩ := hcut
          clear c0 c1 hP
          generalize wr.heap.size = p at HN0 e0 e1 ⊢
          generalize wr.alloc (.cells #[.int .i64 K, .int .i64 T] 31) = wa at HN0 e0 e1 ⊢
          have hq5000 : q.length ≤ 5000 := by have := HN0.out.pm.wk.len; omega
          have HQ5 : Hid (q.length ≤ 5000) := hq5000
          clear hq5000
          by_cases hK3 : K < 3
          · cases hI : I with
            | false =>
              have hbad : ¬ (0 ≤ T ∧ T < (N : Int)) := by
                have := HI.out; rw [hI] at this; simp at this; omega
              have hg := mgrey_no HN0.out.pm.wk T hbad
              clear HI hI hbad
              as_aux_lemma =>
                go_wp2_with (first | (go_at_call 8; refine hg.mono ?_; rintro e w5 ⟨rfl, hw5⟩; replace hw5 := hw5.symm; subst hw5) | (go_at_call 6; refine (num_any _ _).mono ?_; rintro e w9 ⟨rfl, hw9⟩; replace hw9 := hw9.symm; subst hw9))
                go_roundg (300 - (i + 1))
                case rel => exact ⟨i + 1, m, qo, qc, c, q, rfl, by go_num, by omega, by omega, by omega, Hm, HN0.out.pm⟩
                case measure => omega
            | true =>
              have hgood : 0 ≤ T ∧ T < (N : Int) := by
                have := HI.out; rw [hI] at this; simpa using this.symm
              obtain ⟨t, rfl⟩ := Int.eq_ofNat_of_zero_le hgood.1
              have htN : t < N := by omega
              have htN' : (t : Int) < (N : Int) := by omega
              clear HI hI hgood
              by_cases h1 : c t = 1
              · have hg := mgrey_ok HN0.out.pm.wk t htN h1
                have H1 : Hid (c t = 1) := h1
                clear h1
                as_aux_lemma =>
                  go_wp2_with (first | (go_at_call 8; refine hg.mono ?_; clear hg; rintro e w5 ⟨rfl, hM5, hB5⟩; have hN5 := HN0.out.call hM5 hB5; have f1 := hN5.f1; have r5 := hN5.pm.row.cell htN; rw [H1.out] at r5; have z5 := hN5.pm.row.frozen t; have hN6 := hN5.put t 2; have f6 := hN6.f1; obtain ⟨p7, o7, cap7, w7, hrun, hq7, hb7⟩ := que_app hN6.pm.que hN6.pm.fresh t HQ5.out; rw [← Hm.out, show (w5.setCell ⟨gs, t, none⟩ (.int .i64 2)).heap.size = w5.heap.size from by simp [World.setCell]] at hrun; clear hM5 hB5) | (go_at_call 6; refine (num_any _ _).mono ?_; rintro e w9 ⟨rfl, hw9⟩; replace hw9 := hw9.symm; subst hw9))
                  go_roundg (300 - (i + 1))
                  case rel => exact ⟨i + 1, m + 1, _, _, setC c t 2, q ++ [t], rfl, by go_num, by omega, by omega, by omega, (show m + 1 = (q ++ [t]).length by rw [Hm.out]; simp), by rw [Hm.out]; exact hN6.pm.app hq7 hb7⟩
                  case measure => omega
              · have hg := mgrey_old HN0.out.pm.wk t htN h1
                have r5 := HN0.out.pm.row.cell htN
                have e5 : (c t == 1) = false := by simp [h1]
                obtain ⟨z, hz⟩ : ∃ z, c t = z := ⟨_, rfl⟩
                rw [hz] at r5 e5
                clear h1 hz
                as_aux_lemma =>
                  go_wp2_with (first | (go_at_call 8; refine hg.mono ?_; rintro e w5 ⟨rfl, hw5⟩; replace hw5 := hw5.symm; subst hw5) | (go_at_call 6; refine (num_any _ _).mono ?_; rintro e w9 ⟨rfl, hw9⟩; replace hw9 := hw9.symm; subst hw9))
                  go_roundg (300 - (i + 1))
                  case rel => exact ⟨i + 1, m, qo, qc, c, q, rfl, by go_num, by omega, by omega, by omega, Hm, HN0.out.pm⟩
                  case measure => omega
          · have hK3' : decide (K < 3) = false := by simp [hK3]
            by_cases hK5 : K < 5
            · clear HI
              cases q with
              | nil =>
                obtain rfl : m = 0 := Hm.out
                have hn := mnext_none HN0.out.pm.wk
                as_aux_lemma =>
                  go_wp2_with (first | (go_at_call 9; refine hn.mono ?_; rintro e w5 ⟨rfl, hw5⟩; replace hw5 := hw5.symm; subst hw5))
                  go_roundg (300 - (i + 1))
                  case rel => exact ⟨i + 1, 0, qo, qc, c, [], rfl, by go_num, by omega, by omega, by omega, rfl, HN0.out.pm⟩
                  case measure => omega
              | cons x t =>
                obtain ⟨g, o, k, hsl, _, _, _, _⟩ := que_tail HN0.out.pm.que
                simp only [Value.slice.injEq] at hsl
                obtain ⟨rfl, -, hqc⟩ := hsl
                have HQC : Hid (qc = k + 1) := hqc
                have hn := mnext_ok HN0.out.pm.wk
                have hm1 : 1 ≤ m := by have := Hm.out; simp at this; omega
                have hm2 : (0 : Int) < (m : Int) := by omega
                have hm3 : (1 : Int) ≤ (m : Int) := by omega
                have hxN : x < N := HN0.out.pm.wk.lt (by simp)
                have hxN' : (x : Int) < (N : Int) := by omega
                clear hqc
                by_cases hq1 : qc = 1
                · as_aux_lemma =>
                    go_wp2_with (first | (go_at_call 9; refine hn.mono ?_; clear hn; rintro e w5 ⟨rfl, hM5, hB5⟩; have hN5 := HN0.out.call hM5 hB5; obtain ⟨g5, o5, k5, hsl5, _, ht0, _, cx⟩ := que_tail hN5.pm.que; simp only [Value.slice.injEq, Option.some.injEq, Addr.mk.injEq, and_true] at hsl5; obtain ⟨⟨rfl, rfl⟩, -, hk5⟩ := hsl5; have HT : Hid (Que w5 (Oka w.heap.size s bc bi gs) (.slice (some ⟨g, o, none⟩) t.length k5) t) := ht0 (by omega); have HK5 : Hid (qc = k5 + 1) := hk5; clear hk5 ht0; have r5 := hN5.pm.row.cell hxN; have z5 := hN5.pm.row.frozen x; have hN6 := hN5.put x 3; clear hM5 hB5))
                    go_roundg (300 - (i + 1))
                    case rel =>
                      have e1 : m - 1 = t.length := by have := Hm.out; simp at this; omega
                      have h := HT.out
                      rw [show k5 = 0 from by have := HK5.out; omega] at h
                      refine ⟨i + 1, m - 1, _, _, setC c x 3, t, rfl, by go_num, by omega, by omega, by omega, e1, ?_⟩
                      rw [e1]
                      exact hN6.pm.turn (Que.of_blocks h fun j _ ho => Below.heap_setCell _ _ _ _ ho.2.2)
                    case measure => omega
                · as_aux_lemma =>
                    go_wp2_with (first | (go_at_call 9; refine hn.mono ?_; clear hn; rintro e w5 ⟨rfl, hM5, hB5⟩; have hN5 := HN0.out.call hM5 hB5; obtain ⟨g5, o5, k5, hsl5, _, _, ht0, cx⟩ := que_tail hN5.pm.que; simp only [Value.slice.injEq, Option.some.injEq, Addr.mk.injEq, and_true] at hsl5; obtain ⟨⟨rfl, rfl⟩, -, hk5⟩ := hsl5; have HT : Hid (Que w5 (Oka w.heap.size s bc bi gs) (.slice (some ⟨g, o + 1, none⟩) t.length k5) t) := ht0 (by omega); have HK5 : Hid (qc = k5 + 1) := hk5; clear hk5 ht0; have r5 := hN5.pm.row.cell hxN; have z5 := hN5.pm.row.frozen x; have hN6 := hN5.put x 3; clear hM5 hB5))
                    go_roundg (300 - (i + 1))
                    case rel =>
                      have e1 : m - 1 = t.length := by have := Hm.out; simp at this; omega
                      have h := HT.out
                      rw [show k5 = qc - 1 from by have := HK5.out; omega] at h
                      refine ⟨i + 1, m - 1, _, _, setC c x 3, t, rfl, by go_num, by omega, by omega, by omega, e1, ?_⟩
                      rw [e1]
                      exact hN6.pm.turn (Que.of_blocks h fun j _ ho => Below.heap_setCell _ _ _ _ ho.2.2)
                    case measure => omega
            · have hK5' : decide (K < 5) = false := by simp [hK5]
              by_cases hKe : K = 5
              · subst hKe
                cases hI : I with
                | false =>
                  have hbad : ¬ (0 ≤ T ∧ T < (N : Int)) := by
                    have := HI.out; rw [hI] at this; simp at this; omega
                  have hg := mcolour_no HN0.out.pm.wk T hbad
                  clear HI hI hbad
                  as_aux_lemma =>
                    go_wp2_with (first | (go_at_call 10; refine hg.mono ?_; rintro e w5 ⟨rfl, hw5⟩; replace hw5 := hw5.symm; subst hw5) | (go_at_call 6; refine (num_any _ _).mono ?_; rintro e w9 ⟨rfl, hw9⟩; replace hw9 := hw9.symm; subst hw9))
                    go_roundg (300 - (i + 1))
                    case rel => exact ⟨i + 1, m, qo, qc, c, q, rfl, by go_num, by omega, by omega, by omega, Hm, HN0.out.pm⟩
                    case measure => omega
                | true =>
                  have hgood : 0 ≤ T ∧ T < (N : Int) := by
                    have := HI.out; rw [hI] at this; simpa using this.symm
                  obtain ⟨t, rfl⟩ := Int.eq_ofNat_of_zero_le hgood.1
                  have htN : t < N := by omega
                  have htN' : (t : Int) < (N : Int) := by omega
                  clear HI hI hgood
                  have hg := mcolour_ok HN0.out.pm.wk t htN
                  have r5 := HN0.out.pm.row.cell htN
                  obtain ⟨z, hz⟩ : ∃ z, c t = z := ⟨_, rfl⟩
                  rw [hz] at r5 hg
                  have e5 : (z != z) = false := by simp
                  clear hz
                  as_aux_lemma =>
                    go_wp2_with (first | (go_at_call 10; refine hg.mono ?_; rintro e w5 ⟨rfl, hw5⟩; replace hw5 := hw5.symm; subst hw5) | (go_at_call 6; refine (num_any _ _).mono ?_; rintro e w9 ⟨rfl, hw9⟩; replace hw9 := hw9.symm; subst hw9))
                    go_roundg (300 - (i + 1))
                    case rel => exact ⟨i + 1, m, qo, qc, c, q, rfl, by go_num, by omega, by omega, by omega, Hm, HN0.out.pm⟩
                    case measure => omega
              · have hKe' : (K == 5) = false := by simp [hKe]
                have hr := reset_ok HN0.out.pm.wk
                clear HI hKe
                as_aux_lemma =>
                  go_wp2_with (go_at_call 11; refine hr.mono ?_; clear hr; rintro e w5 ⟨rfl, hM5, hB5⟩; have hN5 := HN0.out.pm.call hM5 hB5; clear hM5 hB5)
                  have HP5 : Hid (Pm w.heap.size w w5 s bc bi N (fun _ => 1) [] gs c (.slice none 0 0) []) := hN5.turn (Que.nil _ _)
                  clear hN5
                  go_loopg [19] N (fun ky s19 wr => ∃ k : Nat, s19 = .int .i64 k ∧ k ≤ N ∧ N - k ≤ ky ∧ Hid (Pm w.heap.size w wr s bc bi N (fun _ => 1) [] gs (fun j => if j < k then 1 else c j) (.slice none 0 0) []))
                  case atStart => exact ⟨0, rfl, by omega, by omega, HP5.out.congr (fun _ _ => by simp)⟩
                  case round =>
                    clear HP5
                    obtain ⟨k, rfl, hk, hky, hP⟩ := hrel
                    by_cases hkN : k < N
                    · have hkN' : (k : Int) < (N : Int) := by omega
                      have r0 := hP.out.row.cell hkN
                      have z0 := hP.out.row.frozen k
                      have HP2 : Hid (Pm w.heap.size w (wr.setCell ⟨gs, k, none⟩ (.int .i64 1)) s bc bi N (fun _ => 1) [] gs (fun j => if j < k + 1 then 1 else c j) (.slice none 0 0) []) := (hP.out.put k 1).congr (fun j _ => by
                        unfold setC
                        by_cases e : j = k
                        · subst e; simp
                        · have : (j < k + 1) = (j < k) := by simp; omega
                          simp [e, this])
                      obtain ⟨z, hz⟩ : ∃ z : Int, (if k < k then 1 else c k) = z := ⟨_, rfl⟩
                      rw [hz] at r0
                      clear hP hz
                      go_wp2
                      go_roundg (N - (k + 1))
                      case rel => exact ⟨k + 1, by go_num, by omega, by omega, HP2⟩
                      case measure => omega
                    · obtain rfl : N = k := by omega
                      have hkN' : ¬ (N : Int) < (N : Int) := by omega
                      have HP1 : Hid (Pm w.heap.size w wr s bc bi N (fun _ => 1) [] gs (fun _ => 1) (.slice none 0 0) []) := hP.out.congr (fun j hj => by simp [hj])
                      clear hP hk hky hkN
                      go_wp2
                      go_roundg (300 - (i + 1))
                      case rel => exact ⟨i + 1, 0, none, 0, _, [], rfl, by go_num, by omega, by omega, by omega, rfl, HP1⟩
                      case measure => omega
        · have hbl := blacks_ok hP.out.wk gs hP.out.row
          have HP : Hid (Pm w.heap.size w wr s bc bi N c q gs c (.slice qo m qc) q) := hP
          clear hP
          by_cases hl : i < len
          · obtain rfl : i = 300 := by omega
            clear hgo
            as_aux_lemma =>
              go_wp2_with (first | (go_at_call 6; refine (num_any _ _).mono ?_; rintro e w9 ⟨rfl, hw9⟩; replace hw9 := hw9.symm; subst hw9) | (go_at_call 12; refine hbl.mono ?_; rintro e w6 ⟨rfl, hb6⟩) | (go_at_call 7; refine (awake_any _).mono ?_; rintro e w7 ⟨rfl, hb7⟩))
              go_ret
              exact ⟨rfl, (HP.out.bel.trans (hb6.mono HP.out.big)).trans (hb7.mono (Nat.le_trans HP.out.big hb6.size))⟩
          · have hl' : ¬ (i : Int) < (len : Int) := by omega
            clear hgo
            as_aux_lemma =>
              go_wp2_with (first | (go_at_call 6; refine (num_any _ _).mono ?_; rintro e w9 ⟨rfl, hw9⟩; replace hw9 := hw9.symm; subst hw9) | (go_at_call 12; refine hbl.mono ?_; rintro e w6 ⟨rfl, hb6⟩) | (go_at_call 7; refine (awake_any _).mono ?_; rintro e w7 ⟨rfl, hb7⟩))
              go_ret
              exact ⟨rfl, (HP.out.bel.trans (hb6.mono HP.out.big)).trans (hb7.mono (Nat.le_trans HP.out.big hb6.size))⟩
theorem acts11_walk (n : Int) (ao : Option Addr) (len cap : Nat) (w : World) (hlen : len ≤ maxLen)
    (hs : len = 0 ∨ ∃ (B o : Nat) (F : Nat → Nat → Int), ao = some ⟨B, o, none⟩ ∧ B < w.heap.size ∧ ∀ i j, i < len → j < 2 → w.cell? ⟨B, o + i * 2 + j, none⟩ = some (.int .i64 (F i j))) :
    Calls Try.prog 3 #[.int .i64 n, .slice ao len cap] w fun e w' => e = .returned (.bool true) ∧ Below w.heap.size w w' := by
  by_cases h : 1 ≤ n ∧ n ≤ 4096
  · obtain ⟨N, rfl⟩ := Int.eq_ofNat_of_zero_le (show 0 ≤ n by omega)
    exact acts11_main N ao len cap w (by omega) (by omega) hlen hs
  · exact acts11_bad n _ w h
end Go.Proofs.Ytcafmloinmdeeaa
