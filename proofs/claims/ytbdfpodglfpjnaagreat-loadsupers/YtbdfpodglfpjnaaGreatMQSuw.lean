/- LoadSupers. -/
import Derived.Test.YtbdfpodglfpjnaaGreatMQTyp
namespace Go.Proofs.YtbdfpodglfpjnaaGreat
open Go.RowKit

set_option maxRecDepth 20000 in
set_option maxHeartbeats 16000000 in
theorem supers_bad (z s : Int) (hz : z.tmod 20 = s) (hJ : loadJ (supP s) = .error (1500, 12)) (hO : Okl (supP s)) (hc : decide (s < 0) = true ∨ (decide (s < 0) = false ∧ decide (s > 13) = true) ∨ (decide (s < 0) = false ∧ decide (s > 13) = false ∧ (s == 13) = true) ∨ (decide (s < 0) = false ∧ decide (s > 13) = false ∧ (s == 13) = false ∧ (s == 10) = true)) (w : World) : Calls Tryz.prog 3 #[.int .i64 z] w fun e w' => e = .returned (.bool true) ∧ Below w.heap.size w w' := by
  have hA := awake15 w
  have HJ : Hid _ := hJ
  have HO : Hid _ := hO
  clear hJ hO
  rcases hc with q1 | ⟨q1, q2⟩ | ⟨q1, q2, q3⟩ | ⟨q1, q2, q3, q4⟩
  all_goals (
    go_enter Tryz.func3, Tryz.ntmps3
    go_upto_region 5 with (first
      | (go_at_call 11; refine hA.mono ?_; clear hA; rintro e w1 ⟨rfl, hb1⟩; have HB1 : Hid (Below w.heap.size w w1) := hb1; clear hb1)
      | (go_at_call 12; refine (withN (n := 2) (S := fun k => k < w1.heap.size + 1) (xs := [⟨⟨#[65]⟩, false, false, s, [], [], [], []⟩, ⟨⟨#[73]⟩, true, false, 0, [], [], [], []⟩]) rfl (fun k (q : k < _) => (by repeat (first | rw [sz_al] | rw [sz_sc]); omega)) (by
          refine Sl.blk [[.string ⟨#[65]⟩, .bool false, .bool false, .int .i64 s, .slice none 0 0, .slice none 0 0, .slice none 0 0, .slice none 0 0], [.string ⟨#[73]⟩, .bool true, .bool false, .int .i64 0, .slice none 0 0, .slice none 0 0, .slice none 0 0, .slice none 0 0]] (T := 31) (by (repeat (first | rw [hp_al] | rw [hp_sc] | rw [sz_al] | rw [sz_sc] | rw [if_neg (by omega)] | rw [if_pos (by omega)])); all_goals first | rfl | assumption) (show _ < _ by omega) rfl rfl rfl (by decide) fun i y r hy hr => ?_
          match i, hy, hr with
          | 0, hy, hr => cases hy; cases hr; exact ⟨_, _, _, _, rfl, Sl.nil _ _ _, Sl.nil _ _ _, Sl.nil _ _ _, Sl.nil _ _ _⟩
          | 1, hy, hr => cases hy; cases hr; exact ⟨_, _, _, _, rfl, Sl.nil _ _ _, Sl.nil _ _ _, Sl.nil _ _ _, Sl.nil _ _ _⟩) (by decide) (by decide)).mono ?_; rintro e w5 ⟨g, c, rfl, hb5, S', hS', hs⟩; have HB5 : Hid (Below w1.heap.size w1 w5) := ((Below.refl _ _).alloc (by omega) _).trans (hb5.mono (by rw [sz_al]; omega)); have HS' : Hid (∀ k, S' k → k < w5.heap.size) := hS'; have HS : Hid (Sl kCs w5 S' (.slice (some ⟨g, 0, none⟩) 3 c) (supP s).cls) := hs; clear hb5 hS' hs))
    obtain ⟨W6, hW6⟩ : ∃ X, X = w5.alloc (.cells #[.int .i64 11, .slice (some ⟨g, 0, none⟩) 3 c] 25) := ⟨_, rfl⟩
    have g6 : W6.heap[w5.heap.size]? = some (.cells #[.int .i64 11, .slice (some ⟨g, 0, none⟩) 3 c] 25 (0, 0)) := by rw [hW6]; exact heap_alloc_new _ _
    have hb6 : Below w5.heap.size w5 W6 := by rw [hW6]; exact (Below.refl _ _).alloc (Nat.le_refl _) _
    rw [← hW6]
    clear hW6
    have c0 : W6.cell? ⟨w5.heap.size, 0, none⟩ = some (.int .i64 11) := bxq_cell g6 rfl
    have c1 : W6.cell? ⟨w5.heap.size, 1, none⟩ = some (.slice (some ⟨g, 0, none⟩) 3 c) := bxq_cell g6 rfl
    have hS6 : ∀ k, S' k → k < W6.heap.size := fun k q => Nat.lt_of_lt_of_le (HS'.out k q) hb6.size
    have hs6 := HS.out.keep (w' := W6) fun k q => hb6.block k (HS'.out k q)
    have hF := faults_err (w := W6) (S := S') (p := supP s) HO.out hS6 hs6 (by decide) HJ.out
    have HB6 : Hid _ := hb6
    clear hb6 hS6 hs6 g6
    go_wp2_with (go_at_call 13; refine hF.mono ?_; clear hF; rintro e w7 ⟨rfl, hb7⟩; have HB7 : Hid (Below W6.heap.size W6 w7) := hb7; clear hb7)
    go_ret
    exact ⟨rfl, HB1.out.trans (((HB5.out.trans (HB6.out.mono HB5.out.size)).trans (HB7.out.mono (Nat.le_trans HB5.out.size HB6.out.size))).mono HB1.out.size)⟩)
set_option maxRecDepth 20000 in
set_option maxHeartbeats 16000000 in
theorem supers_ring (z s : Int) (hz : z.tmod 20 = s) (hJ : loadJ (supP s) = .error (1501, 12)) (hO : Okl (supP s)) (hc : decide (s < 0) = false ∧ decide (s > 13) = false ∧ (s == 13) = false ∧ (s == 10) = false ∧ (s == 12) = true) (w : World) : Calls Tryz.prog 3 #[.int .i64 z] w fun e w' => e = .returned (.bool true) ∧ Below w.heap.size w w' := by
  have hA := awake15 w
  have HJ : Hid _ := hJ
  have HO : Hid _ := hO
  clear hJ hO
  rcases hc with ⟨q1, q2, q3, q4, q5⟩
  all_goals (
    go_enter Tryz.func3, Tryz.ntmps3
    go_upto_region 5 with (first
      | (go_at_call 11; refine hA.mono ?_; clear hA; rintro e w1 ⟨rfl, hb1⟩; have HB1 : Hid (Below w.heap.size w w1) := hb1; clear hb1)
      | (go_at_call 12; refine (withN (n := 2) (S := fun k => k < w1.heap.size + 1) (xs := [⟨⟨#[65]⟩, false, false, s, [], [], [], []⟩, ⟨⟨#[73]⟩, true, false, 0, [], [], [], []⟩]) rfl (fun k (q : k < _) => (by repeat (first | rw [sz_al] | rw [sz_sc]); omega)) (by
          refine Sl.blk [[.string ⟨#[65]⟩, .bool false, .bool false, .int .i64 s, .slice none 0 0, .slice none 0 0, .slice none 0 0, .slice none 0 0], [.string ⟨#[73]⟩, .bool true, .bool false, .int .i64 0, .slice none 0 0, .slice none 0 0, .slice none 0 0, .slice none 0 0]] (T := 31) (by (repeat (first | rw [hp_al] | rw [hp_sc] | rw [sz_al] | rw [sz_sc] | rw [if_neg (by omega)] | rw [if_pos (by omega)])); all_goals first | rfl | assumption) (show _ < _ by omega) rfl rfl rfl (by decide) fun i y r hy hr => ?_
          match i, hy, hr with
          | 0, hy, hr => cases hy; cases hr; exact ⟨_, _, _, _, rfl, Sl.nil _ _ _, Sl.nil _ _ _, Sl.nil _ _ _, Sl.nil _ _ _⟩
          | 1, hy, hr => cases hy; cases hr; exact ⟨_, _, _, _, rfl, Sl.nil _ _ _, Sl.nil _ _ _, Sl.nil _ _ _, Sl.nil _ _ _⟩) (by decide) (by decide)).mono ?_; rintro e w5 ⟨g, c, rfl, hb5, S', hS', hs⟩; have HB5 : Hid (Below w1.heap.size w1 w5) := ((Below.refl _ _).alloc (by omega) _).trans (hb5.mono (by rw [sz_al]; omega)); have HS' : Hid (∀ k, S' k → k < w5.heap.size) := hS'; have HS : Hid (Sl kCs w5 S' (.slice (some ⟨g, 0, none⟩) 3 c) (supP s).cls) := hs; clear hb5 hS' hs))
    obtain ⟨W6, hW6⟩ : ∃ X, X = w5.alloc (.cells #[.int .i64 11, .slice (some ⟨g, 0, none⟩) 3 c] 25) := ⟨_, rfl⟩
    have g6 : W6.heap[w5.heap.size]? = some (.cells #[.int .i64 11, .slice (some ⟨g, 0, none⟩) 3 c] 25 (0, 0)) := by rw [hW6]; exact heap_alloc_new _ _
    have hb6 : Below w5.heap.size w5 W6 := by rw [hW6]; exact (Below.refl _ _).alloc (Nat.le_refl _) _
    rw [← hW6]
    clear hW6
    have c0 : W6.cell? ⟨w5.heap.size, 0, none⟩ = some (.int .i64 11) := bxq_cell g6 rfl
    have c1 : W6.cell? ⟨w5.heap.size, 1, none⟩ = some (.slice (some ⟨g, 0, none⟩) 3 c) := bxq_cell g6 rfl
    have hS6 : ∀ k, S' k → k < W6.heap.size := fun k q => Nat.lt_of_lt_of_le (HS'.out k q) hb6.size
    have hs6 := HS.out.keep (w' := W6) fun k q => hb6.block k (HS'.out k q)
    have hF := faults_err (w := W6) (S := S') (p := supP s) HO.out hS6 hs6 (by decide) HJ.out
    have HB6 : Hid _ := hb6
    clear hb6 hS6 hs6 g6
    go_wp2_with (go_at_call 13; refine hF.mono ?_; clear hF; rintro e w7 ⟨rfl, hb7⟩; have HB7 : Hid (Below W6.heap.size W6 w7) := hb7; clear hb7)
    go_ret
    exact ⟨rfl, HB1.out.trans (((HB5.out.trans (HB6.out.mono HB5.out.size)).trans (HB7.out.mono (Nat.le_trans HB5.out.size HB6.out.size))).mono HB1.out.size)⟩)
set_option maxRecDepth 20000 in
set_option maxHeartbeats 16000000 in
theorem supers_fine (z s : Int) (hz : z.tmod 20 = s) (hJ : loadJ (supP s) = .ok (allJ (supP s))) (hO : Okl (supP s)) (hc : decide (s < 0) = false ∧ decide (s > 13) = false ∧ (s == 13) = false ∧ (s == 10) = false ∧ (s == 12) = false) (w : World) : Calls Tryz.prog 3 #[.int .i64 z] w fun e w' => e = .returned (.bool true) ∧ Below w.heap.size w w' := by
  have hA := awake15 w
  have HJ : Hid _ := hJ
  have HO : Hid _ := hO
  clear hJ hO
  rcases hc with ⟨q1, q2, q3, q4, q5⟩
  all_goals (
    go_enter Tryz.func3, Tryz.ntmps3
    go_upto_region 5 with (first
      | (go_at_call 11; refine hA.mono ?_; clear hA; rintro e w1 ⟨rfl, hb1⟩; have HB1 : Hid (Below w.heap.size w w1) := hb1; clear hb1)
      | (go_at_call 12; refine (withN (n := 2) (S := fun k => k < w1.heap.size + 1) (xs := [⟨⟨#[65]⟩, false, false, s, [], [], [], []⟩, ⟨⟨#[73]⟩, true, false, 0, [], [], [], []⟩]) rfl (fun k (q : k < _) => (by repeat (first | rw [sz_al] | rw [sz_sc]); omega)) (by
          refine Sl.blk [[.string ⟨#[65]⟩, .bool false, .bool false, .int .i64 s, .slice none 0 0, .slice none 0 0, .slice none 0 0, .slice none 0 0], [.string ⟨#[73]⟩, .bool true, .bool false, .int .i64 0, .slice none 0 0, .slice none 0 0, .slice none 0 0, .slice none 0 0]] (T := 31) (by (repeat (first | rw [hp_al] | rw [hp_sc] | rw [sz_al] | rw [sz_sc] | rw [if_neg (by omega)] | rw [if_pos (by omega)])); all_goals first | rfl | assumption) (show _ < _ by omega) rfl rfl rfl (by decide) fun i y r hy hr => ?_
          match i, hy, hr with
          | 0, hy, hr => cases hy; cases hr; exact ⟨_, _, _, _, rfl, Sl.nil _ _ _, Sl.nil _ _ _, Sl.nil _ _ _, Sl.nil _ _ _⟩
          | 1, hy, hr => cases hy; cases hr; exact ⟨_, _, _, _, rfl, Sl.nil _ _ _, Sl.nil _ _ _, Sl.nil _ _ _, Sl.nil _ _ _⟩) (by decide) (by decide)).mono ?_; rintro e w5 ⟨g, c, rfl, hb5, S', hS', hs⟩; have HB5 : Hid (Below w1.heap.size w1 w5) := ((Below.refl _ _).alloc (by omega) _).trans (hb5.mono (by rw [sz_al]; omega)); have HS' : Hid (∀ k, S' k → k < w5.heap.size) := hS'; have HS : Hid (Sl kCs w5 S' (.slice (some ⟨g, 0, none⟩) 3 c) (supP s).cls) := hs; clear hb5 hS' hs))
    obtain ⟨W6, hW6⟩ : ∃ X, X = w5.alloc (.cells #[.int .i64 11, .slice (some ⟨g, 0, none⟩) 3 c] 25) := ⟨_, rfl⟩
    have g6 : W6.heap[w5.heap.size]? = some (.cells #[.int .i64 11, .slice (some ⟨g, 0, none⟩) 3 c] 25 (0, 0)) := by rw [hW6]; exact heap_alloc_new _ _
    have hb6 : Below w5.heap.size w5 W6 := by rw [hW6]; exact (Below.refl _ _).alloc (Nat.le_refl _) _
    rw [← hW6]
    clear hW6
    have c0 : W6.cell? ⟨w5.heap.size, 0, none⟩ = some (.int .i64 11) := bxq_cell g6 rfl
    have c1 : W6.cell? ⟨w5.heap.size, 1, none⟩ = some (.slice (some ⟨g, 0, none⟩) 3 c) := bxq_cell g6 rfl
    have hS6 : ∀ k, S' k → k < W6.heap.size := fun k q => Nat.lt_of_lt_of_le (HS'.out k q) hb6.size
    have hs6 := HS.out.keep (w' := W6) fun k q => hb6.block k (HS'.out k q)
    have hF := faults_yes (w := W6) (S := S') (p := supP s) HO.out hS6 hs6 HJ.out
    have HB6 : Hid _ := hb6
    clear hb6 hS6 hs6 g6
    go_wp2_with (go_at_call 13; refine hF.mono ?_; clear hF; rintro e w7 ⟨rfl, hb7⟩; have HB7 : Hid (Below W6.heap.size W6 w7) := hb7; clear hb7)
    go_ret
    exact ⟨rfl, HB1.out.trans (((HB5.out.trans (HB6.out.mono HB5.out.size)).trans (HB7.out.mono (Nat.le_trans HB5.out.size HB6.out.size))).mono HB1.out.size)⟩)
theorem supers_walk (z : Int) (w : World) : Calls Tryz.prog 3 #[.int .i64 z] w fun e w' => e = .returned (.bool true) ∧ Below w.heap.size w w' := by
  obtain ⟨s, hz⟩ : ∃ s, z.tmod 20 = s := ⟨_, rfl⟩
  have hb := tmod_bd z 20 (by decide)
  rw [hz] at hb
  obtain ⟨hO, hT⟩ := sup_at s hb.1 hb.2
  have hL := load_of hT
  by_cases f : s < 0 ∨ 13 ≤ s ∨ s = 10
  · refine supers_bad z s hz (by rw [hL]; simp [supF, f]) hO ?_ w
    simp only [beq_iff_eq, beq_eq_false_iff_ne, decide_eq_true_eq, decide_eq_false_iff_not, ne_eq]
    omega
  · by_cases f2 : s = 12
    · refine supers_ring z s hz (by rw [hL]; simp [supF, f2]) hO ?_ w
      simp only [beq_iff_eq, beq_eq_false_iff_ne, decide_eq_false_iff_not, ne_eq]
      omega
    · refine supers_fine z s hz (by rw [hL]; simp [supF, f, f2]) hO ?_ w
      simp only [beq_eq_false_iff_ne, decide_eq_false_iff_not, ne_eq]
      omega
end Go.Proofs.YtbdfpodglfpjnaaGreat
