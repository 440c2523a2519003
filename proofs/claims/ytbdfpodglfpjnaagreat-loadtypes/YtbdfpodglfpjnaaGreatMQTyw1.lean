/- LoadTypes, place 1. -/
import Derived.Test.YtbdfpodglfpjnaaGreatMQTyp
namespace Go.Proofs.YtbdfpodglfpjnaaGreat
open Go.RowKit

set_option maxRecDepth 20000 in
set_option maxHeartbeats 32000000 in
theorem types_1y (n t k : Int) (hm : bits BinOp.and .i64 n 3 = 1) (hk : t.tmod 40 = k) (hJ : loadJ (typP 1 k) = .ok (allJ (typP 1 k))) (hO : Okl (typP 1 k)) (hc : (k == 1) = true ∨ ((k == 1) = false ∧ (k == 3) = true) ∨ ((k == 1) = false ∧ (k == 3) = false ∧ (k == 4) = true) ∨ ((k == 1) = false ∧ (k == 3) = false ∧ (k == 4) = false ∧ decide (k ≥ 16) = true ∧ decide (k ≤ 28) = true)) (w : World) : Calls Tryz.prog 6 #[.int .i64 n, .int .i64 t] w fun e w' => e = .returned (.bool true) ∧ Below w.heap.size w w' := by
  have hA := awake15 w
  have HJ : Hid _ := hJ
  have HO : Hid _ := hO
  clear hJ hO
  rcases hc with q1 | ⟨q1, q2⟩ | ⟨q1, q2, q3⟩ | ⟨q1, q2, q3, q4, q5⟩
  all_goals (
    go_enter Tryz.func6, Tryz.ntmps6
    go_upto_region 6 with (go_at_call 11; refine hA.mono ?_; clear hA; rintro e w1 ⟨rfl, hb1⟩; have HB1 : Hid (Below w.heap.size w w1) := hb1; clear hb1)
    obtain ⟨W, hW⟩ : ∃ W, W = (w1.alloc (.cells #[.string ⟨#[65]⟩, .bool false, .bool false, .int .i64 0, .slice none 0 0, .slice none 0 0, .slice none 0 0, .slice none 0 0] 31)) := ⟨_, rfl⟩
    have HWz : Hid (W.heap.size ≤ w1.heap.size + 1 ∧ w1.heap.size + 1 ≤ W.heap.size) := by show _ ∧ _; rw [hW]; simp only [sz_al]; omega
    have HBW : Hid (Below w1.heap.size w1 W) := by rw [hW]; exact (Below.refl _ _).alloc (Nat.le_refl _) _
    have h0 : W.heap[w1.heap.size]? = some (.cells #[.string ⟨#[65]⟩, .bool false, .bool false, .int .i64 0, .slice none 0 0, .slice none 0 0, .slice none 0 0, .slice none 0 0] 31 (0, 0)) := by rw [hW]; exact (by (repeat (first | rw [hp_al] | rw [hp_sc] | rw [sz_al] | rw [sz_sc] | rw [if_neg (by omega)] | rw [if_pos (by omega)])); all_goals first | rfl | assumption)
    have hwz := HWz.out
    rw [← hW]
    clear hW
    have ha4 : (W.alloc (.cells #[.string ⟨#[120]⟩, .int .i64 k] 42)).heap[w1.heap.size]? = some (.cells #[.string ⟨#[65]⟩, .bool false, .bool false, .int .i64 0, .slice none 0 0, .slice none 0 0, .slice none 0 0, .slice none 0 0] 31 (0, 0)) := (by (repeat (first | rw [hp_al] | rw [hp_sc] | rw [sz_al] | rw [sz_sc] | rw [if_neg (by omega)] | rw [if_pos (by omega)])); all_goals first | rfl | assumption)
    have x0 : (W.alloc (.cells #[.string ⟨#[120]⟩, .int .i64 k] 42)).cell? ⟨w1.heap.size, 0, none⟩ = _ := bxq_cell ha4 rfl
    have x1 : (W.alloc (.cells #[.string ⟨#[120]⟩, .int .i64 k] 42)).cell? ⟨w1.heap.size, 1, none⟩ = _ := bxq_cell ha4 rfl
    have x2 : (W.alloc (.cells #[.string ⟨#[120]⟩, .int .i64 k] 42)).cell? ⟨w1.heap.size, 2, none⟩ = _ := bxq_cell ha4 rfl
    have x3 : (W.alloc (.cells #[.string ⟨#[120]⟩, .int .i64 k] 42)).cell? ⟨w1.heap.size, 3, none⟩ = _ := bxq_cell ha4 rfl
    have x4 : (W.alloc (.cells #[.string ⟨#[120]⟩, .int .i64 k] 42)).cell? ⟨w1.heap.size, 4, none⟩ = _ := bxq_cell ha4 rfl
    have x5 : (W.alloc (.cells #[.string ⟨#[120]⟩, .int .i64 k] 42)).cell? ⟨w1.heap.size, 5, none⟩ = _ := bxq_cell ha4 rfl
    have x6 : (W.alloc (.cells #[.string ⟨#[120]⟩, .int .i64 k] 42)).cell? ⟨w1.heap.size, 6, none⟩ = _ := bxq_cell ha4 rfl
    have x7 : (W.alloc (.cells #[.string ⟨#[120]⟩, .int .i64 k] 42)).cell? ⟨w1.heap.size, 7, none⟩ = _ := bxq_cell ha4 rfl
    have fx : (W.alloc (.cells #[.string ⟨#[120]⟩, .int .i64 k] 42)).frozen? ⟨w1.heap.size, 6, none⟩ = false := (by simp [World.frozen?, ha4])
    have H0 : Hid _ := h0
    have n1 : ¬ w1.heap.size = W.heap.size := by omega
    clear h0 hwz ha4
    go_upto_region 15 with fail
    have h0 := H0.out
    have hwz := HWz.out
    obtain ⟨W5, hW5⟩ : ∃ X, X = ((W.alloc (.cells #[.string ⟨#[120]⟩, .int .i64 k] 42)).setCell ⟨w1.heap.size, 6, none⟩ (.slice (some ⟨W.heap.size, 0, none⟩) 1 1)) := ⟨_, rfl⟩
    have hz5 : W5.heap.size ≤ W.heap.size + 1 ∧ W.heap.size + 1 ≤ W5.heap.size := by rw [hW5]; (repeat (first | rw [sz_al] | rw [sz_sc])); omega
    have g0 : W5.heap[w1.heap.size]? = some (.cells #[.string ⟨#[65]⟩, .bool false, .bool false, .int .i64 0, .slice none 0 0, .slice none 0 0, .slice (some ⟨W.heap.size, 0, none⟩) 1 1, .slice none 0 0] 31 (0, 0)) := by rw [hW5]; exact (by (repeat (first | rw [hp_al] | rw [hp_sc] | rw [sz_al] | rw [sz_sc] | rw [if_neg (by omega)] | rw [if_pos (by omega)] | rw [h0] | rw [h1] | rw [h2])); all_goals rfl)
    have g1 : W5.heap[W.heap.size]? = some (.cells #[.string ⟨#[120]⟩, .int .i64 k] 42 (0, 0)) := by rw [hW5]; exact (by (repeat (first | rw [hp_al] | rw [hp_sc] | rw [sz_al] | rw [sz_sc] | rw [if_neg (by omega)] | rw [if_pos (by omega)] | rw [h0] | rw [h1] | rw [h2])); all_goals rfl)
    have HB5w : Hid (Below w1.heap.size W W5) := ⟨by rw [hW5]; rfl, by rw [hW5]; rfl, by rw [hW5]; rfl, by omega, fun k hk => by rw [hW5]; (repeat (first | rw [hp_al] | rw [hp_sc] | rw [sz_al] | rw [sz_sc] | rw [if_neg (by omega)]))⟩
    rw [← hW5]
    clear hW5 h0
    have z0 : W5.cell? ⟨w1.heap.size, 0, none⟩ = _ := bxq_cell g0 rfl
    have z1 : W5.cell? ⟨w1.heap.size, 1, none⟩ = _ := bxq_cell g0 rfl
    have z2 : W5.cell? ⟨w1.heap.size, 2, none⟩ = _ := bxq_cell g0 rfl
    have z3 : W5.cell? ⟨w1.heap.size, 3, none⟩ = _ := bxq_cell g0 rfl
    have z4 : W5.cell? ⟨w1.heap.size, 4, none⟩ = _ := bxq_cell g0 rfl
    have z5 : W5.cell? ⟨w1.heap.size, 5, none⟩ = _ := bxq_cell g0 rfl
    have z6 : W5.cell? ⟨w1.heap.size, 6, none⟩ = _ := bxq_cell g0 rfl
    have z7 : W5.cell? ⟨w1.heap.size, 7, none⟩ = _ := bxq_cell g0 rfl
    go_wp2_with (first
      | (go_at_call 12; refine (with_ok (S := fun k => k < W.heap.size + 2) (xs := [⟨⟨#[65]⟩, false, false, 0, [], [], [⟨⟨#[120]⟩, k⟩], []⟩]) (fun k (q : k < _) => (by repeat (first | rw [sz_al] | rw [sz_sc]); omega)) (by
          refine Sl.blk [[.string ⟨#[65]⟩, .bool false, .bool false, .int .i64 0, .slice none 0 0, .slice none 0 0, .slice (some ⟨W.heap.size, 0, none⟩) 1 1, .slice none 0 0]] (T := 31) (by (repeat (first | rw [hp_al] | rw [hp_sc] | rw [sz_al] | rw [sz_sc] | rw [if_neg (by omega)] | rw [if_pos (by omega)])); all_goals first | rfl | assumption) (show _ < _ by omega) rfl rfl rfl (Nat.le_of_ble_eq_true rfl) fun i y r hy hr => ?_
          match i, hy, hr with
          | 0, hy, hr =>
            cases hy; cases hr
            refine ⟨_, _, _, _, rfl, Sl.nil _ _ _, Sl.nil _ _ _, ?_, Sl.nil _ _ _⟩
            refine Sl.blk [[.string ⟨#[120]⟩, .int .i64 k]] (T := 42) (by (repeat (first | rw [hp_al] | rw [hp_sc] | rw [sz_al] | rw [sz_sc] | rw [if_neg (by omega)] | rw [if_pos (by omega)])); all_goals first | rfl | assumption) (show _ < _ by omega) rfl rfl rfl (Nat.le_of_ble_eq_true rfl) fun i y r hy hr => ?_
            match i, hy, hr with
            | 0, hy, hr => cases hy; cases hr; rfl
          ) (Nat.le_of_ble_eq_true rfl) (Nat.le_of_ble_eq_true rfl)).mono ?_; rintro e w5 ⟨g, c, rfl, hb5, S', hS', hs⟩; have HB5 : Hid (Below w1.heap.size W5 w5) := ((Below.refl _ _).alloc (by omega) _).trans (hb5.mono (by rw [sz_al]; omega)); have hF := faults_yes (w := w5) (S := S') (p := typP 1 k) HO.out hS' hs HJ.out; clear hb5 hS' hs)
      | (go_at_call 13; refine hF.mono ?_; clear hF; rintro e w6 ⟨rfl, hb6⟩; have HB6 : Hid (Below w1.heap.size W5 w6) := HB5.out.trans (hb6.mono (by have := HB5.out.size; omega)); clear hb6))
    go_ret
    exact ⟨rfl, HB1.out.trans (((HBW.out.trans HB5w.out).trans HB6.out).mono HB1.out.size)⟩)
set_option maxRecDepth 20000 in
set_option maxHeartbeats 32000000 in
theorem types_1n (n t k : Int) (hm : bits BinOp.and .i64 n 3 = 1) (hk : t.tmod 40 = k) (hJ : loadJ (typP 1 k) = .error (1504, 12)) (hO : Okl (typP 1 k)) (hc : ((k == 1) = false ∧ (k == 3) = false ∧ (k == 4) = false ∧ decide (k ≥ 16) = true ∧ decide (k ≤ 28) = false) ∨ ((k == 1) = false ∧ (k == 3) = false ∧ (k == 4) = false ∧ decide (k ≥ 16) = false)) (w : World) : Calls Tryz.prog 6 #[.int .i64 n, .int .i64 t] w fun e w' => e = .returned (.bool true) ∧ Below w.heap.size w w' := by
  have hA := awake15 w
  have HJ : Hid _ := hJ
  have HO : Hid _ := hO
  clear hJ hO
  rcases hc with ⟨q1, q2, q3, q4, q5⟩ | ⟨q1, q2, q3, q4⟩
  all_goals (
    go_enter Tryz.func6, Tryz.ntmps6
    go_upto_region 6 with (go_at_call 11; refine hA.mono ?_; clear hA; rintro e w1 ⟨rfl, hb1⟩; have HB1 : Hid (Below w.heap.size w w1) := hb1; clear hb1)
    obtain ⟨W, hW⟩ : ∃ W, W = (w1.alloc (.cells #[.string ⟨#[65]⟩, .bool false, .bool false, .int .i64 0, .slice none 0 0, .slice none 0 0, .slice none 0 0, .slice none 0 0] 31)) := ⟨_, rfl⟩
    have HWz : Hid (W.heap.size ≤ w1.heap.size + 1 ∧ w1.heap.size + 1 ≤ W.heap.size) := by show _ ∧ _; rw [hW]; simp only [sz_al]; omega
    have HBW : Hid (Below w1.heap.size w1 W) := by rw [hW]; exact (Below.refl _ _).alloc (Nat.le_refl _) _
    have h0 : W.heap[w1.heap.size]? = some (.cells #[.string ⟨#[65]⟩, .bool false, .bool false, .int .i64 0, .slice none 0 0, .slice none 0 0, .slice none 0 0, .slice none 0 0] 31 (0, 0)) := by rw [hW]; exact (by (repeat (first | rw [hp_al] | rw [hp_sc] | rw [sz_al] | rw [sz_sc] | rw [if_neg (by omega)] | rw [if_pos (by omega)])); all_goals first | rfl | assumption)
    have hwz := HWz.out
    rw [← hW]
    clear hW
    have ha4 : (W.alloc (.cells #[.string ⟨#[120]⟩, .int .i64 k] 42)).heap[w1.heap.size]? = some (.cells #[.string ⟨#[65]⟩, .bool false, .bool false, .int .i64 0, .slice none 0 0, .slice none 0 0, .slice none 0 0, .slice none 0 0] 31 (0, 0)) := (by (repeat (first | rw [hp_al] | rw [hp_sc] | rw [sz_al] | rw [sz_sc] | rw [if_neg (by omega)] | rw [if_pos (by omega)])); all_goals first | rfl | assumption)
    have x0 : (W.alloc (.cells #[.string ⟨#[120]⟩, .int .i64 k] 42)).cell? ⟨w1.heap.size, 0, none⟩ = _ := bxq_cell ha4 rfl
    have x1 : (W.alloc (.cells #[.string ⟨#[120]⟩, .int .i64 k] 42)).cell? ⟨w1.heap.size, 1, none⟩ = _ := bxq_cell ha4 rfl
    have x2 : (W.alloc (.cells #[.string ⟨#[120]⟩, .int .i64 k] 42)).cell? ⟨w1.heap.size, 2, none⟩ = _ := bxq_cell ha4 rfl
    have x3 : (W.alloc (.cells #[.string ⟨#[120]⟩, .int .i64 k] 42)).cell? ⟨w1.heap.size, 3, none⟩ = _ := bxq_cell ha4 rfl
    have x4 : (W.alloc (.cells #[.string ⟨#[120]⟩, .int .i64 k] 42)).cell? ⟨w1.heap.size, 4, none⟩ = _ := bxq_cell ha4 rfl
    have x5 : (W.alloc (.cells #[.string ⟨#[120]⟩, .int .i64 k] 42)).cell? ⟨w1.heap.size, 5, none⟩ = _ := bxq_cell ha4 rfl
    have x6 : (W.alloc (.cells #[.string ⟨#[120]⟩, .int .i64 k] 42)).cell? ⟨w1.heap.size, 6, none⟩ = _ := bxq_cell ha4 rfl
    have x7 : (W.alloc (.cells #[.string ⟨#[120]⟩, .int .i64 k] 42)).cell? ⟨w1.heap.size, 7, none⟩ = _ := bxq_cell ha4 rfl
    have fx : (W.alloc (.cells #[.string ⟨#[120]⟩, .int .i64 k] 42)).frozen? ⟨w1.heap.size, 6, none⟩ = false := (by simp [World.frozen?, ha4])
    have H0 : Hid _ := h0
    have n1 : ¬ w1.heap.size = W.heap.size := by omega
    clear h0 hwz ha4
    go_upto_region 15 with fail
    have h0 := H0.out
    have hwz := HWz.out
    obtain ⟨W5, hW5⟩ : ∃ X, X = ((W.alloc (.cells #[.string ⟨#[120]⟩, .int .i64 k] 42)).setCell ⟨w1.heap.size, 6, none⟩ (.slice (some ⟨W.heap.size, 0, none⟩) 1 1)) := ⟨_, rfl⟩
    have hz5 : W5.heap.size ≤ W.heap.size + 1 ∧ W.heap.size + 1 ≤ W5.heap.size := by rw [hW5]; (repeat (first | rw [sz_al] | rw [sz_sc])); omega
    have g0 : W5.heap[w1.heap.size]? = some (.cells #[.string ⟨#[65]⟩, .bool false, .bool false, .int .i64 0, .slice none 0 0, .slice none 0 0, .slice (some ⟨W.heap.size, 0, none⟩) 1 1, .slice none 0 0] 31 (0, 0)) := by rw [hW5]; exact (by (repeat (first | rw [hp_al] | rw [hp_sc] | rw [sz_al] | rw [sz_sc] | rw [if_neg (by omega)] | rw [if_pos (by omega)] | rw [h0] | rw [h1] | rw [h2])); all_goals rfl)
    have g1 : W5.heap[W.heap.size]? = some (.cells #[.string ⟨#[120]⟩, .int .i64 k] 42 (0, 0)) := by rw [hW5]; exact (by (repeat (first | rw [hp_al] | rw [hp_sc] | rw [sz_al] | rw [sz_sc] | rw [if_neg (by omega)] | rw [if_pos (by omega)] | rw [h0] | rw [h1] | rw [h2])); all_goals rfl)
    have HB5w : Hid (Below w1.heap.size W W5) := ⟨by rw [hW5]; rfl, by rw [hW5]; rfl, by rw [hW5]; rfl, by omega, fun k hk => by rw [hW5]; (repeat (first | rw [hp_al] | rw [hp_sc] | rw [sz_al] | rw [sz_sc] | rw [if_neg (by omega)]))⟩
    rw [← hW5]
    clear hW5 h0
    have z0 : W5.cell? ⟨w1.heap.size, 0, none⟩ = _ := bxq_cell g0 rfl
    have z1 : W5.cell? ⟨w1.heap.size, 1, none⟩ = _ := bxq_cell g0 rfl
    have z2 : W5.cell? ⟨w1.heap.size, 2, none⟩ = _ := bxq_cell g0 rfl
    have z3 : W5.cell? ⟨w1.heap.size, 3, none⟩ = _ := bxq_cell g0 rfl
    have z4 : W5.cell? ⟨w1.heap.size, 4, none⟩ = _ := bxq_cell g0 rfl
    have z5 : W5.cell? ⟨w1.heap.size, 5, none⟩ = _ := bxq_cell g0 rfl
    have z6 : W5.cell? ⟨w1.heap.size, 6, none⟩ = _ := bxq_cell g0 rfl
    have z7 : W5.cell? ⟨w1.heap.size, 7, none⟩ = _ := bxq_cell g0 rfl
    go_wp2_with (first
      | (go_at_call 12; refine (with_ok (S := fun k => k < W.heap.size + 2) (xs := [⟨⟨#[65]⟩, false, false, 0, [], [], [⟨⟨#[120]⟩, k⟩], []⟩]) (fun k (q : k < _) => (by repeat (first | rw [sz_al] | rw [sz_sc]); omega)) (by
          refine Sl.blk [[.string ⟨#[65]⟩, .bool false, .bool false, .int .i64 0, .slice none 0 0, .slice none 0 0, .slice (some ⟨W.heap.size, 0, none⟩) 1 1, .slice none 0 0]] (T := 31) (by (repeat (first | rw [hp_al] | rw [hp_sc] | rw [sz_al] | rw [sz_sc] | rw [if_neg (by omega)] | rw [if_pos (by omega)])); all_goals first | rfl | assumption) (show _ < _ by omega) rfl rfl rfl (Nat.le_of_ble_eq_true rfl) fun i y r hy hr => ?_
          match i, hy, hr with
          | 0, hy, hr =>
            cases hy; cases hr
            refine ⟨_, _, _, _, rfl, Sl.nil _ _ _, Sl.nil _ _ _, ?_, Sl.nil _ _ _⟩
            refine Sl.blk [[.string ⟨#[120]⟩, .int .i64 k]] (T := 42) (by (repeat (first | rw [hp_al] | rw [hp_sc] | rw [sz_al] | rw [sz_sc] | rw [if_neg (by omega)] | rw [if_pos (by omega)])); all_goals first | rfl | assumption) (show _ < _ by omega) rfl rfl rfl (Nat.le_of_ble_eq_true rfl) fun i y r hy hr => ?_
            match i, hy, hr with
            | 0, hy, hr => cases hy; cases hr; rfl
          ) (Nat.le_of_ble_eq_true rfl) (Nat.le_of_ble_eq_true rfl)).mono ?_; rintro e w5 ⟨g, c, rfl, hb5, S', hS', hs⟩; have HB5 : Hid (Below w1.heap.size W5 w5) := ((Below.refl _ _).alloc (by omega) _).trans (hb5.mono (by rw [sz_al]; omega)); have hF := faults_err (w := w5) (S := S') (p := typP 1 k) HO.out hS' hs (by decide) HJ.out; clear hb5 hS' hs)
      | (go_at_call 13; refine hF.mono ?_; clear hF; rintro e w6 ⟨rfl, hb6⟩; have HB6 : Hid (Below w1.heap.size W5 w6) := HB5.out.trans (hb6.mono (by have := HB5.out.size; omega)); clear hb6))
    go_ret
    exact ⟨rfl, HB1.out.trans (((HBW.out.trans HB5w.out).trans HB6.out).mono HB1.out.size)⟩)
end Go.Proofs.YtbdfpodglfpjnaaGreat
