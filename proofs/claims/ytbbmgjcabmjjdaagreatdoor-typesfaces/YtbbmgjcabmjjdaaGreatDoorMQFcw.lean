/- TypesFaces. -/
import Derived.Test.YtbbmgjcabmjjdaaGreatDoorMQBlk
import Derived.Test.YtbbmgjcabmjjdaaGreatDoorMGT1
namespace Go.Proofs.YtbbmgjcabmjjdaaGreatDoor
open Go.RowKit

def fcP : Pg := ⟨11, [tinyC, ⟨⟨#[73]⟩, true, false, 0, [], [], [], []⟩, ⟨⟨#[65]⟩, false, false, 11, [], [], [], []⟩, ⟨⟨#[66]⟩, false, false, 13, [], [], [], []⟩]⟩
theorem fcO : Okl fcP := okl_of (by kernel_rfl)
theorem fcJ : loadJ fcP = .ok (allJ fcP) := by kernel_rfl
theorem fc_len : (allJ fcP).length = 15 := by kernel_rfl
theorem fc_abv : ((allJ fcP).all fun y => decide (y.abv.length ≤ 1000)) = true := by kernel_rfl
set_option maxRecDepth 20000 in
set_option maxHeartbeats 64000000 in
theorem faces_walk (a b : Int) (w : World) : Calls Tryz.prog 3 #[.int .i64 a, .int .i64 b] w fun e w' => e = .returned (.bool true) ∧ Below w.heap.size w w' := by
  have hA := awake17 w
  go_enter Tryz.func3, Tryz.ntmps3
  go_upto_region 5 with (go_at_call 4; refine hA.mono ?_; clear hA; rintro e w1 ⟨rfl, hb1⟩; have HB1 : Hid (Below w.heap.size w w1) := hb1; clear hb1)
  obtain ⟨W, hW⟩ : ∃ X, X = (((((w1.alloc (.cells #[.int .i64 29, .int .i64 0, .int .i64 0] 24)).alloc (.cells #[.string ⟨#[109, 97, 105, 110]⟩, .bool true, .slice none 0 0, .int .i64 0, .int .i64 0, .int .i64 0, .slice (some ⟨w1.heap.size, 0, none⟩) 1 1, .slice none 0 0, .slice none 0 0] 30)).alloc (.cells #[.string ⟨#[109, 97, 105, 110]⟩, .bool true, .slice none 0 0, .int .i64 0, .int .i64 0, .int .i64 0, .slice (some ⟨w1.heap.size, 0, none⟩) 1 1, .slice none 0 0, .slice none 0 0] 30)).alloc (.cells #[.string ⟨#[77]⟩, .bool false, .bool false, .int .i64 0, .slice none 0 0, .slice none 0 0, .slice none 0 0, .slice (some ⟨w1.heap.size + 2, 0, none⟩) 1 1, .string ⟨#[73]⟩, .bool true, .bool false, .int .i64 0, .slice none 0 0, .slice none 0 0, .slice none 0 0, .slice none 0 0, .string ⟨#[65]⟩, .bool false, .bool false, .int .i64 11, .slice none 0 0, .slice none 0 0, .slice none 0 0, .slice none 0 0, .string ⟨#[66]⟩, .bool false, .bool false, .int .i64 13, .slice none 0 0, .slice none 0 0, .slice none 0 0, .slice none 0 0] 34)).alloc (.cells #[.int .i64 11, .slice (some ⟨w1.heap.size + 3, 0, none⟩) 4 4] 37)) := ⟨_, rfl⟩
  have hbW : Below w1.heap.size w1 W := by rw [hW]; exact ((((((Below.refl _ _).alloc (by (repeat rw [sz_al]); omega) _).alloc (by (repeat rw [sz_al]); omega) _).alloc (by (repeat rw [sz_al]); omega) _).alloc (by (repeat rw [sz_al]); omega) _).alloc (by (repeat rw [sz_al]); omega) _)
  have hzW : W.heap.size ≤ w1.heap.size + 5 ∧ w1.heap.size + 5 ≤ W.heap.size := by rw [hW]; simp only [sz_al]; omega
  have h0 : W.heap[w1.heap.size]? = some (.cells #[.int .i64 29, .int .i64 0, .int .i64 0] 24 (0, 0)) := by rw [hW]; exact (by (repeat (first | rw [hp_al] | rw [hp_sc] | rw [sz_al] | rw [sz_sc] | rw [if_neg (by omega)] | rw [if_pos (by omega)])); all_goals first | rfl | assumption)
  have h1 : W.heap[w1.heap.size + 1]? = some (.cells #[.string ⟨#[109, 97, 105, 110]⟩, .bool true, .slice none 0 0, .int .i64 0, .int .i64 0, .int .i64 0, .slice (some ⟨w1.heap.size, 0, none⟩) 1 1, .slice none 0 0, .slice none 0 0] 30 (0, 0)) := by rw [hW]; exact (by (repeat (first | rw [hp_al] | rw [hp_sc] | rw [sz_al] | rw [sz_sc] | rw [if_neg (by omega)] | rw [if_pos (by omega)])); all_goals first | rfl | assumption)
  have h2 : W.heap[w1.heap.size + 2]? = some (.cells #[.string ⟨#[109, 97, 105, 110]⟩, .bool true, .slice none 0 0, .int .i64 0, .int .i64 0, .int .i64 0, .slice (some ⟨w1.heap.size, 0, none⟩) 1 1, .slice none 0 0, .slice none 0 0] 30 (0, 0)) := by rw [hW]; exact (by (repeat (first | rw [hp_al] | rw [hp_sc] | rw [sz_al] | rw [sz_sc] | rw [if_neg (by omega)] | rw [if_pos (by omega)])); all_goals first | rfl | assumption)
  have h3 : W.heap[w1.heap.size + 3]? = some (.cells #[.string ⟨#[77]⟩, .bool false, .bool false, .int .i64 0, .slice none 0 0, .slice none 0 0, .slice none 0 0, .slice (some ⟨w1.heap.size + 2, 0, none⟩) 1 1, .string ⟨#[73]⟩, .bool true, .bool false, .int .i64 0, .slice none 0 0, .slice none 0 0, .slice none 0 0, .slice none 0 0, .string ⟨#[65]⟩, .bool false, .bool false, .int .i64 11, .slice none 0 0, .slice none 0 0, .slice none 0 0, .slice none 0 0, .string ⟨#[66]⟩, .bool false, .bool false, .int .i64 13, .slice none 0 0, .slice none 0 0, .slice none 0 0, .slice none 0 0] 34 (0, 0)) := by rw [hW]; exact (by (repeat (first | rw [hp_al] | rw [hp_sc] | rw [sz_al] | rw [sz_sc] | rw [if_neg (by omega)] | rw [if_pos (by omega)])); all_goals first | rfl | assumption)
  have h4 : W.heap[w1.heap.size + 4]? = some (.cells #[.int .i64 11, .slice (some ⟨w1.heap.size + 3, 0, none⟩) 4 4] 37 (0, 0)) := by rw [hW]; exact (by (repeat (first | rw [hp_al] | rw [hp_sc] | rw [sz_al] | rw [sz_sc] | rw [if_neg (by omega)] | rw [if_pos (by omega)])); all_goals first | rfl | assumption)
  rw [← hW]
  clear hW
  have c0 : W.cell? ⟨w1.heap.size + 4, 0, none⟩ = some (.int .i64 11) := bxq_cell h4 rfl
  have c1 : W.cell? ⟨w1.heap.size + 4, 1, none⟩ = some (.slice (some ⟨w1.heap.size + 3, 0, none⟩) 4 4) := bxq_cell h4 rfl
  have hs : Sl kCs W (fun k => k < W.heap.size) (.slice (some ⟨w1.heap.size + 3, 0, none⟩) 4 4) fcP.cls := by
    refine Sl.blk [[.string ⟨#[77]⟩, .bool false, .bool false, .int .i64 0, .slice none 0 0, .slice none 0 0, .slice none 0 0, .slice (some ⟨w1.heap.size + 2, 0, none⟩) 1 1], [.string ⟨#[73]⟩, .bool true, .bool false, .int .i64 0, .slice none 0 0, .slice none 0 0, .slice none 0 0, .slice none 0 0], [.string ⟨#[65]⟩, .bool false, .bool false, .int .i64 11, .slice none 0 0, .slice none 0 0, .slice none 0 0, .slice none 0 0], [.string ⟨#[66]⟩, .bool false, .bool false, .int .i64 13, .slice none 0 0, .slice none 0 0, .slice none 0 0, .slice none 0 0]] (T := 34) h3 (show _ < _ by omega) rfl rfl rfl (by decide) fun i y r hy hr => ?_
    match i, hy, hr with
    | 0, hy, hr =>
      cases hy; cases hr
      refine ⟨_, _, _, _, rfl, Sl.nil _ _ _, Sl.nil _ _ _, Sl.nil _ _ _, ?_⟩
      refine Sl.blk [[.string ⟨#[109, 97, 105, 110]⟩, .bool true, .slice none 0 0, .int .i64 0, .int .i64 0, .int .i64 0, .slice (some ⟨w1.heap.size, 0, none⟩) 1 1, .slice none 0 0, .slice none 0 0]] (T := 30) h2 (show _ < _ by omega) rfl rfl rfl (by decide) fun i y r hy hr => ?_
      match i, hy, hr with
      | 0, hy, hr =>
        cases hy; cases hr
        refine ⟨_, _, _, _, rfl, Sl.nil _ _ _, ?_, Sl.nil _ _ _, Sl.nil _ _ _⟩
        refine Sl.blk [[.int .i64 29, .int .i64 0, .int .i64 0]] (T := 24) h0 (show _ < _ by omega) rfl rfl rfl (by decide) fun i y r hy hr => ?_
        match i, hy, hr with
        | 0, hy, hr => cases hy; cases hr; rfl
    | 1, hy, hr => cases hy; cases hr; exact ⟨_, _, _, _, rfl, Sl.nil _ _ _, Sl.nil _ _ _, Sl.nil _ _ _, Sl.nil _ _ _⟩
    | 2, hy, hr => cases hy; cases hr; exact ⟨_, _, _, _, rfl, Sl.nil _ _ _, Sl.nil _ _ _, Sl.nil _ _ _, Sl.nil _ _ _⟩
    | 3, hy, hr => cases hy; cases hr; exact ⟨_, _, _, _, rfl, Sl.nil _ _ _, Sl.nil _ _ _, Sl.nil _ _ _, Sl.nil _ _ _⟩
  have hL := load_any (w := W) (S := fun k => k < W.heap.size) (p := fcP) (cs := [.int .i64 11, .slice (some ⟨w1.heap.size + 3, 0, none⟩) 4 4]) fcO (fun k q => q) ⟨_, rfl, hs⟩
  unfold LdQ at hL
  rw [fcJ] at hL
  have HBW : Hid _ := hbW
  clear hs h0 h1 h2 h3 h4 hbW hzW
  go_upto_region 8 with (first
    | (go_at_call 5; refine hL.mono ?_; clear hL; rintro e w7 ⟨hb7, vl, rfl, hs⟩; have HB7 : Hid (Below W.heap.size W w7) := hb7; obtain ⟨al, cl, hvl⟩ := hs.form; rw [fc_len] at hvl; subst hvl; have HS : Hid (Sl kLy w7 (fun k => k < w7.heap.size) (.slice al 15 cl) (allJ fcP)) := (soft_Ly hs).mono fun k q => q.2; clear hb7 hs)
    | (go_at_call 6; refine (num_any _ _).mono ?_; rintro e w9 ⟨rfl, hw9⟩; replace hw9 := hw9.symm; subst hw9))
  have HF : Hid (∀ (X : World) (s t : Int), Below w7.heap.size w7 X → s ≤ 1000 → t ≤ 1000 → Calls Tryz.prog 7 #[.slice al 15 cl, .int .i64 s, .int .i64 t] X fun e w' => e = .returned (.bool (fitT (allJ fcP) s t)) ∧ w' = X) := fun X s t hb hs ht => by
    have hab : ∀ y ∈ allJ fcP, y.abv.length ≤ 9223372036854775806 := fun y hy => by
      have q := of_decide_eq_true (List.all_eq_true.1 fc_abv y hy)
      omega
    exact tfits_ok (HS.out.keep (w' := X) fun k q => hb.block k q) hab s t (by omega) (by omega)
  have HB0 : Hid (Below w.heap.size w w7) := HB1.out.trans ((HBW.out.trans (HB7.out.mono HBW.out.size)).mono HB1.out.size)
  clear HS c0 c1
  rcases masked3 a with h | h | h | h <;> rcases masked3 b with g | g | g | g
  · go_cut [10, 11] (fun s10 s11 X => s10 = .int .i64 0 ∧ s11 = .int .i64 0 ∧ Hid (Below w7.heap.size w7 X))
    case first =>
      go_region
      all_goals
        go_wp2_with fail
        go_meet
        refine ⟨rfl, rfl, ?_⟩
        first | exact ((Below.refl _ _).alloc (Nat.le_refl _) _).alloc (by rw [sz_al]; omega) _ | exact (((Below.refl _ _).drew.alloc (Nat.le_refl _) _).alloc (by rw [sz_al]; exact Nat.le_succ _) _) | exact ⟨rfl, rfl, rfl, by (try simp only [sz_al]); first | omega | exact Nat.le_of_lt (Nat.lt_of_lt_of_le (Nat.lt_succ_self _) (Nat.le_succ _)), fun k hk => by first | (rw [Below.heap_alloc _ _ _ (by rw [sz_al]; omega), Below.heap_alloc _ _ _ hk]) | rfl⟩
    case rest =>
      obtain ⟨rfl, rfl, HX⟩ := hcut
      have f0 := HF.out _ 16 28 HX.out (by decide) (by decide)
      rw [show fitT (allJ fcP) 16 28 = true by kernel_rfl] at f0
      have f1 := HF.out _ 3 28 HX.out (by decide) (by decide)
      rw [show fitT (allJ fcP) 3 28 = true by kernel_rfl] at f1
      have f2 := HF.out _ 4 28 HX.out (by decide) (by decide)
      rw [show fitT (allJ fcP) 4 28 = true by kernel_rfl] at f2
      have f3 := HF.out _ 1 28 HX.out (by decide) (by decide)
      rw [show fitT (allJ fcP) 1 28 = false by kernel_rfl] at f3
      have f4 := HF.out _ 16 16 HX.out (by decide) (by decide)
      rw [show fitT (allJ fcP) 16 16 = true by kernel_rfl] at f4
      have f5 := HF.out _ 3 16 HX.out (by decide) (by decide)
      rw [show fitT (allJ fcP) 3 16 = true by kernel_rfl] at f5
      go_wp2_with (go_at_call 7; first
        | (refine f0.mono ?_; clear f0; rintro e w9 ⟨rfl, hw9⟩; replace hw9 := hw9.symm; subst hw9)
        | (refine f1.mono ?_; clear f1; rintro e w9 ⟨rfl, hw9⟩; replace hw9 := hw9.symm; subst hw9)
        | (refine f2.mono ?_; clear f2; rintro e w9 ⟨rfl, hw9⟩; replace hw9 := hw9.symm; subst hw9)
        | (refine f3.mono ?_; clear f3; rintro e w9 ⟨rfl, hw9⟩; replace hw9 := hw9.symm; subst hw9)
        | (refine f4.mono ?_; clear f4; rintro e w9 ⟨rfl, hw9⟩; replace hw9 := hw9.symm; subst hw9)
        | (refine f5.mono ?_; clear f5; rintro e w9 ⟨rfl, hw9⟩; replace hw9 := hw9.symm; subst hw9))
      go_ret
      exact ⟨by first | rfl | simp, HB0.out.trans (HX.out.mono HB0.out.size)⟩
  · go_cut [10, 11] (fun s10 s11 X => s10 = .int .i64 0 ∧ s11 = .int .i64 11 ∧ Hid (Below w7.heap.size w7 X))
    case first =>
      go_region
      all_goals
        go_wp2_with fail
        go_meet
        refine ⟨rfl, rfl, ?_⟩
        first | exact ((Below.refl _ _).alloc (Nat.le_refl _) _).alloc (by rw [sz_al]; omega) _ | exact (((Below.refl _ _).drew.alloc (Nat.le_refl _) _).alloc (by rw [sz_al]; exact Nat.le_succ _) _) | exact ⟨rfl, rfl, rfl, by (try simp only [sz_al]); first | omega | exact Nat.le_of_lt (Nat.lt_of_lt_of_le (Nat.lt_succ_self _) (Nat.le_succ _)), fun k hk => by first | (rw [Below.heap_alloc _ _ _ (by rw [sz_al]; omega), Below.heap_alloc _ _ _ hk]) | rfl⟩
    case rest =>
      obtain ⟨rfl, rfl, HX⟩ := hcut
      have f0 := HF.out _ 16 28 HX.out (by decide) (by decide)
      rw [show fitT (allJ fcP) 16 28 = true by kernel_rfl] at f0
      have f1 := HF.out _ 3 28 HX.out (by decide) (by decide)
      rw [show fitT (allJ fcP) 3 28 = true by kernel_rfl] at f1
      have f2 := HF.out _ 4 28 HX.out (by decide) (by decide)
      rw [show fitT (allJ fcP) 4 28 = true by kernel_rfl] at f2
      have f3 := HF.out _ 1 28 HX.out (by decide) (by decide)
      rw [show fitT (allJ fcP) 1 28 = false by kernel_rfl] at f3
      have f4 := HF.out _ 16 27 HX.out (by decide) (by decide)
      rw [show fitT (allJ fcP) 16 27 = false by kernel_rfl] at f4
      have f5 := HF.out _ 3 27 HX.out (by decide) (by decide)
      rw [show fitT (allJ fcP) 3 27 = false by kernel_rfl] at f5
      go_wp2_with (go_at_call 7; first
        | (refine f0.mono ?_; clear f0; rintro e w9 ⟨rfl, hw9⟩; replace hw9 := hw9.symm; subst hw9)
        | (refine f1.mono ?_; clear f1; rintro e w9 ⟨rfl, hw9⟩; replace hw9 := hw9.symm; subst hw9)
        | (refine f2.mono ?_; clear f2; rintro e w9 ⟨rfl, hw9⟩; replace hw9 := hw9.symm; subst hw9)
        | (refine f3.mono ?_; clear f3; rintro e w9 ⟨rfl, hw9⟩; replace hw9 := hw9.symm; subst hw9)
        | (refine f4.mono ?_; clear f4; rintro e w9 ⟨rfl, hw9⟩; replace hw9 := hw9.symm; subst hw9)
        | (refine f5.mono ?_; clear f5; rintro e w9 ⟨rfl, hw9⟩; replace hw9 := hw9.symm; subst hw9))
      go_ret
      exact ⟨by first | rfl | simp, HB0.out.trans (HX.out.mono HB0.out.size)⟩
  · go_cut [10, 11] (fun s10 s11 X => s10 = .int .i64 0 ∧ s11 = .int .i64 13 ∧ Hid (Below w7.heap.size w7 X))
    case first =>
      go_region
      all_goals
        go_wp2_with fail
        go_meet
        refine ⟨rfl, rfl, ?_⟩
        first | exact ((Below.refl _ _).alloc (Nat.le_refl _) _).alloc (by rw [sz_al]; omega) _ | exact (((Below.refl _ _).drew.alloc (Nat.le_refl _) _).alloc (by rw [sz_al]; exact Nat.le_succ _) _) | exact ⟨rfl, rfl, rfl, by (try simp only [sz_al]); first | omega | exact Nat.le_of_lt (Nat.lt_of_lt_of_le (Nat.lt_succ_self _) (Nat.le_succ _)), fun k hk => by first | (rw [Below.heap_alloc _ _ _ (by rw [sz_al]; omega), Below.heap_alloc _ _ _ hk]) | rfl⟩
    case rest =>
      obtain ⟨rfl, rfl, HX⟩ := hcut
      have f0 := HF.out _ 16 28 HX.out (by decide) (by decide)
      rw [show fitT (allJ fcP) 16 28 = true by kernel_rfl] at f0
      have f1 := HF.out _ 3 28 HX.out (by decide) (by decide)
      rw [show fitT (allJ fcP) 3 28 = true by kernel_rfl] at f1
      have f2 := HF.out _ 4 28 HX.out (by decide) (by decide)
      rw [show fitT (allJ fcP) 4 28 = true by kernel_rfl] at f2
      have f3 := HF.out _ 1 28 HX.out (by decide) (by decide)
      rw [show fitT (allJ fcP) 1 28 = false by kernel_rfl] at f3
      have f4 := HF.out _ 16 29 HX.out (by decide) (by decide)
      rw [show fitT (allJ fcP) 16 29 = false by kernel_rfl] at f4
      have f5 := HF.out _ 3 29 HX.out (by decide) (by decide)
      rw [show fitT (allJ fcP) 3 29 = false by kernel_rfl] at f5
      go_wp2_with (go_at_call 7; first
        | (refine f0.mono ?_; clear f0; rintro e w9 ⟨rfl, hw9⟩; replace hw9 := hw9.symm; subst hw9)
        | (refine f1.mono ?_; clear f1; rintro e w9 ⟨rfl, hw9⟩; replace hw9 := hw9.symm; subst hw9)
        | (refine f2.mono ?_; clear f2; rintro e w9 ⟨rfl, hw9⟩; replace hw9 := hw9.symm; subst hw9)
        | (refine f3.mono ?_; clear f3; rintro e w9 ⟨rfl, hw9⟩; replace hw9 := hw9.symm; subst hw9)
        | (refine f4.mono ?_; clear f4; rintro e w9 ⟨rfl, hw9⟩; replace hw9 := hw9.symm; subst hw9)
        | (refine f5.mono ?_; clear f5; rintro e w9 ⟨rfl, hw9⟩; replace hw9 := hw9.symm; subst hw9))
      go_ret
      exact ⟨by first | rfl | simp, HB0.out.trans (HX.out.mono HB0.out.size)⟩
  · go_cut [10, 11] (fun s10 s11 X => s10 = .int .i64 0 ∧ s11 = .int .i64 14 ∧ Hid (Below w7.heap.size w7 X))
    case first =>
      go_region
      all_goals
        go_wp2_with fail
        go_meet
        refine ⟨rfl, rfl, ?_⟩
        first | exact ((Below.refl _ _).alloc (Nat.le_refl _) _).alloc (by rw [sz_al]; omega) _ | exact (((Below.refl _ _).drew.alloc (Nat.le_refl _) _).alloc (by rw [sz_al]; exact Nat.le_succ _) _) | exact ⟨rfl, rfl, rfl, by (try simp only [sz_al]); first | omega | exact Nat.le_of_lt (Nat.lt_of_lt_of_le (Nat.lt_succ_self _) (Nat.le_succ _)), fun k hk => by first | (rw [Below.heap_alloc _ _ _ (by rw [sz_al]; omega), Below.heap_alloc _ _ _ hk]) | rfl⟩
    case rest =>
      obtain ⟨rfl, rfl, HX⟩ := hcut
      have f0 := HF.out _ 16 28 HX.out (by decide) (by decide)
      rw [show fitT (allJ fcP) 16 28 = true by kernel_rfl] at f0
      have f1 := HF.out _ 3 28 HX.out (by decide) (by decide)
      rw [show fitT (allJ fcP) 3 28 = true by kernel_rfl] at f1
      have f2 := HF.out _ 4 28 HX.out (by decide) (by decide)
      rw [show fitT (allJ fcP) 4 28 = true by kernel_rfl] at f2
      have f3 := HF.out _ 1 28 HX.out (by decide) (by decide)
      rw [show fitT (allJ fcP) 1 28 = false by kernel_rfl] at f3
      have f4 := HF.out _ 16 30 HX.out (by decide) (by decide)
      rw [show fitT (allJ fcP) 16 30 = false by kernel_rfl] at f4
      have f5 := HF.out _ 3 30 HX.out (by decide) (by decide)
      rw [show fitT (allJ fcP) 3 30 = false by kernel_rfl] at f5
      go_wp2_with (go_at_call 7; first
        | (refine f0.mono ?_; clear f0; rintro e w9 ⟨rfl, hw9⟩; replace hw9 := hw9.symm; subst hw9)
        | (refine f1.mono ?_; clear f1; rintro e w9 ⟨rfl, hw9⟩; replace hw9 := hw9.symm; subst hw9)
        | (refine f2.mono ?_; clear f2; rintro e w9 ⟨rfl, hw9⟩; replace hw9 := hw9.symm; subst hw9)
        | (refine f3.mono ?_; clear f3; rintro e w9 ⟨rfl, hw9⟩; replace hw9 := hw9.symm; subst hw9)
        | (refine f4.mono ?_; clear f4; rintro e w9 ⟨rfl, hw9⟩; replace hw9 := hw9.symm; subst hw9)
        | (refine f5.mono ?_; clear f5; rintro e w9 ⟨rfl, hw9⟩; replace hw9 := hw9.symm; subst hw9))
      go_ret
      exact ⟨by first | rfl | simp, HB0.out.trans (HX.out.mono HB0.out.size)⟩
  · go_cut [10, 11] (fun s10 s11 X => s10 = .int .i64 11 ∧ s11 = .int .i64 0 ∧ Hid (Below w7.heap.size w7 X))
    case first =>
      go_region
      all_goals
        go_wp2_with fail
        go_meet
        refine ⟨rfl, rfl, ?_⟩
        first | exact ((Below.refl _ _).alloc (Nat.le_refl _) _).alloc (by rw [sz_al]; omega) _ | exact (((Below.refl _ _).drew.alloc (Nat.le_refl _) _).alloc (by rw [sz_al]; exact Nat.le_succ _) _) | exact ⟨rfl, rfl, rfl, by (try simp only [sz_al]); first | omega | exact Nat.le_of_lt (Nat.lt_of_lt_of_le (Nat.lt_succ_self _) (Nat.le_succ _)), fun k hk => by first | (rw [Below.heap_alloc _ _ _ (by rw [sz_al]; omega), Below.heap_alloc _ _ _ hk]) | rfl⟩
    case rest =>
      obtain ⟨rfl, rfl, HX⟩ := hcut
      have f0 := HF.out _ 27 28 HX.out (by decide) (by decide)
      rw [show fitT (allJ fcP) 27 28 = true by kernel_rfl] at f0
      have f1 := HF.out _ 3 28 HX.out (by decide) (by decide)
      rw [show fitT (allJ fcP) 3 28 = true by kernel_rfl] at f1
      have f2 := HF.out _ 4 28 HX.out (by decide) (by decide)
      rw [show fitT (allJ fcP) 4 28 = true by kernel_rfl] at f2
      have f3 := HF.out _ 1 28 HX.out (by decide) (by decide)
      rw [show fitT (allJ fcP) 1 28 = false by kernel_rfl] at f3
      have f4 := HF.out _ 27 16 HX.out (by decide) (by decide)
      rw [show fitT (allJ fcP) 27 16 = true by kernel_rfl] at f4
      have f5 := HF.out _ 3 16 HX.out (by decide) (by decide)
      rw [show fitT (allJ fcP) 3 16 = true by kernel_rfl] at f5
      go_wp2_with (go_at_call 7; first
        | (refine f0.mono ?_; clear f0; rintro e w9 ⟨rfl, hw9⟩; replace hw9 := hw9.symm; subst hw9)
        | (refine f1.mono ?_; clear f1; rintro e w9 ⟨rfl, hw9⟩; replace hw9 := hw9.symm; subst hw9)
        | (refine f2.mono ?_; clear f2; rintro e w9 ⟨rfl, hw9⟩; replace hw9 := hw9.symm; subst hw9)
        | (refine f3.mono ?_; clear f3; rintro e w9 ⟨rfl, hw9⟩; replace hw9 := hw9.symm; subst hw9)
        | (refine f4.mono ?_; clear f4; rintro e w9 ⟨rfl, hw9⟩; replace hw9 := hw9.symm; subst hw9)
        | (refine f5.mono ?_; clear f5; rintro e w9 ⟨rfl, hw9⟩; replace hw9 := hw9.symm; subst hw9))
      go_ret
      exact ⟨by first | rfl | simp, HB0.out.trans (HX.out.mono HB0.out.size)⟩
  · go_cut [10, 11] (fun s10 s11 X => s10 = .int .i64 11 ∧ s11 = .int .i64 11 ∧ Hid (Below w7.heap.size w7 X))
    case first =>
      go_region
      all_goals
        go_wp2_with fail
        go_meet
        refine ⟨rfl, rfl, ?_⟩
        first | exact ((Below.refl _ _).alloc (Nat.le_refl _) _).alloc (by rw [sz_al]; omega) _ | exact (((Below.refl _ _).drew.alloc (Nat.le_refl _) _).alloc (by rw [sz_al]; exact Nat.le_succ _) _) | exact ⟨rfl, rfl, rfl, by (try simp only [sz_al]); first | omega | exact Nat.le_of_lt (Nat.lt_of_lt_of_le (Nat.lt_succ_self _) (Nat.le_succ _)), fun k hk => by first | (rw [Below.heap_alloc _ _ _ (by rw [sz_al]; omega), Below.heap_alloc _ _ _ hk]) | rfl⟩
    case rest =>
      obtain ⟨rfl, rfl, HX⟩ := hcut
      have f0 := HF.out _ 27 28 HX.out (by decide) (by decide)
      rw [show fitT (allJ fcP) 27 28 = true by kernel_rfl] at f0
      have f1 := HF.out _ 3 28 HX.out (by decide) (by decide)
      rw [show fitT (allJ fcP) 3 28 = true by kernel_rfl] at f1
      have f2 := HF.out _ 4 28 HX.out (by decide) (by decide)
      rw [show fitT (allJ fcP) 4 28 = true by kernel_rfl] at f2
      have f3 := HF.out _ 1 28 HX.out (by decide) (by decide)
      rw [show fitT (allJ fcP) 1 28 = false by kernel_rfl] at f3
      have f4 := HF.out _ 27 27 HX.out (by decide) (by decide)
      rw [show fitT (allJ fcP) 27 27 = true by kernel_rfl] at f4
      have f5 := HF.out _ 3 27 HX.out (by decide) (by decide)
      rw [show fitT (allJ fcP) 3 27 = false by kernel_rfl] at f5
      go_wp2_with (go_at_call 7; first
        | (refine f0.mono ?_; clear f0; rintro e w9 ⟨rfl, hw9⟩; replace hw9 := hw9.symm; subst hw9)
        | (refine f1.mono ?_; clear f1; rintro e w9 ⟨rfl, hw9⟩; replace hw9 := hw9.symm; subst hw9)
        | (refine f2.mono ?_; clear f2; rintro e w9 ⟨rfl, hw9⟩; replace hw9 := hw9.symm; subst hw9)
        | (refine f3.mono ?_; clear f3; rintro e w9 ⟨rfl, hw9⟩; replace hw9 := hw9.symm; subst hw9)
        | (refine f4.mono ?_; clear f4; rintro e w9 ⟨rfl, hw9⟩; replace hw9 := hw9.symm; subst hw9)
        | (refine f5.mono ?_; clear f5; rintro e w9 ⟨rfl, hw9⟩; replace hw9 := hw9.symm; subst hw9))
      go_ret
      exact ⟨by first | rfl | simp, HB0.out.trans (HX.out.mono HB0.out.size)⟩
  · go_cut [10, 11] (fun s10 s11 X => s10 = .int .i64 11 ∧ s11 = .int .i64 13 ∧ Hid (Below w7.heap.size w7 X))
    case first =>
      go_region
      all_goals
        go_wp2_with fail
        go_meet
        refine ⟨rfl, rfl, ?_⟩
        first | exact ((Below.refl _ _).alloc (Nat.le_refl _) _).alloc (by rw [sz_al]; omega) _ | exact (((Below.refl _ _).drew.alloc (Nat.le_refl _) _).alloc (by rw [sz_al]; exact Nat.le_succ _) _) | exact ⟨rfl, rfl, rfl, by (try simp only [sz_al]); first | omega | exact Nat.le_of_lt (Nat.lt_of_lt_of_le (Nat.lt_succ_self _) (Nat.le_succ _)), fun k hk => by first | (rw [Below.heap_alloc _ _ _ (by rw [sz_al]; omega), Below.heap_alloc _ _ _ hk]) | rfl⟩
    case rest =>
      obtain ⟨rfl, rfl, HX⟩ := hcut
      have f0 := HF.out _ 27 28 HX.out (by decide) (by decide)
      rw [show fitT (allJ fcP) 27 28 = true by kernel_rfl] at f0
      have f1 := HF.out _ 3 28 HX.out (by decide) (by decide)
      rw [show fitT (allJ fcP) 3 28 = true by kernel_rfl] at f1
      have f2 := HF.out _ 4 28 HX.out (by decide) (by decide)
      rw [show fitT (allJ fcP) 4 28 = true by kernel_rfl] at f2
      have f3 := HF.out _ 1 28 HX.out (by decide) (by decide)
      rw [show fitT (allJ fcP) 1 28 = false by kernel_rfl] at f3
      have f4 := HF.out _ 27 29 HX.out (by decide) (by decide)
      rw [show fitT (allJ fcP) 27 29 = false by kernel_rfl] at f4
      have f5 := HF.out _ 3 29 HX.out (by decide) (by decide)
      rw [show fitT (allJ fcP) 3 29 = false by kernel_rfl] at f5
      go_wp2_with (go_at_call 7; first
        | (refine f0.mono ?_; clear f0; rintro e w9 ⟨rfl, hw9⟩; replace hw9 := hw9.symm; subst hw9)
        | (refine f1.mono ?_; clear f1; rintro e w9 ⟨rfl, hw9⟩; replace hw9 := hw9.symm; subst hw9)
        | (refine f2.mono ?_; clear f2; rintro e w9 ⟨rfl, hw9⟩; replace hw9 := hw9.symm; subst hw9)
        | (refine f3.mono ?_; clear f3; rintro e w9 ⟨rfl, hw9⟩; replace hw9 := hw9.symm; subst hw9)
        | (refine f4.mono ?_; clear f4; rintro e w9 ⟨rfl, hw9⟩; replace hw9 := hw9.symm; subst hw9)
        | (refine f5.mono ?_; clear f5; rintro e w9 ⟨rfl, hw9⟩; replace hw9 := hw9.symm; subst hw9))
      go_ret
      exact ⟨by first | rfl | simp, HB0.out.trans (HX.out.mono HB0.out.size)⟩
  · go_cut [10, 11] (fun s10 s11 X => s10 = .int .i64 11 ∧ s11 = .int .i64 14 ∧ Hid (Below w7.heap.size w7 X))
    case first =>
      go_region
      all_goals
        go_wp2_with fail
        go_meet
        refine ⟨rfl, rfl, ?_⟩
        first | exact ((Below.refl _ _).alloc (Nat.le_refl _) _).alloc (by rw [sz_al]; omega) _ | exact (((Below.refl _ _).drew.alloc (Nat.le_refl _) _).alloc (by rw [sz_al]; exact Nat.le_succ _) _) | exact ⟨rfl, rfl, rfl, by (try simp only [sz_al]); first | omega | exact Nat.le_of_lt (Nat.lt_of_lt_of_le (Nat.lt_succ_self _) (Nat.le_succ _)), fun k hk => by first | (rw [Below.heap_alloc _ _ _ (by rw [sz_al]; omega), Below.heap_alloc _ _ _ hk]) | rfl⟩
    case rest =>
      obtain ⟨rfl, rfl, HX⟩ := hcut
      have f0 := HF.out _ 27 28 HX.out (by decide) (by decide)
      rw [show fitT (allJ fcP) 27 28 = true by kernel_rfl] at f0
      have f1 := HF.out _ 3 28 HX.out (by decide) (by decide)
      rw [show fitT (allJ fcP) 3 28 = true by kernel_rfl] at f1
      have f2 := HF.out _ 4 28 HX.out (by decide) (by decide)
      rw [show fitT (allJ fcP) 4 28 = true by kernel_rfl] at f2
      have f3 := HF.out _ 1 28 HX.out (by decide) (by decide)
      rw [show fitT (allJ fcP) 1 28 = false by kernel_rfl] at f3
      have f4 := HF.out _ 27 30 HX.out (by decide) (by decide)
      rw [show fitT (allJ fcP) 27 30 = false by kernel_rfl] at f4
      have f5 := HF.out _ 3 30 HX.out (by decide) (by decide)
      rw [show fitT (allJ fcP) 3 30 = false by kernel_rfl] at f5
      go_wp2_with (go_at_call 7; first
        | (refine f0.mono ?_; clear f0; rintro e w9 ⟨rfl, hw9⟩; replace hw9 := hw9.symm; subst hw9)
        | (refine f1.mono ?_; clear f1; rintro e w9 ⟨rfl, hw9⟩; replace hw9 := hw9.symm; subst hw9)
        | (refine f2.mono ?_; clear f2; rintro e w9 ⟨rfl, hw9⟩; replace hw9 := hw9.symm; subst hw9)
        | (refine f3.mono ?_; clear f3; rintro e w9 ⟨rfl, hw9⟩; replace hw9 := hw9.symm; subst hw9)
        | (refine f4.mono ?_; clear f4; rintro e w9 ⟨rfl, hw9⟩; replace hw9 := hw9.symm; subst hw9)
        | (refine f5.mono ?_; clear f5; rintro e w9 ⟨rfl, hw9⟩; replace hw9 := hw9.symm; subst hw9))
      go_ret
      exact ⟨by first | rfl | simp, HB0.out.trans (HX.out.mono HB0.out.size)⟩
  · go_cut [10, 11] (fun s10 s11 X => s10 = .int .i64 13 ∧ s11 = .int .i64 0 ∧ Hid (Below w7.heap.size w7 X))
    case first =>
      go_region
      all_goals
        go_wp2_with fail
        go_meet
        refine ⟨rfl, rfl, ?_⟩
        first | exact ((Below.refl _ _).alloc (Nat.le_refl _) _).alloc (by rw [sz_al]; omega) _ | exact (((Below.refl _ _).drew.alloc (Nat.le_refl _) _).alloc (by rw [sz_al]; exact Nat.le_succ _) _) | exact ⟨rfl, rfl, rfl, by (try simp only [sz_al]); first | omega | exact Nat.le_of_lt (Nat.lt_of_lt_of_le (Nat.lt_succ_self _) (Nat.le_succ _)), fun k hk => by first | (rw [Below.heap_alloc _ _ _ (by rw [sz_al]; omega), Below.heap_alloc _ _ _ hk]) | rfl⟩
    case rest =>
      obtain ⟨rfl, rfl, HX⟩ := hcut
      have f0 := HF.out _ 29 28 HX.out (by decide) (by decide)
      rw [show fitT (allJ fcP) 29 28 = true by kernel_rfl] at f0
      have f1 := HF.out _ 3 28 HX.out (by decide) (by decide)
      rw [show fitT (allJ fcP) 3 28 = true by kernel_rfl] at f1
      have f2 := HF.out _ 4 28 HX.out (by decide) (by decide)
      rw [show fitT (allJ fcP) 4 28 = true by kernel_rfl] at f2
      have f3 := HF.out _ 1 28 HX.out (by decide) (by decide)
      rw [show fitT (allJ fcP) 1 28 = false by kernel_rfl] at f3
      have f4 := HF.out _ 29 16 HX.out (by decide) (by decide)
      rw [show fitT (allJ fcP) 29 16 = true by kernel_rfl] at f4
      have f5 := HF.out _ 3 16 HX.out (by decide) (by decide)
      rw [show fitT (allJ fcP) 3 16 = true by kernel_rfl] at f5
      go_wp2_with (go_at_call 7; first
        | (refine f0.mono ?_; clear f0; rintro e w9 ⟨rfl, hw9⟩; replace hw9 := hw9.symm; subst hw9)
        | (refine f1.mono ?_; clear f1; rintro e w9 ⟨rfl, hw9⟩; replace hw9 := hw9.symm; subst hw9)
        | (refine f2.mono ?_; clear f2; rintro e w9 ⟨rfl, hw9⟩; replace hw9 := hw9.symm; subst hw9)
        | (refine f3.mono ?_; clear f3; rintro e w9 ⟨rfl, hw9⟩; replace hw9 := hw9.symm; subst hw9)
        | (refine f4.mono ?_; clear f4; rintro e w9 ⟨rfl, hw9⟩; replace hw9 := hw9.symm; subst hw9)
        | (refine f5.mono ?_; clear f5; rintro e w9 ⟨rfl, hw9⟩; replace hw9 := hw9.symm; subst hw9))
      go_ret
      exact ⟨by first | rfl | simp, HB0.out.trans (HX.out.mono HB0.out.size)⟩
  · go_cut [10, 11] (fun s10 s11 X => s10 = .int .i64 13 ∧ s11 = .int .i64 11 ∧ Hid (Below w7.heap.size w7 X))
    case first =>
      go_region
      all_goals
        go_wp2_with fail
        go_meet
        refine ⟨rfl, rfl, ?_⟩
        first | exact ((Below.refl _ _).alloc (Nat.le_refl _) _).alloc (by rw [sz_al]; omega) _ | exact (((Below.refl _ _).drew.alloc (Nat.le_refl _) _).alloc (by rw [sz_al]; exact Nat.le_succ _) _) | exact ⟨rfl, rfl, rfl, by (try simp only [sz_al]); first | omega | exact Nat.le_of_lt (Nat.lt_of_lt_of_le (Nat.lt_succ_self _) (Nat.le_succ _)), fun k hk => by first | (rw [Below.heap_alloc _ _ _ (by rw [sz_al]; omega), Below.heap_alloc _ _ _ hk]) | rfl⟩
    case rest =>
      obtain ⟨rfl, rfl, HX⟩ := hcut
      have f0 := HF.out _ 29 28 HX.out (by decide) (by decide)
      rw [show fitT (allJ fcP) 29 28 = true by kernel_rfl] at f0
      have f1 := HF.out _ 3 28 HX.out (by decide) (by decide)
      rw [show fitT (allJ fcP) 3 28 = true by kernel_rfl] at f1
      have f2 := HF.out _ 4 28 HX.out (by decide) (by decide)
      rw [show fitT (allJ fcP) 4 28 = true by kernel_rfl] at f2
      have f3 := HF.out _ 1 28 HX.out (by decide) (by decide)
      rw [show fitT (allJ fcP) 1 28 = false by kernel_rfl] at f3
      have f4 := HF.out _ 29 27 HX.out (by decide) (by decide)
      rw [show fitT (allJ fcP) 29 27 = true by kernel_rfl] at f4
      have f5 := HF.out _ 3 27 HX.out (by decide) (by decide)
      rw [show fitT (allJ fcP) 3 27 = false by kernel_rfl] at f5
      go_wp2_with (go_at_call 7; first
        | (refine f0.mono ?_; clear f0; rintro e w9 ⟨rfl, hw9⟩; replace hw9 := hw9.symm; subst hw9)
        | (refine f1.mono ?_; clear f1; rintro e w9 ⟨rfl, hw9⟩; replace hw9 := hw9.symm; subst hw9)
        | (refine f2.mono ?_; clear f2; rintro e w9 ⟨rfl, hw9⟩; replace hw9 := hw9.symm; subst hw9)
        | (refine f3.mono ?_; clear f3; rintro e w9 ⟨rfl, hw9⟩; replace hw9 := hw9.symm; subst hw9)
        | (refine f4.mono ?_; clear f4; rintro e w9 ⟨rfl, hw9⟩; replace hw9 := hw9.symm; subst hw9)
        | (refine f5.mono ?_; clear f5; rintro e w9 ⟨rfl, hw9⟩; replace hw9 := hw9.symm; subst hw9))
      go_ret
      exact ⟨by first | rfl | simp, HB0.out.trans (HX.out.mono HB0.out.size)⟩
  · go_cut [10, 11] (fun s10 s11 X => s10 = .int .i64 13 ∧ s11 = .int .i64 13 ∧ Hid (Below w7.heap.size w7 X))
    case first =>
      go_region
      all_goals
        go_wp2_with fail
        go_meet
        refine ⟨rfl, rfl, ?_⟩
        first | exact ((Below.refl _ _).alloc (Nat.le_refl _) _).alloc (by rw [sz_al]; omega) _ | exact (((Below.refl _ _).drew.alloc (Nat.le_refl _) _).alloc (by rw [sz_al]; exact Nat.le_succ _) _) | exact ⟨rfl, rfl, rfl, by (try simp only [sz_al]); first | omega | exact Nat.le_of_lt (Nat.lt_of_lt_of_le (Nat.lt_succ_self _) (Nat.le_succ _)), fun k hk => by first | (rw [Below.heap_alloc _ _ _ (by rw [sz_al]; omega), Below.heap_alloc _ _ _ hk]) | rfl⟩
    case rest =>
      obtain ⟨rfl, rfl, HX⟩ := hcut
      have f0 := HF.out _ 29 28 HX.out (by decide) (by decide)
      rw [show fitT (allJ fcP) 29 28 = true by kernel_rfl] at f0
      have f1 := HF.out _ 3 28 HX.out (by decide) (by decide)
      rw [show fitT (allJ fcP) 3 28 = true by kernel_rfl] at f1
      have f2 := HF.out _ 4 28 HX.out (by decide) (by decide)
      rw [show fitT (allJ fcP) 4 28 = true by kernel_rfl] at f2
      have f3 := HF.out _ 1 28 HX.out (by decide) (by decide)
      rw [show fitT (allJ fcP) 1 28 = false by kernel_rfl] at f3
      have f4 := HF.out _ 29 29 HX.out (by decide) (by decide)
      rw [show fitT (allJ fcP) 29 29 = true by kernel_rfl] at f4
      have f5 := HF.out _ 3 29 HX.out (by decide) (by decide)
      rw [show fitT (allJ fcP) 3 29 = false by kernel_rfl] at f5
      go_wp2_with (go_at_call 7; first
        | (refine f0.mono ?_; clear f0; rintro e w9 ⟨rfl, hw9⟩; replace hw9 := hw9.symm; subst hw9)
        | (refine f1.mono ?_; clear f1; rintro e w9 ⟨rfl, hw9⟩; replace hw9 := hw9.symm; subst hw9)
        | (refine f2.mono ?_; clear f2; rintro e w9 ⟨rfl, hw9⟩; replace hw9 := hw9.symm; subst hw9)
        | (refine f3.mono ?_; clear f3; rintro e w9 ⟨rfl, hw9⟩; replace hw9 := hw9.symm; subst hw9)
        | (refine f4.mono ?_; clear f4; rintro e w9 ⟨rfl, hw9⟩; replace hw9 := hw9.symm; subst hw9)
        | (refine f5.mono ?_; clear f5; rintro e w9 ⟨rfl, hw9⟩; replace hw9 := hw9.symm; subst hw9))
      go_ret
      exact ⟨by first | rfl | simp, HB0.out.trans (HX.out.mono HB0.out.size)⟩
  · go_cut [10, 11] (fun s10 s11 X => s10 = .int .i64 13 ∧ s11 = .int .i64 14 ∧ Hid (Below w7.heap.size w7 X))
    case first =>
      go_region
      all_goals
        go_wp2_with fail
        go_meet
        refine ⟨rfl, rfl, ?_⟩
        first | exact ((Below.refl _ _).alloc (Nat.le_refl _) _).alloc (by rw [sz_al]; omega) _ | exact (((Below.refl _ _).drew.alloc (Nat.le_refl _) _).alloc (by rw [sz_al]; exact Nat.le_succ _) _) | exact ⟨rfl, rfl, rfl, by (try simp only [sz_al]); first | omega | exact Nat.le_of_lt (Nat.lt_of_lt_of_le (Nat.lt_succ_self _) (Nat.le_succ _)), fun k hk => by first | (rw [Below.heap_alloc _ _ _ (by rw [sz_al]; omega), Below.heap_alloc _ _ _ hk]) | rfl⟩
    case rest =>
      obtain ⟨rfl, rfl, HX⟩ := hcut
      have f0 := HF.out _ 29 28 HX.out (by decide) (by decide)
      rw [show fitT (allJ fcP) 29 28 = true by kernel_rfl] at f0
      have f1 := HF.out _ 3 28 HX.out (by decide) (by decide)
      rw [show fitT (allJ fcP) 3 28 = true by kernel_rfl] at f1
      have f2 := HF.out _ 4 28 HX.out (by decide) (by decide)
      rw [show fitT (allJ fcP) 4 28 = true by kernel_rfl] at f2
      have f3 := HF.out _ 1 28 HX.out (by decide) (by decide)
      rw [show fitT (allJ fcP) 1 28 = false by kernel_rfl] at f3
      have f4 := HF.out _ 29 30 HX.out (by decide) (by decide)
      rw [show fitT (allJ fcP) 29 30 = false by kernel_rfl] at f4
      have f5 := HF.out _ 3 30 HX.out (by decide) (by decide)
      rw [show fitT (allJ fcP) 3 30 = false by kernel_rfl] at f5
      go_wp2_with (go_at_call 7; first
        | (refine f0.mono ?_; clear f0; rintro e w9 ⟨rfl, hw9⟩; replace hw9 := hw9.symm; subst hw9)
        | (refine f1.mono ?_; clear f1; rintro e w9 ⟨rfl, hw9⟩; replace hw9 := hw9.symm; subst hw9)
        | (refine f2.mono ?_; clear f2; rintro e w9 ⟨rfl, hw9⟩; replace hw9 := hw9.symm; subst hw9)
        | (refine f3.mono ?_; clear f3; rintro e w9 ⟨rfl, hw9⟩; replace hw9 := hw9.symm; subst hw9)
        | (refine f4.mono ?_; clear f4; rintro e w9 ⟨rfl, hw9⟩; replace hw9 := hw9.symm; subst hw9)
        | (refine f5.mono ?_; clear f5; rintro e w9 ⟨rfl, hw9⟩; replace hw9 := hw9.symm; subst hw9))
      go_ret
      exact ⟨by first | rfl | simp, HB0.out.trans (HX.out.mono HB0.out.size)⟩
  · go_cut [10, 11] (fun s10 s11 X => s10 = .int .i64 14 ∧ s11 = .int .i64 0 ∧ Hid (Below w7.heap.size w7 X))
    case first =>
      go_region
      all_goals
        go_wp2_with fail
        go_meet
        refine ⟨rfl, rfl, ?_⟩
        first | exact ((Below.refl _ _).alloc (Nat.le_refl _) _).alloc (by rw [sz_al]; omega) _ | exact (((Below.refl _ _).drew.alloc (Nat.le_refl _) _).alloc (by rw [sz_al]; exact Nat.le_succ _) _) | exact ⟨rfl, rfl, rfl, by (try simp only [sz_al]); first | omega | exact Nat.le_of_lt (Nat.lt_of_lt_of_le (Nat.lt_succ_self _) (Nat.le_succ _)), fun k hk => by first | (rw [Below.heap_alloc _ _ _ (by rw [sz_al]; omega), Below.heap_alloc _ _ _ hk]) | rfl⟩
    case rest =>
      obtain ⟨rfl, rfl, HX⟩ := hcut
      have f0 := HF.out _ 30 28 HX.out (by decide) (by decide)
      rw [show fitT (allJ fcP) 30 28 = true by kernel_rfl] at f0
      have f1 := HF.out _ 3 28 HX.out (by decide) (by decide)
      rw [show fitT (allJ fcP) 3 28 = true by kernel_rfl] at f1
      have f2 := HF.out _ 4 28 HX.out (by decide) (by decide)
      rw [show fitT (allJ fcP) 4 28 = true by kernel_rfl] at f2
      have f3 := HF.out _ 1 28 HX.out (by decide) (by decide)
      rw [show fitT (allJ fcP) 1 28 = false by kernel_rfl] at f3
      have f4 := HF.out _ 30 16 HX.out (by decide) (by decide)
      rw [show fitT (allJ fcP) 30 16 = true by kernel_rfl] at f4
      have f5 := HF.out _ 3 16 HX.out (by decide) (by decide)
      rw [show fitT (allJ fcP) 3 16 = true by kernel_rfl] at f5
      go_wp2_with (go_at_call 7; first
        | (refine f0.mono ?_; clear f0; rintro e w9 ⟨rfl, hw9⟩; replace hw9 := hw9.symm; subst hw9)
        | (refine f1.mono ?_; clear f1; rintro e w9 ⟨rfl, hw9⟩; replace hw9 := hw9.symm; subst hw9)
        | (refine f2.mono ?_; clear f2; rintro e w9 ⟨rfl, hw9⟩; replace hw9 := hw9.symm; subst hw9)
        | (refine f3.mono ?_; clear f3; rintro e w9 ⟨rfl, hw9⟩; replace hw9 := hw9.symm; subst hw9)
        | (refine f4.mono ?_; clear f4; rintro e w9 ⟨rfl, hw9⟩; replace hw9 := hw9.symm; subst hw9)
        | (refine f5.mono ?_; clear f5; rintro e w9 ⟨rfl, hw9⟩; replace hw9 := hw9.symm; subst hw9))
      go_ret
      exact ⟨by first | rfl | simp, HB0.out.trans (HX.out.mono HB0.out.size)⟩
  · go_cut [10, 11] (fun s10 s11 X => s10 = .int .i64 14 ∧ s11 = .int .i64 11 ∧ Hid (Below w7.heap.size w7 X))
    case first =>
      go_region
      all_goals
        go_wp2_with fail
        go_meet
        refine ⟨rfl, rfl, ?_⟩
        first | exact ((Below.refl _ _).alloc (Nat.le_refl _) _).alloc (by rw [sz_al]; omega) _ | exact (((Below.refl _ _).drew.alloc (Nat.le_refl _) _).alloc (by rw [sz_al]; exact Nat.le_succ _) _) | exact ⟨rfl, rfl, rfl, by (try simp only [sz_al]); first | omega | exact Nat.le_of_lt (Nat.lt_of_lt_of_le (Nat.lt_succ_self _) (Nat.le_succ _)), fun k hk => by first | (rw [Below.heap_alloc _ _ _ (by rw [sz_al]; omega), Below.heap_alloc _ _ _ hk]) | rfl⟩
    case rest =>
      obtain ⟨rfl, rfl, HX⟩ := hcut
      have f0 := HF.out _ 30 28 HX.out (by decide) (by decide)
      rw [show fitT (allJ fcP) 30 28 = true by kernel_rfl] at f0
      have f1 := HF.out _ 3 28 HX.out (by decide) (by decide)
      rw [show fitT (allJ fcP) 3 28 = true by kernel_rfl] at f1
      have f2 := HF.out _ 4 28 HX.out (by decide) (by decide)
      rw [show fitT (allJ fcP) 4 28 = true by kernel_rfl] at f2
      have f3 := HF.out _ 1 28 HX.out (by decide) (by decide)
      rw [show fitT (allJ fcP) 1 28 = false by kernel_rfl] at f3
      have f4 := HF.out _ 30 27 HX.out (by decide) (by decide)
      rw [show fitT (allJ fcP) 30 27 = true by kernel_rfl] at f4
      have f5 := HF.out _ 3 27 HX.out (by decide) (by decide)
      rw [show fitT (allJ fcP) 3 27 = false by kernel_rfl] at f5
      go_wp2_with (go_at_call 7; first
        | (refine f0.mono ?_; clear f0; rintro e w9 ⟨rfl, hw9⟩; replace hw9 := hw9.symm; subst hw9)
        | (refine f1.mono ?_; clear f1; rintro e w9 ⟨rfl, hw9⟩; replace hw9 := hw9.symm; subst hw9)
        | (refine f2.mono ?_; clear f2; rintro e w9 ⟨rfl, hw9⟩; replace hw9 := hw9.symm; subst hw9)
        | (refine f3.mono ?_; clear f3; rintro e w9 ⟨rfl, hw9⟩; replace hw9 := hw9.symm; subst hw9)
        | (refine f4.mono ?_; clear f4; rintro e w9 ⟨rfl, hw9⟩; replace hw9 := hw9.symm; subst hw9)
        | (refine f5.mono ?_; clear f5; rintro e w9 ⟨rfl, hw9⟩; replace hw9 := hw9.symm; subst hw9))
      go_ret
      exact ⟨by first | rfl | simp, HB0.out.trans (HX.out.mono HB0.out.size)⟩
  · go_cut [10, 11] (fun s10 s11 X => s10 = .int .i64 14 ∧ s11 = .int .i64 13 ∧ Hid (Below w7.heap.size w7 X))
    case first =>
      go_region
      all_goals
        go_wp2_with fail
        go_meet
        refine ⟨rfl, rfl, ?_⟩
        first | exact ((Below.refl _ _).alloc (Nat.le_refl _) _).alloc (by rw [sz_al]; omega) _ | exact (((Below.refl _ _).drew.alloc (Nat.le_refl _) _).alloc (by rw [sz_al]; exact Nat.le_succ _) _) | exact ⟨rfl, rfl, rfl, by (try simp only [sz_al]); first | omega | exact Nat.le_of_lt (Nat.lt_of_lt_of_le (Nat.lt_succ_self _) (Nat.le_succ _)), fun k hk => by first | (rw [Below.heap_alloc _ _ _ (by rw [sz_al]; omega), Below.heap_alloc _ _ _ hk]) | rfl⟩
    case rest =>
      obtain ⟨rfl, rfl, HX⟩ := hcut
      have f0 := HF.out _ 30 28 HX.out (by decide) (by decide)
      rw [show fitT (allJ fcP) 30 28 = true by kernel_rfl] at f0
      have f1 := HF.out _ 3 28 HX.out (by decide) (by decide)
      rw [show fitT (allJ fcP) 3 28 = true by kernel_rfl] at f1
      have f2 := HF.out _ 4 28 HX.out (by decide) (by decide)
      rw [show fitT (allJ fcP) 4 28 = true by kernel_rfl] at f2
      have f3 := HF.out _ 1 28 HX.out (by decide) (by decide)
      rw [show fitT (allJ fcP) 1 28 = false by kernel_rfl] at f3
      have f4 := HF.out _ 30 29 HX.out (by decide) (by decide)
      rw [show fitT (allJ fcP) 30 29 = true by kernel_rfl] at f4
      have f5 := HF.out _ 3 29 HX.out (by decide) (by decide)
      rw [show fitT (allJ fcP) 3 29 = false by kernel_rfl] at f5
      go_wp2_with (go_at_call 7; first
        | (refine f0.mono ?_; clear f0; rintro e w9 ⟨rfl, hw9⟩; replace hw9 := hw9.symm; subst hw9)
        | (refine f1.mono ?_; clear f1; rintro e w9 ⟨rfl, hw9⟩; replace hw9 := hw9.symm; subst hw9)
        | (refine f2.mono ?_; clear f2; rintro e w9 ⟨rfl, hw9⟩; replace hw9 := hw9.symm; subst hw9)
        | (refine f3.mono ?_; clear f3; rintro e w9 ⟨rfl, hw9⟩; replace hw9 := hw9.symm; subst hw9)
        | (refine f4.mono ?_; clear f4; rintro e w9 ⟨rfl, hw9⟩; replace hw9 := hw9.symm; subst hw9)
        | (refine f5.mono ?_; clear f5; rintro e w9 ⟨rfl, hw9⟩; replace hw9 := hw9.symm; subst hw9))
      go_ret
      exact ⟨by first | rfl | simp, HB0.out.trans (HX.out.mono HB0.out.size)⟩
  · go_cut [10, 11] (fun s10 s11 X => s10 = .int .i64 14 ∧ s11 = .int .i64 14 ∧ Hid (Below w7.heap.size w7 X))
    case first =>
      go_region
      all_goals
        go_wp2_with fail
        go_meet
        refine ⟨rfl, rfl, ?_⟩
        first | exact ((Below.refl _ _).alloc (Nat.le_refl _) _).alloc (by rw [sz_al]; omega) _ | exact (((Below.refl _ _).drew.alloc (Nat.le_refl _) _).alloc (by rw [sz_al]; exact Nat.le_succ _) _) | exact ⟨rfl, rfl, rfl, by (try simp only [sz_al]); first | omega | exact Nat.le_of_lt (Nat.lt_of_lt_of_le (Nat.lt_succ_self _) (Nat.le_succ _)), fun k hk => by first | (rw [Below.heap_alloc _ _ _ (by rw [sz_al]; omega), Below.heap_alloc _ _ _ hk]) | rfl⟩
    case rest =>
      obtain ⟨rfl, rfl, HX⟩ := hcut
      have f0 := HF.out _ 30 28 HX.out (by decide) (by decide)
      rw [show fitT (allJ fcP) 30 28 = true by kernel_rfl] at f0
      have f1 := HF.out _ 3 28 HX.out (by decide) (by decide)
      rw [show fitT (allJ fcP) 3 28 = true by kernel_rfl] at f1
      have f2 := HF.out _ 4 28 HX.out (by decide) (by decide)
      rw [show fitT (allJ fcP) 4 28 = true by kernel_rfl] at f2
      have f3 := HF.out _ 1 28 HX.out (by decide) (by decide)
      rw [show fitT (allJ fcP) 1 28 = false by kernel_rfl] at f3
      have f4 := HF.out _ 30 30 HX.out (by decide) (by decide)
      rw [show fitT (allJ fcP) 30 30 = true by kernel_rfl] at f4
      have f5 := HF.out _ 3 30 HX.out (by decide) (by decide)
      rw [show fitT (allJ fcP) 3 30 = false by kernel_rfl] at f5
      go_wp2_with (go_at_call 7; first
        | (refine f0.mono ?_; clear f0; rintro e w9 ⟨rfl, hw9⟩; replace hw9 := hw9.symm; subst hw9)
        | (refine f1.mono ?_; clear f1; rintro e w9 ⟨rfl, hw9⟩; replace hw9 := hw9.symm; subst hw9)
        | (refine f2.mono ?_; clear f2; rintro e w9 ⟨rfl, hw9⟩; replace hw9 := hw9.symm; subst hw9)
        | (refine f3.mono ?_; clear f3; rintro e w9 ⟨rfl, hw9⟩; replace hw9 := hw9.symm; subst hw9)
        | (refine f4.mono ?_; clear f4; rintro e w9 ⟨rfl, hw9⟩; replace hw9 := hw9.symm; subst hw9)
        | (refine f5.mono ?_; clear f5; rintro e w9 ⟨rfl, hw9⟩; replace hw9 := hw9.symm; subst hw9))
      go_ret
      exact ⟨by first | rfl | simp, HB0.out.trans (HX.out.mono HB0.out.size)⟩
end Go.Proofs.YtbbmgjcabmjjdaaGreatDoor
