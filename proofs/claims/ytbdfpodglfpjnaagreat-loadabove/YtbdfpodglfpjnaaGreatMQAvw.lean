/- LoadAbove. -/
import Derived.Test.YtbdfpodglfpjnaaGreatMQCyw
namespace Go.Proofs.YtbdfpodglfpjnaaGreat
open Go.RowKit Go.Deep

theorem at_modq (k : Nat) (z : Int) (h1 : 1 ≤ k) (h2 : k ≤ 100000) : ∃ a : Nat, wrap64 ((IntKind.u64.wrap z).tmod (k : Int)) = a ∧ a < k := by
  have h0 : 0 ≤ IntKind.u64.wrap z := by rw [IntKind.wrap_u64]; omega
  generalize IntKind.u64.wrap z = q at h0 ⊢
  have hp : 0 < (k : Int) := by omega
  have a1 := Int.emod_nonneg q (b := (k : Int)) (by omega)
  have a2 := Int.emod_lt_of_pos q hp
  refine ⟨(q % (k : Int)).toNat, ?_, by omega⟩
  rw [Int.tmod_eq_emod_of_nonneg h0]
  generalize q % (k : Int) = r at a1 a2 ⊢
  rw [show wrap64 r = r from by unfold wrap64; omega]
  omega
theorem pick5 (z : Int) : ∃ a : Nat, wrap64 ((IntKind.u64.wrap z).tmod 5) = (a : Int) ∧ a < 5 := at_modq 5 z (by decide) (by decide)
def aboP : Pg := ⟨11, [tinyC, ⟨⟨#[73]⟩, true, false, 0, [], [], [], []⟩, ⟨⟨#[74]⟩, true, false, 0, [12], [], [], []⟩, ⟨⟨#[65]⟩, false, false, 0, [13], [], [], []⟩, ⟨⟨#[66]⟩, false, false, 14, [], [], [], []⟩]⟩
theorem aboO : Okl aboP := okl_of (by kernel_rfl)
theorem aboJ : loadJ aboP = .ok (allJ aboP) := by kernel_rfl
theorem abo_len : (allJ aboP).length = 16 := by kernel_rfl
theorem abo_abv : ((allJ aboP).all fun y => decide (y.abv.length ≤ 1000)) = true := by kernel_rfl
theorem abo_m : isLy (allJ aboP) (-1) 0 = false := by kernel_rfl
theorem abo_16 : isLy (allJ aboP) 16 0 = false := by kernel_rfl
theorem abo_is0 : ((List.range 16).all fun i => isLy (allJ aboP) 11 (i : Int) == ([0, 11] : List Int).contains (i : Int)) = true := by kernel_rfl
theorem abo_at0 : (lyAt (allJ aboP) 11).abv = [0, 11] := by kernel_rfl
theorem abo_is1 : ((List.range 16).all fun i => isLy (allJ aboP) 12 (i : Int) == ([0, 12] : List Int).contains (i : Int)) = true := by kernel_rfl
theorem abo_at1 : (lyAt (allJ aboP) 12).abv = [0, 12] := by kernel_rfl
theorem abo_is2 : ((List.range 16).all fun i => isLy (allJ aboP) 13 (i : Int) == ([0, 12, 13] : List Int).contains (i : Int)) = true := by kernel_rfl
theorem abo_at2 : (lyAt (allJ aboP) 13).abv = [0, 12, 13] := by kernel_rfl
theorem abo_is3 : ((List.range 16).all fun i => isLy (allJ aboP) 14 (i : Int) == ([0, 12, 13, 14] : List Int).contains (i : Int)) = true := by kernel_rfl
theorem abo_at3 : (lyAt (allJ aboP) 14).abv = [0, 12, 13, 14] := by kernel_rfl
theorem abo_is4 : ((List.range 16).all fun i => isLy (allJ aboP) 15 (i : Int) == ([0, 12, 13, 14, 15] : List Int).contains (i : Int)) = true := by kernel_rfl
theorem abo_at4 : (lyAt (allJ aboP) 15).abv = [0, 12, 13, 14, 15] := by kernel_rfl
theorem take_has {xs : List Int} {j : Nat} {x : Int} (h : xs[j]? = some x) (i : Int) : (xs.take (j + 1)).contains i = ((xs.take j).contains i || (x == i)) := by
  rw [take_next h, List.contains_append]
  congr 1
  show (i == x || false) = _
  rw [Bool.or_false, Bool.eq_iff_iff, beq_iff_eq, beq_iff_eq]
  exact eq_comm
set_option maxRecDepth 20000 in
set_option maxHeartbeats 8000000 in
theorem above_0 (n : Int) (hp : wrap64 ((IntKind.u64.wrap n).tmod 5) = 0) (w : World) : Calls Tryz.prog 10 #[.int .i64 n] w fun e w' => e = .returned (.bool true) ∧ Below w.heap.size w w' := by
  have hA := awake15 w
  go_enter Tryz.func10, Tryz.ntmps10
  go_upto_region 4 with (first
    | (go_at_call 11; refine hA.mono ?_; clear hA; rintro e w1 ⟨rfl, hb1⟩; have HB1 : Hid (Below w.heap.size w w1) := hb1; clear hb1)
    | (go_at_call 12; refine (withN (n := 4) (S := fun k => k < w1.heap.size + 3) (xs := [⟨⟨#[73]⟩, true, false, 0, [], [], [], []⟩, ⟨⟨#[74]⟩, true, false, 0, [12], [], [], []⟩, ⟨⟨#[65]⟩, false, false, 0, [13], [], [], []⟩, ⟨⟨#[66]⟩, false, false, 14, [], [], [], []⟩]) rfl (fun k (q : k < _) => (by (repeat (first | rw [sz_al] | rw [sz_sc])); omega)) (by
        refine Sl.blk [[.string ⟨#[73]⟩, .bool true, .bool false, .int .i64 0, .slice none 0 0, .slice none 0 0, .slice none 0 0, .slice none 0 0], [.string ⟨#[74]⟩, .bool true, .bool false, .int .i64 0, .slice (some ⟨w1.heap.size, 0, none⟩) 1 1, .slice none 0 0, .slice none 0 0, .slice none 0 0], [.string ⟨#[65]⟩, .bool false, .bool false, .int .i64 0, .slice (some ⟨w1.heap.size + 1, 0, none⟩) 1 1, .slice none 0 0, .slice none 0 0, .slice none 0 0], [.string ⟨#[66]⟩, .bool false, .bool false, .int .i64 14, .slice none 0 0, .slice none 0 0, .slice none 0 0, .slice none 0 0]] (T := 31) (by (repeat (first | rw [hp_al] | rw [hp_sc] | rw [sz_al] | rw [sz_sc] | rw [if_neg (by omega)] | rw [if_pos (by omega)])); all_goals first | rfl | assumption) (show _ < _ by omega) rfl rfl rfl (by decide) fun i y r hy hr => ?_
        match i, hy, hr with
        | 0, hy, hr => cases hy; cases hr; exact ⟨_, _, _, _, rfl, Sl.nil _ _ _, Sl.nil _ _ _, Sl.nil _ _ _, Sl.nil _ _ _⟩
        | 1, hy, hr =>
          cases hy; cases hr
          refine ⟨_, _, _, _, rfl, ?_, Sl.nil _ _ _, Sl.nil _ _ _, Sl.nil _ _ _⟩
          refine Sl.blk [[.int .i64 12]] (T := 3) (by (repeat (first | rw [hp_al] | rw [hp_sc] | rw [sz_al] | rw [sz_sc] | rw [if_neg (by omega)] | rw [if_pos (by omega)])); all_goals first | rfl | assumption) (show _ < _ by omega) rfl rfl rfl (by decide) fun i y r hy hr => ?_
          match i, hy, hr with
          | 0, hy, hr => cases hy; cases hr; rfl
        | 2, hy, hr =>
          cases hy; cases hr
          refine ⟨_, _, _, _, rfl, ?_, Sl.nil _ _ _, Sl.nil _ _ _, Sl.nil _ _ _⟩
          refine Sl.blk [[.int .i64 13]] (T := 3) (by (repeat (first | rw [hp_al] | rw [hp_sc] | rw [sz_al] | rw [sz_sc] | rw [if_neg (by omega)] | rw [if_pos (by omega)])); all_goals first | rfl | assumption) (show _ < _ by omega) rfl rfl rfl (by decide) fun i y r hy hr => ?_
          match i, hy, hr with
          | 0, hy, hr => cases hy; cases hr; rfl
        | 3, hy, hr => cases hy; cases hr; exact ⟨_, _, _, _, rfl, Sl.nil _ _ _, Sl.nil _ _ _, Sl.nil _ _ _, Sl.nil _ _ _⟩) (by decide) (by decide)).mono ?_; rintro e w5 ⟨g, c, rfl, hb5, S', hS', hs⟩; have HB5 : Hid (Below w1.heap.size w1 w5) := ((((Below.refl _ _).alloc (Nat.le_refl _) _).alloc (by rw [sz_al]; omega) _).alloc (by rw [sz_al, sz_al]; omega) _).trans (hb5.mono (by rw [sz_al, sz_al, sz_al]; omega)); have HS' : Hid (∀ k, S' k → k < w5.heap.size) := hS'; have HS : Hid (Sl kCs w5 S' (.slice (some ⟨g, 0, none⟩) 5 c) aboP.cls) := hs; clear hb5 hS' hs))
  obtain ⟨W6, hW6⟩ : ∃ X, X = w5.alloc (.cells #[.int .i64 11, .slice (some ⟨g, 0, none⟩) 5 c] 25) := ⟨_, rfl⟩
  have g6 : W6.heap[w5.heap.size]? = some (.cells #[.int .i64 11, .slice (some ⟨g, 0, none⟩) 5 c] 25 (0, 0)) := by rw [hW6]; exact heap_alloc_new _ _
  have hb6 : Below w5.heap.size w5 W6 := by rw [hW6]; exact (Below.refl _ _).alloc (Nat.le_refl _) _
  rw [← hW6]
  clear hW6
  have c0 : W6.cell? ⟨w5.heap.size, 0, none⟩ = some (.int .i64 11) := bxq_cell g6 rfl
  have c1 : W6.cell? ⟨w5.heap.size, 1, none⟩ = some (.slice (some ⟨g, 0, none⟩) 5 c) := bxq_cell g6 rfl
  have hL := load_any (w := W6) (S := S') (p := aboP) (cs := [.int .i64 11, .slice (some ⟨g, 0, none⟩) 5 c]) aboO (fun k q => Nat.lt_of_lt_of_le (HS'.out k q) hb6.size) ⟨_, rfl, HS.out.keep fun k q => hb6.block k (HS'.out k q)⟩
  unfold LdQ at hL
  rw [aboJ] at hL
  have HB6 : Hid _ := hb6
  clear hb6 g6 HS' HS
  go_upto_region 8 with (first
    | (go_at_call 15; refine hL.mono ?_; clear hL; rintro e w7 ⟨hb7, vl, rfl, hs⟩; have HB7 : Hid (Below W6.heap.size W6 w7) := hb7; obtain ⟨al, cl, hvl⟩ := hs.form; rw [abo_len] at hvl; subst hvl; have HS : Hid (Sl kLy w7 (fun k => k < w7.heap.size) (.slice al 16 cl) (allJ aboP)) := (soft_Ly hs).mono fun k q => q.2; clear hb7 hs)
    | (go_at_call 16; refine (num_any _ _).mono ?_; rintro e w9 ⟨rfl, hw9⟩; replace hw9 := hw9.symm; subst hw9))
  obtain ⟨W9, hW9⟩ : ∃ X, X = ((((((w7.alloc (.cells #[.int .i64 0, .int .i64 11] 3)).alloc (.cells #[.int .i64 0, .int .i64 12] 3)).alloc (.cells #[.int .i64 0, .int .i64 12, .int .i64 13] 3)).alloc (.cells #[.int .i64 0, .int .i64 12, .int .i64 13, .int .i64 14] 3)).alloc (.cells #[.int .i64 0, .int .i64 12, .int .i64 13, .int .i64 14, .int .i64 15] 3)).alloc (.cells #[.slice (some ⟨w7.heap.size, 0, none⟩) 2 2, .slice (some ⟨w7.heap.size + 1, 0, none⟩) 2 2, .slice (some ⟨w7.heap.size + 2, 0, none⟩) 3 3, .slice (some ⟨w7.heap.size + 3, 0, none⟩) 4 4, .slice (some ⟨w7.heap.size + 4, 0, none⟩) 5 5] 27)) := ⟨_, rfl⟩
  have hz9 : W9.heap.size = w7.heap.size + 6 := by rw [hW9]; simp only [sz_al]
  have hb9 : Below w7.heap.size w7 W9 := by rw [hW9]; exact ((((((Below.refl _ _).alloc (by (repeat rw [sz_al]); omega) _).alloc (by (repeat rw [sz_al]); omega) _).alloc (by (repeat rw [sz_al]); omega) _).alloc (by (repeat rw [sz_al]); omega) _).alloc (by (repeat rw [sz_al]); omega) _).alloc (by (repeat rw [sz_al]); omega) _
  have r5 : W9.heap[w7.heap.size + 5]? = some (.cells #[.slice (some ⟨w7.heap.size, 0, none⟩) 2 2, .slice (some ⟨w7.heap.size + 1, 0, none⟩) 2 2, .slice (some ⟨w7.heap.size + 2, 0, none⟩) 3 3, .slice (some ⟨w7.heap.size + 3, 0, none⟩) 4 4, .slice (some ⟨w7.heap.size + 4, 0, none⟩) 5 5] 27 (0, 0)) := by rw [hW9]; exact (by (repeat (first | rw [hp_al] | rw [hp_sc] | rw [sz_al] | rw [sz_sc] | rw [if_neg (by omega)] | rw [if_pos (by omega)])); all_goals first | rfl | assumption)
  have ra : W9.heap[w7.heap.size]? = some (.cells #[.int .i64 0, .int .i64 11] 3 (0, 0)) := by rw [hW9]; exact (by (repeat (first | rw [hp_al] | rw [hp_sc] | rw [sz_al] | rw [sz_sc] | rw [if_neg (by omega)] | rw [if_pos (by omega)])); all_goals first | rfl | assumption)
  have y0 : W9.cell? ⟨w7.heap.size + 5, 0, none⟩ = _ := bxq_cell r5 rfl
  go_upto_region 9 with fail
  rw [← hW9]
  clear hW9
  have HB9 : Hid _ := hb9
  have HS9 : Hid (Sl kLy W9 (fun k => k < w7.heap.size) (.slice al 16 cl) (allJ aboP)) := HS.out.keep fun k q => hb9.block k q
  have HC : Hid (∀ (j : Nat) (x : Int), ([0, 11] : List Int)[j]? = some x → W9.cell? ⟨w7.heap.size, j, none⟩ = some (.int .i64 x)) := fun j x h => by
    rcases j with _ | _ | _
    all_goals first | (cases h; exact bxq_cell ra rfl) | simp at h
  have HW : Hid (Sl kI W9 (fun k => k < W9.heap.size) (.slice (some ⟨w7.heap.size, 0, none⟩) 2 2) [0, 11]) := Sl.blk [[.int .i64 0], [.int .i64 11]] (T := 3) ra (show _ < _ by omega) rfl rfl rfl (by decide) fun i y r hy hr => by
    rcases i with _ | _ | _
    all_goals first | (cases hy; cases hr; rfl) | simp at hy
  have hab : ∀ y ∈ allJ aboP, y.abv.length ≤ 9223372036854775806 := fun y hy => by
    have q := of_decide_eq_true (List.all_eq_true.1 abo_abv y hy)
    omega
  have HI : Hid (∀ sub sup, Calls Tryz.prog 18 #[.slice al 16 cl, .int .i64 sub, .int .i64 sup] W9 fun e w' => e = .returned (.bool (isLy (allJ aboP) sub sup)) ∧ w' = W9) := fun sub sup => by
    have q := tis_ok HS9.out hab sub sup
    exact q
  have HD : Hid (∀ m, Calls Tryz.prog 18 #[.slice al 16 cl, .int .i64 (-1), .int .i64 0] (W9.drewN m) (fun e w' => e = .returned (.bool false) ∧ w' = W9.drewN m) ∧ Calls Tryz.prog 18 #[.slice al 16 cl, .int .i64 16, .int .i64 0] (W9.drewN m) fun e w' => e = .returned (.bool false) ∧ w' = W9.drewN m) := fun m => by
    have hD : Sl kLy (W9.drewN m) (fun k => k < w7.heap.size) (.slice al 16 cl) (allJ aboP) := HS9.out.keep fun k q => rfl
    have q1 := tis_ok hD hab (-1) 0
    have q2 := tis_ok hD hab 16 0
    rw [abo_m] at q1
    rw [abo_16] at q2
    exact ⟨q1, q2⟩
  obtain ⟨i9, hi9, hil, b, o, a3, c3, hal, -, hc3, hs3⟩ := ly_get (k := 11) (show Sl kLy W9 _ (.slice al (allJ aboP).length cl) (allJ aboP) by rw [abo_len]; exact HS9.out) (by rw [inT, abo_len]; decide)
  obtain rfl : i9 = 11 := by omega
  rw [abo_at0] at hc3 hs3
  subst hal
  have hSm := SameInts_eq hs3 HW.out
  clear hz9 hb9 r5 ra hp hil hi9 hs3 HS hab
  go_wp2_with fail
  go_loopg [9] 17 (fun kx s9 wr => ∃ i : Nat, s9 = .int .i64 i ∧ i ≤ 16 ∧ 16 - i ≤ kx ∧ wr = W9)
  case atStart => exact ⟨0, rfl, by omega, by omega, rfl⟩
  case round =>
    obtain ⟨i, rfl, hi, hk, rfl⟩ := hrel
    by_cases hlt : i < 16
    · have hl2 : (i : Int) < 16 := by omega
      go_wp2_with fail
      go_loopg [10, 11] 10 (fun kx s10 s11 wx => ∃ j : Nat, s11 = .int .i64 j ∧ s10 = .bool ((([0, 11] : List Int).take j).contains (i : Int)) ∧ j ≤ 2 ∧ 2 - j ≤ kx ∧ wx = wr)
      case atStart => exact ⟨0, rfl, rfl, by omega, by omega, rfl⟩
      case round =>
        obtain ⟨j, rfl, rfl, hj, hkj, rfl⟩ := hrel
        by_cases hjn : j < 2
        · have hl3 : (j : Int) < 2 := by omega
          obtain ⟨x, hx⟩ : ∃ x, ([0, 11] : List Int)[j]? = some x := ⟨_, List.getElem?_eq_getElem hjn⟩
          have cx := HC.out j x hx
          have HT : Hid _ := take_has hx (i : Int)
          clear hx
          rcases hb : ((([0, 11] : List Int).take j).contains (i : Int)) with _ | _
          · rcases hq : (x == (i : Int)) with _ | _
            all_goals (
              go_wp2
              go_roundg (2 - (j + 1))
              case measure => omega
              case rel => exact ⟨j + 1, by go_num, by rw [HT.out, hb, hq]; rfl, by omega, Nat.le_refl _, rfl⟩)
          · go_wp2
            go_roundg (2 - (j + 1))
            case measure => omega
            case rel => exact ⟨j + 1, by go_num, by rw [HT.out, hb]; rfl, by omega, Nat.le_refl _, rfl⟩
        · obtain rfl : j = 2 := by omega
          have hIs := HI.out 11 (i : Int)
          have he := eq_of_beq (List.all_eq_true.1 abo_is0 i (List.mem_range.2 hlt))
          rw [he] at hIs
          rw [show ([0, 11] : List Int).take 2 = [0, 11] from rfl]
          clear he
          rcases hb : (([0, 11] : List Int).contains (i : Int)) with _ | _
          all_goals (
            rw [hb] at hIs
            go_wp2_with (go_at_call 18; refine hIs.mono ?_; clear hIs; rintro e w10 ⟨rfl, hw10⟩; replace hw10 := hw10.symm; subst hw10)
            go_roundg (16 - (i + 1))
            case measure => omega
            case rel => exact ⟨i + 1, by go_num, by omega, Nat.le_refl _, rfl⟩)
    · obtain rfl : i = 16 := by omega
      have hl2 : ¬ ((16 : Nat) : Int) < 16 := by omega
      go_wp2_with (first
        | (go_at_call 19; refine hSm.mono ?_; clear hSm; rintro e w10 ⟨rfl, m, rfl⟩; obtain ⟨hI1, hI2⟩ := HD.out m; have HM : Hid (Below w7.heap.size wr (wr.drewN m)) := ⟨rfl, rfl, rfl, Nat.le_refl _, fun _ _ => rfl⟩)
        | (go_at_call 18; first | (refine hI1.mono ?_; clear hI1; rintro e w11 ⟨rfl, hw11⟩; replace hw11 := hw11.symm; subst hw11) | (refine hI2.mono ?_; clear hI2; rintro e w12 ⟨rfl, hw12⟩; replace hw12 := hw12.symm; subst hw12)))
      go_ret
      exact ⟨rfl, HB1.out.trans ((((HB5.out.trans (HB6.out.mono HB5.out.size)).trans (HB7.out.mono (HB5.out.trans (HB6.out.mono HB5.out.size)).size)).trans ((HB9.out.trans HM.out).mono (((HB5.out.trans (HB6.out.mono HB5.out.size)).trans (HB7.out.mono (HB5.out.trans (HB6.out.mono HB5.out.size)).size))).size)).mono HB1.out.size)⟩
set_option maxRecDepth 20000 in
set_option maxHeartbeats 8000000 in
theorem above_1 (n : Int) (hp : wrap64 ((IntKind.u64.wrap n).tmod 5) = 1) (w : World) : Calls Tryz.prog 10 #[.int .i64 n] w fun e w' => e = .returned (.bool true) ∧ Below w.heap.size w w' := by
  have hA := awake15 w
  go_enter Tryz.func10, Tryz.ntmps10
  go_upto_region 4 with (first
    | (go_at_call 11; refine hA.mono ?_; clear hA; rintro e w1 ⟨rfl, hb1⟩; have HB1 : Hid (Below w.heap.size w w1) := hb1; clear hb1)
    | (go_at_call 12; refine (withN (n := 4) (S := fun k => k < w1.heap.size + 3) (xs := [⟨⟨#[73]⟩, true, false, 0, [], [], [], []⟩, ⟨⟨#[74]⟩, true, false, 0, [12], [], [], []⟩, ⟨⟨#[65]⟩, false, false, 0, [13], [], [], []⟩, ⟨⟨#[66]⟩, false, false, 14, [], [], [], []⟩]) rfl (fun k (q : k < _) => (by (repeat (first | rw [sz_al] | rw [sz_sc])); omega)) (by
        refine Sl.blk [[.string ⟨#[73]⟩, .bool true, .bool false, .int .i64 0, .slice none 0 0, .slice none 0 0, .slice none 0 0, .slice none 0 0], [.string ⟨#[74]⟩, .bool true, .bool false, .int .i64 0, .slice (some ⟨w1.heap.size, 0, none⟩) 1 1, .slice none 0 0, .slice none 0 0, .slice none 0 0], [.string ⟨#[65]⟩, .bool false, .bool false, .int .i64 0, .slice (some ⟨w1.heap.size + 1, 0, none⟩) 1 1, .slice none 0 0, .slice none 0 0, .slice none 0 0], [.string ⟨#[66]⟩, .bool false, .bool false, .int .i64 14, .slice none 0 0, .slice none 0 0, .slice none 0 0, .slice none 0 0]] (T := 31) (by (repeat (first | rw [hp_al] | rw [hp_sc] | rw [sz_al] | rw [sz_sc] | rw [if_neg (by omega)] | rw [if_pos (by omega)])); all_goals first | rfl | assumption) (show _ < _ by omega) rfl rfl rfl (by decide) fun i y r hy hr => ?_
        match i, hy, hr with
        | 0, hy, hr => cases hy; cases hr; exact ⟨_, _, _, _, rfl, Sl.nil _ _ _, Sl.nil _ _ _, Sl.nil _ _ _, Sl.nil _ _ _⟩
        | 1, hy, hr =>
          cases hy; cases hr
          refine ⟨_, _, _, _, rfl, ?_, Sl.nil _ _ _, Sl.nil _ _ _, Sl.nil _ _ _⟩
          refine Sl.blk [[.int .i64 12]] (T := 3) (by (repeat (first | rw [hp_al] | rw [hp_sc] | rw [sz_al] | rw [sz_sc] | rw [if_neg (by omega)] | rw [if_pos (by omega)])); all_goals first | rfl | assumption) (show _ < _ by omega) rfl rfl rfl (by decide) fun i y r hy hr => ?_
          match i, hy, hr with
          | 0, hy, hr => cases hy; cases hr; rfl
        | 2, hy, hr =>
          cases hy; cases hr
          refine ⟨_, _, _, _, rfl, ?_, Sl.nil _ _ _, Sl.nil _ _ _, Sl.nil _ _ _⟩
          refine Sl.blk [[.int .i64 13]] (T := 3) (by (repeat (first | rw [hp_al] | rw [hp_sc] | rw [sz_al] | rw [sz_sc] | rw [if_neg (by omega)] | rw [if_pos (by omega)])); all_goals first | rfl | assumption) (show _ < _ by omega) rfl rfl rfl (by decide) fun i y r hy hr => ?_
          match i, hy, hr with
          | 0, hy, hr => cases hy; cases hr; rfl
        | 3, hy, hr => cases hy; cases hr; exact ⟨_, _, _, _, rfl, Sl.nil _ _ _, Sl.nil _ _ _, Sl.nil _ _ _, Sl.nil _ _ _⟩) (by decide) (by decide)).mono ?_; rintro e w5 ⟨g, c, rfl, hb5, S', hS', hs⟩; have HB5 : Hid (Below w1.heap.size w1 w5) := ((((Below.refl _ _).alloc (Nat.le_refl _) _).alloc (by rw [sz_al]; omega) _).alloc (by rw [sz_al, sz_al]; omega) _).trans (hb5.mono (by rw [sz_al, sz_al, sz_al]; omega)); have HS' : Hid (∀ k, S' k → k < w5.heap.size) := hS'; have HS : Hid (Sl kCs w5 S' (.slice (some ⟨g, 0, none⟩) 5 c) aboP.cls) := hs; clear hb5 hS' hs))
  obtain ⟨W6, hW6⟩ : ∃ X, X = w5.alloc (.cells #[.int .i64 11, .slice (some ⟨g, 0, none⟩) 5 c] 25) := ⟨_, rfl⟩
  have g6 : W6.heap[w5.heap.size]? = some (.cells #[.int .i64 11, .slice (some ⟨g, 0, none⟩) 5 c] 25 (0, 0)) := by rw [hW6]; exact heap_alloc_new _ _
  have hb6 : Below w5.heap.size w5 W6 := by rw [hW6]; exact (Below.refl _ _).alloc (Nat.le_refl _) _
  rw [← hW6]
  clear hW6
  have c0 : W6.cell? ⟨w5.heap.size, 0, none⟩ = some (.int .i64 11) := bxq_cell g6 rfl
  have c1 : W6.cell? ⟨w5.heap.size, 1, none⟩ = some (.slice (some ⟨g, 0, none⟩) 5 c) := bxq_cell g6 rfl
  have hL := load_any (w := W6) (S := S') (p := aboP) (cs := [.int .i64 11, .slice (some ⟨g, 0, none⟩) 5 c]) aboO (fun k q => Nat.lt_of_lt_of_le (HS'.out k q) hb6.size) ⟨_, rfl, HS.out.keep fun k q => hb6.block k (HS'.out k q)⟩
  unfold LdQ at hL
  rw [aboJ] at hL
  have HB6 : Hid _ := hb6
  clear hb6 g6 HS' HS
  go_upto_region 8 with (first
    | (go_at_call 15; refine hL.mono ?_; clear hL; rintro e w7 ⟨hb7, vl, rfl, hs⟩; have HB7 : Hid (Below W6.heap.size W6 w7) := hb7; obtain ⟨al, cl, hvl⟩ := hs.form; rw [abo_len] at hvl; subst hvl; have HS : Hid (Sl kLy w7 (fun k => k < w7.heap.size) (.slice al 16 cl) (allJ aboP)) := (soft_Ly hs).mono fun k q => q.2; clear hb7 hs)
    | (go_at_call 16; refine (num_any _ _).mono ?_; rintro e w9 ⟨rfl, hw9⟩; replace hw9 := hw9.symm; subst hw9))
  obtain ⟨W9, hW9⟩ : ∃ X, X = ((((((w7.alloc (.cells #[.int .i64 0, .int .i64 11] 3)).alloc (.cells #[.int .i64 0, .int .i64 12] 3)).alloc (.cells #[.int .i64 0, .int .i64 12, .int .i64 13] 3)).alloc (.cells #[.int .i64 0, .int .i64 12, .int .i64 13, .int .i64 14] 3)).alloc (.cells #[.int .i64 0, .int .i64 12, .int .i64 13, .int .i64 14, .int .i64 15] 3)).alloc (.cells #[.slice (some ⟨w7.heap.size, 0, none⟩) 2 2, .slice (some ⟨w7.heap.size + 1, 0, none⟩) 2 2, .slice (some ⟨w7.heap.size + 2, 0, none⟩) 3 3, .slice (some ⟨w7.heap.size + 3, 0, none⟩) 4 4, .slice (some ⟨w7.heap.size + 4, 0, none⟩) 5 5] 27)) := ⟨_, rfl⟩
  have hz9 : W9.heap.size = w7.heap.size + 6 := by rw [hW9]; simp only [sz_al]
  have hb9 : Below w7.heap.size w7 W9 := by rw [hW9]; exact ((((((Below.refl _ _).alloc (by (repeat rw [sz_al]); omega) _).alloc (by (repeat rw [sz_al]); omega) _).alloc (by (repeat rw [sz_al]); omega) _).alloc (by (repeat rw [sz_al]); omega) _).alloc (by (repeat rw [sz_al]); omega) _).alloc (by (repeat rw [sz_al]); omega) _
  have r5 : W9.heap[w7.heap.size + 5]? = some (.cells #[.slice (some ⟨w7.heap.size, 0, none⟩) 2 2, .slice (some ⟨w7.heap.size + 1, 0, none⟩) 2 2, .slice (some ⟨w7.heap.size + 2, 0, none⟩) 3 3, .slice (some ⟨w7.heap.size + 3, 0, none⟩) 4 4, .slice (some ⟨w7.heap.size + 4, 0, none⟩) 5 5] 27 (0, 0)) := by rw [hW9]; exact (by (repeat (first | rw [hp_al] | rw [hp_sc] | rw [sz_al] | rw [sz_sc] | rw [if_neg (by omega)] | rw [if_pos (by omega)])); all_goals first | rfl | assumption)
  have ra : W9.heap[w7.heap.size + 1]? = some (.cells #[.int .i64 0, .int .i64 12] 3 (0, 0)) := by rw [hW9]; exact (by (repeat (first | rw [hp_al] | rw [hp_sc] | rw [sz_al] | rw [sz_sc] | rw [if_neg (by omega)] | rw [if_pos (by omega)])); all_goals first | rfl | assumption)
  have y1 : W9.cell? ⟨w7.heap.size + 5, 1, none⟩ = _ := bxq_cell r5 rfl
  go_upto_region 9 with fail
  rw [← hW9]
  clear hW9
  have HB9 : Hid _ := hb9
  have HS9 : Hid (Sl kLy W9 (fun k => k < w7.heap.size) (.slice al 16 cl) (allJ aboP)) := HS.out.keep fun k q => hb9.block k q
  have HC : Hid (∀ (j : Nat) (x : Int), ([0, 12] : List Int)[j]? = some x → W9.cell? ⟨w7.heap.size + 1, j, none⟩ = some (.int .i64 x)) := fun j x h => by
    rcases j with _ | _ | _
    all_goals first | (cases h; exact bxq_cell ra rfl) | simp at h
  have HW : Hid (Sl kI W9 (fun k => k < W9.heap.size) (.slice (some ⟨w7.heap.size + 1, 0, none⟩) 2 2) [0, 12]) := Sl.blk [[.int .i64 0], [.int .i64 12]] (T := 3) ra (show _ < _ by omega) rfl rfl rfl (by decide) fun i y r hy hr => by
    rcases i with _ | _ | _
    all_goals first | (cases hy; cases hr; rfl) | simp at hy
  have hab : ∀ y ∈ allJ aboP, y.abv.length ≤ 9223372036854775806 := fun y hy => by
    have q := of_decide_eq_true (List.all_eq_true.1 abo_abv y hy)
    omega
  have HI : Hid (∀ sub sup, Calls Tryz.prog 18 #[.slice al 16 cl, .int .i64 sub, .int .i64 sup] W9 fun e w' => e = .returned (.bool (isLy (allJ aboP) sub sup)) ∧ w' = W9) := fun sub sup => by
    have q := tis_ok HS9.out hab sub sup
    exact q
  have HD : Hid (∀ m, Calls Tryz.prog 18 #[.slice al 16 cl, .int .i64 (-1), .int .i64 0] (W9.drewN m) (fun e w' => e = .returned (.bool false) ∧ w' = W9.drewN m) ∧ Calls Tryz.prog 18 #[.slice al 16 cl, .int .i64 16, .int .i64 0] (W9.drewN m) fun e w' => e = .returned (.bool false) ∧ w' = W9.drewN m) := fun m => by
    have hD : Sl kLy (W9.drewN m) (fun k => k < w7.heap.size) (.slice al 16 cl) (allJ aboP) := HS9.out.keep fun k q => rfl
    have q1 := tis_ok hD hab (-1) 0
    have q2 := tis_ok hD hab 16 0
    rw [abo_m] at q1
    rw [abo_16] at q2
    exact ⟨q1, q2⟩
  obtain ⟨i9, hi9, hil, b, o, a3, c3, hal, -, hc3, hs3⟩ := ly_get (k := 12) (show Sl kLy W9 _ (.slice al (allJ aboP).length cl) (allJ aboP) by rw [abo_len]; exact HS9.out) (by rw [inT, abo_len]; decide)
  obtain rfl : i9 = 12 := by omega
  rw [abo_at1] at hc3 hs3
  subst hal
  have hSm := SameInts_eq hs3 HW.out
  clear hz9 hb9 r5 ra hp hil hi9 hs3 HS hab
  go_wp2_with fail
  go_loopg [9] 17 (fun kx s9 wr => ∃ i : Nat, s9 = .int .i64 i ∧ i ≤ 16 ∧ 16 - i ≤ kx ∧ wr = W9)
  case atStart => exact ⟨0, rfl, by omega, by omega, rfl⟩
  case round =>
    obtain ⟨i, rfl, hi, hk, rfl⟩ := hrel
    by_cases hlt : i < 16
    · have hl2 : (i : Int) < 16 := by omega
      go_wp2_with fail
      go_loopg [10, 11] 10 (fun kx s10 s11 wx => ∃ j : Nat, s11 = .int .i64 j ∧ s10 = .bool ((([0, 12] : List Int).take j).contains (i : Int)) ∧ j ≤ 2 ∧ 2 - j ≤ kx ∧ wx = wr)
      case atStart => exact ⟨0, rfl, rfl, by omega, by omega, rfl⟩
      case round =>
        obtain ⟨j, rfl, rfl, hj, hkj, rfl⟩ := hrel
        by_cases hjn : j < 2
        · have hl3 : (j : Int) < 2 := by omega
          obtain ⟨x, hx⟩ : ∃ x, ([0, 12] : List Int)[j]? = some x := ⟨_, List.getElem?_eq_getElem hjn⟩
          have cx := HC.out j x hx
          have HT : Hid _ := take_has hx (i : Int)
          clear hx
          rcases hb : ((([0, 12] : List Int).take j).contains (i : Int)) with _ | _
          · rcases hq : (x == (i : Int)) with _ | _
            all_goals (
              go_wp2
              go_roundg (2 - (j + 1))
              case measure => omega
              case rel => exact ⟨j + 1, by go_num, by rw [HT.out, hb, hq]; rfl, by omega, Nat.le_refl _, rfl⟩)
          · go_wp2
            go_roundg (2 - (j + 1))
            case measure => omega
            case rel => exact ⟨j + 1, by go_num, by rw [HT.out, hb]; rfl, by omega, Nat.le_refl _, rfl⟩
        · obtain rfl : j = 2 := by omega
          have hIs := HI.out 12 (i : Int)
          have he := eq_of_beq (List.all_eq_true.1 abo_is1 i (List.mem_range.2 hlt))
          rw [he] at hIs
          rw [show ([0, 12] : List Int).take 2 = [0, 12] from rfl]
          clear he
          rcases hb : (([0, 12] : List Int).contains (i : Int)) with _ | _
          all_goals (
            rw [hb] at hIs
            go_wp2_with (go_at_call 18; refine hIs.mono ?_; clear hIs; rintro e w10 ⟨rfl, hw10⟩; replace hw10 := hw10.symm; subst hw10)
            go_roundg (16 - (i + 1))
            case measure => omega
            case rel => exact ⟨i + 1, by go_num, by omega, Nat.le_refl _, rfl⟩)
    · obtain rfl : i = 16 := by omega
      have hl2 : ¬ ((16 : Nat) : Int) < 16 := by omega
      go_wp2_with (first
        | (go_at_call 19; refine hSm.mono ?_; clear hSm; rintro e w10 ⟨rfl, m, rfl⟩; obtain ⟨hI1, hI2⟩ := HD.out m; have HM : Hid (Below w7.heap.size wr (wr.drewN m)) := ⟨rfl, rfl, rfl, Nat.le_refl _, fun _ _ => rfl⟩)
        | (go_at_call 18; first | (refine hI1.mono ?_; clear hI1; rintro e w11 ⟨rfl, hw11⟩; replace hw11 := hw11.symm; subst hw11) | (refine hI2.mono ?_; clear hI2; rintro e w12 ⟨rfl, hw12⟩; replace hw12 := hw12.symm; subst hw12)))
      go_ret
      exact ⟨rfl, HB1.out.trans ((((HB5.out.trans (HB6.out.mono HB5.out.size)).trans (HB7.out.mono (HB5.out.trans (HB6.out.mono HB5.out.size)).size)).trans ((HB9.out.trans HM.out).mono (((HB5.out.trans (HB6.out.mono HB5.out.size)).trans (HB7.out.mono (HB5.out.trans (HB6.out.mono HB5.out.size)).size))).size)).mono HB1.out.size)⟩
set_option maxRecDepth 20000 in
set_option maxHeartbeats 8000000 in
theorem above_2 (n : Int) (hp : wrap64 ((IntKind.u64.wrap n).tmod 5) = 2) (w : World) : Calls Tryz.prog 10 #[.int .i64 n] w fun e w' => e = .returned (.bool true) ∧ Below w.heap.size w w' := by
  have hA := awake15 w
  go_enter Tryz.func10, Tryz.ntmps10
  go_upto_region 4 with (first
    | (go_at_call 11; refine hA.mono ?_; clear hA; rintro e w1 ⟨rfl, hb1⟩; have HB1 : Hid (Below w.heap.size w w1) := hb1; clear hb1)
    | (go_at_call 12; refine (withN (n := 4) (S := fun k => k < w1.heap.size + 3) (xs := [⟨⟨#[73]⟩, true, false, 0, [], [], [], []⟩, ⟨⟨#[74]⟩, true, false, 0, [12], [], [], []⟩, ⟨⟨#[65]⟩, false, false, 0, [13], [], [], []⟩, ⟨⟨#[66]⟩, false, false, 14, [], [], [], []⟩]) rfl (fun k (q : k < _) => (by (repeat (first | rw [sz_al] | rw [sz_sc])); omega)) (by
        refine Sl.blk [[.string ⟨#[73]⟩, .bool true, .bool false, .int .i64 0, .slice none 0 0, .slice none 0 0, .slice none 0 0, .slice none 0 0], [.string ⟨#[74]⟩, .bool true, .bool false, .int .i64 0, .slice (some ⟨w1.heap.size, 0, none⟩) 1 1, .slice none 0 0, .slice none 0 0, .slice none 0 0], [.string ⟨#[65]⟩, .bool false, .bool false, .int .i64 0, .slice (some ⟨w1.heap.size + 1, 0, none⟩) 1 1, .slice none 0 0, .slice none 0 0, .slice none 0 0], [.string ⟨#[66]⟩, .bool false, .bool false, .int .i64 14, .slice none 0 0, .slice none 0 0, .slice none 0 0, .slice none 0 0]] (T := 31) (by (repeat (first | rw [hp_al] | rw [hp_sc] | rw [sz_al] | rw [sz_sc] | rw [if_neg (by omega)] | rw [if_pos (by omega)])); all_goals first | rfl | assumption) (show _ < _ by omega) rfl rfl rfl (by decide) fun i y r hy hr => ?_
        match i, hy, hr with
        | 0, hy, hr => cases hy; cases hr; exact ⟨_, _, _, _, rfl, Sl.nil _ _ _, Sl.nil _ _ _, Sl.nil _ _ _, Sl.nil _ _ _⟩
        | 1, hy, hr =>
          cases hy; cases hr
          refine ⟨_, _, _, _, rfl, ?_, Sl.nil _ _ _, Sl.nil _ _ _, Sl.nil _ _ _⟩
          refine Sl.blk [[.int .i64 12]] (T := 3) (by (repeat (first | rw [hp_al] | rw [hp_sc] | rw [sz_al] | rw [sz_sc] | rw [if_neg (by omega)] | rw [if_pos (by omega)])); all_goals first | rfl | assumption) (show _ < _ by omega) rfl rfl rfl (by decide) fun i y r hy hr => ?_
          match i, hy, hr with
          | 0, hy, hr => cases hy; cases hr; rfl
        | 2, hy, hr =>
          cases hy; cases hr
          refine ⟨_, _, _, _, rfl, ?_, Sl.nil _ _ _, Sl.nil _ _ _, Sl.nil _ _ _⟩
          refine Sl.blk [[.int .i64 13]] (T := 3) (by (repeat (first | rw [hp_al] | rw [hp_sc] | rw [sz_al] | rw [sz_sc] | rw [if_neg (by omega)] | rw [if_pos (by omega)])); all_goals first | rfl | assumption) (show _ < _ by omega) rfl rfl rfl (by decide) fun i y r hy hr => ?_
          match i, hy, hr with
          | 0, hy, hr => cases hy; cases hr; rfl
        | 3, hy, hr => cases hy; cases hr; exact ⟨_, _, _, _, rfl, Sl.nil _ _ _, Sl.nil _ _ _, Sl.nil _ _ _, Sl.nil _ _ _⟩) (by decide) (by decide)).mono ?_; rintro e w5 ⟨g, c, rfl, hb5, S', hS', hs⟩; have HB5 : Hid (Below w1.heap.size w1 w5) := ((((Below.refl _ _).alloc (Nat.le_refl _) _).alloc (by rw [sz_al]; omega) _).alloc (by rw [sz_al, sz_al]; omega) _).trans (hb5.mono (by rw [sz_al, sz_al, sz_al]; omega)); have HS' : Hid (∀ k, S' k → k < w5.heap.size) := hS'; have HS : Hid (Sl kCs w5 S' (.slice (some ⟨g, 0, none⟩) 5 c) aboP.cls) := hs; clear hb5 hS' hs))
  obtain ⟨W6, hW6⟩ : ∃ X, X = w5.alloc (.cells #[.int .i64 11, .slice (some ⟨g, 0, none⟩) 5 c] 25) := ⟨_, rfl⟩
  have g6 : W6.heap[w5.heap.size]? = some (.cells #[.int .i64 11, .slice (some ⟨g, 0, none⟩) 5 c] 25 (0, 0)) := by rw [hW6]; exact heap_alloc_new _ _
  have hb6 : Below w5.heap.size w5 W6 := by rw [hW6]; exact (Below.refl _ _).alloc (Nat.le_refl _) _
  rw [← hW6]
  clear hW6
  have c0 : W6.cell? ⟨w5.heap.size, 0, none⟩ = some (.int .i64 11) := bxq_cell g6 rfl
  have c1 : W6.cell? ⟨w5.heap.size, 1, none⟩ = some (.slice (some ⟨g, 0, none⟩) 5 c) := bxq_cell g6 rfl
  have hL := load_any (w := W6) (S := S') (p := aboP) (cs := [.int .i64 11, .slice (some ⟨g, 0, none⟩) 5 c]) aboO (fun k q => Nat.lt_of_lt_of_le (HS'.out k q) hb6.size) ⟨_, rfl, HS.out.keep fun k q => hb6.block k (HS'.out k q)⟩
  unfold LdQ at hL
  rw [aboJ] at hL
  have HB6 : Hid _ := hb6
  clear hb6 g6 HS' HS
  go_upto_region 8 with (first
    | (go_at_call 15; refine hL.mono ?_; clear hL; rintro e w7 ⟨hb7, vl, rfl, hs⟩; have HB7 : Hid (Below W6.heap.size W6 w7) := hb7; obtain ⟨al, cl, hvl⟩ := hs.form; rw [abo_len] at hvl; subst hvl; have HS : Hid (Sl kLy w7 (fun k => k < w7.heap.size) (.slice al 16 cl) (allJ aboP)) := (soft_Ly hs).mono fun k q => q.2; clear hb7 hs)
    | (go_at_call 16; refine (num_any _ _).mono ?_; rintro e w9 ⟨rfl, hw9⟩; replace hw9 := hw9.symm; subst hw9))
  obtain ⟨W9, hW9⟩ : ∃ X, X = ((((((w7.alloc (.cells #[.int .i64 0, .int .i64 11] 3)).alloc (.cells #[.int .i64 0, .int .i64 12] 3)).alloc (.cells #[.int .i64 0, .int .i64 12, .int .i64 13] 3)).alloc (.cells #[.int .i64 0, .int .i64 12, .int .i64 13, .int .i64 14] 3)).alloc (.cells #[.int .i64 0, .int .i64 12, .int .i64 13, .int .i64 14, .int .i64 15] 3)).alloc (.cells #[.slice (some ⟨w7.heap.size, 0, none⟩) 2 2, .slice (some ⟨w7.heap.size + 1, 0, none⟩) 2 2, .slice (some ⟨w7.heap.size + 2, 0, none⟩) 3 3, .slice (some ⟨w7.heap.size + 3, 0, none⟩) 4 4, .slice (some ⟨w7.heap.size + 4, 0, none⟩) 5 5] 27)) := ⟨_, rfl⟩
  have hz9 : W9.heap.size = w7.heap.size + 6 := by rw [hW9]; simp only [sz_al]
  have hb9 : Below w7.heap.size w7 W9 := by rw [hW9]; exact ((((((Below.refl _ _).alloc (by (repeat rw [sz_al]); omega) _).alloc (by (repeat rw [sz_al]); omega) _).alloc (by (repeat rw [sz_al]); omega) _).alloc (by (repeat rw [sz_al]); omega) _).alloc (by (repeat rw [sz_al]); omega) _).alloc (by (repeat rw [sz_al]); omega) _
  have r5 : W9.heap[w7.heap.size + 5]? = some (.cells #[.slice (some ⟨w7.heap.size, 0, none⟩) 2 2, .slice (some ⟨w7.heap.size + 1, 0, none⟩) 2 2, .slice (some ⟨w7.heap.size + 2, 0, none⟩) 3 3, .slice (some ⟨w7.heap.size + 3, 0, none⟩) 4 4, .slice (some ⟨w7.heap.size + 4, 0, none⟩) 5 5] 27 (0, 0)) := by rw [hW9]; exact (by (repeat (first | rw [hp_al] | rw [hp_sc] | rw [sz_al] | rw [sz_sc] | rw [if_neg (by omega)] | rw [if_pos (by omega)])); all_goals first | rfl | assumption)
  have ra : W9.heap[w7.heap.size + 2]? = some (.cells #[.int .i64 0, .int .i64 12, .int .i64 13] 3 (0, 0)) := by rw [hW9]; exact (by (repeat (first | rw [hp_al] | rw [hp_sc] | rw [sz_al] | rw [sz_sc] | rw [if_neg (by omega)] | rw [if_pos (by omega)])); all_goals first | rfl | assumption)
  have y2 : W9.cell? ⟨w7.heap.size + 5, 2, none⟩ = _ := bxq_cell r5 rfl
  go_upto_region 9 with fail
  rw [← hW9]
  clear hW9
  have HB9 : Hid _ := hb9
  have HS9 : Hid (Sl kLy W9 (fun k => k < w7.heap.size) (.slice al 16 cl) (allJ aboP)) := HS.out.keep fun k q => hb9.block k q
  have HC : Hid (∀ (j : Nat) (x : Int), ([0, 12, 13] : List Int)[j]? = some x → W9.cell? ⟨w7.heap.size + 2, j, none⟩ = some (.int .i64 x)) := fun j x h => by
    rcases j with _ | _ | _ | _
    all_goals first | (cases h; exact bxq_cell ra rfl) | simp at h
  have HW : Hid (Sl kI W9 (fun k => k < W9.heap.size) (.slice (some ⟨w7.heap.size + 2, 0, none⟩) 3 3) [0, 12, 13]) := Sl.blk [[.int .i64 0], [.int .i64 12], [.int .i64 13]] (T := 3) ra (show _ < _ by omega) rfl rfl rfl (by decide) fun i y r hy hr => by
    rcases i with _ | _ | _ | _
    all_goals first | (cases hy; cases hr; rfl) | simp at hy
  have hab : ∀ y ∈ allJ aboP, y.abv.length ≤ 9223372036854775806 := fun y hy => by
    have q := of_decide_eq_true (List.all_eq_true.1 abo_abv y hy)
    omega
  have HI : Hid (∀ sub sup, Calls Tryz.prog 18 #[.slice al 16 cl, .int .i64 sub, .int .i64 sup] W9 fun e w' => e = .returned (.bool (isLy (allJ aboP) sub sup)) ∧ w' = W9) := fun sub sup => by
    have q := tis_ok HS9.out hab sub sup
    exact q
  have HD : Hid (∀ m, Calls Tryz.prog 18 #[.slice al 16 cl, .int .i64 (-1), .int .i64 0] (W9.drewN m) (fun e w' => e = .returned (.bool false) ∧ w' = W9.drewN m) ∧ Calls Tryz.prog 18 #[.slice al 16 cl, .int .i64 16, .int .i64 0] (W9.drewN m) fun e w' => e = .returned (.bool false) ∧ w' = W9.drewN m) := fun m => by
    have hD : Sl kLy (W9.drewN m) (fun k => k < w7.heap.size) (.slice al 16 cl) (allJ aboP) := HS9.out.keep fun k q => rfl
    have q1 := tis_ok hD hab (-1) 0
    have q2 := tis_ok hD hab 16 0
    rw [abo_m] at q1
    rw [abo_16] at q2
    exact ⟨q1, q2⟩
  obtain ⟨i9, hi9, hil, b, o, a3, c3, hal, -, hc3, hs3⟩ := ly_get (k := 13) (show Sl kLy W9 _ (.slice al (allJ aboP).length cl) (allJ aboP) by rw [abo_len]; exact HS9.out) (by rw [inT, abo_len]; decide)
  obtain rfl : i9 = 13 := by omega
  rw [abo_at2] at hc3 hs3
  subst hal
  have hSm := SameInts_eq hs3 HW.out
  clear hz9 hb9 r5 ra hp hil hi9 hs3 HS hab
  go_wp2_with fail
  go_loopg [9] 17 (fun kx s9 wr => ∃ i : Nat, s9 = .int .i64 i ∧ i ≤ 16 ∧ 16 - i ≤ kx ∧ wr = W9)
  case atStart => exact ⟨0, rfl, by omega, by omega, rfl⟩
  case round =>
    obtain ⟨i, rfl, hi, hk, rfl⟩ := hrel
    by_cases hlt : i < 16
    · have hl2 : (i : Int) < 16 := by omega
      go_wp2_with fail
      go_loopg [10, 11] 10 (fun kx s10 s11 wx => ∃ j : Nat, s11 = .int .i64 j ∧ s10 = .bool ((([0, 12, 13] : List Int).take j).contains (i : Int)) ∧ j ≤ 3 ∧ 3 - j ≤ kx ∧ wx = wr)
      case atStart => exact ⟨0, rfl, rfl, by omega, by omega, rfl⟩
      case round =>
        obtain ⟨j, rfl, rfl, hj, hkj, rfl⟩ := hrel
        by_cases hjn : j < 3
        · have hl3 : (j : Int) < 3 := by omega
          obtain ⟨x, hx⟩ : ∃ x, ([0, 12, 13] : List Int)[j]? = some x := ⟨_, List.getElem?_eq_getElem hjn⟩
          have cx := HC.out j x hx
          have HT : Hid _ := take_has hx (i : Int)
          clear hx
          rcases hb : ((([0, 12, 13] : List Int).take j).contains (i : Int)) with _ | _
          · rcases hq : (x == (i : Int)) with _ | _
            all_goals (
              go_wp2
              go_roundg (3 - (j + 1))
              case measure => omega
              case rel => exact ⟨j + 1, by go_num, by rw [HT.out, hb, hq]; rfl, by omega, Nat.le_refl _, rfl⟩)
          · go_wp2
            go_roundg (3 - (j + 1))
            case measure => omega
            case rel => exact ⟨j + 1, by go_num, by rw [HT.out, hb]; rfl, by omega, Nat.le_refl _, rfl⟩
        · obtain rfl : j = 3 := by omega
          have hIs := HI.out 13 (i : Int)
          have he := eq_of_beq (List.all_eq_true.1 abo_is2 i (List.mem_range.2 hlt))
          rw [he] at hIs
          rw [show ([0, 12, 13] : List Int).take 3 = [0, 12, 13] from rfl]
          clear he
          rcases hb : (([0, 12, 13] : List Int).contains (i : Int)) with _ | _
          all_goals (
            rw [hb] at hIs
            go_wp2_with (go_at_call 18; refine hIs.mono ?_; clear hIs; rintro e w10 ⟨rfl, hw10⟩; replace hw10 := hw10.symm; subst hw10)
            go_roundg (16 - (i + 1))
            case measure => omega
            case rel => exact ⟨i + 1, by go_num, by omega, Nat.le_refl _, rfl⟩)
    · obtain rfl : i = 16 := by omega
      have hl2 : ¬ ((16 : Nat) : Int) < 16 := by omega
      go_wp2_with (first
        | (go_at_call 19; refine hSm.mono ?_; clear hSm; rintro e w10 ⟨rfl, m, rfl⟩; obtain ⟨hI1, hI2⟩ := HD.out m; have HM : Hid (Below w7.heap.size wr (wr.drewN m)) := ⟨rfl, rfl, rfl, Nat.le_refl _, fun _ _ => rfl⟩)
        | (go_at_call 18; first | (refine hI1.mono ?_; clear hI1; rintro e w11 ⟨rfl, hw11⟩; replace hw11 := hw11.symm; subst hw11) | (refine hI2.mono ?_; clear hI2; rintro e w12 ⟨rfl, hw12⟩; replace hw12 := hw12.symm; subst hw12)))
      go_ret
      exact ⟨rfl, HB1.out.trans ((((HB5.out.trans (HB6.out.mono HB5.out.size)).trans (HB7.out.mono (HB5.out.trans (HB6.out.mono HB5.out.size)).size)).trans ((HB9.out.trans HM.out).mono (((HB5.out.trans (HB6.out.mono HB5.out.size)).trans (HB7.out.mono (HB5.out.trans (HB6.out.mono HB5.out.size)).size))).size)).mono HB1.out.size)⟩
set_option maxRecDepth 20000 in
set_option maxHeartbeats 8000000 in
theorem above_3 (n : Int) (hp : wrap64 ((IntKind.u64.wrap n).tmod 5) = 3) (w : World) : Calls Tryz.prog 10 #[.int .i64 n] w fun e w' => e = .returned (.bool true) ∧ Below w.heap.size w w' := by
  have hA := awake15 w
  go_enter Tryz.func10, Tryz.ntmps10
  go_upto_region 4 with (first
    | (go_at_call 11; refine hA.mono ?_; clear hA; rintro e w1 ⟨rfl, hb1⟩; have HB1 : Hid (Below w.heap.size w w1) := hb1; clear hb1)
    | (go_at_call 12; refine (withN (n := 4) (S := fun k => k < w1.heap.size + 3) (xs := [⟨⟨#[73]⟩, true, false, 0, [], [], [], []⟩, ⟨⟨#[74]⟩, true, false, 0, [12], [], [], []⟩, ⟨⟨#[65]⟩, false, false, 0, [13], [], [], []⟩, ⟨⟨#[66]⟩, false, false, 14, [], [], [], []⟩]) rfl (fun k (q : k < _) => (by (repeat (first | rw [sz_al] | rw [sz_sc])); omega)) (by
        refine Sl.blk [[.string ⟨#[73]⟩, .bool true, .bool false, .int .i64 0, .slice none 0 0, .slice none 0 0, .slice none 0 0, .slice none 0 0], [.string ⟨#[74]⟩, .bool true, .bool false, .int .i64 0, .slice (some ⟨w1.heap.size, 0, none⟩) 1 1, .slice none 0 0, .slice none 0 0, .slice none 0 0], [.string ⟨#[65]⟩, .bool false, .bool false, .int .i64 0, .slice (some ⟨w1.heap.size + 1, 0, none⟩) 1 1, .slice none 0 0, .slice none 0 0, .slice none 0 0], [.string ⟨#[66]⟩, .bool false, .bool false, .int .i64 14, .slice none 0 0, .slice none 0 0, .slice none 0 0, .slice none 0 0]] (T := 31) (by (repeat (first | rw [hp_al] | rw [hp_sc] | rw [sz_al] | rw [sz_sc] | rw [if_neg (by omega)] | rw [if_pos (by omega)])); all_goals first | rfl | assumption) (show _ < _ by omega) rfl rfl rfl (by decide) fun i y r hy hr => ?_
        match i, hy, hr with
        | 0, hy, hr => cases hy; cases hr; exact ⟨_, _, _, _, rfl, Sl.nil _ _ _, Sl.nil _ _ _, Sl.nil _ _ _, Sl.nil _ _ _⟩
        | 1, hy, hr =>
          cases hy; cases hr
          refine ⟨_, _, _, _, rfl, ?_, Sl.nil _ _ _, Sl.nil _ _ _, Sl.nil _ _ _⟩
          refine Sl.blk [[.int .i64 12]] (T := 3) (by (repeat (first | rw [hp_al] | rw [hp_sc] | rw [sz_al] | rw [sz_sc] | rw [if_neg (by omega)] | rw [if_pos (by omega)])); all_goals first | rfl | assumption) (show _ < _ by omega) rfl rfl rfl (by decide) fun i y r hy hr => ?_
          match i, hy, hr with
          | 0, hy, hr => cases hy; cases hr; rfl
        | 2, hy, hr =>
          cases hy; cases hr
          refine ⟨_, _, _, _, rfl, ?_, Sl.nil _ _ _, Sl.nil _ _ _, Sl.nil _ _ _⟩
          refine Sl.blk [[.int .i64 13]] (T := 3) (by (repeat (first | rw [hp_al] | rw [hp_sc] | rw [sz_al] | rw [sz_sc] | rw [if_neg (by omega)] | rw [if_pos (by omega)])); all_goals first | rfl | assumption) (show _ < _ by omega) rfl rfl rfl (by decide) fun i y r hy hr => ?_
          match i, hy, hr with
          | 0, hy, hr => cases hy; cases hr; rfl
        | 3, hy, hr => cases hy; cases hr; exact ⟨_, _, _, _, rfl, Sl.nil _ _ _, Sl.nil _ _ _, Sl.nil _ _ _, Sl.nil _ _ _⟩) (by decide) (by decide)).mono ?_; rintro e w5 ⟨g, c, rfl, hb5, S', hS', hs⟩; have HB5 : Hid (Below w1.heap.size w1 w5) := ((((Below.refl _ _).alloc (Nat.le_refl _) _).alloc (by rw [sz_al]; omega) _).alloc (by rw [sz_al, sz_al]; omega) _).trans (hb5.mono (by rw [sz_al, sz_al, sz_al]; omega)); have HS' : Hid (∀ k, S' k → k < w5.heap.size) := hS'; have HS : Hid (Sl kCs w5 S' (.slice (some ⟨g, 0, none⟩) 5 c) aboP.cls) := hs; clear hb5 hS' hs))
  obtain ⟨W6, hW6⟩ : ∃ X, X = w5.alloc (.cells #[.int .i64 11, .slice (some ⟨g, 0, none⟩) 5 c] 25) := ⟨_, rfl⟩
  have g6 : W6.heap[w5.heap.size]? = some (.cells #[.int .i64 11, .slice (some ⟨g, 0, none⟩) 5 c] 25 (0, 0)) := by rw [hW6]; exact heap_alloc_new _ _
  have hb6 : Below w5.heap.size w5 W6 := by rw [hW6]; exact (Below.refl _ _).alloc (Nat.le_refl _) _
  rw [← hW6]
  clear hW6
  have c0 : W6.cell? ⟨w5.heap.size, 0, none⟩ = some (.int .i64 11) := bxq_cell g6 rfl
  have c1 : W6.cell? ⟨w5.heap.size, 1, none⟩ = some (.slice (some ⟨g, 0, none⟩) 5 c) := bxq_cell g6 rfl
  have hL := load_any (w := W6) (S := S') (p := aboP) (cs := [.int .i64 11, .slice (some ⟨g, 0, none⟩) 5 c]) aboO (fun k q => Nat.lt_of_lt_of_le (HS'.out k q) hb6.size) ⟨_, rfl, HS.out.keep fun k q => hb6.block k (HS'.out k q)⟩
  unfold LdQ at hL
  rw [aboJ] at hL
  have HB6 : Hid _ := hb6
  clear hb6 g6 HS' HS
  go_upto_region 8 with (first
    | (go_at_call 15; refine hL.mono ?_; clear hL; rintro e w7 ⟨hb7, vl, rfl, hs⟩; have HB7 : Hid (Below W6.heap.size W6 w7) := hb7; obtain ⟨al, cl, hvl⟩ := hs.form; rw [abo_len] at hvl; subst hvl; have HS : Hid (Sl kLy w7 (fun k => k < w7.heap.size) (.slice al 16 cl) (allJ aboP)) := (soft_Ly hs).mono fun k q => q.2; clear hb7 hs)
    | (go_at_call 16; refine (num_any _ _).mono ?_; rintro e w9 ⟨rfl, hw9⟩; replace hw9 := hw9.symm; subst hw9))
  obtain ⟨W9, hW9⟩ : ∃ X, X = ((((((w7.alloc (.cells #[.int .i64 0, .int .i64 11] 3)).alloc (.cells #[.int .i64 0, .int .i64 12] 3)).alloc (.cells #[.int .i64 0, .int .i64 12, .int .i64 13] 3)).alloc (.cells #[.int .i64 0, .int .i64 12, .int .i64 13, .int .i64 14] 3)).alloc (.cells #[.int .i64 0, .int .i64 12, .int .i64 13, .int .i64 14, .int .i64 15] 3)).alloc (.cells #[.slice (some ⟨w7.heap.size, 0, none⟩) 2 2, .slice (some ⟨w7.heap.size + 1, 0, none⟩) 2 2, .slice (some ⟨w7.heap.size + 2, 0, none⟩) 3 3, .slice (some ⟨w7.heap.size + 3, 0, none⟩) 4 4, .slice (some ⟨w7.heap.size + 4, 0, none⟩) 5 5] 27)) := ⟨_, rfl⟩
  have hz9 : W9.heap.size = w7.heap.size + 6 := by rw [hW9]; simp only [sz_al]
  have hb9 : Below w7.heap.size w7 W9 := by rw [hW9]; exact ((((((Below.refl _ _).alloc (by (repeat rw [sz_al]); omega) _).alloc (by (repeat rw [sz_al]); omega) _).alloc (by (repeat rw [sz_al]); omega) _).alloc (by (repeat rw [sz_al]); omega) _).alloc (by (repeat rw [sz_al]); omega) _).alloc (by (repeat rw [sz_al]); omega) _
  have r5 : W9.heap[w7.heap.size + 5]? = some (.cells #[.slice (some ⟨w7.heap.size, 0, none⟩) 2 2, .slice (some ⟨w7.heap.size + 1, 0, none⟩) 2 2, .slice (some ⟨w7.heap.size + 2, 0, none⟩) 3 3, .slice (some ⟨w7.heap.size + 3, 0, none⟩) 4 4, .slice (some ⟨w7.heap.size + 4, 0, none⟩) 5 5] 27 (0, 0)) := by rw [hW9]; exact (by (repeat (first | rw [hp_al] | rw [hp_sc] | rw [sz_al] | rw [sz_sc] | rw [if_neg (by omega)] | rw [if_pos (by omega)])); all_goals first | rfl | assumption)
  have ra : W9.heap[w7.heap.size + 3]? = some (.cells #[.int .i64 0, .int .i64 12, .int .i64 13, .int .i64 14] 3 (0, 0)) := by rw [hW9]; exact (by (repeat (first | rw [hp_al] | rw [hp_sc] | rw [sz_al] | rw [sz_sc] | rw [if_neg (by omega)] | rw [if_pos (by omega)])); all_goals first | rfl | assumption)
  have y3 : W9.cell? ⟨w7.heap.size + 5, 3, none⟩ = _ := bxq_cell r5 rfl
  go_upto_region 9 with fail
  rw [← hW9]
  clear hW9
  have HB9 : Hid _ := hb9
  have HS9 : Hid (Sl kLy W9 (fun k => k < w7.heap.size) (.slice al 16 cl) (allJ aboP)) := HS.out.keep fun k q => hb9.block k q
  have HC : Hid (∀ (j : Nat) (x : Int), ([0, 12, 13, 14] : List Int)[j]? = some x → W9.cell? ⟨w7.heap.size + 3, j, none⟩ = some (.int .i64 x)) := fun j x h => by
    rcases j with _ | _ | _ | _ | _
    all_goals first | (cases h; exact bxq_cell ra rfl) | simp at h
  have HW : Hid (Sl kI W9 (fun k => k < W9.heap.size) (.slice (some ⟨w7.heap.size + 3, 0, none⟩) 4 4) [0, 12, 13, 14]) := Sl.blk [[.int .i64 0], [.int .i64 12], [.int .i64 13], [.int .i64 14]] (T := 3) ra (show _ < _ by omega) rfl rfl rfl (by decide) fun i y r hy hr => by
    rcases i with _ | _ | _ | _ | _
    all_goals first | (cases hy; cases hr; rfl) | simp at hy
  have hab : ∀ y ∈ allJ aboP, y.abv.length ≤ 9223372036854775806 := fun y hy => by
    have q := of_decide_eq_true (List.all_eq_true.1 abo_abv y hy)
    omega
  have HI : Hid (∀ sub sup, Calls Tryz.prog 18 #[.slice al 16 cl, .int .i64 sub, .int .i64 sup] W9 fun e w' => e = .returned (.bool (isLy (allJ aboP) sub sup)) ∧ w' = W9) := fun sub sup => by
    have q := tis_ok HS9.out hab sub sup
    exact q
  have HD : Hid (∀ m, Calls Tryz.prog 18 #[.slice al 16 cl, .int .i64 (-1), .int .i64 0] (W9.drewN m) (fun e w' => e = .returned (.bool false) ∧ w' = W9.drewN m) ∧ Calls Tryz.prog 18 #[.slice al 16 cl, .int .i64 16, .int .i64 0] (W9.drewN m) fun e w' => e = .returned (.bool false) ∧ w' = W9.drewN m) := fun m => by
    have hD : Sl kLy (W9.drewN m) (fun k => k < w7.heap.size) (.slice al 16 cl) (allJ aboP) := HS9.out.keep fun k q => rfl
    have q1 := tis_ok hD hab (-1) 0
    have q2 := tis_ok hD hab 16 0
    rw [abo_m] at q1
    rw [abo_16] at q2
    exact ⟨q1, q2⟩
  obtain ⟨i9, hi9, hil, b, o, a3, c3, hal, -, hc3, hs3⟩ := ly_get (k := 14) (show Sl kLy W9 _ (.slice al (allJ aboP).length cl) (allJ aboP) by rw [abo_len]; exact HS9.out) (by rw [inT, abo_len]; decide)
  obtain rfl : i9 = 14 := by omega
  rw [abo_at3] at hc3 hs3
  subst hal
  have hSm := SameInts_eq hs3 HW.out
  clear hz9 hb9 r5 ra hp hil hi9 hs3 HS hab
  go_wp2_with fail
  go_loopg [9] 17 (fun kx s9 wr => ∃ i : Nat, s9 = .int .i64 i ∧ i ≤ 16 ∧ 16 - i ≤ kx ∧ wr = W9)
  case atStart => exact ⟨0, rfl, by omega, by omega, rfl⟩
  case round =>
    obtain ⟨i, rfl, hi, hk, rfl⟩ := hrel
    by_cases hlt : i < 16
    · have hl2 : (i : Int) < 16 := by omega
      go_wp2_with fail
      go_loopg [10, 11] 10 (fun kx s10 s11 wx => ∃ j : Nat, s11 = .int .i64 j ∧ s10 = .bool ((([0, 12, 13, 14] : List Int).take j).contains (i : Int)) ∧ j ≤ 4 ∧ 4 - j ≤ kx ∧ wx = wr)
      case atStart => exact ⟨0, rfl, rfl, by omega, by omega, rfl⟩
      case round =>
        obtain ⟨j, rfl, rfl, hj, hkj, rfl⟩ := hrel
        by_cases hjn : j < 4
        · have hl3 : (j : Int) < 4 := by omega
          obtain ⟨x, hx⟩ : ∃ x, ([0, 12, 13, 14] : List Int)[j]? = some x := ⟨_, List.getElem?_eq_getElem hjn⟩
          have cx := HC.out j x hx
          have HT : Hid _ := take_has hx (i : Int)
          clear hx
          rcases hb : ((([0, 12, 13, 14] : List Int).take j).contains (i : Int)) with _ | _
          · rcases hq : (x == (i : Int)) with _ | _
            all_goals (
              go_wp2
              go_roundg (4 - (j + 1))
              case measure => omega
              case rel => exact ⟨j + 1, by go_num, by rw [HT.out, hb, hq]; rfl, by omega, Nat.le_refl _, rfl⟩)
          · go_wp2
            go_roundg (4 - (j + 1))
            case measure => omega
            case rel => exact ⟨j + 1, by go_num, by rw [HT.out, hb]; rfl, by omega, Nat.le_refl _, rfl⟩
        · obtain rfl : j = 4 := by omega
          have hIs := HI.out 14 (i : Int)
          have he := eq_of_beq (List.all_eq_true.1 abo_is3 i (List.mem_range.2 hlt))
          rw [he] at hIs
          rw [show ([0, 12, 13, 14] : List Int).take 4 = [0, 12, 13, 14] from rfl]
          clear he
          rcases hb : (([0, 12, 13, 14] : List Int).contains (i : Int)) with _ | _
          all_goals (
            rw [hb] at hIs
            go_wp2_with (go_at_call 18; refine hIs.mono ?_; clear hIs; rintro e w10 ⟨rfl, hw10⟩; replace hw10 := hw10.symm; subst hw10)
            go_roundg (16 - (i + 1))
            case measure => omega
            case rel => exact ⟨i + 1, by go_num, by omega, Nat.le_refl _, rfl⟩)
    · obtain rfl : i = 16 := by omega
      have hl2 : ¬ ((16 : Nat) : Int) < 16 := by omega
      go_wp2_with (first
        | (go_at_call 19; refine hSm.mono ?_; clear hSm; rintro e w10 ⟨rfl, m, rfl⟩; obtain ⟨hI1, hI2⟩ := HD.out m; have HM : Hid (Below w7.heap.size wr (wr.drewN m)) := ⟨rfl, rfl, rfl, Nat.le_refl _, fun _ _ => rfl⟩)
        | (go_at_call 18; first | (refine hI1.mono ?_; clear hI1; rintro e w11 ⟨rfl, hw11⟩; replace hw11 := hw11.symm; subst hw11) | (refine hI2.mono ?_; clear hI2; rintro e w12 ⟨rfl, hw12⟩; replace hw12 := hw12.symm; subst hw12)))
      go_ret
      exact ⟨rfl, HB1.out.trans ((((HB5.out.trans (HB6.out.mono HB5.out.size)).trans (HB7.out.mono (HB5.out.trans (HB6.out.mono HB5.out.size)).size)).trans ((HB9.out.trans HM.out).mono (((HB5.out.trans (HB6.out.mono HB5.out.size)).trans (HB7.out.mono (HB5.out.trans (HB6.out.mono HB5.out.size)).size))).size)).mono HB1.out.size)⟩
set_option maxRecDepth 20000 in
set_option maxHeartbeats 8000000 in
theorem above_4 (n : Int) (hp : wrap64 ((IntKind.u64.wrap n).tmod 5) = 4) (w : World) : Calls Tryz.prog 10 #[.int .i64 n] w fun e w' => e = .returned (.bool true) ∧ Below w.heap.size w w' := by
  have hA := awake15 w
  go_enter Tryz.func10, Tryz.ntmps10
  go_upto_region 4 with (first
    | (go_at_call 11; refine hA.mono ?_; clear hA; rintro e w1 ⟨rfl, hb1⟩; have HB1 : Hid (Below w.heap.size w w1) := hb1; clear hb1)
    | (go_at_call 12; refine (withN (n := 4) (S := fun k => k < w1.heap.size + 3) (xs := [⟨⟨#[73]⟩, true, false, 0, [], [], [], []⟩, ⟨⟨#[74]⟩, true, false, 0, [12], [], [], []⟩, ⟨⟨#[65]⟩, false, false, 0, [13], [], [], []⟩, ⟨⟨#[66]⟩, false, false, 14, [], [], [], []⟩]) rfl (fun k (q : k < _) => (by (repeat (first | rw [sz_al] | rw [sz_sc])); omega)) (by
        refine Sl.blk [[.string ⟨#[73]⟩, .bool true, .bool false, .int .i64 0, .slice none 0 0, .slice none 0 0, .slice none 0 0, .slice none 0 0], [.string ⟨#[74]⟩, .bool true, .bool false, .int .i64 0, .slice (some ⟨w1.heap.size, 0, none⟩) 1 1, .slice none 0 0, .slice none 0 0, .slice none 0 0], [.string ⟨#[65]⟩, .bool false, .bool false, .int .i64 0, .slice (some ⟨w1.heap.size + 1, 0, none⟩) 1 1, .slice none 0 0, .slice none 0 0, .slice none 0 0], [.string ⟨#[66]⟩, .bool false, .bool false, .int .i64 14, .slice none 0 0, .slice none 0 0, .slice none 0 0, .slice none 0 0]] (T := 31) (by (repeat (first | rw [hp_al] | rw [hp_sc] | rw [sz_al] | rw [sz_sc] | rw [if_neg (by omega)] | rw [if_pos (by omega)])); all_goals first | rfl | assumption) (show _ < _ by omega) rfl rfl rfl (by decide) fun i y r hy hr => ?_
        match i, hy, hr with
        | 0, hy, hr => cases hy; cases hr; exact ⟨_, _, _, _, rfl, Sl.nil _ _ _, Sl.nil _ _ _, Sl.nil _ _ _, Sl.nil _ _ _⟩
        | 1, hy, hr =>
          cases hy; cases hr
          refine ⟨_, _, _, _, rfl, ?_, Sl.nil _ _ _, Sl.nil _ _ _, Sl.nil _ _ _⟩
          refine Sl.blk [[.int .i64 12]] (T := 3) (by (repeat (first | rw [hp_al] | rw [hp_sc] | rw [sz_al] | rw [sz_sc] | rw [if_neg (by omega)] | rw [if_pos (by omega)])); all_goals first | rfl | assumption) (show _ < _ by omega) rfl rfl rfl (by decide) fun i y r hy hr => ?_
          match i, hy, hr with
          | 0, hy, hr => cases hy; cases hr; rfl
        | 2, hy, hr =>
          cases hy; cases hr
          refine ⟨_, _, _, _, rfl, ?_, Sl.nil _ _ _, Sl.nil _ _ _, Sl.nil _ _ _⟩
          refine Sl.blk [[.int .i64 13]] (T := 3) (by (repeat (first | rw [hp_al] | rw [hp_sc] | rw [sz_al] | rw [sz_sc] | rw [if_neg (by omega)] | rw [if_pos (by omega)])); all_goals first | rfl | assumption) (show _ < _ by omega) rfl rfl rfl (by decide) fun i y r hy hr => ?_
          match i, hy, hr with
          | 0, hy, hr => cases hy; cases hr; rfl
        | 3, hy, hr => cases hy; cases hr; exact ⟨_, _, _, _, rfl, Sl.nil _ _ _, Sl.nil _ _ _, Sl.nil _ _ _, Sl.nil _ _ _⟩) (by decide) (by decide)).mono ?_; rintro e w5 ⟨g, c, rfl, hb5, S', hS', hs⟩; have HB5 : Hid (Below w1.heap.size w1 w5) := ((((Below.refl _ _).alloc (Nat.le_refl _) _).alloc (by rw [sz_al]; omega) _).alloc (by rw [sz_al, sz_al]; omega) _).trans (hb5.mono (by rw [sz_al, sz_al, sz_al]; omega)); have HS' : Hid (∀ k, S' k → k < w5.heap.size) := hS'; have HS : Hid (Sl kCs w5 S' (.slice (some ⟨g, 0, none⟩) 5 c) aboP.cls) := hs; clear hb5 hS' hs))
  obtain ⟨W6, hW6⟩ : ∃ X, X = w5.alloc (.cells #[.int .i64 11, .slice (some ⟨g, 0, none⟩) 5 c] 25) := ⟨_, rfl⟩
  have g6 : W6.heap[w5.heap.size]? = some (.cells #[.int .i64 11, .slice (some ⟨g, 0, none⟩) 5 c] 25 (0, 0)) := by rw [hW6]; exact heap_alloc_new _ _
  have hb6 : Below w5.heap.size w5 W6 := by rw [hW6]; exact (Below.refl _ _).alloc (Nat.le_refl _) _
  rw [← hW6]
  clear hW6
  have c0 : W6.cell? ⟨w5.heap.size, 0, none⟩ = some (.int .i64 11) := bxq_cell g6 rfl
  have c1 : W6.cell? ⟨w5.heap.size, 1, none⟩ = some (.slice (some ⟨g, 0, none⟩) 5 c) := bxq_cell g6 rfl
  have hL := load_any (w := W6) (S := S') (p := aboP) (cs := [.int .i64 11, .slice (some ⟨g, 0, none⟩) 5 c]) aboO (fun k q => Nat.lt_of_lt_of_le (HS'.out k q) hb6.size) ⟨_, rfl, HS.out.keep fun k q => hb6.block k (HS'.out k q)⟩
  unfold LdQ at hL
  rw [aboJ] at hL
  have HB6 : Hid _ := hb6
  clear hb6 g6 HS' HS
  go_upto_region 8 with (first
    | (go_at_call 15; refine hL.mono ?_; clear hL; rintro e w7 ⟨hb7, vl, rfl, hs⟩; have HB7 : Hid (Below W6.heap.size W6 w7) := hb7; obtain ⟨al, cl, hvl⟩ := hs.form; rw [abo_len] at hvl; subst hvl; have HS : Hid (Sl kLy w7 (fun k => k < w7.heap.size) (.slice al 16 cl) (allJ aboP)) := (soft_Ly hs).mono fun k q => q.2; clear hb7 hs)
    | (go_at_call 16; refine (num_any _ _).mono ?_; rintro e w9 ⟨rfl, hw9⟩; replace hw9 := hw9.symm; subst hw9))
  obtain ⟨W9, hW9⟩ : ∃ X, X = ((((((w7.alloc (.cells #[.int .i64 0, .int .i64 11] 3)).alloc (.cells #[.int .i64 0, .int .i64 12] 3)).alloc (.cells #[.int .i64 0, .int .i64 12, .int .i64 13] 3)).alloc (.cells #[.int .i64 0, .int .i64 12, .int .i64 13, .int .i64 14] 3)).alloc (.cells #[.int .i64 0, .int .i64 12, .int .i64 13, .int .i64 14, .int .i64 15] 3)).alloc (.cells #[.slice (some ⟨w7.heap.size, 0, none⟩) 2 2, .slice (some ⟨w7.heap.size + 1, 0, none⟩) 2 2, .slice (some ⟨w7.heap.size + 2, 0, none⟩) 3 3, .slice (some ⟨w7.heap.size + 3, 0, none⟩) 4 4, .slice (some ⟨w7.heap.size + 4, 0, none⟩) 5 5] 27)) := ⟨_, rfl⟩
  have hz9 : W9.heap.size = w7.heap.size + 6 := by rw [hW9]; simp only [sz_al]
  have hb9 : Below w7.heap.size w7 W9 := by rw [hW9]; exact ((((((Below.refl _ _).alloc (by (repeat rw [sz_al]); omega) _).alloc (by (repeat rw [sz_al]); omega) _).alloc (by (repeat rw [sz_al]); omega) _).alloc (by (repeat rw [sz_al]); omega) _).alloc (by (repeat rw [sz_al]); omega) _).alloc (by (repeat rw [sz_al]); omega) _
  have r5 : W9.heap[w7.heap.size + 5]? = some (.cells #[.slice (some ⟨w7.heap.size, 0, none⟩) 2 2, .slice (some ⟨w7.heap.size + 1, 0, none⟩) 2 2, .slice (some ⟨w7.heap.size + 2, 0, none⟩) 3 3, .slice (some ⟨w7.heap.size + 3, 0, none⟩) 4 4, .slice (some ⟨w7.heap.size + 4, 0, none⟩) 5 5] 27 (0, 0)) := by rw [hW9]; exact (by (repeat (first | rw [hp_al] | rw [hp_sc] | rw [sz_al] | rw [sz_sc] | rw [if_neg (by omega)] | rw [if_pos (by omega)])); all_goals first | rfl | assumption)
  have ra : W9.heap[w7.heap.size + 4]? = some (.cells #[.int .i64 0, .int .i64 12, .int .i64 13, .int .i64 14, .int .i64 15] 3 (0, 0)) := by rw [hW9]; exact (by (repeat (first | rw [hp_al] | rw [hp_sc] | rw [sz_al] | rw [sz_sc] | rw [if_neg (by omega)] | rw [if_pos (by omega)])); all_goals first | rfl | assumption)
  have y4 : W9.cell? ⟨w7.heap.size + 5, 4, none⟩ = _ := bxq_cell r5 rfl
  go_upto_region 9 with fail
  rw [← hW9]
  clear hW9
  have HB9 : Hid _ := hb9
  have HS9 : Hid (Sl kLy W9 (fun k => k < w7.heap.size) (.slice al 16 cl) (allJ aboP)) := HS.out.keep fun k q => hb9.block k q
  have HC : Hid (∀ (j : Nat) (x : Int), ([0, 12, 13, 14, 15] : List Int)[j]? = some x → W9.cell? ⟨w7.heap.size + 4, j, none⟩ = some (.int .i64 x)) := fun j x h => by
    rcases j with _ | _ | _ | _ | _ | _
    all_goals first | (cases h; exact bxq_cell ra rfl) | simp at h
  have HW : Hid (Sl kI W9 (fun k => k < W9.heap.size) (.slice (some ⟨w7.heap.size + 4, 0, none⟩) 5 5) [0, 12, 13, 14, 15]) := Sl.blk [[.int .i64 0], [.int .i64 12], [.int .i64 13], [.int .i64 14], [.int .i64 15]] (T := 3) ra (show _ < _ by omega) rfl rfl rfl (by decide) fun i y r hy hr => by
    rcases i with _ | _ | _ | _ | _ | _
    all_goals first | (cases hy; cases hr; rfl) | simp at hy
  have hab : ∀ y ∈ allJ aboP, y.abv.length ≤ 9223372036854775806 := fun y hy => by
    have q := of_decide_eq_true (List.all_eq_true.1 abo_abv y hy)
    omega
  have HI : Hid (∀ sub sup, Calls Tryz.prog 18 #[.slice al 16 cl, .int .i64 sub, .int .i64 sup] W9 fun e w' => e = .returned (.bool (isLy (allJ aboP) sub sup)) ∧ w' = W9) := fun sub sup => by
    have q := tis_ok HS9.out hab sub sup
    exact q
  have HD : Hid (∀ m, Calls Tryz.prog 18 #[.slice al 16 cl, .int .i64 (-1), .int .i64 0] (W9.drewN m) (fun e w' => e = .returned (.bool false) ∧ w' = W9.drewN m) ∧ Calls Tryz.prog 18 #[.slice al 16 cl, .int .i64 16, .int .i64 0] (W9.drewN m) fun e w' => e = .returned (.bool false) ∧ w' = W9.drewN m) := fun m => by
    have hD : Sl kLy (W9.drewN m) (fun k => k < w7.heap.size) (.slice al 16 cl) (allJ aboP) := HS9.out.keep fun k q => rfl
    have q1 := tis_ok hD hab (-1) 0
    have q2 := tis_ok hD hab 16 0
    rw [abo_m] at q1
    rw [abo_16] at q2
    exact ⟨q1, q2⟩
  obtain ⟨i9, hi9, hil, b, o, a3, c3, hal, -, hc3, hs3⟩ := ly_get (k := 15) (show Sl kLy W9 _ (.slice al (allJ aboP).length cl) (allJ aboP) by rw [abo_len]; exact HS9.out) (by rw [inT, abo_len]; decide)
  obtain rfl : i9 = 15 := by omega
  rw [abo_at4] at hc3 hs3
  subst hal
  have hSm := SameInts_eq hs3 HW.out
  clear hz9 hb9 r5 ra hp hil hi9 hs3 HS hab
  go_wp2_with fail
  go_loopg [9] 17 (fun kx s9 wr => ∃ i : Nat, s9 = .int .i64 i ∧ i ≤ 16 ∧ 16 - i ≤ kx ∧ wr = W9)
  case atStart => exact ⟨0, rfl, by omega, by omega, rfl⟩
  case round =>
    obtain ⟨i, rfl, hi, hk, rfl⟩ := hrel
    by_cases hlt : i < 16
    · have hl2 : (i : Int) < 16 := by omega
      go_wp2_with fail
      go_loopg [10, 11] 10 (fun kx s10 s11 wx => ∃ j : Nat, s11 = .int .i64 j ∧ s10 = .bool ((([0, 12, 13, 14, 15] : List Int).take j).contains (i : Int)) ∧ j ≤ 5 ∧ 5 - j ≤ kx ∧ wx = wr)
      case atStart => exact ⟨0, rfl, rfl, by omega, by omega, rfl⟩
      case round =>
        obtain ⟨j, rfl, rfl, hj, hkj, rfl⟩ := hrel
        by_cases hjn : j < 5
        · have hl3 : (j : Int) < 5 := by omega
          obtain ⟨x, hx⟩ : ∃ x, ([0, 12, 13, 14, 15] : List Int)[j]? = some x := ⟨_, List.getElem?_eq_getElem hjn⟩
          have cx := HC.out j x hx
          have HT : Hid _ := take_has hx (i : Int)
          clear hx
          rcases hb : ((([0, 12, 13, 14, 15] : List Int).take j).contains (i : Int)) with _ | _
          · rcases hq : (x == (i : Int)) with _ | _
            all_goals (
              go_wp2
              go_roundg (5 - (j + 1))
              case measure => omega
              case rel => exact ⟨j + 1, by go_num, by rw [HT.out, hb, hq]; rfl, by omega, Nat.le_refl _, rfl⟩)
          · go_wp2
            go_roundg (5 - (j + 1))
            case measure => omega
            case rel => exact ⟨j + 1, by go_num, by rw [HT.out, hb]; rfl, by omega, Nat.le_refl _, rfl⟩
        · obtain rfl : j = 5 := by omega
          have hIs := HI.out 15 (i : Int)
          have he := eq_of_beq (List.all_eq_true.1 abo_is4 i (List.mem_range.2 hlt))
          rw [he] at hIs
          rw [show ([0, 12, 13, 14, 15] : List Int).take 5 = [0, 12, 13, 14, 15] from rfl]
          clear he
          rcases hb : (([0, 12, 13, 14, 15] : List Int).contains (i : Int)) with _ | _
          all_goals (
            rw [hb] at hIs
            go_wp2_with (go_at_call 18; refine hIs.mono ?_; clear hIs; rintro e w10 ⟨rfl, hw10⟩; replace hw10 := hw10.symm; subst hw10)
            go_roundg (16 - (i + 1))
            case measure => omega
            case rel => exact ⟨i + 1, by go_num, by omega, Nat.le_refl _, rfl⟩)
    · obtain rfl : i = 16 := by omega
      have hl2 : ¬ ((16 : Nat) : Int) < 16 := by omega
      go_wp2_with (first
        | (go_at_call 19; refine hSm.mono ?_; clear hSm; rintro e w10 ⟨rfl, m, rfl⟩; obtain ⟨hI1, hI2⟩ := HD.out m; have HM : Hid (Below w7.heap.size wr (wr.drewN m)) := ⟨rfl, rfl, rfl, Nat.le_refl _, fun _ _ => rfl⟩)
        | (go_at_call 18; first | (refine hI1.mono ?_; clear hI1; rintro e w11 ⟨rfl, hw11⟩; replace hw11 := hw11.symm; subst hw11) | (refine hI2.mono ?_; clear hI2; rintro e w12 ⟨rfl, hw12⟩; replace hw12 := hw12.symm; subst hw12)))
      go_ret
      exact ⟨rfl, HB1.out.trans ((((HB5.out.trans (HB6.out.mono HB5.out.size)).trans (HB7.out.mono (HB5.out.trans (HB6.out.mono HB5.out.size)).size)).trans ((HB9.out.trans HM.out).mono (((HB5.out.trans (HB6.out.mono HB5.out.size)).trans (HB7.out.mono (HB5.out.trans (HB6.out.mono HB5.out.size)).size))).size)).mono HB1.out.size)⟩
theorem above_walk (n : Int) (w : World) : Calls Tryz.prog 10 #[.int .i64 n] w fun e w' => e = .returned (.bool true) ∧ Below w.heap.size w w' := by
  obtain ⟨a, hp, ha⟩ := pick5 n
  rcases a with _ | _ | _ | _ | _ | _
  · exact above_0 n hp w
  · exact above_1 n hp w
  · exact above_2 n hp w
  · exact above_3 n hp w
  · exact above_4 n hp w
  · omega
end Go.Proofs.YtbdfpodglfpjnaaGreat
