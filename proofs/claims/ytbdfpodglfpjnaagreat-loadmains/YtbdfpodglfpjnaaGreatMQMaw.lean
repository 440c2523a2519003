/- LoadMains. -/
import Derived.Test.YtbdfpodglfpjnaaGreatMQWtm
namespace Go.Proofs.YtbdfpodglfpjnaaGreat
open Go.RowKit

def maiX : List Cs := [⟨⟨#[73]⟩, true, false, 0, [], [], [], [⟨⟨#[102]⟩, false, [], 0, 0, 0, [], [], []⟩]⟩, ⟨⟨#[69]⟩, false, false, 0, [], [], [], []⟩]
theorem os_sm (W : World) (a : Addr) (v : Value) : (W.setCell a v).os = W.os := rfl
theorem tape_sm (W : World) (a : Addr) (v : Value) : (W.setCell a v).tape = W.tape := rfl
theorem out_sm (W : World) (a : Addr) (v : Value) : (W.setCell a v).output = W.output := rfl
set_option maxRecDepth 20000 in
set_option maxHeartbeats 8000000 in
theorem mains_fine (z n k : Int) (hz : z.tmod 20 = k) (hm : bits BinOp.and .i64 n 3 = 0) (hq : (k == 11) = true) (hO : Okl (maiP k)) (hJ : loadJ (maiP k) = .ok (allJ (maiP k))) (w : World) : Calls Tryz.prog 7 #[.int .i64 z, .int .i64 n] w fun e w' => e = .returned (.bool true) ∧ Below w.heap.size w w' := by
  have hA := awake15 w
  have HJ : Hid _ := hJ
  have HO : Hid _ := hO
  clear hJ hO
  go_enter Tryz.func7, Tryz.ntmps7
  go_upto_region 4 with (first
    | (go_at_call 11; refine hA.mono ?_; clear hA; rintro e w1 ⟨rfl, hb1⟩; have HB1 : Hid (Below w.heap.size w w1) := hb1; clear hb1)
    | (go_at_call 12; refine (withN (n := 2) (S := fun k => k < w1.heap.size + 2) (xs := maiX) rfl (fun k (q : k < _) => (by (repeat (first | rw [sz_al] | rw [sz_sc])); omega)) (by
        refine Sl.blk [[.string ⟨#[73]⟩, .bool true, .bool false, .int .i64 0, .slice none 0 0, .slice none 0 0, .slice none 0 0, .slice (some ⟨w1.heap.size, 0, none⟩) 1 1], [.string ⟨#[69]⟩, .bool false, .bool false, .int .i64 0, .slice none 0 0, .slice none 0 0, .slice none 0 0, .slice none 0 0]] (T := 31) (by (repeat (first | rw [hp_al] | rw [hp_sc] | rw [sz_al] | rw [sz_sc] | rw [if_neg (by omega)] | rw [if_pos (by omega)])); all_goals first | rfl | assumption) (show _ < _ by omega) rfl rfl rfl (by decide) fun i y r hy hr => ?_
        match i, hy, hr with
        | 0, hy, hr =>
          cases hy; cases hr
          refine ⟨_, _, _, _, rfl, Sl.nil _ _ _, Sl.nil _ _ _, Sl.nil _ _ _, ?_⟩
          refine Sl.blk [[.string ⟨#[102]⟩, .bool false, .slice none 0 0, .int .i64 0, .int .i64 0, .int .i64 0, .slice none 0 0, .slice none 0 0, .slice none 0 0]] (T := 39) (by (repeat (first | rw [hp_al] | rw [hp_sc] | rw [sz_al] | rw [sz_sc] | rw [if_neg (by omega)] | rw [if_pos (by omega)])); all_goals first | rfl | assumption) (show _ < _ by omega) rfl rfl rfl (by decide) fun i y r hy hr => ?_
          match i, hy, hr with
          | 0, hy, hr => cases hy; cases hr; exact ⟨_, _, _, _, rfl, Sl.nil _ _ _, Sl.nil _ _ _, Sl.nil _ _ _, Sl.nil _ _ _⟩
        | 1, hy, hr => cases hy; cases hr; exact ⟨_, _, _, _, rfl, Sl.nil _ _ _, Sl.nil _ _ _, Sl.nil _ _ _, Sl.nil _ _ _⟩) (by decide) (by decide)).mono ?_; rintro e w5 ⟨g, c, rfl, hb5, S', hS', hs⟩; have HB5 : Hid (Below w1.heap.size w1 w5) := (((Below.refl _ _).alloc (Nat.le_refl _) _).alloc (by rw [sz_al]; omega) _).trans (hb5.mono (by rw [sz_al, sz_al]; omega)); have HS' : Hid (∀ k, S' k → k < w5.heap.size) := hS'; have HS : Hid (Sl kCs w5 S' (.slice (some ⟨g, 0, none⟩) 3 c) (maiP k).cls) := hs; clear hb5 hS' hs))
  obtain ⟨W6, hW6⟩ : ∃ X, X = w5.alloc (.cells #[.int .i64 11, .slice (some ⟨g, 0, none⟩) 3 c] 25) := ⟨_, rfl⟩
  have g6 : W6.heap[w5.heap.size]? = some (.cells #[.int .i64 11, .slice (some ⟨g, 0, none⟩) 3 c] 25 (0, 0)) := by rw [hW6]; exact heap_alloc_new _ _
  have hz6 : W6.heap.size = w5.heap.size + 1 := by rw [hW6, sz_al]
  have hb6 : Below w5.heap.size w5 W6 := by rw [hW6]; exact (Below.refl _ _).alloc (Nat.le_refl _) _
  rw [← hW6]
  clear hW6
  have c0 : W6.cell? ⟨w5.heap.size, 0, none⟩ = some (.int .i64 11) := bxq_cell g6 rfl
  have c1 : W6.cell? ⟨w5.heap.size, 1, none⟩ = some (.slice (some ⟨g, 0, none⟩) 3 c) := bxq_cell g6 rfl
  have f0 : W6.frozen? ⟨w5.heap.size, 0, none⟩ = false := by simp [World.frozen?, g6]
  obtain ⟨W7, hW7⟩ : ∃ X, X = W6.setCell ⟨w5.heap.size, 0, none⟩ (.int .i64 k) := ⟨_, rfl⟩
  have g7 : W7.heap[w5.heap.size]? = some (.cells #[.int .i64 k, .slice (some ⟨g, 0, none⟩) 3 c] 25 (0, 0)) := by rw [hW7, hp_sc, if_pos rfl, g6]; rfl
  have hz7 : W7.heap.size = w5.heap.size + 1 := by rw [hW7, sz_sc, hz6]
  have hb7 : Below w5.heap.size w5 W7 := ⟨by rw [hW7]; exact hb6.os, by rw [hW7]; exact hb6.tape, by rw [hW7]; exact hb6.output, by omega, fun k hk => by rw [hW7, hp_sc, if_neg (by omega)]; exact hb6.block k hk⟩
  have hS7 : ∀ k, S' k → k < W7.heap.size := fun k q => Nat.lt_of_lt_of_le (HS'.out k q) hb7.size
  have hs7 := HS.out.keep (w' := W7) fun k q => hb7.block k (HS'.out k q)
  have hF := yesN (p := maiP k) (n := 3) rfl rfl HO.out hS7 hs7 HJ.out
  have HB7 : Hid _ := hb7
  clear hb6 hb7 hz6 hz7 hS7 hs7 g6 HS HS'
  go_upto_region 6 with fail
  rw [← hW7]
  clear hW7 f0 c0 c1
  have c0 : W7.cell? ⟨w5.heap.size, 0, none⟩ = some (.int .i64 k) := bxq_cell g7 rfl
  have c1 : W7.cell? ⟨w5.heap.size, 1, none⟩ = some (.slice (some ⟨g, 0, none⟩) 3 c) := bxq_cell g7 rfl
  clear g7
  go_wp2_with (go_at_call 13; refine hF.mono ?_; clear hF; rintro e w8 ⟨rfl, hb8⟩; have HB8 : Hid _ := hb8; clear hb8)
  go_ret
  exact ⟨rfl, HB1.out.trans (((HB5.out.trans (HB7.out.mono HB5.out.size)).trans (HB8.out.mono (Nat.le_trans HB5.out.size HB7.out.size))).mono HB1.out.size)⟩
set_option maxRecDepth 20000 in
set_option maxHeartbeats 8000000 in
theorem mains_bad (z n k : Int) (hz : z.tmod 20 = k) (hm : bits BinOp.and .i64 n 3 = 0) (hq : (k == 11) = false) (hO : Okl (maiP k)) (hJ : loadJ (maiP k) = .error (1505, k)) (w : World) : Calls Tryz.prog 7 #[.int .i64 z, .int .i64 n] w fun e w' => e = .returned (.bool true) ∧ Below w.heap.size w w' := by
  have hA := awake15 w
  have HJ : Hid _ := hJ
  have HO : Hid _ := hO
  clear hJ hO
  go_enter Tryz.func7, Tryz.ntmps7
  go_upto_region 4 with (first
    | (go_at_call 11; refine hA.mono ?_; clear hA; rintro e w1 ⟨rfl, hb1⟩; have HB1 : Hid (Below w.heap.size w w1) := hb1; clear hb1)
    | (go_at_call 12; refine (withN (n := 2) (S := fun k => k < w1.heap.size + 2) (xs := maiX) rfl (fun k (q : k < _) => (by (repeat (first | rw [sz_al] | rw [sz_sc])); omega)) (by
        refine Sl.blk [[.string ⟨#[73]⟩, .bool true, .bool false, .int .i64 0, .slice none 0 0, .slice none 0 0, .slice none 0 0, .slice (some ⟨w1.heap.size, 0, none⟩) 1 1], [.string ⟨#[69]⟩, .bool false, .bool false, .int .i64 0, .slice none 0 0, .slice none 0 0, .slice none 0 0, .slice none 0 0]] (T := 31) (by (repeat (first | rw [hp_al] | rw [hp_sc] | rw [sz_al] | rw [sz_sc] | rw [if_neg (by omega)] | rw [if_pos (by omega)])); all_goals first | rfl | assumption) (show _ < _ by omega) rfl rfl rfl (by decide) fun i y r hy hr => ?_
        match i, hy, hr with
        | 0, hy, hr =>
          cases hy; cases hr
          refine ⟨_, _, _, _, rfl, Sl.nil _ _ _, Sl.nil _ _ _, Sl.nil _ _ _, ?_⟩
          refine Sl.blk [[.string ⟨#[102]⟩, .bool false, .slice none 0 0, .int .i64 0, .int .i64 0, .int .i64 0, .slice none 0 0, .slice none 0 0, .slice none 0 0]] (T := 39) (by (repeat (first | rw [hp_al] | rw [hp_sc] | rw [sz_al] | rw [sz_sc] | rw [if_neg (by omega)] | rw [if_pos (by omega)])); all_goals first | rfl | assumption) (show _ < _ by omega) rfl rfl rfl (by decide) fun i y r hy hr => ?_
          match i, hy, hr with
          | 0, hy, hr => cases hy; cases hr; exact ⟨_, _, _, _, rfl, Sl.nil _ _ _, Sl.nil _ _ _, Sl.nil _ _ _, Sl.nil _ _ _⟩
        | 1, hy, hr => cases hy; cases hr; exact ⟨_, _, _, _, rfl, Sl.nil _ _ _, Sl.nil _ _ _, Sl.nil _ _ _, Sl.nil _ _ _⟩) (by decide) (by decide)).mono ?_; rintro e w5 ⟨g, c, rfl, hb5, S', hS', hs⟩; have HB5 : Hid (Below w1.heap.size w1 w5) := (((Below.refl _ _).alloc (Nat.le_refl _) _).alloc (by rw [sz_al]; omega) _).trans (hb5.mono (by rw [sz_al, sz_al]; omega)); have HS' : Hid (∀ k, S' k → k < w5.heap.size) := hS'; have HS : Hid (Sl kCs w5 S' (.slice (some ⟨g, 0, none⟩) 3 c) (maiP k).cls) := hs; clear hb5 hS' hs))
  obtain ⟨W6, hW6⟩ : ∃ X, X = w5.alloc (.cells #[.int .i64 11, .slice (some ⟨g, 0, none⟩) 3 c] 25) := ⟨_, rfl⟩
  have g6 : W6.heap[w5.heap.size]? = some (.cells #[.int .i64 11, .slice (some ⟨g, 0, none⟩) 3 c] 25 (0, 0)) := by rw [hW6]; exact heap_alloc_new _ _
  have hz6 : W6.heap.size = w5.heap.size + 1 := by rw [hW6, sz_al]
  have hb6 : Below w5.heap.size w5 W6 := by rw [hW6]; exact (Below.refl _ _).alloc (Nat.le_refl _) _
  rw [← hW6]
  clear hW6
  have c0 : W6.cell? ⟨w5.heap.size, 0, none⟩ = some (.int .i64 11) := bxq_cell g6 rfl
  have c1 : W6.cell? ⟨w5.heap.size, 1, none⟩ = some (.slice (some ⟨g, 0, none⟩) 3 c) := bxq_cell g6 rfl
  have f0 : W6.frozen? ⟨w5.heap.size, 0, none⟩ = false := by simp [World.frozen?, g6]
  obtain ⟨W7, hW7⟩ : ∃ X, X = W6.setCell ⟨w5.heap.size, 0, none⟩ (.int .i64 k) := ⟨_, rfl⟩
  have g7 : W7.heap[w5.heap.size]? = some (.cells #[.int .i64 k, .slice (some ⟨g, 0, none⟩) 3 c] 25 (0, 0)) := by rw [hW7, hp_sc, if_pos rfl, g6]; rfl
  have hz7 : W7.heap.size = w5.heap.size + 1 := by rw [hW7, sz_sc, hz6]
  have hb7 : Below w5.heap.size w5 W7 := ⟨by rw [hW7]; exact hb6.os, by rw [hW7]; exact hb6.tape, by rw [hW7]; exact hb6.output, by omega, fun k hk => by rw [hW7, hp_sc, if_neg (by omega)]; exact hb6.block k hk⟩
  have hS7 : ∀ k, S' k → k < W7.heap.size := fun k q => Nat.lt_of_lt_of_le (HS'.out k q) hb7.size
  have hs7 := HS.out.keep (w' := W7) fun k q => hb7.block k (HS'.out k q)
  have hF := errN (p := maiP k) (n := 3) rfl rfl HO.out hS7 hs7 (by decide) HJ.out
  have HB7 : Hid _ := hb7
  clear hb6 hb7 hz6 hz7 hS7 hs7 g6 HS HS'
  go_upto_region 6 with fail
  rw [← hW7]
  clear hW7 f0 c0 c1
  have c0 : W7.cell? ⟨w5.heap.size, 0, none⟩ = some (.int .i64 k) := bxq_cell g7 rfl
  have c1 : W7.cell? ⟨w5.heap.size, 1, none⟩ = some (.slice (some ⟨g, 0, none⟩) 3 c) := bxq_cell g7 rfl
  clear g7
  go_wp2_with (go_at_call 13; refine hF.mono ?_; clear hF; rintro e w8 ⟨rfl, hb8⟩; have HB8 : Hid _ := hb8; clear hb8)
  go_ret
  exact ⟨rfl, HB1.out.trans (((HB5.out.trans (HB7.out.mono HB5.out.size)).trans (HB8.out.mono (Nat.le_trans HB5.out.size HB7.out.size))).mono HB1.out.size)⟩
def maiQ1 : Pg := ⟨11, tinyX ⟨⟨#[109, 97, 105, 110]⟩, false, [], 0, 1, 0, [retI], [], []⟩ :: maiX⟩
theorem maiO1 : Okl maiQ1 := okl_of (by kernel_rfl)
theorem maiJ1 : loadJ maiQ1 = .error (1505, 11) := by kernel_rfl
set_option maxRecDepth 20000 in
set_option maxHeartbeats 8000000 in
theorem mains_1 (z n : Int) (hm : bits BinOp.and .i64 n 3 = 1) (w : World) : Calls Tryz.prog 7 #[.int .i64 z, .int .i64 n] w fun e w' => e = .returned (.bool true) ∧ Below w.heap.size w w' := by
  have hA := awake15 w
  go_enter Tryz.func7, Tryz.ntmps7
  go_upto_region 4 with (first
    | (go_at_call 11; refine hA.mono ?_; clear hA; rintro e w1 ⟨rfl, hb1⟩; have HB1 : Hid (Below w.heap.size w w1) := hb1; clear hb1)
    | (go_at_call 12; refine (with_met (n := 2) (S := fun k => k < w1.heap.size + 2) (xs := maiX) rfl (fun k (q : k < _) => (by (repeat (first | rw [sz_al] | rw [sz_sc])); omega)) (by
        refine Sl.blk [[.string ⟨#[73]⟩, .bool true, .bool false, .int .i64 0, .slice none 0 0, .slice none 0 0, .slice none 0 0, .slice (some ⟨w1.heap.size, 0, none⟩) 1 1], [.string ⟨#[69]⟩, .bool false, .bool false, .int .i64 0, .slice none 0 0, .slice none 0 0, .slice none 0 0, .slice none 0 0]] (T := 31) (by (repeat (first | rw [hp_al] | rw [hp_sc] | rw [sz_al] | rw [sz_sc] | rw [if_neg (by omega)] | rw [if_pos (by omega)])); all_goals first | rfl | assumption) (show _ < _ by omega) rfl rfl rfl (by decide) fun i y r hy hr => ?_
        match i, hy, hr with
        | 0, hy, hr =>
          cases hy; cases hr
          refine ⟨_, _, _, _, rfl, Sl.nil _ _ _, Sl.nil _ _ _, Sl.nil _ _ _, ?_⟩
          refine Sl.blk [[.string ⟨#[102]⟩, .bool false, .slice none 0 0, .int .i64 0, .int .i64 0, .int .i64 0, .slice none 0 0, .slice none 0 0, .slice none 0 0]] (T := 39) (by (repeat (first | rw [hp_al] | rw [hp_sc] | rw [sz_al] | rw [sz_sc] | rw [if_neg (by omega)] | rw [if_pos (by omega)])); all_goals first | rfl | assumption) (show _ < _ by omega) rfl rfl rfl (by decide) fun i y r hy hr => ?_
          match i, hy, hr with
          | 0, hy, hr => cases hy; cases hr; exact ⟨_, _, _, _, rfl, Sl.nil _ _ _, Sl.nil _ _ _, Sl.nil _ _ _, Sl.nil _ _ _⟩
        | 1, hy, hr => cases hy; cases hr; exact ⟨_, _, _, _, rfl, Sl.nil _ _ _, Sl.nil _ _ _, Sl.nil _ _ _, Sl.nil _ _ _⟩) (by decide) (by decide)).mono ?_; rintro e w5 ⟨g, c, b, bi, he, hb5, hT, hbl⟩; replace he : e = .returned (.agg #[.int .i64 11, .slice (some ⟨g, 0, none⟩) 3 c]) := he; subst he; have HB5 : Hid (Below w1.heap.size w1 w5) := (((Below.refl _ _).alloc (Nat.le_refl _) _).alloc (by rw [sz_al]; omega) _).trans (hb5.mono (by rw [sz_al, sz_al]; omega)); have HT : Hid (Met w5 (fun k => k < w1.heap.size + 2) maiX g 3 c b bi) := hT; have HL : Hid (w1.heap.size + 2 ≤ b ∧ w1.heap.size + 2 ≤ w5.heap.size) := ⟨by rw [sz_al, sz_al] at hbl; exact hbl, by have q := hb5.size; rw [sz_al, sz_al] at q; exact q⟩; clear hb5 hT hbl))
  obtain ⟨W6, hW6⟩ : ∃ X, X = w5.alloc (.cells #[.int .i64 11, .slice (some ⟨g, 0, none⟩) 3 c] 25) := ⟨_, rfl⟩
  have g6 : W6.heap[w5.heap.size]? = some (.cells #[.int .i64 11, .slice (some ⟨g, 0, none⟩) 3 c] 25 (0, 0)) := by rw [hW6]; exact heap_alloc_new _ _
  have hz6 : W6.heap.size = w5.heap.size + 1 := by rw [hW6, sz_al]
  have hb6 : Below w5.heap.size w5 W6 := by rw [hW6]; exact (Below.refl _ _).alloc (Nat.le_refl _) _
  rw [← hW6]
  clear hW6
  have c0 : W6.cell? ⟨w5.heap.size, 0, none⟩ = some (.int .i64 11) := bxq_cell g6 rfl
  have c1 : W6.cell? ⟨w5.heap.size, 1, none⟩ = some (.slice (some ⟨g, 0, none⟩) 3 c) := bxq_cell g6 rfl
  have hT := HT.out
  have hbl := HL.out
  have hblt := (Array.getElem?_eq_some_iff.1 hT.met).1
  have hilt := (Array.getElem?_eq_some_iff.1 hT.ins).1
  have hglt := hT.lt
  have hne := hT.ne
  have hT6 : Met W6 (fun k => k < w1.heap.size + 2) maiX g 3 c b bi := hT.keep fun k q => hb6.block k (by rcases q with q | q | q | q <;> omega)
  have m7 := hT6.cell
  have pm : W6.heap[b]? = some (.cells #[.string ⟨#[109, 97, 105, 110]⟩, .bool true, .slice none 0 0, .int .i64 0, .int .i64 0, .int .i64 0, .slice (some ⟨bi, 0, none⟩) 1 1, .slice none 0 0, .slice none 0 0] 39 (0, 0)) := hT6.met
  have x0 : W6.cell? ⟨b, 0, none⟩ = _ := bxq_cell pm rfl
  have x1 : W6.cell? ⟨b, 1, none⟩ = _ := bxq_cell pm rfl
  have x2 : W6.cell? ⟨b, 2, none⟩ = _ := bxq_cell pm rfl
  have x3 : W6.cell? ⟨b, 3, none⟩ = _ := bxq_cell pm rfl
  have x4 : W6.cell? ⟨b, 4, none⟩ = _ := bxq_cell pm rfl
  have x5 : W6.cell? ⟨b, 5, none⟩ = _ := bxq_cell pm rfl
  have x6 : W6.cell? ⟨b, 6, none⟩ = _ := bxq_cell pm rfl
  have x7 : W6.cell? ⟨b, 7, none⟩ = _ := bxq_cell pm rfl
  have x8 : W6.cell? ⟨b, 8, none⟩ = _ := bxq_cell pm rfl
  have fz0 : W6.frozen? ⟨b, 1, none⟩ = false := by simp [World.frozen?, pm]
  have fz1 : (W6.setCell ⟨b, 1, none⟩ (.bool false)).frozen? ⟨b, 4, none⟩ = false := by simp [World.frozen?, World.setCell, Array.getElem?_modify, pm]
  obtain ⟨W7, hW7⟩ : ∃ X, X = ((W6.setCell ⟨b, 1, none⟩ (.bool false)).setCell ⟨b, 4, none⟩ (.int .i64 1)) := ⟨_, rfl⟩
  have hz7 : W7.heap.size = W6.heap.size + 0 := by rw [hW7]; (repeat (first | rw [sz_al] | rw [sz_sc])); all_goals rfl
  have hk7 : ∀ k, k ≠ b → k < W6.heap.size → W7.heap[k]? = W6.heap[k]? := fun k q1 q2 => by rw [hW7]; (repeat (first | rw [hp_sc, if_neg q1] | rw [hp_al, if_neg (by omega)]))
  have u1 : W7.heap[b]? = some (.cells #[.string ⟨#[109, 97, 105, 110]⟩, .bool false, .slice none 0 0, .int .i64 0, .int .i64 1, .int .i64 0, .slice (some ⟨bi, 0, none⟩) 1 1, .slice none 0 0, .slice none 0 0] 39 (0, 0)) := by rw [hW7]; (repeat rw [hp_sc, if_pos rfl]); rw [pm]; simp only [Option.map_some, List.setIfInBounds_toArray, List.set_cons_succ, List.set_cons_zero]
  have ui : W7.heap[bi]? = some (.cells #[.int .i64 29, .int .i64 0, .int .i64 0] 44 (0, 0)) := (hk7 _ (by omega) (by omega)).trans hT6.ins
  have ug : W7.heap[w5.heap.size]? = some (.cells #[.int .i64 11, .slice (some ⟨g, 0, none⟩) 3 c] 25 (0, 0)) := (hk7 _ (by omega) (by omega)).trans g6
  have hs7 : Sl kCs W7 (fun k => k < W7.heap.size) (.slice (some ⟨g, 0, none⟩) 3 c) (tinyX ⟨⟨#[109, 97, 105, 110]⟩, false, [], 0, 1, 0, [retI], [], []⟩ :: maiX) := by
    refine hT6.row W7 _ _ _ u1 rfl ?_ (show _ < _ by omega) (show _ < _ by omega) (fun k (q : k < _) => show _ < _ by omega) (fun k q => hk7 k (by rcases q with q | q <;> omega) (by rcases q with q | q <;> omega))
    refine ⟨_, _, _, _, rfl, Sl.nil _ _ _, ?_, Sl.nil _ _ _, Sl.nil _ _ _⟩
    refine Sl.blk [[.int .i64 29, .int .i64 0, .int .i64 0]] (T := 44) ui (show _ < _ by omega) rfl rfl rfl (by decide) fun i y r hy hr => ?_
    match i, hy, hr with
    | 0, hy, hr => cases hy; cases hr; rfl
  have hF := errN (p := maiQ1) (n := 3) rfl rfl maiO1 (fun k q => q) hs7 (by decide) maiJ1
  have HB7 : Hid (Below w1.heap.size w5 W7) := ⟨by rw [hW7]; (repeat rw [os_sm]); exact hb6.os, by rw [hW7]; (repeat rw [tape_sm]); exact hb6.tape, by rw [hW7]; (repeat rw [out_sm]); exact hb6.output, by omega, fun k hk => (hk7 k (by omega) (by omega)).trans (hb6.block k (by omega))⟩
  have v0 : W7.cell? ⟨w5.heap.size, 0, none⟩ = some (.int .i64 11) := bxq_cell ug rfl
  have v1 : W7.cell? ⟨w5.heap.size, 1, none⟩ = some (.slice (some ⟨g, 0, none⟩) 3 c) := bxq_cell ug rfl
  have HV0 : Hid _ := v0
  have HV1 : Hid _ := v1
  have HF : Hid (Calls Tryz.prog 13 #[.agg #[.int .i64 11, .slice (some ⟨g, 0, none⟩) 3 c], .int .i64 11, .int .i64 1505] W7 fun e w' => e = .returned (.bool true) ∧ Below W7.heap.size W7 w') := hF
  clear hs7 hF hT hbl hblt hilt hglt hne hT6 pm hz7 hk7 u1 ui ug g6 hz6 hb6 HT v0 v1
  go_upto_region 18 with fail
  rw [← hW7]
  clear hW7 c0 c1 m7 x0 x1 x2 x3 x4 x5 x6 x7 x8 fz0 fz1
  have v0 := HV0.out
  have v1 := HV1.out
  have hF := HF.out
  go_wp2_with (go_at_call 13; refine hF.mono ?_; clear hF; rintro e w8 ⟨rfl, hb8⟩; have HB8 : Hid _ := hb8; clear hb8)
  go_ret
  exact ⟨rfl, HB1.out.trans (((HB5.out.trans HB7.out).trans (HB8.out.mono (HB5.out.trans HB7.out).size)).mono HB1.out.size)⟩
def maiQ2 : Pg := ⟨11, tinyX ⟨⟨#[109, 97, 105, 110]⟩, true, [1], 0, 1, 0, [retI], [], []⟩ :: maiX⟩
theorem maiO2 : Okl maiQ2 := okl_of (by kernel_rfl)
theorem maiJ2 : loadJ maiQ2 = .error (1505, 11) := by kernel_rfl
set_option maxRecDepth 20000 in
set_option maxHeartbeats 8000000 in
theorem mains_2 (z n : Int) (hm : bits BinOp.and .i64 n 3 = 2) (w : World) : Calls Tryz.prog 7 #[.int .i64 z, .int .i64 n] w fun e w' => e = .returned (.bool true) ∧ Below w.heap.size w w' := by
  have hA := awake15 w
  go_enter Tryz.func7, Tryz.ntmps7
  go_upto_region 4 with (first
    | (go_at_call 11; refine hA.mono ?_; clear hA; rintro e w1 ⟨rfl, hb1⟩; have HB1 : Hid (Below w.heap.size w w1) := hb1; clear hb1)
    | (go_at_call 12; refine (with_met (n := 2) (S := fun k => k < w1.heap.size + 2) (xs := maiX) rfl (fun k (q : k < _) => (by (repeat (first | rw [sz_al] | rw [sz_sc])); omega)) (by
        refine Sl.blk [[.string ⟨#[73]⟩, .bool true, .bool false, .int .i64 0, .slice none 0 0, .slice none 0 0, .slice none 0 0, .slice (some ⟨w1.heap.size, 0, none⟩) 1 1], [.string ⟨#[69]⟩, .bool false, .bool false, .int .i64 0, .slice none 0 0, .slice none 0 0, .slice none 0 0, .slice none 0 0]] (T := 31) (by (repeat (first | rw [hp_al] | rw [hp_sc] | rw [sz_al] | rw [sz_sc] | rw [if_neg (by omega)] | rw [if_pos (by omega)])); all_goals first | rfl | assumption) (show _ < _ by omega) rfl rfl rfl (by decide) fun i y r hy hr => ?_
        match i, hy, hr with
        | 0, hy, hr =>
          cases hy; cases hr
          refine ⟨_, _, _, _, rfl, Sl.nil _ _ _, Sl.nil _ _ _, Sl.nil _ _ _, ?_⟩
          refine Sl.blk [[.string ⟨#[102]⟩, .bool false, .slice none 0 0, .int .i64 0, .int .i64 0, .int .i64 0, .slice none 0 0, .slice none 0 0, .slice none 0 0]] (T := 39) (by (repeat (first | rw [hp_al] | rw [hp_sc] | rw [sz_al] | rw [sz_sc] | rw [if_neg (by omega)] | rw [if_pos (by omega)])); all_goals first | rfl | assumption) (show _ < _ by omega) rfl rfl rfl (by decide) fun i y r hy hr => ?_
          match i, hy, hr with
          | 0, hy, hr => cases hy; cases hr; exact ⟨_, _, _, _, rfl, Sl.nil _ _ _, Sl.nil _ _ _, Sl.nil _ _ _, Sl.nil _ _ _⟩
        | 1, hy, hr => cases hy; cases hr; exact ⟨_, _, _, _, rfl, Sl.nil _ _ _, Sl.nil _ _ _, Sl.nil _ _ _, Sl.nil _ _ _⟩) (by decide) (by decide)).mono ?_; rintro e w5 ⟨g, c, b, bi, he, hb5, hT, hbl⟩; replace he : e = .returned (.agg #[.int .i64 11, .slice (some ⟨g, 0, none⟩) 3 c]) := he; subst he; have HB5 : Hid (Below w1.heap.size w1 w5) := (((Below.refl _ _).alloc (Nat.le_refl _) _).alloc (by rw [sz_al]; omega) _).trans (hb5.mono (by rw [sz_al, sz_al]; omega)); have HT : Hid (Met w5 (fun k => k < w1.heap.size + 2) maiX g 3 c b bi) := hT; have HL : Hid (w1.heap.size + 2 ≤ b ∧ w1.heap.size + 2 ≤ w5.heap.size) := ⟨by rw [sz_al, sz_al] at hbl; exact hbl, by have q := hb5.size; rw [sz_al, sz_al] at q; exact q⟩; clear hb5 hT hbl))
  obtain ⟨W6, hW6⟩ : ∃ X, X = w5.alloc (.cells #[.int .i64 11, .slice (some ⟨g, 0, none⟩) 3 c] 25) := ⟨_, rfl⟩
  have g6 : W6.heap[w5.heap.size]? = some (.cells #[.int .i64 11, .slice (some ⟨g, 0, none⟩) 3 c] 25 (0, 0)) := by rw [hW6]; exact heap_alloc_new _ _
  have hz6 : W6.heap.size = w5.heap.size + 1 := by rw [hW6, sz_al]
  have hb6 : Below w5.heap.size w5 W6 := by rw [hW6]; exact (Below.refl _ _).alloc (Nat.le_refl _) _
  rw [← hW6]
  clear hW6
  have c0 : W6.cell? ⟨w5.heap.size, 0, none⟩ = some (.int .i64 11) := bxq_cell g6 rfl
  have c1 : W6.cell? ⟨w5.heap.size, 1, none⟩ = some (.slice (some ⟨g, 0, none⟩) 3 c) := bxq_cell g6 rfl
  have hT := HT.out
  have hbl := HL.out
  have hblt := (Array.getElem?_eq_some_iff.1 hT.met).1
  have hilt := (Array.getElem?_eq_some_iff.1 hT.ins).1
  have hglt := hT.lt
  have hne := hT.ne
  have hT6 : Met W6 (fun k => k < w1.heap.size + 2) maiX g 3 c b bi := hT.keep fun k q => hb6.block k (by rcases q with q | q | q | q <;> omega)
  have m7 := hT6.cell
  have pm : (W6.alloc (.cells #[.int .i64 1] 3)).heap[b]? = some (.cells #[.string ⟨#[109, 97, 105, 110]⟩, .bool true, .slice none 0 0, .int .i64 0, .int .i64 0, .int .i64 0, .slice (some ⟨bi, 0, none⟩) 1 1, .slice none 0 0, .slice none 0 0] 39 (0, 0)) := (by rw [hp_al, if_neg (by omega)]; exact hT6.met)
  have x0 : (W6.alloc (.cells #[.int .i64 1] 3)).cell? ⟨b, 0, none⟩ = _ := bxq_cell pm rfl
  have x1 : (W6.alloc (.cells #[.int .i64 1] 3)).cell? ⟨b, 1, none⟩ = _ := bxq_cell pm rfl
  have x2 : (W6.alloc (.cells #[.int .i64 1] 3)).cell? ⟨b, 2, none⟩ = _ := bxq_cell pm rfl
  have x3 : (W6.alloc (.cells #[.int .i64 1] 3)).cell? ⟨b, 3, none⟩ = _ := bxq_cell pm rfl
  have x4 : (W6.alloc (.cells #[.int .i64 1] 3)).cell? ⟨b, 4, none⟩ = _ := bxq_cell pm rfl
  have x5 : (W6.alloc (.cells #[.int .i64 1] 3)).cell? ⟨b, 5, none⟩ = _ := bxq_cell pm rfl
  have x6 : (W6.alloc (.cells #[.int .i64 1] 3)).cell? ⟨b, 6, none⟩ = _ := bxq_cell pm rfl
  have x7 : (W6.alloc (.cells #[.int .i64 1] 3)).cell? ⟨b, 7, none⟩ = _ := bxq_cell pm rfl
  have x8 : (W6.alloc (.cells #[.int .i64 1] 3)).cell? ⟨b, 8, none⟩ = _ := bxq_cell pm rfl
  have fz0 : (W6.alloc (.cells #[.int .i64 1] 3)).frozen? ⟨b, 2, none⟩ = false := by simp [World.frozen?, pm]
  have fz1 : ((W6.alloc (.cells #[.int .i64 1] 3)).setCell ⟨b, 2, none⟩ (.slice (some ⟨W6.heap.size, 0, none⟩) 1 1)).frozen? ⟨b, 4, none⟩ = false := by simp [World.frozen?, World.setCell, Array.getElem?_modify, pm]
  obtain ⟨W7, hW7⟩ : ∃ X, X = (((W6.alloc (.cells #[.int .i64 1] 3)).setCell ⟨b, 2, none⟩ (.slice (some ⟨W6.heap.size, 0, none⟩) 1 1)).setCell ⟨b, 4, none⟩ (.int .i64 1)) := ⟨_, rfl⟩
  have hz7 : W7.heap.size = W6.heap.size + 1 := by rw [hW7]; (repeat (first | rw [sz_al] | rw [sz_sc])); all_goals rfl
  have hk7 : ∀ k, k ≠ b → k < W6.heap.size → W7.heap[k]? = W6.heap[k]? := fun k q1 q2 => by rw [hW7]; (repeat (first | rw [hp_sc, if_neg q1] | rw [hp_al, if_neg (by omega)]))
  have u1 : W7.heap[b]? = some (.cells #[.string ⟨#[109, 97, 105, 110]⟩, .bool true, .slice (some ⟨W6.heap.size, 0, none⟩) 1 1, .int .i64 0, .int .i64 1, .int .i64 0, .slice (some ⟨bi, 0, none⟩) 1 1, .slice none 0 0, .slice none 0 0] 39 (0, 0)) := by rw [hW7]; (repeat rw [hp_sc, if_pos rfl]); rw [pm]; simp only [Option.map_some, List.setIfInBounds_toArray, List.set_cons_succ, List.set_cons_zero]
  have ui : W7.heap[bi]? = some (.cells #[.int .i64 29, .int .i64 0, .int .i64 0] 44 (0, 0)) := (hk7 _ (by omega) (by omega)).trans hT6.ins
  have ug : W7.heap[w5.heap.size]? = some (.cells #[.int .i64 11, .slice (some ⟨g, 0, none⟩) 3 c] 25 (0, 0)) := (hk7 _ (by omega) (by omega)).trans g6
  have ue : W7.heap[W6.heap.size]? = some (.cells #[.int .i64 1] 3 (0, 0)) := by rw [hW7]; (repeat rw [hp_sc, if_neg (by omega)]); rw [hp_al, if_pos rfl]
  have hs7 : Sl kCs W7 (fun k => k < W7.heap.size) (.slice (some ⟨g, 0, none⟩) 3 c) (tinyX ⟨⟨#[109, 97, 105, 110]⟩, true, [1], 0, 1, 0, [retI], [], []⟩ :: maiX) := by
    refine hT6.row W7 _ _ _ u1 rfl ?_ (show _ < _ by omega) (show _ < _ by omega) (fun k (q : k < _) => show _ < _ by omega) (fun k q => hk7 k (by rcases q with q | q <;> omega) (by rcases q with q | q <;> omega))
    refine ⟨_, _, _, _, rfl, ?_, ?_, Sl.nil _ _ _, Sl.nil _ _ _⟩
    · refine Sl.blk [[.int .i64 1]] (T := 3) ue (show _ < _ by omega) rfl rfl rfl (by decide) fun i y r hy hr => ?_
      match i, hy, hr with
      | 0, hy, hr => cases hy; cases hr; rfl
    · refine Sl.blk [[.int .i64 29, .int .i64 0, .int .i64 0]] (T := 44) ui (show _ < _ by omega) rfl rfl rfl (by decide) fun i y r hy hr => ?_
      match i, hy, hr with
      | 0, hy, hr => cases hy; cases hr; rfl
  have hF := errN (p := maiQ2) (n := 3) rfl rfl maiO2 (fun k q => q) hs7 (by decide) maiJ2
  have HB7 : Hid (Below w1.heap.size w5 W7) := ⟨by rw [hW7]; (repeat rw [os_sm]); exact hb6.os, by rw [hW7]; (repeat rw [tape_sm]); exact hb6.tape, by rw [hW7]; (repeat rw [out_sm]); exact hb6.output, by omega, fun k hk => (hk7 k (by omega) (by omega)).trans (hb6.block k (by omega))⟩
  have v0 : W7.cell? ⟨w5.heap.size, 0, none⟩ = some (.int .i64 11) := bxq_cell ug rfl
  have v1 : W7.cell? ⟨w5.heap.size, 1, none⟩ = some (.slice (some ⟨g, 0, none⟩) 3 c) := bxq_cell ug rfl
  have HV0 : Hid _ := v0
  have HV1 : Hid _ := v1
  have HF : Hid (Calls Tryz.prog 13 #[.agg #[.int .i64 11, .slice (some ⟨g, 0, none⟩) 3 c], .int .i64 11, .int .i64 1505] W7 fun e w' => e = .returned (.bool true) ∧ Below W7.heap.size W7 w') := hF
  clear hs7 hF hT hbl hblt hilt hglt hne hT6 pm hz7 hk7 u1 ui ug g6 hz6 hb6 HT v0 v1 ue
  go_upto_region 18 with fail
  rw [← hW7]
  clear hW7 c0 c1 m7 x0 x1 x2 x3 x4 x5 x6 x7 x8 fz0 fz1
  have v0 := HV0.out
  have v1 := HV1.out
  have hF := HF.out
  go_wp2_with (go_at_call 13; refine hF.mono ?_; clear hF; rintro e w8 ⟨rfl, hb8⟩; have HB8 : Hid _ := hb8; clear hb8)
  go_ret
  exact ⟨rfl, HB1.out.trans (((HB5.out.trans HB7.out).trans (HB8.out.mono (HB5.out.trans HB7.out).size)).mono HB1.out.size)⟩
def maiQ3 : Pg := ⟨11, tinyX ⟨⟨#[109, 97, 105, 110]⟩, true, [], 1, 0, 0, [retI], [], []⟩ :: maiX⟩
theorem maiO3 : Okl maiQ3 := okl_of (by kernel_rfl)
theorem maiJ3 : loadJ maiQ3 = .error (1505, 11) := by kernel_rfl
set_option maxRecDepth 20000 in
set_option maxHeartbeats 8000000 in
theorem mains_3 (z n : Int) (hm : bits BinOp.and .i64 n 3 = 3) (w : World) : Calls Tryz.prog 7 #[.int .i64 z, .int .i64 n] w fun e w' => e = .returned (.bool true) ∧ Below w.heap.size w w' := by
  have hA := awake15 w
  go_enter Tryz.func7, Tryz.ntmps7
  go_upto_region 4 with (first
    | (go_at_call 11; refine hA.mono ?_; clear hA; rintro e w1 ⟨rfl, hb1⟩; have HB1 : Hid (Below w.heap.size w w1) := hb1; clear hb1)
    | (go_at_call 12; refine (with_met (n := 2) (S := fun k => k < w1.heap.size + 2) (xs := maiX) rfl (fun k (q : k < _) => (by (repeat (first | rw [sz_al] | rw [sz_sc])); omega)) (by
        refine Sl.blk [[.string ⟨#[73]⟩, .bool true, .bool false, .int .i64 0, .slice none 0 0, .slice none 0 0, .slice none 0 0, .slice (some ⟨w1.heap.size, 0, none⟩) 1 1], [.string ⟨#[69]⟩, .bool false, .bool false, .int .i64 0, .slice none 0 0, .slice none 0 0, .slice none 0 0, .slice none 0 0]] (T := 31) (by (repeat (first | rw [hp_al] | rw [hp_sc] | rw [sz_al] | rw [sz_sc] | rw [if_neg (by omega)] | rw [if_pos (by omega)])); all_goals first | rfl | assumption) (show _ < _ by omega) rfl rfl rfl (by decide) fun i y r hy hr => ?_
        match i, hy, hr with
        | 0, hy, hr =>
          cases hy; cases hr
          refine ⟨_, _, _, _, rfl, Sl.nil _ _ _, Sl.nil _ _ _, Sl.nil _ _ _, ?_⟩
          refine Sl.blk [[.string ⟨#[102]⟩, .bool false, .slice none 0 0, .int .i64 0, .int .i64 0, .int .i64 0, .slice none 0 0, .slice none 0 0, .slice none 0 0]] (T := 39) (by (repeat (first | rw [hp_al] | rw [hp_sc] | rw [sz_al] | rw [sz_sc] | rw [if_neg (by omega)] | rw [if_pos (by omega)])); all_goals first | rfl | assumption) (show _ < _ by omega) rfl rfl rfl (by decide) fun i y r hy hr => ?_
          match i, hy, hr with
          | 0, hy, hr => cases hy; cases hr; exact ⟨_, _, _, _, rfl, Sl.nil _ _ _, Sl.nil _ _ _, Sl.nil _ _ _, Sl.nil _ _ _⟩
        | 1, hy, hr => cases hy; cases hr; exact ⟨_, _, _, _, rfl, Sl.nil _ _ _, Sl.nil _ _ _, Sl.nil _ _ _, Sl.nil _ _ _⟩) (by decide) (by decide)).mono ?_; rintro e w5 ⟨g, c, b, bi, he, hb5, hT, hbl⟩; replace he : e = .returned (.agg #[.int .i64 11, .slice (some ⟨g, 0, none⟩) 3 c]) := he; subst he; have HB5 : Hid (Below w1.heap.size w1 w5) := (((Below.refl _ _).alloc (Nat.le_refl _) _).alloc (by rw [sz_al]; omega) _).trans (hb5.mono (by rw [sz_al, sz_al]; omega)); have HT : Hid (Met w5 (fun k => k < w1.heap.size + 2) maiX g 3 c b bi) := hT; have HL : Hid (w1.heap.size + 2 ≤ b ∧ w1.heap.size + 2 ≤ w5.heap.size) := ⟨by rw [sz_al, sz_al] at hbl; exact hbl, by have q := hb5.size; rw [sz_al, sz_al] at q; exact q⟩; clear hb5 hT hbl))
  obtain ⟨W6, hW6⟩ : ∃ X, X = w5.alloc (.cells #[.int .i64 11, .slice (some ⟨g, 0, none⟩) 3 c] 25) := ⟨_, rfl⟩
  have g6 : W6.heap[w5.heap.size]? = some (.cells #[.int .i64 11, .slice (some ⟨g, 0, none⟩) 3 c] 25 (0, 0)) := by rw [hW6]; exact heap_alloc_new _ _
  have hz6 : W6.heap.size = w5.heap.size + 1 := by rw [hW6, sz_al]
  have hb6 : Below w5.heap.size w5 W6 := by rw [hW6]; exact (Below.refl _ _).alloc (Nat.le_refl _) _
  rw [← hW6]
  clear hW6
  have c0 : W6.cell? ⟨w5.heap.size, 0, none⟩ = some (.int .i64 11) := bxq_cell g6 rfl
  have c1 : W6.cell? ⟨w5.heap.size, 1, none⟩ = some (.slice (some ⟨g, 0, none⟩) 3 c) := bxq_cell g6 rfl
  have hT := HT.out
  have hbl := HL.out
  have hblt := (Array.getElem?_eq_some_iff.1 hT.met).1
  have hilt := (Array.getElem?_eq_some_iff.1 hT.ins).1
  have hglt := hT.lt
  have hne := hT.ne
  have hT6 : Met W6 (fun k => k < w1.heap.size + 2) maiX g 3 c b bi := hT.keep fun k q => hb6.block k (by rcases q with q | q | q | q <;> omega)
  have m7 := hT6.cell
  have pm : W6.heap[b]? = some (.cells #[.string ⟨#[109, 97, 105, 110]⟩, .bool true, .slice none 0 0, .int .i64 0, .int .i64 0, .int .i64 0, .slice (some ⟨bi, 0, none⟩) 1 1, .slice none 0 0, .slice none 0 0] 39 (0, 0)) := hT6.met
  have x0 : W6.cell? ⟨b, 0, none⟩ = _ := bxq_cell pm rfl
  have x1 : W6.cell? ⟨b, 1, none⟩ = _ := bxq_cell pm rfl
  have x2 : W6.cell? ⟨b, 2, none⟩ = _ := bxq_cell pm rfl
  have x3 : W6.cell? ⟨b, 3, none⟩ = _ := bxq_cell pm rfl
  have x4 : W6.cell? ⟨b, 4, none⟩ = _ := bxq_cell pm rfl
  have x5 : W6.cell? ⟨b, 5, none⟩ = _ := bxq_cell pm rfl
  have x6 : W6.cell? ⟨b, 6, none⟩ = _ := bxq_cell pm rfl
  have x7 : W6.cell? ⟨b, 7, none⟩ = _ := bxq_cell pm rfl
  have x8 : W6.cell? ⟨b, 8, none⟩ = _ := bxq_cell pm rfl
  have fz0 : W6.frozen? ⟨b, 3, none⟩ = false := by simp [World.frozen?, pm]
  obtain ⟨W7, hW7⟩ : ∃ X, X = (W6.setCell ⟨b, 3, none⟩ (.int .i64 1)) := ⟨_, rfl⟩
  have hz7 : W7.heap.size = W6.heap.size + 0 := by rw [hW7]; (repeat (first | rw [sz_al] | rw [sz_sc])); all_goals rfl
  have hk7 : ∀ k, k ≠ b → k < W6.heap.size → W7.heap[k]? = W6.heap[k]? := fun k q1 q2 => by rw [hW7]; (repeat (first | rw [hp_sc, if_neg q1] | rw [hp_al, if_neg (by omega)]))
  have u1 : W7.heap[b]? = some (.cells #[.string ⟨#[109, 97, 105, 110]⟩, .bool true, .slice none 0 0, .int .i64 1, .int .i64 0, .int .i64 0, .slice (some ⟨bi, 0, none⟩) 1 1, .slice none 0 0, .slice none 0 0] 39 (0, 0)) := by rw [hW7]; (repeat rw [hp_sc, if_pos rfl]); rw [pm]; simp only [Option.map_some, List.setIfInBounds_toArray, List.set_cons_succ, List.set_cons_zero]
  have ui : W7.heap[bi]? = some (.cells #[.int .i64 29, .int .i64 0, .int .i64 0] 44 (0, 0)) := (hk7 _ (by omega) (by omega)).trans hT6.ins
  have ug : W7.heap[w5.heap.size]? = some (.cells #[.int .i64 11, .slice (some ⟨g, 0, none⟩) 3 c] 25 (0, 0)) := (hk7 _ (by omega) (by omega)).trans g6
  have hs7 : Sl kCs W7 (fun k => k < W7.heap.size) (.slice (some ⟨g, 0, none⟩) 3 c) (tinyX ⟨⟨#[109, 97, 105, 110]⟩, true, [], 1, 0, 0, [retI], [], []⟩ :: maiX) := by
    refine hT6.row W7 _ _ _ u1 rfl ?_ (show _ < _ by omega) (show _ < _ by omega) (fun k (q : k < _) => show _ < _ by omega) (fun k q => hk7 k (by rcases q with q | q <;> omega) (by rcases q with q | q <;> omega))
    refine ⟨_, _, _, _, rfl, Sl.nil _ _ _, ?_, Sl.nil _ _ _, Sl.nil _ _ _⟩
    refine Sl.blk [[.int .i64 29, .int .i64 0, .int .i64 0]] (T := 44) ui (show _ < _ by omega) rfl rfl rfl (by decide) fun i y r hy hr => ?_
    match i, hy, hr with
    | 0, hy, hr => cases hy; cases hr; rfl
  have hF := errN (p := maiQ3) (n := 3) rfl rfl maiO3 (fun k q => q) hs7 (by decide) maiJ3
  have HB7 : Hid (Below w1.heap.size w5 W7) := ⟨by rw [hW7]; (repeat rw [os_sm]); exact hb6.os, by rw [hW7]; (repeat rw [tape_sm]); exact hb6.tape, by rw [hW7]; (repeat rw [out_sm]); exact hb6.output, by omega, fun k hk => (hk7 k (by omega) (by omega)).trans (hb6.block k (by omega))⟩
  have v0 : W7.cell? ⟨w5.heap.size, 0, none⟩ = some (.int .i64 11) := bxq_cell ug rfl
  have v1 : W7.cell? ⟨w5.heap.size, 1, none⟩ = some (.slice (some ⟨g, 0, none⟩) 3 c) := bxq_cell ug rfl
  have HV0 : Hid _ := v0
  have HV1 : Hid _ := v1
  have HF : Hid (Calls Tryz.prog 13 #[.agg #[.int .i64 11, .slice (some ⟨g, 0, none⟩) 3 c], .int .i64 11, .int .i64 1505] W7 fun e w' => e = .returned (.bool true) ∧ Below W7.heap.size W7 w') := hF
  clear hs7 hF hT hbl hblt hilt hglt hne hT6 pm hz7 hk7 u1 ui ug g6 hz6 hb6 HT v0 v1
  go_upto_region 18 with fail
  rw [← hW7]
  clear hW7 c0 c1 m7 x0 x1 x2 x3 x4 x5 x6 x7 x8 fz0
  have v0 := HV0.out
  have v1 := HV1.out
  have hF := HF.out
  go_wp2_with (go_at_call 13; refine hF.mono ?_; clear hF; rintro e w8 ⟨rfl, hb8⟩; have HB8 : Hid _ := hb8; clear hb8)
  go_ret
  exact ⟨rfl, HB1.out.trans (((HB5.out.trans HB7.out).trans (HB8.out.mono (HB5.out.trans HB7.out).size)).mono HB1.out.size)⟩
theorem mains_walk (z n : Int) (w : World) : Calls Tryz.prog 7 #[.int .i64 z, .int .i64 n] w fun e w' => e = .returned (.bool true) ∧ Below w.heap.size w w' := by
  rcases masked3 n with h | h | h | h
  · obtain ⟨k, hz⟩ : ∃ k, z.tmod 20 = k := ⟨_, rfl⟩
    have hb := tmod_bd z 20 (by decide)
    rw [hz] at hb
    obtain ⟨hO, hT⟩ := mai_at k hb.1 hb.2
    have hL := load_of hT
    by_cases f : k = 11
    · exact mains_fine z n k hz h (by simp [f]) hO (by rw [hL]; simp [maiF, f]) w
    · exact mains_bad z n k hz h (by simp [f]) hO (by rw [hL]; simp [maiF, f]) w
  · exact mains_1 z n h w
  · exact mains_2 z n h w
  · exact mains_3 z n h w
end Go.Proofs.YtbdfpodglfpjnaaGreat
