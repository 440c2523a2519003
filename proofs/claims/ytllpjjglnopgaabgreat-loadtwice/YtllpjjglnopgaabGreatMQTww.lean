/- LoadTwice. -/
import Derived.Test.YtllpjjglnopgaabGreatMQBlk
namespace Go.Proofs.YtllpjjglnopgaabGreat
open Go.RowKit

theorem os_sc (W : World) (a : Addr) (v : Value) : (W.setCell a v).os = W.os := rfl
theorem tape_sc (W : World) (a : Addr) (v : Value) : (W.setCell a v).tape = W.tape := rfl
theorem out_sc (W : World) (a : Addr) (v : Value) : (W.setCell a v).output = W.output := rfl
def twiM (c : UInt8) : Md := ⟨⟨#[c]⟩, false, [], 0, 1, 0, [retI], [], []⟩
def twiN : Md := ⟨⟨#[120]⟩, false, [1], 0, 2, 0, [retI], [], []⟩
def twiF (c : UInt8) : Fd := ⟨⟨#[c]⟩, 1⟩
def twiA (fs ss : List Fd) (ms : List Md) : Cs := ⟨⟨#[65]⟩, false, false, 0, [], fs, ss, ms⟩
def twiP0t : Pg := ⟨11, [tinyC, twiA [twiF 120, twiF 121] [] []]⟩
theorem twiO0t : Okl twiP0t := okl_of (by kernel_rfl)
theorem twiJ0t : loadJ twiP0t = .ok (allJ twiP0t) := by kernel_rfl
set_option maxRecDepth 20000 in
set_option maxHeartbeats 8000000 in
theorem twice_0t (n : Int) (hm : bits BinOp.and .i64 n 3 = 0) (w : World) : Calls Tryz.prog 4 #[.int .i64 n, .bool true] w fun e w' => e = .returned (.bool true) ∧ Below w.heap.size w w' := by
  have hA := awake15 w
  go_enter Tryz.func4, Tryz.ntmps4
  go_upto_region 8 with (go_at_call 9; refine hA.mono ?_; clear hA; rintro e w1 ⟨rfl, hb1⟩; have HB1 : Hid (Below w.heap.size w w1) := hb1; clear hb1)
  obtain ⟨W, hW⟩ : ∃ W, W = (w1.alloc (.cells #[.string ⟨#[65]⟩, .bool false, .bool false, .int .i64 0, .slice none 0 0, .slice none 0 0, .slice none 0 0, .slice none 0 0] 27)).alloc (.cells #[.string ⟨#[120]⟩, .int .i64 1, .string ⟨#[121]⟩, .int .i64 1] 29) := ⟨_, rfl⟩
  have HWz : Hid (W.heap.size = w1.heap.size + 2) := by show _ = _; rw [hW]; simp only [sz_al]
  have HBW : Hid (Below w1.heap.size w1 W) := by rw [hW]; exact ((Below.refl _ _).alloc (Nat.le_refl _) _).alloc (by rw [sz_al]; omega) _
  have h0 : W.heap[w1.heap.size]? = some (.cells #[.string ⟨#[65]⟩, .bool false, .bool false, .int .i64 0, .slice none 0 0, .slice none 0 0, .slice none 0 0, .slice none 0 0] 27 (0, 0)) := by rw [hW]; exact (by (repeat (first | rw [hp_al] | rw [hp_sc] | rw [sz_al] | rw [sz_sc] | rw [if_neg (by omega)] | rw [if_pos (by omega)])); all_goals first | rfl | assumption)
  have h1 : W.heap[w1.heap.size + 1]? = some (.cells #[.string ⟨#[120]⟩, .int .i64 1, .string ⟨#[121]⟩, .int .i64 1] 29 (0, 0)) := by rw [hW]; exact (by (repeat (first | rw [hp_al] | rw [hp_sc] | rw [sz_al] | rw [sz_sc] | rw [if_neg (by omega)] | rw [if_pos (by omega)])); all_goals first | rfl | assumption)
  have hwz := HWz.out
  rw [← hW]
  clear hW
  have x0 : W.cell? ⟨w1.heap.size, 0, none⟩ = _ := bxq_cell h0 rfl
  have x1 : W.cell? ⟨w1.heap.size, 1, none⟩ = _ := bxq_cell h0 rfl
  have x2 : W.cell? ⟨w1.heap.size, 2, none⟩ = _ := bxq_cell h0 rfl
  have x3 : W.cell? ⟨w1.heap.size, 3, none⟩ = _ := bxq_cell h0 rfl
  have x4 : W.cell? ⟨w1.heap.size, 4, none⟩ = _ := bxq_cell h0 rfl
  have x5 : W.cell? ⟨w1.heap.size, 5, none⟩ = _ := bxq_cell h0 rfl
  have x6 : W.cell? ⟨w1.heap.size, 6, none⟩ = _ := bxq_cell h0 rfl
  have x7 : W.cell? ⟨w1.heap.size, 7, none⟩ = _ := bxq_cell h0 rfl
  have fx : W.frozen? ⟨w1.heap.size, 5, none⟩ = false := (by simp [World.frozen?, h0])
  have H0 : Hid _ := h0
  have H1 : Hid _ := h1
  clear h0 h1 hwz
  go_upto_region 18 with fail
  have h0 := H0.out
  have h1 := H1.out
  have hwz := HWz.out
  obtain ⟨W5, hW5⟩ : ∃ X, X = (W.setCell ⟨w1.heap.size, 5, none⟩ (.slice (some ⟨w1.heap.size + 1, 0, none⟩) 2 2)) := ⟨_, rfl⟩
  have hz5 : W5.heap.size = W.heap.size := by rw [hW5]; (repeat (first | rw [sz_al] | rw [sz_sc]))
  have g0 : W5.heap[w1.heap.size]? = some (.cells #[.string ⟨#[65]⟩, .bool false, .bool false, .int .i64 0, .slice none 0 0, .slice (some ⟨w1.heap.size + 1, 0, none⟩) 2 2, .slice none 0 0, .slice none 0 0] 27 (0, 0)) := by rw [hW5]; exact (by (repeat (first | rw [hp_al] | rw [hp_sc] | rw [sz_al] | rw [sz_sc] | rw [if_neg (by omega)] | rw [if_pos (by omega)] | rw [h0] | rw [h1] | rw [h2] | rw [h3])); all_goals rfl)
  have g1 : W5.heap[w1.heap.size + 1]? = some (.cells #[.string ⟨#[120]⟩, .int .i64 1, .string ⟨#[121]⟩, .int .i64 1] 29 (0, 0)) := by rw [hW5]; exact (by (repeat (first | rw [hp_al] | rw [hp_sc] | rw [sz_al] | rw [sz_sc] | rw [if_neg (by omega)] | rw [if_pos (by omega)] | rw [h0] | rw [h1] | rw [h2] | rw [h3])); all_goals rfl)
  have HB5w : Hid (Below w1.heap.size W W5) := ⟨by rw [hW5]; rfl, by rw [hW5]; rfl, by rw [hW5]; rfl, by omega, fun k hk => by rw [hW5]; (repeat (first | rw [hp_al] | rw [hp_sc] | rw [sz_al] | rw [sz_sc] | rw [if_neg (by omega)]))⟩
  rw [← hW5]
  clear hW5 h0 h1
  have z0 : W5.cell? ⟨w1.heap.size, 0, none⟩ = _ := bxq_cell g0 rfl
  have z1 : W5.cell? ⟨w1.heap.size, 1, none⟩ = _ := bxq_cell g0 rfl
  have z2 : W5.cell? ⟨w1.heap.size, 2, none⟩ = _ := bxq_cell g0 rfl
  have z3 : W5.cell? ⟨w1.heap.size, 3, none⟩ = _ := bxq_cell g0 rfl
  have z4 : W5.cell? ⟨w1.heap.size, 4, none⟩ = _ := bxq_cell g0 rfl
  have z5 : W5.cell? ⟨w1.heap.size, 5, none⟩ = _ := bxq_cell g0 rfl
  have z6 : W5.cell? ⟨w1.heap.size, 6, none⟩ = _ := bxq_cell g0 rfl
  have z7 : W5.cell? ⟨w1.heap.size, 7, none⟩ = _ := bxq_cell g0 rfl
  go_wp2_with (first
    | (go_at_call 12; refine (with_ok (S := fun k => k < W.heap.size + 1) (xs := [twiA [twiF 120, twiF 121] [] []]) (fun k (q : k < _) => (by repeat (first | rw [sz_al] | rw [sz_sc]); omega)) (by
        refine Sl.blk [[.string ⟨#[65]⟩, .bool false, .bool false, .int .i64 0, .slice none 0 0, .slice (some ⟨w1.heap.size + 1, 0, none⟩) 2 2, .slice none 0 0, .slice none 0 0]] (T := 27) (by (repeat (first | rw [hp_al] | rw [hp_sc] | rw [sz_al] | rw [sz_sc] | rw [if_neg (by omega)] | rw [if_pos (by omega)])); all_goals first | rfl | assumption) (show _ < _ by omega) rfl rfl rfl (by decide) fun i y r hy hr => ?_
        match i, hy, hr with
        | 0, hy, hr =>
          cases hy; cases hr
          refine ⟨_, _, _, _, rfl, Sl.nil _ _ _, ?_, Sl.nil _ _ _, Sl.nil _ _ _⟩
          refine Sl.blk [[.string ⟨#[120]⟩, .int .i64 1], [.string ⟨#[121]⟩, .int .i64 1]] (T := 29) (by (repeat (first | rw [hp_al] | rw [hp_sc] | rw [sz_al] | rw [sz_sc] | rw [if_neg (by omega)] | rw [if_pos (by omega)])); all_goals first | rfl | assumption) (show _ < _ by omega) rfl rfl rfl (by decide) fun i y r hy hr => ?_
          match i, hy, hr with
          | 0, hy, hr => cases hy; cases hr; rfl
          | 1, hy, hr => cases hy; cases hr; rfl
        ) (by decide) (by decide)).mono ?_; rintro e w5 ⟨g, c, rfl, hb5, S', hS', hs⟩; have HB5 : Hid (Below w1.heap.size W5 w5) := ((Below.refl _ _).alloc (by omega) _).trans (hb5.mono (by rw [sz_al]; omega)); have hF := faults_yes (w := w5) (S := S') (p := twiP0t) twiO0t hS' hs twiJ0t; clear hb5 hS' hs)
    | (go_at_call 11; refine hF.mono ?_; clear hF; rintro e w6 ⟨rfl, hb6⟩; have HB6 : Hid (Below w1.heap.size W5 w6) := HB5.out.trans (hb6.mono (by have := HB5.out.size; omega)); clear hb6))
  go_ret
  exact ⟨rfl, HB1.out.trans (((HBW.out.trans HB5w.out).trans HB6.out).mono HB1.out.size)⟩
def twiP0f : Pg := ⟨11, [tinyC, twiA [twiF 120, twiF 120] [] []]⟩
theorem twiO0f : Okl twiP0f := okl_of (by kernel_rfl)
theorem twiJ0f : loadJ twiP0f = .error (1503, 12) := by kernel_rfl
set_option maxRecDepth 20000 in
set_option maxHeartbeats 8000000 in
theorem twice_0f (n : Int) (hm : bits BinOp.and .i64 n 3 = 0) (w : World) : Calls Tryz.prog 4 #[.int .i64 n, .bool false] w fun e w' => e = .returned (.bool true) ∧ Below w.heap.size w w' := by
  have hA := awake15 w
  go_enter Tryz.func4, Tryz.ntmps4
  go_upto_region 8 with (go_at_call 9; refine hA.mono ?_; clear hA; rintro e w1 ⟨rfl, hb1⟩; have HB1 : Hid (Below w.heap.size w w1) := hb1; clear hb1)
  obtain ⟨W, hW⟩ : ∃ W, W = (w1.alloc (.cells #[.string ⟨#[65]⟩, .bool false, .bool false, .int .i64 0, .slice none 0 0, .slice none 0 0, .slice none 0 0, .slice none 0 0] 27)).alloc (.cells #[.string ⟨#[120]⟩, .int .i64 1, .string ⟨#[120]⟩, .int .i64 1] 29) := ⟨_, rfl⟩
  have HWz : Hid (W.heap.size = w1.heap.size + 2) := by show _ = _; rw [hW]; simp only [sz_al]
  have HBW : Hid (Below w1.heap.size w1 W) := by rw [hW]; exact ((Below.refl _ _).alloc (Nat.le_refl _) _).alloc (by rw [sz_al]; omega) _
  have h0 : W.heap[w1.heap.size]? = some (.cells #[.string ⟨#[65]⟩, .bool false, .bool false, .int .i64 0, .slice none 0 0, .slice none 0 0, .slice none 0 0, .slice none 0 0] 27 (0, 0)) := by rw [hW]; exact (by (repeat (first | rw [hp_al] | rw [hp_sc] | rw [sz_al] | rw [sz_sc] | rw [if_neg (by omega)] | rw [if_pos (by omega)])); all_goals first | rfl | assumption)
  have h1 : W.heap[w1.heap.size + 1]? = some (.cells #[.string ⟨#[120]⟩, .int .i64 1, .string ⟨#[120]⟩, .int .i64 1] 29 (0, 0)) := by rw [hW]; exact (by (repeat (first | rw [hp_al] | rw [hp_sc] | rw [sz_al] | rw [sz_sc] | rw [if_neg (by omega)] | rw [if_pos (by omega)])); all_goals first | rfl | assumption)
  have hwz := HWz.out
  rw [← hW]
  clear hW
  have x0 : W.cell? ⟨w1.heap.size, 0, none⟩ = _ := bxq_cell h0 rfl
  have x1 : W.cell? ⟨w1.heap.size, 1, none⟩ = _ := bxq_cell h0 rfl
  have x2 : W.cell? ⟨w1.heap.size, 2, none⟩ = _ := bxq_cell h0 rfl
  have x3 : W.cell? ⟨w1.heap.size, 3, none⟩ = _ := bxq_cell h0 rfl
  have x4 : W.cell? ⟨w1.heap.size, 4, none⟩ = _ := bxq_cell h0 rfl
  have x5 : W.cell? ⟨w1.heap.size, 5, none⟩ = _ := bxq_cell h0 rfl
  have x6 : W.cell? ⟨w1.heap.size, 6, none⟩ = _ := bxq_cell h0 rfl
  have x7 : W.cell? ⟨w1.heap.size, 7, none⟩ = _ := bxq_cell h0 rfl
  have fx : W.frozen? ⟨w1.heap.size, 5, none⟩ = false := (by simp [World.frozen?, h0])
  have H0 : Hid _ := h0
  have H1 : Hid _ := h1
  clear h0 h1 hwz
  go_upto_region 18 with fail
  have h0 := H0.out
  have h1 := H1.out
  have hwz := HWz.out
  obtain ⟨W5, hW5⟩ : ∃ X, X = (W.setCell ⟨w1.heap.size, 5, none⟩ (.slice (some ⟨w1.heap.size + 1, 0, none⟩) 2 2)) := ⟨_, rfl⟩
  have hz5 : W5.heap.size = W.heap.size := by rw [hW5]; (repeat (first | rw [sz_al] | rw [sz_sc]))
  have g0 : W5.heap[w1.heap.size]? = some (.cells #[.string ⟨#[65]⟩, .bool false, .bool false, .int .i64 0, .slice none 0 0, .slice (some ⟨w1.heap.size + 1, 0, none⟩) 2 2, .slice none 0 0, .slice none 0 0] 27 (0, 0)) := by rw [hW5]; exact (by (repeat (first | rw [hp_al] | rw [hp_sc] | rw [sz_al] | rw [sz_sc] | rw [if_neg (by omega)] | rw [if_pos (by omega)] | rw [h0] | rw [h1] | rw [h2] | rw [h3])); all_goals rfl)
  have g1 : W5.heap[w1.heap.size + 1]? = some (.cells #[.string ⟨#[120]⟩, .int .i64 1, .string ⟨#[120]⟩, .int .i64 1] 29 (0, 0)) := by rw [hW5]; exact (by (repeat (first | rw [hp_al] | rw [hp_sc] | rw [sz_al] | rw [sz_sc] | rw [if_neg (by omega)] | rw [if_pos (by omega)] | rw [h0] | rw [h1] | rw [h2] | rw [h3])); all_goals rfl)
  have HB5w : Hid (Below w1.heap.size W W5) := ⟨by rw [hW5]; rfl, by rw [hW5]; rfl, by rw [hW5]; rfl, by omega, fun k hk => by rw [hW5]; (repeat (first | rw [hp_al] | rw [hp_sc] | rw [sz_al] | rw [sz_sc] | rw [if_neg (by omega)]))⟩
  rw [← hW5]
  clear hW5 h0 h1
  have z0 : W5.cell? ⟨w1.heap.size, 0, none⟩ = _ := bxq_cell g0 rfl
  have z1 : W5.cell? ⟨w1.heap.size, 1, none⟩ = _ := bxq_cell g0 rfl
  have z2 : W5.cell? ⟨w1.heap.size, 2, none⟩ = _ := bxq_cell g0 rfl
  have z3 : W5.cell? ⟨w1.heap.size, 3, none⟩ = _ := bxq_cell g0 rfl
  have z4 : W5.cell? ⟨w1.heap.size, 4, none⟩ = _ := bxq_cell g0 rfl
  have z5 : W5.cell? ⟨w1.heap.size, 5, none⟩ = _ := bxq_cell g0 rfl
  have z6 : W5.cell? ⟨w1.heap.size, 6, none⟩ = _ := bxq_cell g0 rfl
  have z7 : W5.cell? ⟨w1.heap.size, 7, none⟩ = _ := bxq_cell g0 rfl
  go_wp2_with (first
    | (go_at_call 12; refine (with_ok (S := fun k => k < W.heap.size + 1) (xs := [twiA [twiF 120, twiF 120] [] []]) (fun k (q : k < _) => (by repeat (first | rw [sz_al] | rw [sz_sc]); omega)) (by
        refine Sl.blk [[.string ⟨#[65]⟩, .bool false, .bool false, .int .i64 0, .slice none 0 0, .slice (some ⟨w1.heap.size + 1, 0, none⟩) 2 2, .slice none 0 0, .slice none 0 0]] (T := 27) (by (repeat (first | rw [hp_al] | rw [hp_sc] | rw [sz_al] | rw [sz_sc] | rw [if_neg (by omega)] | rw [if_pos (by omega)])); all_goals first | rfl | assumption) (show _ < _ by omega) rfl rfl rfl (by decide) fun i y r hy hr => ?_
        match i, hy, hr with
        | 0, hy, hr =>
          cases hy; cases hr
          refine ⟨_, _, _, _, rfl, Sl.nil _ _ _, ?_, Sl.nil _ _ _, Sl.nil _ _ _⟩
          refine Sl.blk [[.string ⟨#[120]⟩, .int .i64 1], [.string ⟨#[120]⟩, .int .i64 1]] (T := 29) (by (repeat (first | rw [hp_al] | rw [hp_sc] | rw [sz_al] | rw [sz_sc] | rw [if_neg (by omega)] | rw [if_pos (by omega)])); all_goals first | rfl | assumption) (show _ < _ by omega) rfl rfl rfl (by decide) fun i y r hy hr => ?_
          match i, hy, hr with
          | 0, hy, hr => cases hy; cases hr; rfl
          | 1, hy, hr => cases hy; cases hr; rfl
        ) (by decide) (by decide)).mono ?_; rintro e w5 ⟨g, c, rfl, hb5, S', hS', hs⟩; have HB5 : Hid (Below w1.heap.size W5 w5) := ((Below.refl _ _).alloc (by omega) _).trans (hb5.mono (by rw [sz_al]; omega)); have hF := faults_err (w := w5) (S := S') (p := twiP0f) twiO0f hS' hs (by decide) twiJ0f; clear hb5 hS' hs)
    | (go_at_call 11; refine hF.mono ?_; clear hF; rintro e w6 ⟨rfl, hb6⟩; have HB6 : Hid (Below w1.heap.size W5 w6) := HB5.out.trans (hb6.mono (by have := HB5.out.size; omega)); clear hb6))
  go_ret
  exact ⟨rfl, HB1.out.trans (((HBW.out.trans HB5w.out).trans HB6.out).mono HB1.out.size)⟩
def twiP1t : Pg := ⟨11, [tinyC, twiA [] [twiF 120, twiF 121] []]⟩
theorem twiO1t : Okl twiP1t := okl_of (by kernel_rfl)
theorem twiJ1t : loadJ twiP1t = .ok (allJ twiP1t) := by kernel_rfl
set_option maxRecDepth 20000 in
set_option maxHeartbeats 8000000 in
theorem twice_1t (n : Int) (hm : bits BinOp.and .i64 n 3 = 1) (w : World) : Calls Tryz.prog 4 #[.int .i64 n, .bool true] w fun e w' => e = .returned (.bool true) ∧ Below w.heap.size w w' := by
  have hA := awake15 w
  go_enter Tryz.func4, Tryz.ntmps4
  go_upto_region 8 with (go_at_call 9; refine hA.mono ?_; clear hA; rintro e w1 ⟨rfl, hb1⟩; have HB1 : Hid (Below w.heap.size w w1) := hb1; clear hb1)
  obtain ⟨W, hW⟩ : ∃ W, W = (w1.alloc (.cells #[.string ⟨#[65]⟩, .bool false, .bool false, .int .i64 0, .slice none 0 0, .slice none 0 0, .slice none 0 0, .slice none 0 0] 27)).alloc (.cells #[.string ⟨#[120]⟩, .int .i64 1, .string ⟨#[121]⟩, .int .i64 1] 29) := ⟨_, rfl⟩
  have HWz : Hid (W.heap.size = w1.heap.size + 2) := by show _ = _; rw [hW]; simp only [sz_al]
  have HBW : Hid (Below w1.heap.size w1 W) := by rw [hW]; exact ((Below.refl _ _).alloc (Nat.le_refl _) _).alloc (by rw [sz_al]; omega) _
  have h0 : W.heap[w1.heap.size]? = some (.cells #[.string ⟨#[65]⟩, .bool false, .bool false, .int .i64 0, .slice none 0 0, .slice none 0 0, .slice none 0 0, .slice none 0 0] 27 (0, 0)) := by rw [hW]; exact (by (repeat (first | rw [hp_al] | rw [hp_sc] | rw [sz_al] | rw [sz_sc] | rw [if_neg (by omega)] | rw [if_pos (by omega)])); all_goals first | rfl | assumption)
  have h1 : W.heap[w1.heap.size + 1]? = some (.cells #[.string ⟨#[120]⟩, .int .i64 1, .string ⟨#[121]⟩, .int .i64 1] 29 (0, 0)) := by rw [hW]; exact (by (repeat (first | rw [hp_al] | rw [hp_sc] | rw [sz_al] | rw [sz_sc] | rw [if_neg (by omega)] | rw [if_pos (by omega)])); all_goals first | rfl | assumption)
  have hwz := HWz.out
  rw [← hW]
  clear hW
  have x0 : W.cell? ⟨w1.heap.size, 0, none⟩ = _ := bxq_cell h0 rfl
  have x1 : W.cell? ⟨w1.heap.size, 1, none⟩ = _ := bxq_cell h0 rfl
  have x2 : W.cell? ⟨w1.heap.size, 2, none⟩ = _ := bxq_cell h0 rfl
  have x3 : W.cell? ⟨w1.heap.size, 3, none⟩ = _ := bxq_cell h0 rfl
  have x4 : W.cell? ⟨w1.heap.size, 4, none⟩ = _ := bxq_cell h0 rfl
  have x5 : W.cell? ⟨w1.heap.size, 5, none⟩ = _ := bxq_cell h0 rfl
  have x6 : W.cell? ⟨w1.heap.size, 6, none⟩ = _ := bxq_cell h0 rfl
  have x7 : W.cell? ⟨w1.heap.size, 7, none⟩ = _ := bxq_cell h0 rfl
  have fx : W.frozen? ⟨w1.heap.size, 6, none⟩ = false := (by simp [World.frozen?, h0])
  have H0 : Hid _ := h0
  have H1 : Hid _ := h1
  clear h0 h1 hwz
  go_upto_region 18 with fail
  have h0 := H0.out
  have h1 := H1.out
  have hwz := HWz.out
  obtain ⟨W5, hW5⟩ : ∃ X, X = (W.setCell ⟨w1.heap.size, 6, none⟩ (.slice (some ⟨w1.heap.size + 1, 0, none⟩) 2 2)) := ⟨_, rfl⟩
  have hz5 : W5.heap.size = W.heap.size := by rw [hW5]; (repeat (first | rw [sz_al] | rw [sz_sc]))
  have g0 : W5.heap[w1.heap.size]? = some (.cells #[.string ⟨#[65]⟩, .bool false, .bool false, .int .i64 0, .slice none 0 0, .slice none 0 0, .slice (some ⟨w1.heap.size + 1, 0, none⟩) 2 2, .slice none 0 0] 27 (0, 0)) := by rw [hW5]; exact (by (repeat (first | rw [hp_al] | rw [hp_sc] | rw [sz_al] | rw [sz_sc] | rw [if_neg (by omega)] | rw [if_pos (by omega)] | rw [h0] | rw [h1] | rw [h2] | rw [h3])); all_goals rfl)
  have g1 : W5.heap[w1.heap.size + 1]? = some (.cells #[.string ⟨#[120]⟩, .int .i64 1, .string ⟨#[121]⟩, .int .i64 1] 29 (0, 0)) := by rw [hW5]; exact (by (repeat (first | rw [hp_al] | rw [hp_sc] | rw [sz_al] | rw [sz_sc] | rw [if_neg (by omega)] | rw [if_pos (by omega)] | rw [h0] | rw [h1] | rw [h2] | rw [h3])); all_goals rfl)
  have HB5w : Hid (Below w1.heap.size W W5) := ⟨by rw [hW5]; rfl, by rw [hW5]; rfl, by rw [hW5]; rfl, by omega, fun k hk => by rw [hW5]; (repeat (first | rw [hp_al] | rw [hp_sc] | rw [sz_al] | rw [sz_sc] | rw [if_neg (by omega)]))⟩
  rw [← hW5]
  clear hW5 h0 h1
  have z0 : W5.cell? ⟨w1.heap.size, 0, none⟩ = _ := bxq_cell g0 rfl
  have z1 : W5.cell? ⟨w1.heap.size, 1, none⟩ = _ := bxq_cell g0 rfl
  have z2 : W5.cell? ⟨w1.heap.size, 2, none⟩ = _ := bxq_cell g0 rfl
  have z3 : W5.cell? ⟨w1.heap.size, 3, none⟩ = _ := bxq_cell g0 rfl
  have z4 : W5.cell? ⟨w1.heap.size, 4, none⟩ = _ := bxq_cell g0 rfl
  have z5 : W5.cell? ⟨w1.heap.size, 5, none⟩ = _ := bxq_cell g0 rfl
  have z6 : W5.cell? ⟨w1.heap.size, 6, none⟩ = _ := bxq_cell g0 rfl
  have z7 : W5.cell? ⟨w1.heap.size, 7, none⟩ = _ := bxq_cell g0 rfl
  go_wp2_with (first
    | (go_at_call 12; refine (with_ok (S := fun k => k < W.heap.size + 1) (xs := [twiA [] [twiF 120, twiF 121] []]) (fun k (q : k < _) => (by repeat (first | rw [sz_al] | rw [sz_sc]); omega)) (by
        refine Sl.blk [[.string ⟨#[65]⟩, .bool false, .bool false, .int .i64 0, .slice none 0 0, .slice none 0 0, .slice (some ⟨w1.heap.size + 1, 0, none⟩) 2 2, .slice none 0 0]] (T := 27) (by (repeat (first | rw [hp_al] | rw [hp_sc] | rw [sz_al] | rw [sz_sc] | rw [if_neg (by omega)] | rw [if_pos (by omega)])); all_goals first | rfl | assumption) (show _ < _ by omega) rfl rfl rfl (by decide) fun i y r hy hr => ?_
        match i, hy, hr with
        | 0, hy, hr =>
          cases hy; cases hr
          refine ⟨_, _, _, _, rfl, Sl.nil _ _ _, Sl.nil _ _ _, ?_, Sl.nil _ _ _⟩
          refine Sl.blk [[.string ⟨#[120]⟩, .int .i64 1], [.string ⟨#[121]⟩, .int .i64 1]] (T := 29) (by (repeat (first | rw [hp_al] | rw [hp_sc] | rw [sz_al] | rw [sz_sc] | rw [if_neg (by omega)] | rw [if_pos (by omega)])); all_goals first | rfl | assumption) (show _ < _ by omega) rfl rfl rfl (by decide) fun i y r hy hr => ?_
          match i, hy, hr with
          | 0, hy, hr => cases hy; cases hr; rfl
          | 1, hy, hr => cases hy; cases hr; rfl
        ) (by decide) (by decide)).mono ?_; rintro e w5 ⟨g, c, rfl, hb5, S', hS', hs⟩; have HB5 : Hid (Below w1.heap.size W5 w5) := ((Below.refl _ _).alloc (by omega) _).trans (hb5.mono (by rw [sz_al]; omega)); have hF := faults_yes (w := w5) (S := S') (p := twiP1t) twiO1t hS' hs twiJ1t; clear hb5 hS' hs)
    | (go_at_call 11; refine hF.mono ?_; clear hF; rintro e w6 ⟨rfl, hb6⟩; have HB6 : Hid (Below w1.heap.size W5 w6) := HB5.out.trans (hb6.mono (by have := HB5.out.size; omega)); clear hb6))
  go_ret
  exact ⟨rfl, HB1.out.trans (((HBW.out.trans HB5w.out).trans HB6.out).mono HB1.out.size)⟩
def twiP1f : Pg := ⟨11, [tinyC, twiA [] [twiF 120, twiF 120] []]⟩
theorem twiO1f : Okl twiP1f := okl_of (by kernel_rfl)
theorem twiJ1f : loadJ twiP1f = .error (1503, 12) := by kernel_rfl
set_option maxRecDepth 20000 in
set_option maxHeartbeats 8000000 in
theorem twice_1f (n : Int) (hm : bits BinOp.and .i64 n 3 = 1) (w : World) : Calls Tryz.prog 4 #[.int .i64 n, .bool false] w fun e w' => e = .returned (.bool true) ∧ Below w.heap.size w w' := by
  have hA := awake15 w
  go_enter Tryz.func4, Tryz.ntmps4
  go_upto_region 8 with (go_at_call 9; refine hA.mono ?_; clear hA; rintro e w1 ⟨rfl, hb1⟩; have HB1 : Hid (Below w.heap.size w w1) := hb1; clear hb1)
  obtain ⟨W, hW⟩ : ∃ W, W = (w1.alloc (.cells #[.string ⟨#[65]⟩, .bool false, .bool false, .int .i64 0, .slice none 0 0, .slice none 0 0, .slice none 0 0, .slice none 0 0] 27)).alloc (.cells #[.string ⟨#[120]⟩, .int .i64 1, .string ⟨#[120]⟩, .int .i64 1] 29) := ⟨_, rfl⟩
  have HWz : Hid (W.heap.size = w1.heap.size + 2) := by show _ = _; rw [hW]; simp only [sz_al]
  have HBW : Hid (Below w1.heap.size w1 W) := by rw [hW]; exact ((Below.refl _ _).alloc (Nat.le_refl _) _).alloc (by rw [sz_al]; omega) _
  have h0 : W.heap[w1.heap.size]? = some (.cells #[.string ⟨#[65]⟩, .bool false, .bool false, .int .i64 0, .slice none 0 0, .slice none 0 0, .slice none 0 0, .slice none 0 0] 27 (0, 0)) := by rw [hW]; exact (by (repeat (first | rw [hp_al] | rw [hp_sc] | rw [sz_al] | rw [sz_sc] | rw [if_neg (by omega)] | rw [if_pos (by omega)])); all_goals first | rfl | assumption)
  have h1 : W.heap[w1.heap.size + 1]? = some (.cells #[.string ⟨#[120]⟩, .int .i64 1, .string ⟨#[120]⟩, .int .i64 1] 29 (0, 0)) := by rw [hW]; exact (by (repeat (first | rw [hp_al] | rw [hp_sc] | rw [sz_al] | rw [sz_sc] | rw [if_neg (by omega)] | rw [if_pos (by omega)])); all_goals first | rfl | assumption)
  have hwz := HWz.out
  rw [← hW]
  clear hW
  have x0 : W.cell? ⟨w1.heap.size, 0, none⟩ = _ := bxq_cell h0 rfl
  have x1 : W.cell? ⟨w1.heap.size, 1, none⟩ = _ := bxq_cell h0 rfl
  have x2 : W.cell? ⟨w1.heap.size, 2, none⟩ = _ := bxq_cell h0 rfl
  have x3 : W.cell? ⟨w1.heap.size, 3, none⟩ = _ := bxq_cell h0 rfl
  have x4 : W.cell? ⟨w1.heap.size, 4, none⟩ = _ := bxq_cell h0 rfl
  have x5 : W.cell? ⟨w1.heap.size, 5, none⟩ = _ := bxq_cell h0 rfl
  have x6 : W.cell? ⟨w1.heap.size, 6, none⟩ = _ := bxq_cell h0 rfl
  have x7 : W.cell? ⟨w1.heap.size, 7, none⟩ = _ := bxq_cell h0 rfl
  have fx : W.frozen? ⟨w1.heap.size, 6, none⟩ = false := (by simp [World.frozen?, h0])
  have H0 : Hid _ := h0
  have H1 : Hid _ := h1
  clear h0 h1 hwz
  go_upto_region 18 with fail
  have h0 := H0.out
  have h1 := H1.out
  have hwz := HWz.out
  obtain ⟨W5, hW5⟩ : ∃ X, X = (W.setCell ⟨w1.heap.size, 6, none⟩ (.slice (some ⟨w1.heap.size + 1, 0, none⟩) 2 2)) := ⟨_, rfl⟩
  have hz5 : W5.heap.size = W.heap.size := by rw [hW5]; (repeat (first | rw [sz_al] | rw [sz_sc]))
  have g0 : W5.heap[w1.heap.size]? = some (.cells #[.string ⟨#[65]⟩, .bool false, .bool false, .int .i64 0, .slice none 0 0, .slice none 0 0, .slice (some ⟨w1.heap.size + 1, 0, none⟩) 2 2, .slice none 0 0] 27 (0, 0)) := by rw [hW5]; exact (by (repeat (first | rw [hp_al] | rw [hp_sc] | rw [sz_al] | rw [sz_sc] | rw [if_neg (by omega)] | rw [if_pos (by omega)] | rw [h0] | rw [h1] | rw [h2] | rw [h3])); all_goals rfl)
  have g1 : W5.heap[w1.heap.size + 1]? = some (.cells #[.string ⟨#[120]⟩, .int .i64 1, .string ⟨#[120]⟩, .int .i64 1] 29 (0, 0)) := by rw [hW5]; exact (by (repeat (first | rw [hp_al] | rw [hp_sc] | rw [sz_al] | rw [sz_sc] | rw [if_neg (by omega)] | rw [if_pos (by omega)] | rw [h0] | rw [h1] | rw [h2] | rw [h3])); all_goals rfl)
  have HB5w : Hid (Below w1.heap.size W W5) := ⟨by rw [hW5]; rfl, by rw [hW5]; rfl, by rw [hW5]; rfl, by omega, fun k hk => by rw [hW5]; (repeat (first | rw [hp_al] | rw [hp_sc] | rw [sz_al] | rw [sz_sc] | rw [if_neg (by omega)]))⟩
  rw [← hW5]
  clear hW5 h0 h1
  have z0 : W5.cell? ⟨w1.heap.size, 0, none⟩ = _ := bxq_cell g0 rfl
  have z1 : W5.cell? ⟨w1.heap.size, 1, none⟩ = _ := bxq_cell g0 rfl
  have z2 : W5.cell? ⟨w1.heap.size, 2, none⟩ = _ := bxq_cell g0 rfl
  have z3 : W5.cell? ⟨w1.heap.size, 3, none⟩ = _ := bxq_cell g0 rfl
  have z4 : W5.cell? ⟨w1.heap.size, 4, none⟩ = _ := bxq_cell g0 rfl
  have z5 : W5.cell? ⟨w1.heap.size, 5, none⟩ = _ := bxq_cell g0 rfl
  have z6 : W5.cell? ⟨w1.heap.size, 6, none⟩ = _ := bxq_cell g0 rfl
  have z7 : W5.cell? ⟨w1.heap.size, 7, none⟩ = _ := bxq_cell g0 rfl
  go_wp2_with (first
    | (go_at_call 12; refine (with_ok (S := fun k => k < W.heap.size + 1) (xs := [twiA [] [twiF 120, twiF 120] []]) (fun k (q : k < _) => (by repeat (first | rw [sz_al] | rw [sz_sc]); omega)) (by
        refine Sl.blk [[.string ⟨#[65]⟩, .bool false, .bool false, .int .i64 0, .slice none 0 0, .slice none 0 0, .slice (some ⟨w1.heap.size + 1, 0, none⟩) 2 2, .slice none 0 0]] (T := 27) (by (repeat (first | rw [hp_al] | rw [hp_sc] | rw [sz_al] | rw [sz_sc] | rw [if_neg (by omega)] | rw [if_pos (by omega)])); all_goals first | rfl | assumption) (show _ < _ by omega) rfl rfl rfl (by decide) fun i y r hy hr => ?_
        match i, hy, hr with
        | 0, hy, hr =>
          cases hy; cases hr
          refine ⟨_, _, _, _, rfl, Sl.nil _ _ _, Sl.nil _ _ _, ?_, Sl.nil _ _ _⟩
          refine Sl.blk [[.string ⟨#[120]⟩, .int .i64 1], [.string ⟨#[120]⟩, .int .i64 1]] (T := 29) (by (repeat (first | rw [hp_al] | rw [hp_sc] | rw [sz_al] | rw [sz_sc] | rw [if_neg (by omega)] | rw [if_pos (by omega)])); all_goals first | rfl | assumption) (show _ < _ by omega) rfl rfl rfl (by decide) fun i y r hy hr => ?_
          match i, hy, hr with
          | 0, hy, hr => cases hy; cases hr; rfl
          | 1, hy, hr => cases hy; cases hr; rfl
        ) (by decide) (by decide)).mono ?_; rintro e w5 ⟨g, c, rfl, hb5, S', hS', hs⟩; have HB5 : Hid (Below w1.heap.size W5 w5) := ((Below.refl _ _).alloc (by omega) _).trans (hb5.mono (by rw [sz_al]; omega)); have hF := faults_err (w := w5) (S := S') (p := twiP1f) twiO1f hS' hs (by decide) twiJ1f; clear hb5 hS' hs)
    | (go_at_call 11; refine hF.mono ?_; clear hF; rintro e w6 ⟨rfl, hb6⟩; have HB6 : Hid (Below w1.heap.size W5 w6) := HB5.out.trans (hb6.mono (by have := HB5.out.size; omega)); clear hb6))
  go_ret
  exact ⟨rfl, HB1.out.trans (((HBW.out.trans HB5w.out).trans HB6.out).mono HB1.out.size)⟩
def twiP2t : Pg := ⟨11, [tinyC, twiA [] [] [twiM 120, twiM 121]]⟩
theorem twiO2t : Okl twiP2t := okl_of (by kernel_rfl)
theorem twiJ2t : loadJ twiP2t = .ok (allJ twiP2t) := by kernel_rfl
set_option maxRecDepth 20000 in
set_option maxHeartbeats 8000000 in
theorem twice_2t (n : Int) (hm : bits BinOp.and .i64 n 3 = 2) (w : World) : Calls Tryz.prog 4 #[.int .i64 n, .bool true] w fun e w' => e = .returned (.bool true) ∧ Below w.heap.size w w' := by
  have hA := awake15 w
  go_enter Tryz.func4, Tryz.ntmps4
  go_upto_region 8 with (go_at_call 9; refine hA.mono ?_; clear hA; rintro e w1 ⟨rfl, hb1⟩; have HB1 : Hid (Below w.heap.size w w1) := hb1; clear hb1)
  obtain ⟨W, hW⟩ : ∃ W, W = (w1.alloc (.cells #[.string ⟨#[65]⟩, .bool false, .bool false, .int .i64 0, .slice none 0 0, .slice none 0 0, .slice none 0 0, .slice none 0 0] 27)).alloc (.cells #[.string ⟨#[120]⟩, .int .i64 1, .string ⟨#[121]⟩, .int .i64 1] 29) := ⟨_, rfl⟩
  have HWz : Hid (W.heap.size = w1.heap.size + 2) := by show _ = _; rw [hW]; simp only [sz_al]
  have HBW : Hid (Below w1.heap.size w1 W) := by rw [hW]; exact ((Below.refl _ _).alloc (Nat.le_refl _) _).alloc (by rw [sz_al]; omega) _
  have h0 : W.heap[w1.heap.size]? = some (.cells #[.string ⟨#[65]⟩, .bool false, .bool false, .int .i64 0, .slice none 0 0, .slice none 0 0, .slice none 0 0, .slice none 0 0] 27 (0, 0)) := by rw [hW]; exact (by (repeat (first | rw [hp_al] | rw [hp_sc] | rw [sz_al] | rw [sz_sc] | rw [if_neg (by omega)] | rw [if_pos (by omega)])); all_goals first | rfl | assumption)
  have h1 : W.heap[w1.heap.size + 1]? = some (.cells #[.string ⟨#[120]⟩, .int .i64 1, .string ⟨#[121]⟩, .int .i64 1] 29 (0, 0)) := by rw [hW]; exact (by (repeat (first | rw [hp_al] | rw [hp_sc] | rw [sz_al] | rw [sz_sc] | rw [if_neg (by omega)] | rw [if_pos (by omega)])); all_goals first | rfl | assumption)
  have hwz := HWz.out
  rw [← hW]
  clear hW
  have hM := method_ok ⟨#[120]⟩ none 0 0 0 (by decide) W
  have hM2 := fun w2 => method_ok ⟨#[121]⟩ none 0 0 0 (by decide) w2
  have HX : Hid (∀ w2, Below W.heap.size W w2 → w2.heap[w1.heap.size]? = some (.cells #[.string ⟨#[65]⟩, .bool false, .bool false, .int .i64 0, .slice none 0 0, .slice none 0 0, .slice none 0 0, .slice none 0 0] 27 (0, 0)) ∧ w2.heap[w1.heap.size + 1]? = some (.cells #[.string ⟨#[120]⟩, .int .i64 1, .string ⟨#[121]⟩, .int .i64 1] 29 (0, 0))) := fun w2 hb => ⟨(hb.block _ (by omega)).trans h0, (hb.block _ (by omega)).trans h1⟩
  clear h0 h1 hwz
  go_upto_region 18 with (first
    | (go_at_call 10; refine hM.mono ?_; clear hM; rintro e w2 ⟨rfl, hb2, hz2, hc2⟩; have HB2 : Hid _ := hb2; have HZ2 : Hid (W.heap.size + 2 ≤ w2.heap.size) := hz2; have HC2 : Hid _ := hc2; clear hb2 hz2 hc2)
    | (go_at_call 10; refine (hM2 w2).mono ?_; clear hM2; rintro e w3 ⟨rfl, hb3, hz3, hc3⟩; have HB3 : Hid _ := hb3; have HZ3 : Hid (w2.heap.size + 2 ≤ w3.heap.size) := hz3; have HC3 : Hid _ := hc3; have hz2 := HZ2.out; have HB23 : Hid (Below W.heap.size W w3) := HB2.out.trans (hb3.mono (by omega)); have HC2' : Hid (w3.heap[W.heap.size + 1]? = some (.cells #[.int .i64 29, .int .i64 0, .int .i64 0] 59 (0, 0))) := (hb3.block _ (by omega)).trans HC2.out; have HXX : Hid _ := HX.out w3 HB23.out; obtain ⟨h0, h1⟩ := HX.out w3 HB23.out; have hwz := HWz.out; have ha4 : (w3.alloc (.cells #[.string ⟨#[120]⟩, .bool false, .slice none 0 0, .int .i64 0, .int .i64 1, .int .i64 0, .slice (some ⟨W.heap.size + 1, 0, none⟩) 1 1, .slice none 0 0, .slice none 0 0, .string ⟨#[121]⟩, .bool false, .slice none 0 0, .int .i64 0, .int .i64 1, .int .i64 0, .slice (some ⟨w2.heap.size + 1, 0, none⟩) 1 1, .slice none 0 0, .slice none 0 0] 34)).heap[w1.heap.size]? = some (.cells #[.string ⟨#[65]⟩, .bool false, .bool false, .int .i64 0, .slice none 0 0, .slice none 0 0, .slice none 0 0, .slice none 0 0] 27 (0, 0)) := (by (repeat (first | rw [hp_al] | rw [hp_sc] | rw [sz_al] | rw [sz_sc] | rw [if_neg (by omega)] | rw [if_pos (by omega)])); all_goals first | rfl | assumption); have x0 : (w3.alloc (.cells #[.string ⟨#[120]⟩, .bool false, .slice none 0 0, .int .i64 0, .int .i64 1, .int .i64 0, .slice (some ⟨W.heap.size + 1, 0, none⟩) 1 1, .slice none 0 0, .slice none 0 0, .string ⟨#[121]⟩, .bool false, .slice none 0 0, .int .i64 0, .int .i64 1, .int .i64 0, .slice (some ⟨w2.heap.size + 1, 0, none⟩) 1 1, .slice none 0 0, .slice none 0 0] 34)).cell? ⟨w1.heap.size, 0, none⟩ = _ := bxq_cell ha4 rfl; have x1 : (w3.alloc (.cells #[.string ⟨#[120]⟩, .bool false, .slice none 0 0, .int .i64 0, .int .i64 1, .int .i64 0, .slice (some ⟨W.heap.size + 1, 0, none⟩) 1 1, .slice none 0 0, .slice none 0 0, .string ⟨#[121]⟩, .bool false, .slice none 0 0, .int .i64 0, .int .i64 1, .int .i64 0, .slice (some ⟨w2.heap.size + 1, 0, none⟩) 1 1, .slice none 0 0, .slice none 0 0] 34)).cell? ⟨w1.heap.size, 1, none⟩ = _ := bxq_cell ha4 rfl; have x2 : (w3.alloc (.cells #[.string ⟨#[120]⟩, .bool false, .slice none 0 0, .int .i64 0, .int .i64 1, .int .i64 0, .slice (some ⟨W.heap.size + 1, 0, none⟩) 1 1, .slice none 0 0, .slice none 0 0, .string ⟨#[121]⟩, .bool false, .slice none 0 0, .int .i64 0, .int .i64 1, .int .i64 0, .slice (some ⟨w2.heap.size + 1, 0, none⟩) 1 1, .slice none 0 0, .slice none 0 0] 34)).cell? ⟨w1.heap.size, 2, none⟩ = _ := bxq_cell ha4 rfl; have x3 : (w3.alloc (.cells #[.string ⟨#[120]⟩, .bool false, .slice none 0 0, .int .i64 0, .int .i64 1, .int .i64 0, .slice (some ⟨W.heap.size + 1, 0, none⟩) 1 1, .slice none 0 0, .slice none 0 0, .string ⟨#[121]⟩, .bool false, .slice none 0 0, .int .i64 0, .int .i64 1, .int .i64 0, .slice (some ⟨w2.heap.size + 1, 0, none⟩) 1 1, .slice none 0 0, .slice none 0 0] 34)).cell? ⟨w1.heap.size, 3, none⟩ = _ := bxq_cell ha4 rfl; have x4 : (w3.alloc (.cells #[.string ⟨#[120]⟩, .bool false, .slice none 0 0, .int .i64 0, .int .i64 1, .int .i64 0, .slice (some ⟨W.heap.size + 1, 0, none⟩) 1 1, .slice none 0 0, .slice none 0 0, .string ⟨#[121]⟩, .bool false, .slice none 0 0, .int .i64 0, .int .i64 1, .int .i64 0, .slice (some ⟨w2.heap.size + 1, 0, none⟩) 1 1, .slice none 0 0, .slice none 0 0] 34)).cell? ⟨w1.heap.size, 4, none⟩ = _ := bxq_cell ha4 rfl; have x5 : (w3.alloc (.cells #[.string ⟨#[120]⟩, .bool false, .slice none 0 0, .int .i64 0, .int .i64 1, .int .i64 0, .slice (some ⟨W.heap.size + 1, 0, none⟩) 1 1, .slice none 0 0, .slice none 0 0, .string ⟨#[121]⟩, .bool false, .slice none 0 0, .int .i64 0, .int .i64 1, .int .i64 0, .slice (some ⟨w2.heap.size + 1, 0, none⟩) 1 1, .slice none 0 0, .slice none 0 0] 34)).cell? ⟨w1.heap.size, 5, none⟩ = _ := bxq_cell ha4 rfl; have x6 : (w3.alloc (.cells #[.string ⟨#[120]⟩, .bool false, .slice none 0 0, .int .i64 0, .int .i64 1, .int .i64 0, .slice (some ⟨W.heap.size + 1, 0, none⟩) 1 1, .slice none 0 0, .slice none 0 0, .string ⟨#[121]⟩, .bool false, .slice none 0 0, .int .i64 0, .int .i64 1, .int .i64 0, .slice (some ⟨w2.heap.size + 1, 0, none⟩) 1 1, .slice none 0 0, .slice none 0 0] 34)).cell? ⟨w1.heap.size, 6, none⟩ = _ := bxq_cell ha4 rfl; have x7 : (w3.alloc (.cells #[.string ⟨#[120]⟩, .bool false, .slice none 0 0, .int .i64 0, .int .i64 1, .int .i64 0, .slice (some ⟨W.heap.size + 1, 0, none⟩) 1 1, .slice none 0 0, .slice none 0 0, .string ⟨#[121]⟩, .bool false, .slice none 0 0, .int .i64 0, .int .i64 1, .int .i64 0, .slice (some ⟨w2.heap.size + 1, 0, none⟩) 1 1, .slice none 0 0, .slice none 0 0] 34)).cell? ⟨w1.heap.size, 7, none⟩ = _ := bxq_cell ha4 rfl; have fx : (w3.alloc (.cells #[.string ⟨#[120]⟩, .bool false, .slice none 0 0, .int .i64 0, .int .i64 1, .int .i64 0, .slice (some ⟨W.heap.size + 1, 0, none⟩) 1 1, .slice none 0 0, .slice none 0 0, .string ⟨#[121]⟩, .bool false, .slice none 0 0, .int .i64 0, .int .i64 1, .int .i64 0, .slice (some ⟨w2.heap.size + 1, 0, none⟩) 1 1, .slice none 0 0, .slice none 0 0] 34)).frozen? ⟨w1.heap.size, 7, none⟩ = false := (by simp [World.frozen?, ha4]); have n1 : ¬ w1.heap.size = w3.heap.size := (by omega); clear h0 h1 ha4 hb3 hz3 hz2 hc3 hwz))
  obtain ⟨h0, h1⟩ := HXX.out
  have h2 := HC2'.out
  have h3 := HC3.out
  have hwz := HWz.out
  have hz2 := HZ2.out
  have hz3 := HZ3.out
  obtain ⟨W5, hW5⟩ : ∃ X, X = ((w3.alloc (.cells #[.string ⟨#[120]⟩, .bool false, .slice none 0 0, .int .i64 0, .int .i64 1, .int .i64 0, .slice (some ⟨W.heap.size + 1, 0, none⟩) 1 1, .slice none 0 0, .slice none 0 0, .string ⟨#[121]⟩, .bool false, .slice none 0 0, .int .i64 0, .int .i64 1, .int .i64 0, .slice (some ⟨w2.heap.size + 1, 0, none⟩) 1 1, .slice none 0 0, .slice none 0 0] 34)).setCell ⟨w1.heap.size, 7, none⟩ (.slice (some ⟨w3.heap.size, 0, none⟩) 2 2)) := ⟨_, rfl⟩
  have hz5 : W5.heap.size = w3.heap.size + 1 := by rw [hW5]; (repeat (first | rw [sz_al] | rw [sz_sc]))
  have g0 : W5.heap[w1.heap.size]? = some (.cells #[.string ⟨#[65]⟩, .bool false, .bool false, .int .i64 0, .slice none 0 0, .slice none 0 0, .slice none 0 0, .slice (some ⟨w3.heap.size, 0, none⟩) 2 2] 27 (0, 0)) := by rw [hW5]; exact (by (repeat (first | rw [hp_al] | rw [hp_sc] | rw [sz_al] | rw [sz_sc] | rw [if_neg (by omega)] | rw [if_pos (by omega)] | rw [h0] | rw [h1] | rw [h2] | rw [h3])); all_goals rfl)
  have g1 : W5.heap[w1.heap.size + 1]? = some (.cells #[.string ⟨#[120]⟩, .int .i64 1, .string ⟨#[121]⟩, .int .i64 1] 29 (0, 0)) := by rw [hW5]; exact (by (repeat (first | rw [hp_al] | rw [hp_sc] | rw [sz_al] | rw [sz_sc] | rw [if_neg (by omega)] | rw [if_pos (by omega)] | rw [h0] | rw [h1] | rw [h2] | rw [h3])); all_goals rfl)
  have g2 : W5.heap[W.heap.size + 1]? = some (.cells #[.int .i64 29, .int .i64 0, .int .i64 0] 59 (0, 0)) := by rw [hW5]; exact (by (repeat (first | rw [hp_al] | rw [hp_sc] | rw [sz_al] | rw [sz_sc] | rw [if_neg (by omega)] | rw [if_pos (by omega)] | rw [h0] | rw [h1] | rw [h2] | rw [h3])); all_goals rfl)
  have g3 : W5.heap[w2.heap.size + 1]? = some (.cells #[.int .i64 29, .int .i64 0, .int .i64 0] 59 (0, 0)) := by rw [hW5]; exact (by (repeat (first | rw [hp_al] | rw [hp_sc] | rw [sz_al] | rw [sz_sc] | rw [if_neg (by omega)] | rw [if_pos (by omega)] | rw [h0] | rw [h1] | rw [h2] | rw [h3])); all_goals rfl)
  have g4 : W5.heap[w3.heap.size]? = some (.cells #[.string ⟨#[120]⟩, .bool false, .slice none 0 0, .int .i64 0, .int .i64 1, .int .i64 0, .slice (some ⟨W.heap.size + 1, 0, none⟩) 1 1, .slice none 0 0, .slice none 0 0, .string ⟨#[121]⟩, .bool false, .slice none 0 0, .int .i64 0, .int .i64 1, .int .i64 0, .slice (some ⟨w2.heap.size + 1, 0, none⟩) 1 1, .slice none 0 0, .slice none 0 0] 34 (0, 0)) := by rw [hW5]; exact (by (repeat (first | rw [hp_al] | rw [hp_sc] | rw [sz_al] | rw [sz_sc] | rw [if_neg (by omega)] | rw [if_pos (by omega)] | rw [h0] | rw [h1] | rw [h2] | rw [h3])); all_goals rfl)
  have HB5w : Hid (Below w1.heap.size w3 W5) := ⟨by rw [hW5]; rfl, by rw [hW5]; rfl, by rw [hW5]; rfl, by omega, fun k hk => by rw [hW5]; (repeat (first | rw [hp_al] | rw [hp_sc] | rw [sz_al] | rw [sz_sc] | rw [if_neg (by omega)]))⟩
  rw [← hW5]
  clear hW5 h0 h1 h2 h3
  have z0 : W5.cell? ⟨w1.heap.size, 0, none⟩ = _ := bxq_cell g0 rfl
  have z1 : W5.cell? ⟨w1.heap.size, 1, none⟩ = _ := bxq_cell g0 rfl
  have z2 : W5.cell? ⟨w1.heap.size, 2, none⟩ = _ := bxq_cell g0 rfl
  have z3 : W5.cell? ⟨w1.heap.size, 3, none⟩ = _ := bxq_cell g0 rfl
  have z4 : W5.cell? ⟨w1.heap.size, 4, none⟩ = _ := bxq_cell g0 rfl
  have z5 : W5.cell? ⟨w1.heap.size, 5, none⟩ = _ := bxq_cell g0 rfl
  have z6 : W5.cell? ⟨w1.heap.size, 6, none⟩ = _ := bxq_cell g0 rfl
  have z7 : W5.cell? ⟨w1.heap.size, 7, none⟩ = _ := bxq_cell g0 rfl
  go_wp2_with (first
    | (go_at_call 12; refine (with_ok (S := fun k => k < w3.heap.size + 2) (xs := [twiA [] [] [twiM 120, twiM 121]]) (fun k (q : k < _) => (by repeat (first | rw [sz_al] | rw [sz_sc]); omega)) (by
        refine Sl.blk [[.string ⟨#[65]⟩, .bool false, .bool false, .int .i64 0, .slice none 0 0, .slice none 0 0, .slice none 0 0, .slice (some ⟨w3.heap.size, 0, none⟩) 2 2]] (T := 27) (by (repeat (first | rw [hp_al] | rw [hp_sc] | rw [sz_al] | rw [sz_sc] | rw [if_neg (by omega)] | rw [if_pos (by omega)])); all_goals first | rfl | assumption) (show _ < _ by omega) rfl rfl rfl (by decide) fun i y r hy hr => ?_
        match i, hy, hr with
        | 0, hy, hr =>
          cases hy; cases hr
          refine ⟨_, _, _, _, rfl, Sl.nil _ _ _, Sl.nil _ _ _, Sl.nil _ _ _, ?_⟩
          refine Sl.blk [[.string ⟨#[120]⟩, .bool false, .slice none 0 0, .int .i64 0, .int .i64 1, .int .i64 0, .slice (some ⟨W.heap.size + 1, 0, none⟩) 1 1, .slice none 0 0, .slice none 0 0], [.string ⟨#[121]⟩, .bool false, .slice none 0 0, .int .i64 0, .int .i64 1, .int .i64 0, .slice (some ⟨w2.heap.size + 1, 0, none⟩) 1 1, .slice none 0 0, .slice none 0 0]] (T := 34) (by (repeat (first | rw [hp_al] | rw [hp_sc] | rw [sz_al] | rw [sz_sc] | rw [if_neg (by omega)] | rw [if_pos (by omega)])); all_goals first | rfl | assumption) (show _ < _ by omega) rfl rfl rfl (by decide) fun i y r hy hr => ?_
          match i, hy, hr with
          | 0, hy, hr =>
            cases hy; cases hr
            refine ⟨_, _, _, _, rfl, Sl.nil _ _ _, ?_, Sl.nil _ _ _, Sl.nil _ _ _⟩
            refine Sl.blk [[.int .i64 29, .int .i64 0, .int .i64 0]] (T := 59) (by (repeat (first | rw [hp_al] | rw [hp_sc] | rw [sz_al] | rw [sz_sc] | rw [if_neg (by omega)] | rw [if_pos (by omega)])); all_goals first | rfl | assumption) (show _ < _ by omega) rfl rfl rfl (by decide) fun i y r hy hr => ?_
            match i, hy, hr with
            | 0, hy, hr => cases hy; cases hr; rfl
          | 1, hy, hr =>
            cases hy; cases hr
            refine ⟨_, _, _, _, rfl, Sl.nil _ _ _, ?_, Sl.nil _ _ _, Sl.nil _ _ _⟩
            refine Sl.blk [[.int .i64 29, .int .i64 0, .int .i64 0]] (T := 59) (by (repeat (first | rw [hp_al] | rw [hp_sc] | rw [sz_al] | rw [sz_sc] | rw [if_neg (by omega)] | rw [if_pos (by omega)])); all_goals first | rfl | assumption) (show _ < _ by omega) rfl rfl rfl (by decide) fun i y r hy hr => ?_
            match i, hy, hr with
            | 0, hy, hr => cases hy; cases hr; rfl
        ) (by decide) (by decide)).mono ?_; rintro e w5 ⟨g, c, rfl, hb5, S', hS', hs⟩; have HB5 : Hid (Below w1.heap.size W5 w5) := ((Below.refl _ _).alloc (by omega) _).trans (hb5.mono (by rw [sz_al]; omega)); have hF := faults_yes (w := w5) (S := S') (p := twiP2t) twiO2t hS' hs twiJ2t; clear hb5 hS' hs)
    | (go_at_call 11; refine hF.mono ?_; clear hF; rintro e w6 ⟨rfl, hb6⟩; have HB6 : Hid (Below w1.heap.size W5 w6) := HB5.out.trans (hb6.mono (by have := HB5.out.size; omega)); clear hb6))
  go_ret
  exact ⟨rfl, HB1.out.trans ((((HBW.out.trans (HB23.out.mono (by omega))).trans HB5w.out).trans HB6.out).mono HB1.out.size)⟩
def twiP2f : Pg := ⟨11, [tinyC, twiA [] [] [twiM 120, twiM 120]]⟩
theorem twiO2f : Okl twiP2f := okl_of (by kernel_rfl)
theorem twiJ2f : loadJ twiP2f = .error (1503, 12) := by kernel_rfl
set_option maxRecDepth 20000 in
set_option maxHeartbeats 8000000 in
theorem twice_2f (n : Int) (hm : bits BinOp.and .i64 n 3 = 2) (w : World) : Calls Tryz.prog 4 #[.int .i64 n, .bool false] w fun e w' => e = .returned (.bool true) ∧ Below w.heap.size w w' := by
  have hA := awake15 w
  go_enter Tryz.func4, Tryz.ntmps4
  go_upto_region 8 with (go_at_call 9; refine hA.mono ?_; clear hA; rintro e w1 ⟨rfl, hb1⟩; have HB1 : Hid (Below w.heap.size w w1) := hb1; clear hb1)
  obtain ⟨W, hW⟩ : ∃ W, W = (w1.alloc (.cells #[.string ⟨#[65]⟩, .bool false, .bool false, .int .i64 0, .slice none 0 0, .slice none 0 0, .slice none 0 0, .slice none 0 0] 27)).alloc (.cells #[.string ⟨#[120]⟩, .int .i64 1, .string ⟨#[120]⟩, .int .i64 1] 29) := ⟨_, rfl⟩
  have HWz : Hid (W.heap.size = w1.heap.size + 2) := by show _ = _; rw [hW]; simp only [sz_al]
  have HBW : Hid (Below w1.heap.size w1 W) := by rw [hW]; exact ((Below.refl _ _).alloc (Nat.le_refl _) _).alloc (by rw [sz_al]; omega) _
  have h0 : W.heap[w1.heap.size]? = some (.cells #[.string ⟨#[65]⟩, .bool false, .bool false, .int .i64 0, .slice none 0 0, .slice none 0 0, .slice none 0 0, .slice none 0 0] 27 (0, 0)) := by rw [hW]; exact (by (repeat (first | rw [hp_al] | rw [hp_sc] | rw [sz_al] | rw [sz_sc] | rw [if_neg (by omega)] | rw [if_pos (by omega)])); all_goals first | rfl | assumption)
  have h1 : W.heap[w1.heap.size + 1]? = some (.cells #[.string ⟨#[120]⟩, .int .i64 1, .string ⟨#[120]⟩, .int .i64 1] 29 (0, 0)) := by rw [hW]; exact (by (repeat (first | rw [hp_al] | rw [hp_sc] | rw [sz_al] | rw [sz_sc] | rw [if_neg (by omega)] | rw [if_pos (by omega)])); all_goals first | rfl | assumption)
  have hwz := HWz.out
  rw [← hW]
  clear hW
  have hM := method_ok ⟨#[120]⟩ none 0 0 0 (by decide) W
  have hM2 := fun w2 => method_ok ⟨#[120]⟩ none 0 0 0 (by decide) w2
  have HX : Hid (∀ w2, Below W.heap.size W w2 → w2.heap[w1.heap.size]? = some (.cells #[.string ⟨#[65]⟩, .bool false, .bool false, .int .i64 0, .slice none 0 0, .slice none 0 0, .slice none 0 0, .slice none 0 0] 27 (0, 0)) ∧ w2.heap[w1.heap.size + 1]? = some (.cells #[.string ⟨#[120]⟩, .int .i64 1, .string ⟨#[120]⟩, .int .i64 1] 29 (0, 0))) := fun w2 hb => ⟨(hb.block _ (by omega)).trans h0, (hb.block _ (by omega)).trans h1⟩
  clear h0 h1 hwz
  go_upto_region 18 with (first
    | (go_at_call 10; refine hM.mono ?_; clear hM; rintro e w2 ⟨rfl, hb2, hz2, hc2⟩; have HB2 : Hid _ := hb2; have HZ2 : Hid (W.heap.size + 2 ≤ w2.heap.size) := hz2; have HC2 : Hid _ := hc2; clear hb2 hz2 hc2)
    | (go_at_call 10; refine (hM2 w2).mono ?_; clear hM2; rintro e w3 ⟨rfl, hb3, hz3, hc3⟩; have HB3 : Hid _ := hb3; have HZ3 : Hid (w2.heap.size + 2 ≤ w3.heap.size) := hz3; have HC3 : Hid _ := hc3; have hz2 := HZ2.out; have HB23 : Hid (Below W.heap.size W w3) := HB2.out.trans (hb3.mono (by omega)); have HC2' : Hid (w3.heap[W.heap.size + 1]? = some (.cells #[.int .i64 29, .int .i64 0, .int .i64 0] 59 (0, 0))) := (hb3.block _ (by omega)).trans HC2.out; have HXX : Hid _ := HX.out w3 HB23.out; obtain ⟨h0, h1⟩ := HX.out w3 HB23.out; have hwz := HWz.out; have ha4 : (w3.alloc (.cells #[.string ⟨#[120]⟩, .bool false, .slice none 0 0, .int .i64 0, .int .i64 1, .int .i64 0, .slice (some ⟨W.heap.size + 1, 0, none⟩) 1 1, .slice none 0 0, .slice none 0 0, .string ⟨#[120]⟩, .bool false, .slice none 0 0, .int .i64 0, .int .i64 1, .int .i64 0, .slice (some ⟨w2.heap.size + 1, 0, none⟩) 1 1, .slice none 0 0, .slice none 0 0] 34)).heap[w1.heap.size]? = some (.cells #[.string ⟨#[65]⟩, .bool false, .bool false, .int .i64 0, .slice none 0 0, .slice none 0 0, .slice none 0 0, .slice none 0 0] 27 (0, 0)) := (by (repeat (first | rw [hp_al] | rw [hp_sc] | rw [sz_al] | rw [sz_sc] | rw [if_neg (by omega)] | rw [if_pos (by omega)])); all_goals first | rfl | assumption); have x0 : (w3.alloc (.cells #[.string ⟨#[120]⟩, .bool false, .slice none 0 0, .int .i64 0, .int .i64 1, .int .i64 0, .slice (some ⟨W.heap.size + 1, 0, none⟩) 1 1, .slice none 0 0, .slice none 0 0, .string ⟨#[120]⟩, .bool false, .slice none 0 0, .int .i64 0, .int .i64 1, .int .i64 0, .slice (some ⟨w2.heap.size + 1, 0, none⟩) 1 1, .slice none 0 0, .slice none 0 0] 34)).cell? ⟨w1.heap.size, 0, none⟩ = _ := bxq_cell ha4 rfl; have x1 : (w3.alloc (.cells #[.string ⟨#[120]⟩, .bool false, .slice none 0 0, .int .i64 0, .int .i64 1, .int .i64 0, .slice (some ⟨W.heap.size + 1, 0, none⟩) 1 1, .slice none 0 0, .slice none 0 0, .string ⟨#[120]⟩, .bool false, .slice none 0 0, .int .i64 0, .int .i64 1, .int .i64 0, .slice (some ⟨w2.heap.size + 1, 0, none⟩) 1 1, .slice none 0 0, .slice none 0 0] 34)).cell? ⟨w1.heap.size, 1, none⟩ = _ := bxq_cell ha4 rfl; have x2 : (w3.alloc (.cells #[.string ⟨#[120]⟩, .bool false, .slice none 0 0, .int .i64 0, .int .i64 1, .int .i64 0, .slice (some ⟨W.heap.size + 1, 0, none⟩) 1 1, .slice none 0 0, .slice none 0 0, .string ⟨#[120]⟩, .bool false, .slice none 0 0, .int .i64 0, .int .i64 1, .int .i64 0, .slice (some ⟨w2.heap.size + 1, 0, none⟩) 1 1, .slice none 0 0, .slice none 0 0] 34)).cell? ⟨w1.heap.size, 2, none⟩ = _ := bxq_cell ha4 rfl; have x3 : (w3.alloc (.cells #[.string ⟨#[120]⟩, .bool false, .slice none 0 0, .int .i64 0, .int .i64 1, .int .i64 0, .slice (some ⟨W.heap.size + 1, 0, none⟩) 1 1, .slice none 0 0, .slice none 0 0, .string ⟨#[120]⟩, .bool false, .slice none 0 0, .int .i64 0, .int .i64 1, .int .i64 0, .slice (some ⟨w2.heap.size + 1, 0, none⟩) 1 1, .slice none 0 0, .slice none 0 0] 34)).cell? ⟨w1.heap.size, 3, none⟩ = _ := bxq_cell ha4 rfl; have x4 : (w3.alloc (.cells #[.string ⟨#[120]⟩, .bool false, .slice none 0 0, .int .i64 0, .int .i64 1, .int .i64 0, .slice (some ⟨W.heap.size + 1, 0, none⟩) 1 1, .slice none 0 0, .slice none 0 0, .string ⟨#[120]⟩, .bool false, .slice none 0 0, .int .i64 0, .int .i64 1, .int .i64 0, .slice (some ⟨w2.heap.size + 1, 0, none⟩) 1 1, .slice none 0 0, .slice none 0 0] 34)).cell? ⟨w1.heap.size, 4, none⟩ = _ := bxq_cell ha4 rfl; have x5 : (w3.alloc (.cells #[.string ⟨#[120]⟩, .bool false, .slice none 0 0, .int .i64 0, .int .i64 1, .int .i64 0, .slice (some ⟨W.heap.size + 1, 0, none⟩) 1 1, .slice none 0 0, .slice none 0 0, .string ⟨#[120]⟩, .bool false, .slice none 0 0, .int .i64 0, .int .i64 1, .int .i64 0, .slice (some ⟨w2.heap.size + 1, 0, none⟩) 1 1, .slice none 0 0, .slice none 0 0] 34)).cell? ⟨w1.heap.size, 5, none⟩ = _ := bxq_cell ha4 rfl; have x6 : (w3.alloc (.cells #[.string ⟨#[120]⟩, .bool false, .slice none 0 0, .int .i64 0, .int .i64 1, .int .i64 0, .slice (some ⟨W.heap.size + 1, 0, none⟩) 1 1, .slice none 0 0, .slice none 0 0, .string ⟨#[120]⟩, .bool false, .slice none 0 0, .int .i64 0, .int .i64 1, .int .i64 0, .slice (some ⟨w2.heap.size + 1, 0, none⟩) 1 1, .slice none 0 0, .slice none 0 0] 34)).cell? ⟨w1.heap.size, 6, none⟩ = _ := bxq_cell ha4 rfl; have x7 : (w3.alloc (.cells #[.string ⟨#[120]⟩, .bool false, .slice none 0 0, .int .i64 0, .int .i64 1, .int .i64 0, .slice (some ⟨W.heap.size + 1, 0, none⟩) 1 1, .slice none 0 0, .slice none 0 0, .string ⟨#[120]⟩, .bool false, .slice none 0 0, .int .i64 0, .int .i64 1, .int .i64 0, .slice (some ⟨w2.heap.size + 1, 0, none⟩) 1 1, .slice none 0 0, .slice none 0 0] 34)).cell? ⟨w1.heap.size, 7, none⟩ = _ := bxq_cell ha4 rfl; have fx : (w3.alloc (.cells #[.string ⟨#[120]⟩, .bool false, .slice none 0 0, .int .i64 0, .int .i64 1, .int .i64 0, .slice (some ⟨W.heap.size + 1, 0, none⟩) 1 1, .slice none 0 0, .slice none 0 0, .string ⟨#[120]⟩, .bool false, .slice none 0 0, .int .i64 0, .int .i64 1, .int .i64 0, .slice (some ⟨w2.heap.size + 1, 0, none⟩) 1 1, .slice none 0 0, .slice none 0 0] 34)).frozen? ⟨w1.heap.size, 7, none⟩ = false := (by simp [World.frozen?, ha4]); have n1 : ¬ w1.heap.size = w3.heap.size := (by omega); clear h0 h1 ha4 hb3 hz3 hz2 hc3 hwz))
  obtain ⟨h0, h1⟩ := HXX.out
  have h2 := HC2'.out
  have h3 := HC3.out
  have hwz := HWz.out
  have hz2 := HZ2.out
  have hz3 := HZ3.out
  obtain ⟨W5, hW5⟩ : ∃ X, X = ((w3.alloc (.cells #[.string ⟨#[120]⟩, .bool false, .slice none 0 0, .int .i64 0, .int .i64 1, .int .i64 0, .slice (some ⟨W.heap.size + 1, 0, none⟩) 1 1, .slice none 0 0, .slice none 0 0, .string ⟨#[120]⟩, .bool false, .slice none 0 0, .int .i64 0, .int .i64 1, .int .i64 0, .slice (some ⟨w2.heap.size + 1, 0, none⟩) 1 1, .slice none 0 0, .slice none 0 0] 34)).setCell ⟨w1.heap.size, 7, none⟩ (.slice (some ⟨w3.heap.size, 0, none⟩) 2 2)) := ⟨_, rfl⟩
  have hz5 : W5.heap.size = w3.heap.size + 1 := by rw [hW5]; (repeat (first | rw [sz_al] | rw [sz_sc]))
  have g0 : W5.heap[w1.heap.size]? = some (.cells #[.string ⟨#[65]⟩, .bool false, .bool false, .int .i64 0, .slice none 0 0, .slice none 0 0, .slice none 0 0, .slice (some ⟨w3.heap.size, 0, none⟩) 2 2] 27 (0, 0)) := by rw [hW5]; exact (by (repeat (first | rw [hp_al] | rw [hp_sc] | rw [sz_al] | rw [sz_sc] | rw [if_neg (by omega)] | rw [if_pos (by omega)] | rw [h0] | rw [h1] | rw [h2] | rw [h3])); all_goals rfl)
  have g1 : W5.heap[w1.heap.size + 1]? = some (.cells #[.string ⟨#[120]⟩, .int .i64 1, .string ⟨#[120]⟩, .int .i64 1] 29 (0, 0)) := by rw [hW5]; exact (by (repeat (first | rw [hp_al] | rw [hp_sc] | rw [sz_al] | rw [sz_sc] | rw [if_neg (by omega)] | rw [if_pos (by omega)] | rw [h0] | rw [h1] | rw [h2] | rw [h3])); all_goals rfl)
  have g2 : W5.heap[W.heap.size + 1]? = some (.cells #[.int .i64 29, .int .i64 0, .int .i64 0] 59 (0, 0)) := by rw [hW5]; exact (by (repeat (first | rw [hp_al] | rw [hp_sc] | rw [sz_al] | rw [sz_sc] | rw [if_neg (by omega)] | rw [if_pos (by omega)] | rw [h0] | rw [h1] | rw [h2] | rw [h3])); all_goals rfl)
  have g3 : W5.heap[w2.heap.size + 1]? = some (.cells #[.int .i64 29, .int .i64 0, .int .i64 0] 59 (0, 0)) := by rw [hW5]; exact (by (repeat (first | rw [hp_al] | rw [hp_sc] | rw [sz_al] | rw [sz_sc] | rw [if_neg (by omega)] | rw [if_pos (by omega)] | rw [h0] | rw [h1] | rw [h2] | rw [h3])); all_goals rfl)
  have g4 : W5.heap[w3.heap.size]? = some (.cells #[.string ⟨#[120]⟩, .bool false, .slice none 0 0, .int .i64 0, .int .i64 1, .int .i64 0, .slice (some ⟨W.heap.size + 1, 0, none⟩) 1 1, .slice none 0 0, .slice none 0 0, .string ⟨#[120]⟩, .bool false, .slice none 0 0, .int .i64 0, .int .i64 1, .int .i64 0, .slice (some ⟨w2.heap.size + 1, 0, none⟩) 1 1, .slice none 0 0, .slice none 0 0] 34 (0, 0)) := by rw [hW5]; exact (by (repeat (first | rw [hp_al] | rw [hp_sc] | rw [sz_al] | rw [sz_sc] | rw [if_neg (by omega)] | rw [if_pos (by omega)] | rw [h0] | rw [h1] | rw [h2] | rw [h3])); all_goals rfl)
  have HB5w : Hid (Below w1.heap.size w3 W5) := ⟨by rw [hW5]; rfl, by rw [hW5]; rfl, by rw [hW5]; rfl, by omega, fun k hk => by rw [hW5]; (repeat (first | rw [hp_al] | rw [hp_sc] | rw [sz_al] | rw [sz_sc] | rw [if_neg (by omega)]))⟩
  rw [← hW5]
  clear hW5 h0 h1 h2 h3
  have z0 : W5.cell? ⟨w1.heap.size, 0, none⟩ = _ := bxq_cell g0 rfl
  have z1 : W5.cell? ⟨w1.heap.size, 1, none⟩ = _ := bxq_cell g0 rfl
  have z2 : W5.cell? ⟨w1.heap.size, 2, none⟩ = _ := bxq_cell g0 rfl
  have z3 : W5.cell? ⟨w1.heap.size, 3, none⟩ = _ := bxq_cell g0 rfl
  have z4 : W5.cell? ⟨w1.heap.size, 4, none⟩ = _ := bxq_cell g0 rfl
  have z5 : W5.cell? ⟨w1.heap.size, 5, none⟩ = _ := bxq_cell g0 rfl
  have z6 : W5.cell? ⟨w1.heap.size, 6, none⟩ = _ := bxq_cell g0 rfl
  have z7 : W5.cell? ⟨w1.heap.size, 7, none⟩ = _ := bxq_cell g0 rfl
  go_wp2_with (first
    | (go_at_call 12; refine (with_ok (S := fun k => k < w3.heap.size + 2) (xs := [twiA [] [] [twiM 120, twiM 120]]) (fun k (q : k < _) => (by repeat (first | rw [sz_al] | rw [sz_sc]); omega)) (by
        refine Sl.blk [[.string ⟨#[65]⟩, .bool false, .bool false, .int .i64 0, .slice none 0 0, .slice none 0 0, .slice none 0 0, .slice (some ⟨w3.heap.size, 0, none⟩) 2 2]] (T := 27) (by (repeat (first | rw [hp_al] | rw [hp_sc] | rw [sz_al] | rw [sz_sc] | rw [if_neg (by omega)] | rw [if_pos (by omega)])); all_goals first | rfl | assumption) (show _ < _ by omega) rfl rfl rfl (by decide) fun i y r hy hr => ?_
        match i, hy, hr with
        | 0, hy, hr =>
          cases hy; cases hr
          refine ⟨_, _, _, _, rfl, Sl.nil _ _ _, Sl.nil _ _ _, Sl.nil _ _ _, ?_⟩
          refine Sl.blk [[.string ⟨#[120]⟩, .bool false, .slice none 0 0, .int .i64 0, .int .i64 1, .int .i64 0, .slice (some ⟨W.heap.size + 1, 0, none⟩) 1 1, .slice none 0 0, .slice none 0 0], [.string ⟨#[120]⟩, .bool false, .slice none 0 0, .int .i64 0, .int .i64 1, .int .i64 0, .slice (some ⟨w2.heap.size + 1, 0, none⟩) 1 1, .slice none 0 0, .slice none 0 0]] (T := 34) (by (repeat (first | rw [hp_al] | rw [hp_sc] | rw [sz_al] | rw [sz_sc] | rw [if_neg (by omega)] | rw [if_pos (by omega)])); all_goals first | rfl | assumption) (show _ < _ by omega) rfl rfl rfl (by decide) fun i y r hy hr => ?_
          match i, hy, hr with
          | 0, hy, hr =>
            cases hy; cases hr
            refine ⟨_, _, _, _, rfl, Sl.nil _ _ _, ?_, Sl.nil _ _ _, Sl.nil _ _ _⟩
            refine Sl.blk [[.int .i64 29, .int .i64 0, .int .i64 0]] (T := 59) (by (repeat (first | rw [hp_al] | rw [hp_sc] | rw [sz_al] | rw [sz_sc] | rw [if_neg (by omega)] | rw [if_pos (by omega)])); all_goals first | rfl | assumption) (show _ < _ by omega) rfl rfl rfl (by decide) fun i y r hy hr => ?_
            match i, hy, hr with
            | 0, hy, hr => cases hy; cases hr; rfl
          | 1, hy, hr =>
            cases hy; cases hr
            refine ⟨_, _, _, _, rfl, Sl.nil _ _ _, ?_, Sl.nil _ _ _, Sl.nil _ _ _⟩
            refine Sl.blk [[.int .i64 29, .int .i64 0, .int .i64 0]] (T := 59) (by (repeat (first | rw [hp_al] | rw [hp_sc] | rw [sz_al] | rw [sz_sc] | rw [if_neg (by omega)] | rw [if_pos (by omega)])); all_goals first | rfl | assumption) (show _ < _ by omega) rfl rfl rfl (by decide) fun i y r hy hr => ?_
            match i, hy, hr with
            | 0, hy, hr => cases hy; cases hr; rfl
        ) (by decide) (by decide)).mono ?_; rintro e w5 ⟨g, c, rfl, hb5, S', hS', hs⟩; have HB5 : Hid (Below w1.heap.size W5 w5) := ((Below.refl _ _).alloc (by omega) _).trans (hb5.mono (by rw [sz_al]; omega)); have hF := faults_err (w := w5) (S := S') (p := twiP2f) twiO2f hS' hs (by decide) twiJ2f; clear hb5 hS' hs)
    | (go_at_call 11; refine hF.mono ?_; clear hF; rintro e w6 ⟨rfl, hb6⟩; have HB6 : Hid (Below w1.heap.size W5 w6) := HB5.out.trans (hb6.mono (by have := HB5.out.size; omega)); clear hb6))
  go_ret
  exact ⟨rfl, HB1.out.trans ((((HBW.out.trans (HB23.out.mono (by omega))).trans HB5w.out).trans HB6.out).mono HB1.out.size)⟩
def twiP3t : Pg := ⟨11, [tinyC, twiA [] [] [twiM 120, twiN]]⟩
theorem twiO3t : Okl twiP3t := okl_of (by kernel_rfl)
theorem twiJ3t : loadJ twiP3t = .ok (allJ twiP3t) := by kernel_rfl
set_option maxRecDepth 20000 in
set_option maxHeartbeats 8000000 in
theorem twice_3t (n : Int) (hm : bits BinOp.and .i64 n 3 = 3) (w : World) : Calls Tryz.prog 4 #[.int .i64 n, .bool true] w fun e w' => e = .returned (.bool true) ∧ Below w.heap.size w w' := by
  have hA := awake15 w
  go_enter Tryz.func4, Tryz.ntmps4
  go_upto_region 8 with (go_at_call 9; refine hA.mono ?_; clear hA; rintro e w1 ⟨rfl, hb1⟩; have HB1 : Hid (Below w.heap.size w w1) := hb1; clear hb1)
  obtain ⟨W, hW⟩ : ∃ W, W = (w1.alloc (.cells #[.string ⟨#[65]⟩, .bool false, .bool false, .int .i64 0, .slice none 0 0, .slice none 0 0, .slice none 0 0, .slice none 0 0] 27)).alloc (.cells #[.string ⟨#[120]⟩, .int .i64 1, .string ⟨#[121]⟩, .int .i64 1] 29) := ⟨_, rfl⟩
  have HWz : Hid (W.heap.size = w1.heap.size + 2) := by show _ = _; rw [hW]; simp only [sz_al]
  have HBW : Hid (Below w1.heap.size w1 W) := by rw [hW]; exact ((Below.refl _ _).alloc (Nat.le_refl _) _).alloc (by rw [sz_al]; omega) _
  have h0 : W.heap[w1.heap.size]? = some (.cells #[.string ⟨#[65]⟩, .bool false, .bool false, .int .i64 0, .slice none 0 0, .slice none 0 0, .slice none 0 0, .slice none 0 0] 27 (0, 0)) := by rw [hW]; exact (by (repeat (first | rw [hp_al] | rw [hp_sc] | rw [sz_al] | rw [sz_sc] | rw [if_neg (by omega)] | rw [if_pos (by omega)])); all_goals first | rfl | assumption)
  have h1 : W.heap[w1.heap.size + 1]? = some (.cells #[.string ⟨#[120]⟩, .int .i64 1, .string ⟨#[121]⟩, .int .i64 1] 29 (0, 0)) := by rw [hW]; exact (by (repeat (first | rw [hp_al] | rw [hp_sc] | rw [sz_al] | rw [sz_sc] | rw [if_neg (by omega)] | rw [if_pos (by omega)])); all_goals first | rfl | assumption)
  have hwz := HWz.out
  rw [← hW]
  clear hW
  have hM := method_ok ⟨#[120]⟩ none 0 0 0 (by decide) W
  have hM2 := fun w2 => method_ok ⟨#[120]⟩ none 0 0 0 (by decide) w2
  have HX : Hid (∀ w2, Below W.heap.size W w2 → w2.heap[w1.heap.size]? = some (.cells #[.string ⟨#[65]⟩, .bool false, .bool false, .int .i64 0, .slice none 0 0, .slice none 0 0, .slice none 0 0, .slice none 0 0] 27 (0, 0)) ∧ w2.heap[w1.heap.size + 1]? = some (.cells #[.string ⟨#[120]⟩, .int .i64 1, .string ⟨#[121]⟩, .int .i64 1] 29 (0, 0))) := fun w2 hb => ⟨(hb.block _ (by omega)).trans h0, (hb.block _ (by omega)).trans h1⟩
  clear h0 h1 hwz
  go_upto_region 11 with (first
    | (go_at_call 10; refine hM.mono ?_; clear hM; rintro e w2 ⟨rfl, hb2, hz2, hc2⟩; have HB2 : Hid _ := hb2; have HZ2 : Hid (W.heap.size + 2 ≤ w2.heap.size) := hz2; have HC2 : Hid _ := hc2; clear hb2 hz2 hc2)
    | (go_at_call 10; refine (hM2 w2).mono ?_; clear hM2; rintro e w3 ⟨rfl, hb3, hz3, hc3⟩; have HB3 : Hid _ := hb3; have HZ3 : Hid (w2.heap.size + 2 ≤ w3.heap.size) := hz3; have HC3 : Hid _ := hc3; have hz2 := HZ2.out; have HB23 : Hid (Below W.heap.size W w3) := HB2.out.trans (hb3.mono (by omega)); have HC2' : Hid (w3.heap[W.heap.size + 1]? = some (.cells #[.int .i64 29, .int .i64 0, .int .i64 0] 59 (0, 0))) := (hb3.block _ (by omega)).trans HC2.out; have HXX : Hid _ := HX.out w3 HB23.out; obtain ⟨h0, h1⟩ := HX.out w3 HB23.out; have hwz := HWz.out; have ha4 : (w3.alloc (.cells #[.string ⟨#[120]⟩, .bool false, .slice none 0 0, .int .i64 0, .int .i64 1, .int .i64 0, .slice (some ⟨W.heap.size + 1, 0, none⟩) 1 1, .slice none 0 0, .slice none 0 0, .string ⟨#[120]⟩, .bool false, .slice none 0 0, .int .i64 0, .int .i64 1, .int .i64 0, .slice (some ⟨w2.heap.size + 1, 0, none⟩) 1 1, .slice none 0 0, .slice none 0 0] 34)).heap[w1.heap.size]? = some (.cells #[.string ⟨#[65]⟩, .bool false, .bool false, .int .i64 0, .slice none 0 0, .slice none 0 0, .slice none 0 0, .slice none 0 0] 27 (0, 0)) := (by (repeat (first | rw [hp_al] | rw [hp_sc] | rw [sz_al] | rw [sz_sc] | rw [if_neg (by omega)] | rw [if_pos (by omega)])); all_goals first | rfl | assumption); have x0 : (w3.alloc (.cells #[.string ⟨#[120]⟩, .bool false, .slice none 0 0, .int .i64 0, .int .i64 1, .int .i64 0, .slice (some ⟨W.heap.size + 1, 0, none⟩) 1 1, .slice none 0 0, .slice none 0 0, .string ⟨#[120]⟩, .bool false, .slice none 0 0, .int .i64 0, .int .i64 1, .int .i64 0, .slice (some ⟨w2.heap.size + 1, 0, none⟩) 1 1, .slice none 0 0, .slice none 0 0] 34)).cell? ⟨w1.heap.size, 0, none⟩ = _ := bxq_cell ha4 rfl; have x1 : (w3.alloc (.cells #[.string ⟨#[120]⟩, .bool false, .slice none 0 0, .int .i64 0, .int .i64 1, .int .i64 0, .slice (some ⟨W.heap.size + 1, 0, none⟩) 1 1, .slice none 0 0, .slice none 0 0, .string ⟨#[120]⟩, .bool false, .slice none 0 0, .int .i64 0, .int .i64 1, .int .i64 0, .slice (some ⟨w2.heap.size + 1, 0, none⟩) 1 1, .slice none 0 0, .slice none 0 0] 34)).cell? ⟨w1.heap.size, 1, none⟩ = _ := bxq_cell ha4 rfl; have x2 : (w3.alloc (.cells #[.string ⟨#[120]⟩, .bool false, .slice none 0 0, .int .i64 0, .int .i64 1, .int .i64 0, .slice (some ⟨W.heap.size + 1, 0, none⟩) 1 1, .slice none 0 0, .slice none 0 0, .string ⟨#[120]⟩, .bool false, .slice none 0 0, .int .i64 0, .int .i64 1, .int .i64 0, .slice (some ⟨w2.heap.size + 1, 0, none⟩) 1 1, .slice none 0 0, .slice none 0 0] 34)).cell? ⟨w1.heap.size, 2, none⟩ = _ := bxq_cell ha4 rfl; have x3 : (w3.alloc (.cells #[.string ⟨#[120]⟩, .bool false, .slice none 0 0, .int .i64 0, .int .i64 1, .int .i64 0, .slice (some ⟨W.heap.size + 1, 0, none⟩) 1 1, .slice none 0 0, .slice none 0 0, .string ⟨#[120]⟩, .bool false, .slice none 0 0, .int .i64 0, .int .i64 1, .int .i64 0, .slice (some ⟨w2.heap.size + 1, 0, none⟩) 1 1, .slice none 0 0, .slice none 0 0] 34)).cell? ⟨w1.heap.size, 3, none⟩ = _ := bxq_cell ha4 rfl; have x4 : (w3.alloc (.cells #[.string ⟨#[120]⟩, .bool false, .slice none 0 0, .int .i64 0, .int .i64 1, .int .i64 0, .slice (some ⟨W.heap.size + 1, 0, none⟩) 1 1, .slice none 0 0, .slice none 0 0, .string ⟨#[120]⟩, .bool false, .slice none 0 0, .int .i64 0, .int .i64 1, .int .i64 0, .slice (some ⟨w2.heap.size + 1, 0, none⟩) 1 1, .slice none 0 0, .slice none 0 0] 34)).cell? ⟨w1.heap.size, 4, none⟩ = _ := bxq_cell ha4 rfl; have x5 : (w3.alloc (.cells #[.string ⟨#[120]⟩, .bool false, .slice none 0 0, .int .i64 0, .int .i64 1, .int .i64 0, .slice (some ⟨W.heap.size + 1, 0, none⟩) 1 1, .slice none 0 0, .slice none 0 0, .string ⟨#[120]⟩, .bool false, .slice none 0 0, .int .i64 0, .int .i64 1, .int .i64 0, .slice (some ⟨w2.heap.size + 1, 0, none⟩) 1 1, .slice none 0 0, .slice none 0 0] 34)).cell? ⟨w1.heap.size, 5, none⟩ = _ := bxq_cell ha4 rfl; have x6 : (w3.alloc (.cells #[.string ⟨#[120]⟩, .bool false, .slice none 0 0, .int .i64 0, .int .i64 1, .int .i64 0, .slice (some ⟨W.heap.size + 1, 0, none⟩) 1 1, .slice none 0 0, .slice none 0 0, .string ⟨#[120]⟩, .bool false, .slice none 0 0, .int .i64 0, .int .i64 1, .int .i64 0, .slice (some ⟨w2.heap.size + 1, 0, none⟩) 1 1, .slice none 0 0, .slice none 0 0] 34)).cell? ⟨w1.heap.size, 6, none⟩ = _ := bxq_cell ha4 rfl; have x7 : (w3.alloc (.cells #[.string ⟨#[120]⟩, .bool false, .slice none 0 0, .int .i64 0, .int .i64 1, .int .i64 0, .slice (some ⟨W.heap.size + 1, 0, none⟩) 1 1, .slice none 0 0, .slice none 0 0, .string ⟨#[120]⟩, .bool false, .slice none 0 0, .int .i64 0, .int .i64 1, .int .i64 0, .slice (some ⟨w2.heap.size + 1, 0, none⟩) 1 1, .slice none 0 0, .slice none 0 0] 34)).cell? ⟨w1.heap.size, 7, none⟩ = _ := bxq_cell ha4 rfl; have fx : (w3.alloc (.cells #[.string ⟨#[120]⟩, .bool false, .slice none 0 0, .int .i64 0, .int .i64 1, .int .i64 0, .slice (some ⟨W.heap.size + 1, 0, none⟩) 1 1, .slice none 0 0, .slice none 0 0, .string ⟨#[120]⟩, .bool false, .slice none 0 0, .int .i64 0, .int .i64 1, .int .i64 0, .slice (some ⟨w2.heap.size + 1, 0, none⟩) 1 1, .slice none 0 0, .slice none 0 0] 34)).frozen? ⟨w1.heap.size, 7, none⟩ = false := (by simp [World.frozen?, ha4]); have n1 : ¬ w1.heap.size = w3.heap.size := (by omega); clear h0 h1 ha4 hb3 hz3 hz2 hc3 hwz))
  obtain ⟨h0, h1⟩ := HXX.out
  have h2 := HC2'.out
  have h3 := HC3.out
  have hwz := HWz.out
  have hz2 := HZ2.out
  have hz3 := HZ3.out
  obtain ⟨W5, hW5⟩ : ∃ X, X = ((w3.alloc (.cells #[.string ⟨#[120]⟩, .bool false, .slice none 0 0, .int .i64 0, .int .i64 1, .int .i64 0, .slice (some ⟨W.heap.size + 1, 0, none⟩) 1 1, .slice none 0 0, .slice none 0 0, .string ⟨#[120]⟩, .bool false, .slice none 0 0, .int .i64 0, .int .i64 1, .int .i64 0, .slice (some ⟨w2.heap.size + 1, 0, none⟩) 1 1, .slice none 0 0, .slice none 0 0] 34)).setCell ⟨w1.heap.size, 7, none⟩ (.slice (some ⟨w3.heap.size, 0, none⟩) 2 2)) := ⟨_, rfl⟩
  have hz5 : W5.heap.size = w3.heap.size + 1 := by rw [hW5]; (repeat (first | rw [sz_al] | rw [sz_sc]))
  have g0 : W5.heap[w1.heap.size]? = some (.cells #[.string ⟨#[65]⟩, .bool false, .bool false, .int .i64 0, .slice none 0 0, .slice none 0 0, .slice none 0 0, .slice (some ⟨w3.heap.size, 0, none⟩) 2 2] 27 (0, 0)) := by rw [hW5]; exact (by (repeat (first | rw [hp_al] | rw [hp_sc] | rw [sz_al] | rw [sz_sc] | rw [if_neg (by omega)] | rw [if_pos (by omega)] | rw [h0] | rw [h1] | rw [h2] | rw [h3])); all_goals rfl)
  have g1 : W5.heap[w1.heap.size + 1]? = some (.cells #[.string ⟨#[120]⟩, .int .i64 1, .string ⟨#[121]⟩, .int .i64 1] 29 (0, 0)) := by rw [hW5]; exact (by (repeat (first | rw [hp_al] | rw [hp_sc] | rw [sz_al] | rw [sz_sc] | rw [if_neg (by omega)] | rw [if_pos (by omega)] | rw [h0] | rw [h1] | rw [h2] | rw [h3])); all_goals rfl)
  have g2 : W5.heap[W.heap.size + 1]? = some (.cells #[.int .i64 29, .int .i64 0, .int .i64 0] 59 (0, 0)) := by rw [hW5]; exact (by (repeat (first | rw [hp_al] | rw [hp_sc] | rw [sz_al] | rw [sz_sc] | rw [if_neg (by omega)] | rw [if_pos (by omega)] | rw [h0] | rw [h1] | rw [h2] | rw [h3])); all_goals rfl)
  have g3 : W5.heap[w2.heap.size + 1]? = some (.cells #[.int .i64 29, .int .i64 0, .int .i64 0] 59 (0, 0)) := by rw [hW5]; exact (by (repeat (first | rw [hp_al] | rw [hp_sc] | rw [sz_al] | rw [sz_sc] | rw [if_neg (by omega)] | rw [if_pos (by omega)] | rw [h0] | rw [h1] | rw [h2] | rw [h3])); all_goals rfl)
  have g4 : W5.heap[w3.heap.size]? = some (.cells #[.string ⟨#[120]⟩, .bool false, .slice none 0 0, .int .i64 0, .int .i64 1, .int .i64 0, .slice (some ⟨W.heap.size + 1, 0, none⟩) 1 1, .slice none 0 0, .slice none 0 0, .string ⟨#[120]⟩, .bool false, .slice none 0 0, .int .i64 0, .int .i64 1, .int .i64 0, .slice (some ⟨w2.heap.size + 1, 0, none⟩) 1 1, .slice none 0 0, .slice none 0 0] 34 (0, 0)) := by rw [hW5]; exact (by (repeat (first | rw [hp_al] | rw [hp_sc] | rw [sz_al] | rw [sz_sc] | rw [if_neg (by omega)] | rw [if_pos (by omega)] | rw [h0] | rw [h1] | rw [h2] | rw [h3])); all_goals rfl)
  have HB5w : Hid (Below w1.heap.size w3 W5) := ⟨by rw [hW5]; rfl, by rw [hW5]; rfl, by rw [hW5]; rfl, by omega, fun k hk => by rw [hW5]; (repeat (first | rw [hp_al] | rw [hp_sc] | rw [sz_al] | rw [sz_sc] | rw [if_neg (by omega)]))⟩
  rw [← hW5]
  clear hW5 h0 h1 h2 h3
  have z0 : W5.cell? ⟨w1.heap.size, 0, none⟩ = _ := bxq_cell g0 rfl
  have z1 : W5.cell? ⟨w1.heap.size, 1, none⟩ = _ := bxq_cell g0 rfl
  have z2 : W5.cell? ⟨w1.heap.size, 2, none⟩ = _ := bxq_cell g0 rfl
  have z3 : W5.cell? ⟨w1.heap.size, 3, none⟩ = _ := bxq_cell g0 rfl
  have z4 : W5.cell? ⟨w1.heap.size, 4, none⟩ = _ := bxq_cell g0 rfl
  have z5 : W5.cell? ⟨w1.heap.size, 5, none⟩ = _ := bxq_cell g0 rfl
  have z6 : W5.cell? ⟨w1.heap.size, 6, none⟩ = _ := bxq_cell g0 rfl
  have z7 : W5.cell? ⟨w1.heap.size, 7, none⟩ = _ := bxq_cell g0 rfl
  have r9 : W5.cell? ⟨w3.heap.size, 9, none⟩ = _ := bxq_cell g4 rfl
  have f9 : W5.frozen? ⟨w3.heap.size, 9, none⟩ = false := (by simp [World.frozen?, g4])
  have r10 : W5.cell? ⟨w3.heap.size, 10, none⟩ = _ := bxq_cell g4 rfl
  have f10 : W5.frozen? ⟨w3.heap.size, 10, none⟩ = false := (by simp [World.frozen?, g4])
  have r11 : W5.cell? ⟨w3.heap.size, 11, none⟩ = _ := bxq_cell g4 rfl
  have f11 : W5.frozen? ⟨w3.heap.size, 11, none⟩ = false := (by simp [World.frozen?, g4])
  have r12 : W5.cell? ⟨w3.heap.size, 12, none⟩ = _ := bxq_cell g4 rfl
  have f12 : W5.frozen? ⟨w3.heap.size, 12, none⟩ = false := (by simp [World.frozen?, g4])
  have r13 : W5.cell? ⟨w3.heap.size, 13, none⟩ = _ := bxq_cell g4 rfl
  have f13 : W5.frozen? ⟨w3.heap.size, 13, none⟩ = false := (by simp [World.frozen?, g4])
  have r14 : W5.cell? ⟨w3.heap.size, 14, none⟩ = _ := bxq_cell g4 rfl
  have f14 : W5.frozen? ⟨w3.heap.size, 14, none⟩ = false := (by simp [World.frozen?, g4])
  have r15 : W5.cell? ⟨w3.heap.size, 15, none⟩ = _ := bxq_cell g4 rfl
  have f15 : W5.frozen? ⟨w3.heap.size, 15, none⟩ = false := (by simp [World.frozen?, g4])
  have r16 : W5.cell? ⟨w3.heap.size, 16, none⟩ = _ := bxq_cell g4 rfl
  have f16 : W5.frozen? ⟨w3.heap.size, 16, none⟩ = false := (by simp [World.frozen?, g4])
  have r17 : W5.cell? ⟨w3.heap.size, 17, none⟩ = _ := bxq_cell g4 rfl
  have f17 : W5.frozen? ⟨w3.heap.size, 17, none⟩ = false := (by simp [World.frozen?, g4])
  have hM3 : ∀ (ax : Option Addr) (w4 : World), Calls Tryz.prog 10 #[.string ⟨#[120]⟩, .slice ax 1 1, .int .i64 0] w4 fun e w' => e = .returned (.agg #[.string ⟨#[120]⟩, .bool false, .slice ax 1 1, .int .i64 0, .int .i64 2, .int .i64 0, .slice (some ⟨w4.heap.size + 1, 0, none⟩) 1 1, .slice none 0 0, .slice none 0 0]) ∧ Below w4.heap.size w4 w' ∧ w4.heap.size + 2 ≤ w'.heap.size ∧ w'.heap[w4.heap.size + 1]? = some (.cells #[.int .i64 29, .int .i64 0, .int .i64 0] 59 (0, 0)) := fun ax w4 => method_ok ⟨#[120]⟩ ax 1 1 0 (by decide) w4
  have n2 : ¬ w3.heap.size = w1.heap.size := (by omega)
  have n3 : ¬ w1.heap.size = w3.heap.size := (by omega)
  have n4 : w1.heap.size ≠ w3.heap.size := (by omega)
  have n5 : w3.heap.size ≠ w1.heap.size := (by omega)
  have HKK : Hid (∀ u, Below W5.heap.size W5 u → u.cell? ⟨w1.heap.size, 7, none⟩ = some (.slice (some ⟨w3.heap.size, 0, none⟩) 2 2) ∧ u.heap[w3.heap.size]? = some (.cells #[.string ⟨#[120]⟩, .bool false, .slice none 0 0, .int .i64 0, .int .i64 1, .int .i64 0, .slice (some ⟨W.heap.size + 1, 0, none⟩) 1 1, .slice none 0 0, .slice none 0 0, .string ⟨#[120]⟩, .bool false, .slice none 0 0, .int .i64 0, .int .i64 1, .int .i64 0, .slice (some ⟨w2.heap.size + 1, 0, none⟩) 1 1, .slice none 0 0, .slice none 0 0] 34 (0, 0))) := fun u hu => ⟨cell_keep z7 hu, (hu.block _ (by omega)).trans g4⟩
  go_region_held3 (fun w' => w'.cell? ⟨w1.heap.size, 7, none⟩ = some (.slice (some ⟨w3.heap.size, 0, none⟩) 2 2)) (go_keep) ((go_at_call 10; refine (hM3 _ _).mono ?_; rintro e w4 ⟨rfl, hb4, hz4, hc4⟩; have HB4 : Hid (Below W5.heap.size W5 w4) := (fun hX => Below.trans hX (hb4.mono hX.size)) (by first | exact ((Below.refl _ _).alloc (Nat.le_refl _) _).drew | exact ((Below.refl _ _).drew.alloc (Nat.le_refl _) _).drew | exact ((Below.refl _ _).alloc (Nat.le_refl _) _).drew.drew); have hK4 := (HKK.out w4 HB4.out).1; have hR4 := (HKK.out w4 HB4.out).2; have k9 : w4.cell? ⟨w3.heap.size, 9, none⟩ = _ := bxq_cell hR4 rfl; have q9 : w4.frozen? ⟨w3.heap.size, 9, none⟩ = false := (by simp [World.frozen?, hR4]); have k10 : w4.cell? ⟨w3.heap.size, 10, none⟩ = _ := bxq_cell hR4 rfl; have q10 : w4.frozen? ⟨w3.heap.size, 10, none⟩ = false := (by simp [World.frozen?, hR4]); have k11 : w4.cell? ⟨w3.heap.size, 11, none⟩ = _ := bxq_cell hR4 rfl; have q11 : w4.frozen? ⟨w3.heap.size, 11, none⟩ = false := (by simp [World.frozen?, hR4]); have k12 : w4.cell? ⟨w3.heap.size, 12, none⟩ = _ := bxq_cell hR4 rfl; have q12 : w4.frozen? ⟨w3.heap.size, 12, none⟩ = false := (by simp [World.frozen?, hR4]); have k13 : w4.cell? ⟨w3.heap.size, 13, none⟩ = _ := bxq_cell hR4 rfl; have q13 : w4.frozen? ⟨w3.heap.size, 13, none⟩ = false := (by simp [World.frozen?, hR4]); have k14 : w4.cell? ⟨w3.heap.size, 14, none⟩ = _ := bxq_cell hR4 rfl; have q14 : w4.frozen? ⟨w3.heap.size, 14, none⟩ = false := (by simp [World.frozen?, hR4]); have k15 : w4.cell? ⟨w3.heap.size, 15, none⟩ = _ := bxq_cell hR4 rfl; have q15 : w4.frozen? ⟨w3.heap.size, 15, none⟩ = false := (by simp [World.frozen?, hR4]); have k16 : w4.cell? ⟨w3.heap.size, 16, none⟩ = _ := bxq_cell hR4 rfl; have q16 : w4.frozen? ⟨w3.heap.size, 16, none⟩ = false := (by simp [World.frozen?, hR4]); have k17 : w4.cell? ⟨w3.heap.size, 17, none⟩ = _ := bxq_cell hR4 rfl; have q17 : w4.frozen? ⟨w3.heap.size, 17, none⟩ = false := (by simp [World.frozen?, hR4]); clear hR4; have HI4 : Hid (w4.heap[w3.heap.size + 1]? = some (.cells #[.int .i64 1] 3 (0, 0))) := (hb4.block _ (by show _ < (W5.alloc _).heap.size; rw [sz_al]; omega)).trans (by show (W5.alloc _).heap[w3.heap.size + 1]? = _; rw [hp_al, if_pos (by omega)]); have HZ4 : Hid (w3.heap.size + 4 ≤ w4.heap.size) := (by have q : (W5.alloc _).heap.size + 2 ≤ w4.heap.size := hz4; rw [sz_al] at q; show _ ≤ _; omega); have HC4 : Hid (w4.heap[w3.heap.size + 1 + 1 + 1]? = some (.cells #[.int .i64 29, .int .i64 0, .int .i64 0] 59 (0, 0))) := (by have e : (W5.alloc (.cells #[.int .i64 1] 3)).heap.size + 1 = w3.heap.size + 1 + 1 + 1 := (by rw [sz_al, hz5]); show w4.heap[_]? = _; rw [← e]; exact hc4); clear hb4 hc4 hz4))
  go_upto_region 18 with fail
  clear hK4 z0 z1 z2 z3 z4 z5 z6 z7 k9 q9 r9 f9 k10 q10 r10 f10 k11 q11 r11 f11 k12 q12 r12 f12 k13 q13 r13 f13 k14 q14 r14 f14 k15 q15 r15 f15 k16 q16 r16 f16 k17 q17 r17 f17
  obtain ⟨W6, hW6⟩ : ∃ X, X = (((((((((w4.setCell ⟨w3.heap.size, 9, none⟩ (.string ⟨#[120]⟩)).setCell ⟨w3.heap.size, 10, none⟩ (.bool false)).setCell ⟨w3.heap.size, 11, none⟩ (.slice (some ⟨w3.heap.size + 1, 0, none⟩) 1 1)).setCell ⟨w3.heap.size, 12, none⟩ (.int .i64 0)).setCell ⟨w3.heap.size, 13, none⟩ (.int .i64 2)).setCell ⟨w3.heap.size, 14, none⟩ (.int .i64 0)).setCell ⟨w3.heap.size, 15, none⟩ (.slice (some ⟨w3.heap.size + 1 + 1 + 1, 0, none⟩) 1 1)).setCell ⟨w3.heap.size, 16, none⟩ (.slice none 0 0)).setCell ⟨w3.heap.size, 17, none⟩ (.slice none 0 0)) := ⟨_, rfl⟩
  have hz4 := HZ4.out
  have hz6 : W6.heap.size = w4.heap.size := by rw [hW6]; (repeat rw [sz_sc])
  have e0 := (HB4.out.block w1.heap.size (by omega)).trans g0
  have e2 := (HB4.out.block (W.heap.size + 1) (by omega)).trans g2
  have e4 := (HB4.out.block w3.heap.size (by omega)).trans g4
  have e5 := HI4.out
  have e6 := HC4.out
  have u0 : W6.heap[w1.heap.size]? = some (.cells #[.string ⟨#[65]⟩, .bool false, .bool false, .int .i64 0, .slice none 0 0, .slice none 0 0, .slice none 0 0, .slice (some ⟨w3.heap.size, 0, none⟩) 2 2] 27 (0, 0)) := by rw [hW6]; (repeat rw [hp_sc, if_neg (by omega)]); exact e0
  have u2 : W6.heap[W.heap.size + 1]? = some (.cells #[.int .i64 29, .int .i64 0, .int .i64 0] 59 (0, 0)) := by rw [hW6]; (repeat rw [hp_sc, if_neg (by omega)]); exact e2
  have u4 : W6.heap[w3.heap.size]? = some (.cells #[.string ⟨#[120]⟩, .bool false, .slice none 0 0, .int .i64 0, .int .i64 1, .int .i64 0, .slice (some ⟨W.heap.size + 1, 0, none⟩) 1 1, .slice none 0 0, .slice none 0 0, .string ⟨#[120]⟩, .bool false, .slice (some ⟨w3.heap.size + 1, 0, none⟩) 1 1, .int .i64 0, .int .i64 2, .int .i64 0, .slice (some ⟨w3.heap.size + 1 + 1 + 1, 0, none⟩) 1 1, .slice none 0 0, .slice none 0 0] 34 (0, 0)) := by rw [hW6]; (repeat rw [hp_sc, if_pos rfl]); rw [e4]; simp only [Option.map_some, List.setIfInBounds_toArray, List.set_cons_succ, List.set_cons_zero]
  have u5 : W6.heap[w3.heap.size + 1]? = some (.cells #[.int .i64 1] 3 (0, 0)) := by rw [hW6]; (repeat rw [hp_sc, if_neg (by omega)]); exact e5
  have u6 : W6.heap[w3.heap.size + 1 + 1 + 1]? = some (.cells #[.int .i64 29, .int .i64 0, .int .i64 0] 59 (0, 0)) := by rw [hW6]; (repeat rw [hp_sc, if_neg (by omega)]); exact e6
  have HB6w : Hid (Below w1.heap.size w4 W6) := ⟨by rw [hW6]; (repeat rw [os_sc]), by rw [hW6]; (repeat rw [tape_sc]), by rw [hW6]; (repeat rw [out_sc]), by omega, fun k hk => by rw [hW6]; (repeat rw [hp_sc, if_neg (by omega)])⟩
  rw [← hW6]
  clear hW6 e0 e2 e4 e5 e6 g0 g1 g2 g3 g4
  have v0 : W6.cell? ⟨w1.heap.size, 0, none⟩ = _ := bxq_cell u0 rfl
  have v1 : W6.cell? ⟨w1.heap.size, 1, none⟩ = _ := bxq_cell u0 rfl
  have v2 : W6.cell? ⟨w1.heap.size, 2, none⟩ = _ := bxq_cell u0 rfl
  have v3 : W6.cell? ⟨w1.heap.size, 3, none⟩ = _ := bxq_cell u0 rfl
  have v4 : W6.cell? ⟨w1.heap.size, 4, none⟩ = _ := bxq_cell u0 rfl
  have v5 : W6.cell? ⟨w1.heap.size, 5, none⟩ = _ := bxq_cell u0 rfl
  have v6 : W6.cell? ⟨w1.heap.size, 6, none⟩ = _ := bxq_cell u0 rfl
  have v7 : W6.cell? ⟨w1.heap.size, 7, none⟩ = _ := bxq_cell u0 rfl
  go_wp2_with (first
    | (go_at_call 12; refine (with_ok (S := fun k => k < w4.heap.size + 1) (xs := [twiA [] [] [twiM 120, twiN]]) (fun k (q : k < _) => (by repeat (first | rw [sz_al] | rw [sz_sc]); omega)) (by
        refine Sl.blk [[.string ⟨#[65]⟩, .bool false, .bool false, .int .i64 0, .slice none 0 0, .slice none 0 0, .slice none 0 0, .slice (some ⟨w3.heap.size, 0, none⟩) 2 2]] (T := 27) (by (repeat (first | rw [hp_al] | rw [hp_sc] | rw [sz_al] | rw [sz_sc] | rw [if_neg (by omega)] | rw [if_pos (by omega)])); all_goals first | rfl | assumption) (show _ < _ by omega) rfl rfl rfl (by decide) fun i y r hy hr => ?_
        match i, hy, hr with
        | 0, hy, hr =>
          cases hy; cases hr
          refine ⟨_, _, _, _, rfl, Sl.nil _ _ _, Sl.nil _ _ _, Sl.nil _ _ _, ?_⟩
          refine Sl.blk [[.string ⟨#[120]⟩, .bool false, .slice none 0 0, .int .i64 0, .int .i64 1, .int .i64 0, .slice (some ⟨W.heap.size + 1, 0, none⟩) 1 1, .slice none 0 0, .slice none 0 0], [.string ⟨#[120]⟩, .bool false, .slice (some ⟨w3.heap.size + 1, 0, none⟩) 1 1, .int .i64 0, .int .i64 2, .int .i64 0, .slice (some ⟨w3.heap.size + 1 + 1 + 1, 0, none⟩) 1 1, .slice none 0 0, .slice none 0 0]] (T := 34) (by (repeat (first | rw [hp_al] | rw [hp_sc] | rw [sz_al] | rw [sz_sc] | rw [if_neg (by omega)] | rw [if_pos (by omega)])); all_goals first | rfl | assumption) (show _ < _ by omega) rfl rfl rfl (by decide) fun i y r hy hr => ?_
          match i, hy, hr with
          | 0, hy, hr =>
            cases hy; cases hr
            refine ⟨_, _, _, _, rfl, Sl.nil _ _ _, ?_, Sl.nil _ _ _, Sl.nil _ _ _⟩
            refine Sl.blk [[.int .i64 29, .int .i64 0, .int .i64 0]] (T := 59) (by (repeat (first | rw [hp_al] | rw [hp_sc] | rw [sz_al] | rw [sz_sc] | rw [if_neg (by omega)] | rw [if_pos (by omega)])); all_goals first | rfl | assumption) (show _ < _ by omega) rfl rfl rfl (by decide) fun i y r hy hr => ?_
            match i, hy, hr with
            | 0, hy, hr => cases hy; cases hr; rfl
          | 1, hy, hr =>
            cases hy; cases hr
            refine ⟨_, _, _, _, rfl, ?_, ?_, Sl.nil _ _ _, Sl.nil _ _ _⟩
            · refine Sl.blk [[.int .i64 1]] (T := 3) (by (repeat (first | rw [hp_al] | rw [hp_sc] | rw [sz_al] | rw [sz_sc] | rw [if_neg (by omega)] | rw [if_pos (by omega)])); all_goals first | rfl | assumption) (show _ < _ by omega) rfl rfl rfl (by decide) fun i y r hy hr => ?_
              match i, hy, hr with
              | 0, hy, hr => cases hy; cases hr; rfl
            · refine Sl.blk [[.int .i64 29, .int .i64 0, .int .i64 0]] (T := 59) (by (repeat (first | rw [hp_al] | rw [hp_sc] | rw [sz_al] | rw [sz_sc] | rw [if_neg (by omega)] | rw [if_pos (by omega)])); all_goals first | rfl | assumption) (show _ < _ by omega) rfl rfl rfl (by decide) fun i y r hy hr => ?_
              match i, hy, hr with
              | 0, hy, hr => cases hy; cases hr; rfl
        ) (by decide) (by decide)).mono ?_; rintro e w5 ⟨g, c, rfl, hb5, S', hS', hs⟩; have HB5 : Hid (Below w1.heap.size W6 w5) := ((Below.refl _ _).alloc (by omega) _).trans (hb5.mono (by rw [sz_al]; omega)); have hF := faults_yes (w := w5) (S := S') (p := twiP3t) twiO3t hS' hs twiJ3t; clear hb5 hS' hs)
    | (go_at_call 11; refine hF.mono ?_; clear hF; rintro e w6 ⟨rfl, hb6⟩; have HB6 : Hid (Below w1.heap.size W6 w6) := HB5.out.trans (hb6.mono (by have := HB5.out.size; omega)); clear hb6))
  go_ret
  exact ⟨rfl, HB1.out.trans ((((((HBW.out.trans (HB23.out.mono (by omega))).trans HB5w.out).trans (HB4.out.mono (by omega))).trans HB6w.out).trans HB6.out).mono HB1.out.size)⟩
def twiP3f : Pg := ⟨11, [tinyC, twiA [] [] [twiM 120, twiM 120]]⟩
theorem twiO3f : Okl twiP3f := okl_of (by kernel_rfl)
theorem twiJ3f : loadJ twiP3f = .error (1503, 12) := by kernel_rfl
set_option maxRecDepth 20000 in
set_option maxHeartbeats 8000000 in
theorem twice_3f (n : Int) (hm : bits BinOp.and .i64 n 3 = 3) (w : World) : Calls Tryz.prog 4 #[.int .i64 n, .bool false] w fun e w' => e = .returned (.bool true) ∧ Below w.heap.size w w' := by
  have hA := awake15 w
  go_enter Tryz.func4, Tryz.ntmps4
  go_upto_region 8 with (go_at_call 9; refine hA.mono ?_; clear hA; rintro e w1 ⟨rfl, hb1⟩; have HB1 : Hid (Below w.heap.size w w1) := hb1; clear hb1)
  obtain ⟨W, hW⟩ : ∃ W, W = (w1.alloc (.cells #[.string ⟨#[65]⟩, .bool false, .bool false, .int .i64 0, .slice none 0 0, .slice none 0 0, .slice none 0 0, .slice none 0 0] 27)).alloc (.cells #[.string ⟨#[120]⟩, .int .i64 1, .string ⟨#[120]⟩, .int .i64 1] 29) := ⟨_, rfl⟩
  have HWz : Hid (W.heap.size = w1.heap.size + 2) := by show _ = _; rw [hW]; simp only [sz_al]
  have HBW : Hid (Below w1.heap.size w1 W) := by rw [hW]; exact ((Below.refl _ _).alloc (Nat.le_refl _) _).alloc (by rw [sz_al]; omega) _
  have h0 : W.heap[w1.heap.size]? = some (.cells #[.string ⟨#[65]⟩, .bool false, .bool false, .int .i64 0, .slice none 0 0, .slice none 0 0, .slice none 0 0, .slice none 0 0] 27 (0, 0)) := by rw [hW]; exact (by (repeat (first | rw [hp_al] | rw [hp_sc] | rw [sz_al] | rw [sz_sc] | rw [if_neg (by omega)] | rw [if_pos (by omega)])); all_goals first | rfl | assumption)
  have h1 : W.heap[w1.heap.size + 1]? = some (.cells #[.string ⟨#[120]⟩, .int .i64 1, .string ⟨#[120]⟩, .int .i64 1] 29 (0, 0)) := by rw [hW]; exact (by (repeat (first | rw [hp_al] | rw [hp_sc] | rw [sz_al] | rw [sz_sc] | rw [if_neg (by omega)] | rw [if_pos (by omega)])); all_goals first | rfl | assumption)
  have hwz := HWz.out
  rw [← hW]
  clear hW
  have hM := method_ok ⟨#[120]⟩ none 0 0 0 (by decide) W
  have hM2 := fun w2 => method_ok ⟨#[120]⟩ none 0 0 0 (by decide) w2
  have HX : Hid (∀ w2, Below W.heap.size W w2 → w2.heap[w1.heap.size]? = some (.cells #[.string ⟨#[65]⟩, .bool false, .bool false, .int .i64 0, .slice none 0 0, .slice none 0 0, .slice none 0 0, .slice none 0 0] 27 (0, 0)) ∧ w2.heap[w1.heap.size + 1]? = some (.cells #[.string ⟨#[120]⟩, .int .i64 1, .string ⟨#[120]⟩, .int .i64 1] 29 (0, 0))) := fun w2 hb => ⟨(hb.block _ (by omega)).trans h0, (hb.block _ (by omega)).trans h1⟩
  clear h0 h1 hwz
  go_upto_region 18 with (first
    | (go_at_call 10; refine hM.mono ?_; clear hM; rintro e w2 ⟨rfl, hb2, hz2, hc2⟩; have HB2 : Hid _ := hb2; have HZ2 : Hid (W.heap.size + 2 ≤ w2.heap.size) := hz2; have HC2 : Hid _ := hc2; clear hb2 hz2 hc2)
    | (go_at_call 10; refine (hM2 w2).mono ?_; clear hM2; rintro e w3 ⟨rfl, hb3, hz3, hc3⟩; have HB3 : Hid _ := hb3; have HZ3 : Hid (w2.heap.size + 2 ≤ w3.heap.size) := hz3; have HC3 : Hid _ := hc3; have hz2 := HZ2.out; have HB23 : Hid (Below W.heap.size W w3) := HB2.out.trans (hb3.mono (by omega)); have HC2' : Hid (w3.heap[W.heap.size + 1]? = some (.cells #[.int .i64 29, .int .i64 0, .int .i64 0] 59 (0, 0))) := (hb3.block _ (by omega)).trans HC2.out; have HXX : Hid _ := HX.out w3 HB23.out; obtain ⟨h0, h1⟩ := HX.out w3 HB23.out; have hwz := HWz.out; have ha4 : (w3.alloc (.cells #[.string ⟨#[120]⟩, .bool false, .slice none 0 0, .int .i64 0, .int .i64 1, .int .i64 0, .slice (some ⟨W.heap.size + 1, 0, none⟩) 1 1, .slice none 0 0, .slice none 0 0, .string ⟨#[120]⟩, .bool false, .slice none 0 0, .int .i64 0, .int .i64 1, .int .i64 0, .slice (some ⟨w2.heap.size + 1, 0, none⟩) 1 1, .slice none 0 0, .slice none 0 0] 34)).heap[w1.heap.size]? = some (.cells #[.string ⟨#[65]⟩, .bool false, .bool false, .int .i64 0, .slice none 0 0, .slice none 0 0, .slice none 0 0, .slice none 0 0] 27 (0, 0)) := (by (repeat (first | rw [hp_al] | rw [hp_sc] | rw [sz_al] | rw [sz_sc] | rw [if_neg (by omega)] | rw [if_pos (by omega)])); all_goals first | rfl | assumption); have x0 : (w3.alloc (.cells #[.string ⟨#[120]⟩, .bool false, .slice none 0 0, .int .i64 0, .int .i64 1, .int .i64 0, .slice (some ⟨W.heap.size + 1, 0, none⟩) 1 1, .slice none 0 0, .slice none 0 0, .string ⟨#[120]⟩, .bool false, .slice none 0 0, .int .i64 0, .int .i64 1, .int .i64 0, .slice (some ⟨w2.heap.size + 1, 0, none⟩) 1 1, .slice none 0 0, .slice none 0 0] 34)).cell? ⟨w1.heap.size, 0, none⟩ = _ := bxq_cell ha4 rfl; have x1 : (w3.alloc (.cells #[.string ⟨#[120]⟩, .bool false, .slice none 0 0, .int .i64 0, .int .i64 1, .int .i64 0, .slice (some ⟨W.heap.size + 1, 0, none⟩) 1 1, .slice none 0 0, .slice none 0 0, .string ⟨#[120]⟩, .bool false, .slice none 0 0, .int .i64 0, .int .i64 1, .int .i64 0, .slice (some ⟨w2.heap.size + 1, 0, none⟩) 1 1, .slice none 0 0, .slice none 0 0] 34)).cell? ⟨w1.heap.size, 1, none⟩ = _ := bxq_cell ha4 rfl; have x2 : (w3.alloc (.cells #[.string ⟨#[120]⟩, .bool false, .slice none 0 0, .int .i64 0, .int .i64 1, .int .i64 0, .slice (some ⟨W.heap.size + 1, 0, none⟩) 1 1, .slice none 0 0, .slice none 0 0, .string ⟨#[120]⟩, .bool false, .slice none 0 0, .int .i64 0, .int .i64 1, .int .i64 0, .slice (some ⟨w2.heap.size + 1, 0, none⟩) 1 1, .slice none 0 0, .slice none 0 0] 34)).cell? ⟨w1.heap.size, 2, none⟩ = _ := bxq_cell ha4 rfl; have x3 : (w3.alloc (.cells #[.string ⟨#[120]⟩, .bool false, .slice none 0 0, .int .i64 0, .int .i64 1, .int .i64 0, .slice (some ⟨W.heap.size + 1, 0, none⟩) 1 1, .slice none 0 0, .slice none 0 0, .string ⟨#[120]⟩, .bool false, .slice none 0 0, .int .i64 0, .int .i64 1, .int .i64 0, .slice (some ⟨w2.heap.size + 1, 0, none⟩) 1 1, .slice none 0 0, .slice none 0 0] 34)).cell? ⟨w1.heap.size, 3, none⟩ = _ := bxq_cell ha4 rfl; have x4 : (w3.alloc (.cells #[.string ⟨#[120]⟩, .bool false, .slice none 0 0, .int .i64 0, .int .i64 1, .int .i64 0, .slice (some ⟨W.heap.size + 1, 0, none⟩) 1 1, .slice none 0 0, .slice none 0 0, .string ⟨#[120]⟩, .bool false, .slice none 0 0, .int .i64 0, .int .i64 1, .int .i64 0, .slice (some ⟨w2.heap.size + 1, 0, none⟩) 1 1, .slice none 0 0, .slice none 0 0] 34)).cell? ⟨w1.heap.size, 4, none⟩ = _ := bxq_cell ha4 rfl; have x5 : (w3.alloc (.cells #[.string ⟨#[120]⟩, .bool false, .slice none 0 0, .int .i64 0, .int .i64 1, .int .i64 0, .slice (some ⟨W.heap.size + 1, 0, none⟩) 1 1, .slice none 0 0, .slice none 0 0, .string ⟨#[120]⟩, .bool false, .slice none 0 0, .int .i64 0, .int .i64 1, .int .i64 0, .slice (some ⟨w2.heap.size + 1, 0, none⟩) 1 1, .slice none 0 0, .slice none 0 0] 34)).cell? ⟨w1.heap.size, 5, none⟩ = _ := bxq_cell ha4 rfl; have x6 : (w3.alloc (.cells #[.string ⟨#[120]⟩, .bool false, .slice none 0 0, .int .i64 0, .int .i64 1, .int .i64 0, .slice (some ⟨W.heap.size + 1, 0, none⟩) 1 1, .slice none 0 0, .slice none 0 0, .string ⟨#[120]⟩, .bool false, .slice none 0 0, .int .i64 0, .int .i64 1, .int .i64 0, .slice (some ⟨w2.heap.size + 1, 0, none⟩) 1 1, .slice none 0 0, .slice none 0 0] 34)).cell? ⟨w1.heap.size, 6, none⟩ = _ := bxq_cell ha4 rfl; have x7 : (w3.alloc (.cells #[.string ⟨#[120]⟩, .bool false, .slice none 0 0, .int .i64 0, .int .i64 1, .int .i64 0, .slice (some ⟨W.heap.size + 1, 0, none⟩) 1 1, .slice none 0 0, .slice none 0 0, .string ⟨#[120]⟩, .bool false, .slice none 0 0, .int .i64 0, .int .i64 1, .int .i64 0, .slice (some ⟨w2.heap.size + 1, 0, none⟩) 1 1, .slice none 0 0, .slice none 0 0] 34)).cell? ⟨w1.heap.size, 7, none⟩ = _ := bxq_cell ha4 rfl; have fx : (w3.alloc (.cells #[.string ⟨#[120]⟩, .bool false, .slice none 0 0, .int .i64 0, .int .i64 1, .int .i64 0, .slice (some ⟨W.heap.size + 1, 0, none⟩) 1 1, .slice none 0 0, .slice none 0 0, .string ⟨#[120]⟩, .bool false, .slice none 0 0, .int .i64 0, .int .i64 1, .int .i64 0, .slice (some ⟨w2.heap.size + 1, 0, none⟩) 1 1, .slice none 0 0, .slice none 0 0] 34)).frozen? ⟨w1.heap.size, 7, none⟩ = false := (by simp [World.frozen?, ha4]); have n1 : ¬ w1.heap.size = w3.heap.size := (by omega); clear h0 h1 ha4 hb3 hz3 hz2 hc3 hwz))
  obtain ⟨h0, h1⟩ := HXX.out
  have h2 := HC2'.out
  have h3 := HC3.out
  have hwz := HWz.out
  have hz2 := HZ2.out
  have hz3 := HZ3.out
  obtain ⟨W5, hW5⟩ : ∃ X, X = ((w3.alloc (.cells #[.string ⟨#[120]⟩, .bool false, .slice none 0 0, .int .i64 0, .int .i64 1, .int .i64 0, .slice (some ⟨W.heap.size + 1, 0, none⟩) 1 1, .slice none 0 0, .slice none 0 0, .string ⟨#[120]⟩, .bool false, .slice none 0 0, .int .i64 0, .int .i64 1, .int .i64 0, .slice (some ⟨w2.heap.size + 1, 0, none⟩) 1 1, .slice none 0 0, .slice none 0 0] 34)).setCell ⟨w1.heap.size, 7, none⟩ (.slice (some ⟨w3.heap.size, 0, none⟩) 2 2)) := ⟨_, rfl⟩
  have hz5 : W5.heap.size = w3.heap.size + 1 := by rw [hW5]; (repeat (first | rw [sz_al] | rw [sz_sc]))
  have g0 : W5.heap[w1.heap.size]? = some (.cells #[.string ⟨#[65]⟩, .bool false, .bool false, .int .i64 0, .slice none 0 0, .slice none 0 0, .slice none 0 0, .slice (some ⟨w3.heap.size, 0, none⟩) 2 2] 27 (0, 0)) := by rw [hW5]; exact (by (repeat (first | rw [hp_al] | rw [hp_sc] | rw [sz_al] | rw [sz_sc] | rw [if_neg (by omega)] | rw [if_pos (by omega)] | rw [h0] | rw [h1] | rw [h2] | rw [h3])); all_goals rfl)
  have g1 : W5.heap[w1.heap.size + 1]? = some (.cells #[.string ⟨#[120]⟩, .int .i64 1, .string ⟨#[120]⟩, .int .i64 1] 29 (0, 0)) := by rw [hW5]; exact (by (repeat (first | rw [hp_al] | rw [hp_sc] | rw [sz_al] | rw [sz_sc] | rw [if_neg (by omega)] | rw [if_pos (by omega)] | rw [h0] | rw [h1] | rw [h2] | rw [h3])); all_goals rfl)
  have g2 : W5.heap[W.heap.size + 1]? = some (.cells #[.int .i64 29, .int .i64 0, .int .i64 0] 59 (0, 0)) := by rw [hW5]; exact (by (repeat (first | rw [hp_al] | rw [hp_sc] | rw [sz_al] | rw [sz_sc] | rw [if_neg (by omega)] | rw [if_pos (by omega)] | rw [h0] | rw [h1] | rw [h2] | rw [h3])); all_goals rfl)
  have g3 : W5.heap[w2.heap.size + 1]? = some (.cells #[.int .i64 29, .int .i64 0, .int .i64 0] 59 (0, 0)) := by rw [hW5]; exact (by (repeat (first | rw [hp_al] | rw [hp_sc] | rw [sz_al] | rw [sz_sc] | rw [if_neg (by omega)] | rw [if_pos (by omega)] | rw [h0] | rw [h1] | rw [h2] | rw [h3])); all_goals rfl)
  have g4 : W5.heap[w3.heap.size]? = some (.cells #[.string ⟨#[120]⟩, .bool false, .slice none 0 0, .int .i64 0, .int .i64 1, .int .i64 0, .slice (some ⟨W.heap.size + 1, 0, none⟩) 1 1, .slice none 0 0, .slice none 0 0, .string ⟨#[120]⟩, .bool false, .slice none 0 0, .int .i64 0, .int .i64 1, .int .i64 0, .slice (some ⟨w2.heap.size + 1, 0, none⟩) 1 1, .slice none 0 0, .slice none 0 0] 34 (0, 0)) := by rw [hW5]; exact (by (repeat (first | rw [hp_al] | rw [hp_sc] | rw [sz_al] | rw [sz_sc] | rw [if_neg (by omega)] | rw [if_pos (by omega)] | rw [h0] | rw [h1] | rw [h2] | rw [h3])); all_goals rfl)
  have HB5w : Hid (Below w1.heap.size w3 W5) := ⟨by rw [hW5]; rfl, by rw [hW5]; rfl, by rw [hW5]; rfl, by omega, fun k hk => by rw [hW5]; (repeat (first | rw [hp_al] | rw [hp_sc] | rw [sz_al] | rw [sz_sc] | rw [if_neg (by omega)]))⟩
  rw [← hW5]
  clear hW5 h0 h1 h2 h3
  have z0 : W5.cell? ⟨w1.heap.size, 0, none⟩ = _ := bxq_cell g0 rfl
  have z1 : W5.cell? ⟨w1.heap.size, 1, none⟩ = _ := bxq_cell g0 rfl
  have z2 : W5.cell? ⟨w1.heap.size, 2, none⟩ = _ := bxq_cell g0 rfl
  have z3 : W5.cell? ⟨w1.heap.size, 3, none⟩ = _ := bxq_cell g0 rfl
  have z4 : W5.cell? ⟨w1.heap.size, 4, none⟩ = _ := bxq_cell g0 rfl
  have z5 : W5.cell? ⟨w1.heap.size, 5, none⟩ = _ := bxq_cell g0 rfl
  have z6 : W5.cell? ⟨w1.heap.size, 6, none⟩ = _ := bxq_cell g0 rfl
  have z7 : W5.cell? ⟨w1.heap.size, 7, none⟩ = _ := bxq_cell g0 rfl
  go_wp2_with (first
    | (go_at_call 12; refine (with_ok (S := fun k => k < w3.heap.size + 2) (xs := [twiA [] [] [twiM 120, twiM 120]]) (fun k (q : k < _) => (by repeat (first | rw [sz_al] | rw [sz_sc]); omega)) (by
        refine Sl.blk [[.string ⟨#[65]⟩, .bool false, .bool false, .int .i64 0, .slice none 0 0, .slice none 0 0, .slice none 0 0, .slice (some ⟨w3.heap.size, 0, none⟩) 2 2]] (T := 27) (by (repeat (first | rw [hp_al] | rw [hp_sc] | rw [sz_al] | rw [sz_sc] | rw [if_neg (by omega)] | rw [if_pos (by omega)])); all_goals first | rfl | assumption) (show _ < _ by omega) rfl rfl rfl (by decide) fun i y r hy hr => ?_
        match i, hy, hr with
        | 0, hy, hr =>
          cases hy; cases hr
          refine ⟨_, _, _, _, rfl, Sl.nil _ _ _, Sl.nil _ _ _, Sl.nil _ _ _, ?_⟩
          refine Sl.blk [[.string ⟨#[120]⟩, .bool false, .slice none 0 0, .int .i64 0, .int .i64 1, .int .i64 0, .slice (some ⟨W.heap.size + 1, 0, none⟩) 1 1, .slice none 0 0, .slice none 0 0], [.string ⟨#[120]⟩, .bool false, .slice none 0 0, .int .i64 0, .int .i64 1, .int .i64 0, .slice (some ⟨w2.heap.size + 1, 0, none⟩) 1 1, .slice none 0 0, .slice none 0 0]] (T := 34) (by (repeat (first | rw [hp_al] | rw [hp_sc] | rw [sz_al] | rw [sz_sc] | rw [if_neg (by omega)] | rw [if_pos (by omega)])); all_goals first | rfl | assumption) (show _ < _ by omega) rfl rfl rfl (by decide) fun i y r hy hr => ?_
          match i, hy, hr with
          | 0, hy, hr =>
            cases hy; cases hr
            refine ⟨_, _, _, _, rfl, Sl.nil _ _ _, ?_, Sl.nil _ _ _, Sl.nil _ _ _⟩
            refine Sl.blk [[.int .i64 29, .int .i64 0, .int .i64 0]] (T := 59) (by (repeat (first | rw [hp_al] | rw [hp_sc] | rw [sz_al] | rw [sz_sc] | rw [if_neg (by omega)] | rw [if_pos (by omega)])); all_goals first | rfl | assumption) (show _ < _ by omega) rfl rfl rfl (by decide) fun i y r hy hr => ?_
            match i, hy, hr with
            | 0, hy, hr => cases hy; cases hr; rfl
          | 1, hy, hr =>
            cases hy; cases hr
            refine ⟨_, _, _, _, rfl, Sl.nil _ _ _, ?_, Sl.nil _ _ _, Sl.nil _ _ _⟩
            refine Sl.blk [[.int .i64 29, .int .i64 0, .int .i64 0]] (T := 59) (by (repeat (first | rw [hp_al] | rw [hp_sc] | rw [sz_al] | rw [sz_sc] | rw [if_neg (by omega)] | rw [if_pos (by omega)])); all_goals first | rfl | assumption) (show _ < _ by omega) rfl rfl rfl (by decide) fun i y r hy hr => ?_
            match i, hy, hr with
            | 0, hy, hr => cases hy; cases hr; rfl
        ) (by decide) (by decide)).mono ?_; rintro e w5 ⟨g, c, rfl, hb5, S', hS', hs⟩; have HB5 : Hid (Below w1.heap.size W5 w5) := ((Below.refl _ _).alloc (by omega) _).trans (hb5.mono (by rw [sz_al]; omega)); have hF := faults_err (w := w5) (S := S') (p := twiP3f) twiO3f hS' hs (by decide) twiJ3f; clear hb5 hS' hs)
    | (go_at_call 11; refine hF.mono ?_; clear hF; rintro e w6 ⟨rfl, hb6⟩; have HB6 : Hid (Below w1.heap.size W5 w6) := HB5.out.trans (hb6.mono (by have := HB5.out.size; omega)); clear hb6))
  go_ret
  exact ⟨rfl, HB1.out.trans ((((HBW.out.trans (HB23.out.mono (by omega))).trans HB5w.out).trans HB6.out).mono HB1.out.size)⟩
theorem twice_walk (n : Int) (o : Bool) (w : World) : Calls Tryz.prog 4 #[.int .i64 n, .bool o] w fun e w' => e = .returned (.bool true) ∧ Below w.heap.size w w' := by
  cases o
  · rcases masked3 n with h | h | h | h
    · exact twice_0f n h w
    · exact twice_1f n h w
    · exact twice_2f n h w
    · exact twice_3f n h w
  · rcases masked3 n with h | h | h | h
    · exact twice_0t n h w
    · exact twice_1t n h w
    · exact twice_2t n h w
    · exact twice_3t n h w
end Go.Proofs.YtllpjjglnopgaabGreat
