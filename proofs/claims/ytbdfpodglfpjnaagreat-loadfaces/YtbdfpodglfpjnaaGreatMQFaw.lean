/- LoadFaces. -/
import Derived.Test.YtbdfpodglfpjnaaGreatMQTyp
namespace Go.Proofs.YtbdfpodglfpjnaaGreat
open Go.RowKit

theorem mask7 (n : Int) : bits BinOp.and .i64 n 7 = n % 8 := by
  have e : (BitVec.ofInt 64 n &&& BitVec.ofInt 64 7).toNat = (n % 18446744073709551616).toNat % 8 := by
    rw [BitVec.toNat_and, BitVec.toNat_ofInt, show (BitVec.ofInt 64 7).toNat = 2 ^ 3 - 1 from by decide, Nat.and_two_pow_sub_one_eq_mod]; rfl
  show IntKind.i64.wrap ((BitVec.ofInt 64 n &&& BitVec.ofInt 64 7).toNat : Nat) = n % 8
  rw [e, IntKind.wrap_i64]; omega
theorem masked7 (n : Int) : bits BinOp.and .i64 n 7 = 0 ∨ bits BinOp.and .i64 n 7 = 1 ∨ bits BinOp.and .i64 n 7 = 2 ∨ bits BinOp.and .i64 n 7 = 3 ∨ bits BinOp.and .i64 n 7 = 4 ∨ bits BinOp.and .i64 n 7 = 5 ∨ bits BinOp.and .i64 n 7 = 6 ∨ bits BinOp.and .i64 n 7 = 7 := by rw [mask7]; omega
def facI (fin : Bool) (fs : List Fd) (stc : Bool) (cd : List Is) : Cs := ⟨⟨#[73]⟩, true, fin, 0, [], fs, [], [⟨⟨#[102]⟩, stc, [], 0, 0, 0, cd, [], []⟩]⟩
def facA (k : Int) : Cs := ⟨⟨#[65]⟩, false, false, 0, [k], [], [], [⟨⟨#[102]⟩, false, [], 0, 1, 0, [retI], [], []⟩]⟩
def facP0 : Pg := ⟨11, [tinyC, facI true [] false [], facA 12]⟩
theorem facO0 : Okl facP0 := okl_of (by kernel_rfl)
theorem facJ0 : loadJ facP0 = .error (1502, 12) := by kernel_rfl
set_option maxRecDepth 20000 in
set_option maxHeartbeats 8000000 in
theorem faces_0 (n : Int) (hm : bits BinOp.and .i64 n 7 = 0) (w : World) : Calls Tryz.prog 5 #[.int .i64 n] w fun e w' => e = .returned (.bool true) ∧ Below w.heap.size w w' := by
  have hA := awake15 w
  go_enter Tryz.func5, Tryz.ntmps5
  go_upto_region 4 with (go_at_call 11; refine hA.mono ?_; clear hA; rintro e w1 ⟨rfl, hb1⟩; have HB1 : Hid (Below w.heap.size w w1) := hb1; clear hb1)
  obtain ⟨W, hW⟩ : ∃ W, W = ((w1.alloc (.cells #[.string ⟨#[102]⟩, .bool false, .slice none 0 0, .int .i64 0, .int .i64 0, .int .i64 0, .slice none 0 0, .slice none 0 0, .slice none 0 0] 39)).alloc (.cells #[.string ⟨#[73]⟩, .bool true, .bool false, .int .i64 0, .slice none 0 0, .slice none 0 0, .slice none 0 0, .slice (some ⟨w1.heap.size, 0, none⟩) 1 1] 31)) := ⟨_, rfl⟩
  have HWz : Hid (W.heap.size ≤ w1.heap.size + 2 ∧ w1.heap.size + 2 ≤ W.heap.size) := by show _ ∧ _; rw [hW]; simp only [sz_al]; omega
  have HBW : Hid (Below w1.heap.size w1 W) := by rw [hW]; exact (((Below.refl _ _).alloc (Nat.le_refl _) _).alloc (by rw [sz_al]; omega) _)
  have h0 : W.heap[w1.heap.size]? = some (.cells #[.string ⟨#[102]⟩, .bool false, .slice none 0 0, .int .i64 0, .int .i64 0, .int .i64 0, .slice none 0 0, .slice none 0 0, .slice none 0 0] 39 (0, 0)) := by rw [hW]; exact (by (repeat (first | rw [hp_al] | rw [hp_sc] | rw [sz_al] | rw [sz_sc] | rw [if_neg (by omega)] | rw [if_pos (by omega)])); all_goals first | rfl | assumption)
  have h1 : W.heap[w1.heap.size + 1]? = some (.cells #[.string ⟨#[73]⟩, .bool true, .bool false, .int .i64 0, .slice none 0 0, .slice none 0 0, .slice none 0 0, .slice (some ⟨w1.heap.size, 0, none⟩) 1 1] 31 (0, 0)) := by rw [hW]; exact (by (repeat (first | rw [hp_al] | rw [hp_sc] | rw [sz_al] | rw [sz_sc] | rw [if_neg (by omega)] | rw [if_pos (by omega)])); all_goals first | rfl | assumption)
  have hwz := HWz.out
  rw [← hW]
  clear hW
  have hM : Calls Tryz.prog 14 #[.string ⟨#[102]⟩, .slice none 0 0, .int .i64 0] (W.alloc (.cells #[.int .i64 12] 3)) fun e w' => e = .returned (.agg #[.string ⟨#[102]⟩, .bool false, .slice none 0 0, .int .i64 0, .int .i64 1, .int .i64 0, .slice (some ⟨W.heap.size + 2, 0, none⟩) 1 1, .slice none 0 0, .slice none 0 0]) ∧ Below (W.heap.size + 1) (W.alloc (.cells #[.int .i64 12] 3)) w' ∧ W.heap.size + 3 ≤ w'.heap.size ∧ w'.heap[W.heap.size + 2]? = some (.cells #[.int .i64 29, .int .i64 0, .int .i64 0] 44 (0, 0)) := by
    have q := method_ok ⟨#[102]⟩ none 0 0 0 (by decide) (W.alloc (.cells #[.int .i64 12] 3))
    rw [sz_al] at q
    exact q
  have HX : Hid (∀ w2, Below (W.heap.size + 1) (W.alloc (.cells #[.int .i64 12] 3)) w2 → Below W.heap.size W w2 ∧ w2.heap[w1.heap.size]? = some (.cells #[.string ⟨#[102]⟩, .bool false, .slice none 0 0, .int .i64 0, .int .i64 0, .int .i64 0, .slice none 0 0, .slice none 0 0, .slice none 0 0] 39 (0, 0)) ∧ w2.heap[w1.heap.size + 1]? = some (.cells #[.string ⟨#[73]⟩, .bool true, .bool false, .int .i64 0, .slice none 0 0, .slice none 0 0, .slice none 0 0, .slice (some ⟨w1.heap.size, 0, none⟩) 1 1] 31 (0, 0)) ∧ w2.heap[W.heap.size]? = some (.cells #[.int .i64 12] 3 (0, 0))) := fun w2 hb => by
    have hq : W.heap.size ≤ W.heap.size + 1 := by omega
    have hb0 : Below W.heap.size W w2 := ((Below.refl _ _).alloc (Nat.le_refl _) _).trans (hb.mono hq)
    exact ⟨hb0, (hb0.block _ (by omega)).trans h0, (hb0.block _ (by omega)).trans h1, (hb.block _ (by omega)).trans (by (repeat (first | rw [hp_al] | rw [hp_sc] | rw [sz_al] | rw [sz_sc] | rw [if_neg (by omega)] | rw [if_pos (by omega)])); all_goals first | rfl | assumption)⟩
  clear h0 h1 hwz
  go_upto_region 5 with (go_at_call 14; refine hM.mono ?_; clear hM; rintro e w2 ⟨rfl, hb2, hz2, hc2⟩; have HZ2 : Hid _ := hz2; have HC2 : Hid _ := hc2; have HXX : Hid _ := HX.out w2 hb2; clear hb2 hz2 hc2)
  obtain ⟨hb0, h0, h1, h2⟩ := HXX.out
  have HB2 : Hid (Below W.heap.size W w2) := hb0
  have h3 := HC2.out
  have hz2 := HZ2.out
  have hwz := HWz.out
  obtain ⟨W5, hW5⟩ : ∃ X, X = ((w2.alloc (.cells #[.string ⟨#[102]⟩, .bool false, .slice none 0 0, .int .i64 0, .int .i64 1, .int .i64 0, .slice (some ⟨W.heap.size + 2, 0, none⟩) 1 1, .slice none 0 0, .slice none 0 0] 39)).alloc (.cells #[.string ⟨#[65]⟩, .bool false, .bool false, .int .i64 0, .slice (some ⟨W.heap.size, 0, none⟩) 1 1, .slice none 0 0, .slice none 0 0, .slice (some ⟨w2.heap.size, 0, none⟩) 1 1] 31)) := ⟨_, rfl⟩
  have hz5 : W5.heap.size ≤ w2.heap.size + 2 ∧ w2.heap.size + 2 ≤ W5.heap.size := by rw [hW5]; (repeat (first | rw [sz_al] | rw [sz_sc])); omega
  have g0 : W5.heap[w1.heap.size]? = some (.cells #[.string ⟨#[102]⟩, .bool false, .slice none 0 0, .int .i64 0, .int .i64 0, .int .i64 0, .slice none 0 0, .slice none 0 0, .slice none 0 0] 39 (0, 0)) := by rw [hW5]; exact (by (repeat (first | rw [hp_al] | rw [hp_sc] | rw [sz_al] | rw [sz_sc] | rw [if_neg (by omega)] | rw [if_pos (by omega)] | rw [h0] | rw [h1] | rw [h2] | rw [h3])); all_goals rfl)
  have g1 : W5.heap[w1.heap.size + 1]? = some (.cells #[.string ⟨#[73]⟩, .bool true, .bool false, .int .i64 0, .slice none 0 0, .slice none 0 0, .slice none 0 0, .slice (some ⟨w1.heap.size, 0, none⟩) 1 1] 31 (0, 0)) := by rw [hW5]; exact (by (repeat (first | rw [hp_al] | rw [hp_sc] | rw [sz_al] | rw [sz_sc] | rw [if_neg (by omega)] | rw [if_pos (by omega)] | rw [h0] | rw [h1] | rw [h2] | rw [h3])); all_goals rfl)
  have g2 : W5.heap[W.heap.size]? = some (.cells #[.int .i64 12] 3 (0, 0)) := by rw [hW5]; exact (by (repeat (first | rw [hp_al] | rw [hp_sc] | rw [sz_al] | rw [sz_sc] | rw [if_neg (by omega)] | rw [if_pos (by omega)] | rw [h0] | rw [h1] | rw [h2] | rw [h3])); all_goals rfl)
  have gi : W5.heap[W.heap.size + 2]? = some (.cells #[.int .i64 29, .int .i64 0, .int .i64 0] 44 (0, 0)) := by rw [hW5]; exact (by (repeat (first | rw [hp_al] | rw [hp_sc] | rw [sz_al] | rw [sz_sc] | rw [if_neg (by omega)] | rw [if_pos (by omega)] | rw [h0] | rw [h1] | rw [h2] | rw [h3])); all_goals rfl)
  have g3 : W5.heap[w2.heap.size]? = some (.cells #[.string ⟨#[102]⟩, .bool false, .slice none 0 0, .int .i64 0, .int .i64 1, .int .i64 0, .slice (some ⟨W.heap.size + 2, 0, none⟩) 1 1, .slice none 0 0, .slice none 0 0] 39 (0, 0)) := by rw [hW5]; exact (by (repeat (first | rw [hp_al] | rw [hp_sc] | rw [sz_al] | rw [sz_sc] | rw [if_neg (by omega)] | rw [if_pos (by omega)] | rw [h0] | rw [h1] | rw [h2] | rw [h3])); all_goals rfl)
  have g4 : W5.heap[w2.heap.size + 1]? = some (.cells #[.string ⟨#[65]⟩, .bool false, .bool false, .int .i64 0, .slice (some ⟨W.heap.size, 0, none⟩) 1 1, .slice none 0 0, .slice none 0 0, .slice (some ⟨w2.heap.size, 0, none⟩) 1 1] 31 (0, 0)) := by rw [hW5]; exact (by (repeat (first | rw [hp_al] | rw [hp_sc] | rw [sz_al] | rw [sz_sc] | rw [if_neg (by omega)] | rw [if_pos (by omega)] | rw [h0] | rw [h1] | rw [h2] | rw [h3])); all_goals rfl)
  have HB5w : Hid (Below w1.heap.size w2 W5) := ⟨by rw [hW5]; rfl, by rw [hW5]; rfl, by rw [hW5]; rfl, by omega, fun k hk => by rw [hW5]; (repeat (first | rw [hp_al] | rw [hp_sc] | rw [sz_al] | rw [sz_sc] | rw [if_neg (by omega)]))⟩
  rw [← hW5]
  clear hW5 h0 h1 h2 h3 hb0
  have x0 : W5.cell? ⟨w1.heap.size + 1, 0, none⟩ = _ := bxq_cell g1 rfl
  have x1 : W5.cell? ⟨w1.heap.size + 1, 1, none⟩ = _ := bxq_cell g1 rfl
  have x2 : W5.cell? ⟨w1.heap.size + 1, 2, none⟩ = _ := bxq_cell g1 rfl
  have x3 : W5.cell? ⟨w1.heap.size + 1, 3, none⟩ = _ := bxq_cell g1 rfl
  have x4 : W5.cell? ⟨w1.heap.size + 1, 4, none⟩ = _ := bxq_cell g1 rfl
  have x5 : W5.cell? ⟨w1.heap.size + 1, 5, none⟩ = _ := bxq_cell g1 rfl
  have x6 : W5.cell? ⟨w1.heap.size + 1, 6, none⟩ = _ := bxq_cell g1 rfl
  have x7 : W5.cell? ⟨w1.heap.size + 1, 7, none⟩ = _ := bxq_cell g1 rfl
  have fx : W5.frozen? ⟨w1.heap.size + 1, 2, none⟩ = false := (by simp [World.frozen?, g1])
  have n1 : ¬ w1.heap.size + 1 = W5.heap.size := by omega
  have G0 : Hid _ := g0
  have G1 : Hid _ := g1
  have G2 : Hid _ := g2
  have Gi : Hid _ := gi
  have G3 : Hid _ := g3
  have G4 : Hid _ := g4
  have HZ5 : Hid _ := hz5
  clear g0 g1 g2 gi g3 g4 hz5 hwz hz2
  go_upto_region 21 with fail
  have g0 := G0.out
  have g1 := G1.out
  have g2 := G2.out
  have gi := Gi.out
  have g3 := G3.out
  have g4 := G4.out
  have hz5 := HZ5.out
  have hwz := HWz.out
  have hz2 := HZ2.out
  obtain ⟨W6, hW6⟩ : ∃ X, X = (W5.setCell ⟨w1.heap.size + 1, 2, none⟩ (.bool true)) := ⟨_, rfl⟩
  have hz6 : W6.heap.size ≤ w2.heap.size + 2 ∧ w2.heap.size + 2 ≤ W6.heap.size := by rw [hW6]; (repeat (first | rw [sz_al] | rw [sz_sc])); omega
  have u0 : W6.heap[w1.heap.size]? = some (.cells #[.string ⟨#[102]⟩, .bool false, .slice none 0 0, .int .i64 0, .int .i64 0, .int .i64 0, .slice none 0 0, .slice none 0 0, .slice none 0 0] 39 (0, 0)) := by rw [hW6]; exact (by (repeat (first | rw [hp_al] | rw [hp_sc] | rw [sz_al] | rw [sz_sc] | rw [if_neg (by omega)] | rw [if_pos (by omega)] | rw [g0] | rw [g1] | rw [g2] | rw [gi] | rw [g3] | rw [g4])); all_goals rfl)
  have u1 : W6.heap[w1.heap.size + 1]? = some (.cells #[.string ⟨#[73]⟩, .bool true, .bool true, .int .i64 0, .slice none 0 0, .slice none 0 0, .slice none 0 0, .slice (some ⟨w1.heap.size, 0, none⟩) 1 1] 31 (0, 0)) := by rw [hW6]; exact (by (repeat (first | rw [hp_al] | rw [hp_sc] | rw [sz_al] | rw [sz_sc] | rw [if_neg (by omega)] | rw [if_pos (by omega)] | rw [g0] | rw [g1] | rw [g2] | rw [gi] | rw [g3] | rw [g4])); all_goals rfl)
  have u2 : W6.heap[W.heap.size]? = some (.cells #[.int .i64 12] 3 (0, 0)) := by rw [hW6]; exact (by (repeat (first | rw [hp_al] | rw [hp_sc] | rw [sz_al] | rw [sz_sc] | rw [if_neg (by omega)] | rw [if_pos (by omega)] | rw [g0] | rw [g1] | rw [g2] | rw [gi] | rw [g3] | rw [g4])); all_goals rfl)
  have ui : W6.heap[W.heap.size + 2]? = some (.cells #[.int .i64 29, .int .i64 0, .int .i64 0] 44 (0, 0)) := by rw [hW6]; exact (by (repeat (first | rw [hp_al] | rw [hp_sc] | rw [sz_al] | rw [sz_sc] | rw [if_neg (by omega)] | rw [if_pos (by omega)] | rw [g0] | rw [g1] | rw [g2] | rw [gi] | rw [g3] | rw [g4])); all_goals rfl)
  have u3 : W6.heap[w2.heap.size]? = some (.cells #[.string ⟨#[102]⟩, .bool false, .slice none 0 0, .int .i64 0, .int .i64 1, .int .i64 0, .slice (some ⟨W.heap.size + 2, 0, none⟩) 1 1, .slice none 0 0, .slice none 0 0] 39 (0, 0)) := by rw [hW6]; exact (by (repeat (first | rw [hp_al] | rw [hp_sc] | rw [sz_al] | rw [sz_sc] | rw [if_neg (by omega)] | rw [if_pos (by omega)] | rw [g0] | rw [g1] | rw [g2] | rw [gi] | rw [g3] | rw [g4])); all_goals rfl)
  have u4 : W6.heap[w2.heap.size + 1]? = some (.cells #[.string ⟨#[65]⟩, .bool false, .bool false, .int .i64 0, .slice (some ⟨W.heap.size, 0, none⟩) 1 1, .slice none 0 0, .slice none 0 0, .slice (some ⟨w2.heap.size, 0, none⟩) 1 1] 31 (0, 0)) := by rw [hW6]; exact (by (repeat (first | rw [hp_al] | rw [hp_sc] | rw [sz_al] | rw [sz_sc] | rw [if_neg (by omega)] | rw [if_pos (by omega)] | rw [g0] | rw [g1] | rw [g2] | rw [gi] | rw [g3] | rw [g4])); all_goals rfl)
  have HB6w : Hid (Below w1.heap.size W5 W6) := ⟨by rw [hW6]; rfl, by rw [hW6]; rfl, by rw [hW6]; rfl, by omega, fun k hk => by rw [hW6]; (repeat (first | rw [hp_al] | rw [hp_sc] | rw [sz_al] | rw [sz_sc] | rw [if_neg (by omega)]))⟩
  rw [← hW6]
  clear hW6 g0 g1 g2 gi g3 g4
  have z0 : W6.cell? ⟨w1.heap.size + 1, 0, none⟩ = _ := bxq_cell u1 rfl
  have y0 : W6.cell? ⟨w2.heap.size + 1, 0, none⟩ = _ := bxq_cell u4 rfl
  have z1 : W6.cell? ⟨w1.heap.size + 1, 1, none⟩ = _ := bxq_cell u1 rfl
  have y1 : W6.cell? ⟨w2.heap.size + 1, 1, none⟩ = _ := bxq_cell u4 rfl
  have z2 : W6.cell? ⟨w1.heap.size + 1, 2, none⟩ = _ := bxq_cell u1 rfl
  have y2 : W6.cell? ⟨w2.heap.size + 1, 2, none⟩ = _ := bxq_cell u4 rfl
  have z3 : W6.cell? ⟨w1.heap.size + 1, 3, none⟩ = _ := bxq_cell u1 rfl
  have y3 : W6.cell? ⟨w2.heap.size + 1, 3, none⟩ = _ := bxq_cell u4 rfl
  have z4 : W6.cell? ⟨w1.heap.size + 1, 4, none⟩ = _ := bxq_cell u1 rfl
  have y4 : W6.cell? ⟨w2.heap.size + 1, 4, none⟩ = _ := bxq_cell u4 rfl
  have z5 : W6.cell? ⟨w1.heap.size + 1, 5, none⟩ = _ := bxq_cell u1 rfl
  have y5 : W6.cell? ⟨w2.heap.size + 1, 5, none⟩ = _ := bxq_cell u4 rfl
  have z6 : W6.cell? ⟨w1.heap.size + 1, 6, none⟩ = _ := bxq_cell u1 rfl
  have y6 : W6.cell? ⟨w2.heap.size + 1, 6, none⟩ = _ := bxq_cell u4 rfl
  have z7 : W6.cell? ⟨w1.heap.size + 1, 7, none⟩ = _ := bxq_cell u1 rfl
  have y7 : W6.cell? ⟨w2.heap.size + 1, 7, none⟩ = _ := bxq_cell u4 rfl
  go_wp2_with (first
    | (go_at_call 12; refine (with_ok (S := fun k => k < w2.heap.size + 3) (xs := [facI true [] false [], facA 12]) (fun k (q : k < _) => (by repeat (first | rw [sz_al] | rw [sz_sc]); omega)) (by
        refine Sl.blk [[.string ⟨#[73]⟩, .bool true, .bool true, .int .i64 0, .slice none 0 0, .slice none 0 0, .slice none 0 0, .slice (some ⟨w1.heap.size, 0, none⟩) 1 1], [.string ⟨#[65]⟩, .bool false, .bool false, .int .i64 0, .slice (some ⟨W.heap.size, 0, none⟩) 1 1, .slice none 0 0, .slice none 0 0, .slice (some ⟨w2.heap.size, 0, none⟩) 1 1]] (T := 31) (by (repeat (first | rw [hp_al] | rw [hp_sc] | rw [sz_al] | rw [sz_sc] | rw [if_neg (by omega)] | rw [if_pos (by omega)])); all_goals first | rfl | assumption) (show _ < _ by omega) rfl rfl rfl (by decide) fun i y r hy hr => ?_
        match i, hy, hr with
        | 0, hy, hr =>
            cases hy; cases hr
            refine ⟨_, _, _, _, rfl, Sl.nil _ _ _, Sl.nil _ _ _, Sl.nil _ _ _, ?_⟩
            · refine Sl.blk [[.string ⟨#[102]⟩, .bool false, .slice none 0 0, .int .i64 0, .int .i64 0, .int .i64 0, .slice none 0 0, .slice none 0 0, .slice none 0 0]] (T := 39) (by (repeat (first | rw [hp_al] | rw [hp_sc] | rw [sz_al] | rw [sz_sc] | rw [if_neg (by omega)] | rw [if_pos (by omega)])); all_goals first | rfl | assumption) (show _ < _ by omega) rfl rfl rfl (by decide) fun i y r hy hr => ?_
              match i, hy, hr with
              | 0, hy, hr =>
                cases hy; cases hr
                exact ⟨_, _, _, _, rfl, Sl.nil _ _ _, Sl.nil _ _ _, Sl.nil _ _ _, Sl.nil _ _ _⟩
        | 1, hy, hr =>
            cases hy; cases hr
            refine ⟨_, _, _, _, rfl, ?_, Sl.nil _ _ _, Sl.nil _ _ _, ?_⟩
            · refine Sl.blk [[.int .i64 12]] (T := 3) (by (repeat (first | rw [hp_al] | rw [hp_sc] | rw [sz_al] | rw [sz_sc] | rw [if_neg (by omega)] | rw [if_pos (by omega)])); all_goals first | rfl | assumption) (show _ < _ by omega) rfl rfl rfl (by decide) fun i y r hy hr => ?_
              match i, hy, hr with
              | 0, hy, hr => cases hy; cases hr; rfl
            · refine Sl.blk [[.string ⟨#[102]⟩, .bool false, .slice none 0 0, .int .i64 0, .int .i64 1, .int .i64 0, .slice (some ⟨W.heap.size + 2, 0, none⟩) 1 1, .slice none 0 0, .slice none 0 0]] (T := 39) (by (repeat (first | rw [hp_al] | rw [hp_sc] | rw [sz_al] | rw [sz_sc] | rw [if_neg (by omega)] | rw [if_pos (by omega)])); all_goals first | rfl | assumption) (show _ < _ by omega) rfl rfl rfl (by decide) fun i y r hy hr => ?_
              match i, hy, hr with
              | 0, hy, hr =>
                cases hy; cases hr
                refine ⟨_, _, _, _, rfl, Sl.nil _ _ _, ?_, Sl.nil _ _ _, Sl.nil _ _ _⟩
                refine Sl.blk [[.int .i64 29, .int .i64 0, .int .i64 0]] (T := 44) (by (repeat (first | rw [hp_al] | rw [hp_sc] | rw [sz_al] | rw [sz_sc] | rw [if_neg (by omega)] | rw [if_pos (by omega)])); all_goals first | rfl | assumption) (show _ < _ by omega) rfl rfl rfl (by decide) fun i y r hy hr => ?_
                match i, hy, hr with
                | 0, hy, hr => cases hy; cases hr; rfl
        ) (by decide) (by decide)).mono ?_; rintro e w5 ⟨g, c, rfl, hb5, S', hS', hs⟩; have HB5 : Hid (Below w1.heap.size W6 w5) := ((Below.refl _ _).alloc (by omega) _).trans (hb5.mono (by rw [sz_al]; omega)); have hF := faults_err (w := w5) (S := S') (p := facP0) facO0 hS' hs (by decide) facJ0; clear hb5 hS' hs)
    | (go_at_call 13; refine hF.mono ?_; clear hF; rintro e w6 ⟨rfl, hb6⟩; have HB6 : Hid (Below w1.heap.size W6 w6) := HB5.out.trans (hb6.mono (by have := HB5.out.size; omega)); clear hb6))
  go_ret
  exact ⟨rfl, HB1.out.trans (((((HBW.out.trans (HB2.out.mono (by omega))).trans HB5w.out).trans HB6w.out).trans HB6.out).mono HB1.out.size)⟩
def facP1 : Pg := ⟨11, [tinyC, facI false [⟨⟨#[120]⟩, 1⟩] false [], facA 12]⟩
theorem facO1 : Okl facP1 := okl_of (by kernel_rfl)
theorem facJ1 : loadJ facP1 = .error (1502, 12) := by kernel_rfl
set_option maxRecDepth 20000 in
set_option maxHeartbeats 8000000 in
theorem faces_1 (n : Int) (hm : bits BinOp.and .i64 n 7 = 1) (w : World) : Calls Tryz.prog 5 #[.int .i64 n] w fun e w' => e = .returned (.bool true) ∧ Below w.heap.size w w' := by
  have hA := awake15 w
  go_enter Tryz.func5, Tryz.ntmps5
  go_upto_region 4 with (go_at_call 11; refine hA.mono ?_; clear hA; rintro e w1 ⟨rfl, hb1⟩; have HB1 : Hid (Below w.heap.size w w1) := hb1; clear hb1)
  obtain ⟨W, hW⟩ : ∃ W, W = ((w1.alloc (.cells #[.string ⟨#[102]⟩, .bool false, .slice none 0 0, .int .i64 0, .int .i64 0, .int .i64 0, .slice none 0 0, .slice none 0 0, .slice none 0 0] 39)).alloc (.cells #[.string ⟨#[73]⟩, .bool true, .bool false, .int .i64 0, .slice none 0 0, .slice none 0 0, .slice none 0 0, .slice (some ⟨w1.heap.size, 0, none⟩) 1 1] 31)) := ⟨_, rfl⟩
  have HWz : Hid (W.heap.size ≤ w1.heap.size + 2 ∧ w1.heap.size + 2 ≤ W.heap.size) := by show _ ∧ _; rw [hW]; simp only [sz_al]; omega
  have HBW : Hid (Below w1.heap.size w1 W) := by rw [hW]; exact (((Below.refl _ _).alloc (Nat.le_refl _) _).alloc (by rw [sz_al]; omega) _)
  have h0 : W.heap[w1.heap.size]? = some (.cells #[.string ⟨#[102]⟩, .bool false, .slice none 0 0, .int .i64 0, .int .i64 0, .int .i64 0, .slice none 0 0, .slice none 0 0, .slice none 0 0] 39 (0, 0)) := by rw [hW]; exact (by (repeat (first | rw [hp_al] | rw [hp_sc] | rw [sz_al] | rw [sz_sc] | rw [if_neg (by omega)] | rw [if_pos (by omega)])); all_goals first | rfl | assumption)
  have h1 : W.heap[w1.heap.size + 1]? = some (.cells #[.string ⟨#[73]⟩, .bool true, .bool false, .int .i64 0, .slice none 0 0, .slice none 0 0, .slice none 0 0, .slice (some ⟨w1.heap.size, 0, none⟩) 1 1] 31 (0, 0)) := by rw [hW]; exact (by (repeat (first | rw [hp_al] | rw [hp_sc] | rw [sz_al] | rw [sz_sc] | rw [if_neg (by omega)] | rw [if_pos (by omega)])); all_goals first | rfl | assumption)
  have hwz := HWz.out
  rw [← hW]
  clear hW
  have hM : Calls Tryz.prog 14 #[.string ⟨#[102]⟩, .slice none 0 0, .int .i64 0] (W.alloc (.cells #[.int .i64 12] 3)) fun e w' => e = .returned (.agg #[.string ⟨#[102]⟩, .bool false, .slice none 0 0, .int .i64 0, .int .i64 1, .int .i64 0, .slice (some ⟨W.heap.size + 2, 0, none⟩) 1 1, .slice none 0 0, .slice none 0 0]) ∧ Below (W.heap.size + 1) (W.alloc (.cells #[.int .i64 12] 3)) w' ∧ W.heap.size + 3 ≤ w'.heap.size ∧ w'.heap[W.heap.size + 2]? = some (.cells #[.int .i64 29, .int .i64 0, .int .i64 0] 44 (0, 0)) := by
    have q := method_ok ⟨#[102]⟩ none 0 0 0 (by decide) (W.alloc (.cells #[.int .i64 12] 3))
    rw [sz_al] at q
    exact q
  have HX : Hid (∀ w2, Below (W.heap.size + 1) (W.alloc (.cells #[.int .i64 12] 3)) w2 → Below W.heap.size W w2 ∧ w2.heap[w1.heap.size]? = some (.cells #[.string ⟨#[102]⟩, .bool false, .slice none 0 0, .int .i64 0, .int .i64 0, .int .i64 0, .slice none 0 0, .slice none 0 0, .slice none 0 0] 39 (0, 0)) ∧ w2.heap[w1.heap.size + 1]? = some (.cells #[.string ⟨#[73]⟩, .bool true, .bool false, .int .i64 0, .slice none 0 0, .slice none 0 0, .slice none 0 0, .slice (some ⟨w1.heap.size, 0, none⟩) 1 1] 31 (0, 0)) ∧ w2.heap[W.heap.size]? = some (.cells #[.int .i64 12] 3 (0, 0))) := fun w2 hb => by
    have hq : W.heap.size ≤ W.heap.size + 1 := by omega
    have hb0 : Below W.heap.size W w2 := ((Below.refl _ _).alloc (Nat.le_refl _) _).trans (hb.mono hq)
    exact ⟨hb0, (hb0.block _ (by omega)).trans h0, (hb0.block _ (by omega)).trans h1, (hb.block _ (by omega)).trans (by (repeat (first | rw [hp_al] | rw [hp_sc] | rw [sz_al] | rw [sz_sc] | rw [if_neg (by omega)] | rw [if_pos (by omega)])); all_goals first | rfl | assumption)⟩
  clear h0 h1 hwz
  go_upto_region 5 with (go_at_call 14; refine hM.mono ?_; clear hM; rintro e w2 ⟨rfl, hb2, hz2, hc2⟩; have HZ2 : Hid _ := hz2; have HC2 : Hid _ := hc2; have HXX : Hid _ := HX.out w2 hb2; clear hb2 hz2 hc2)
  obtain ⟨hb0, h0, h1, h2⟩ := HXX.out
  have HB2 : Hid (Below W.heap.size W w2) := hb0
  have h3 := HC2.out
  have hz2 := HZ2.out
  have hwz := HWz.out
  obtain ⟨W5, hW5⟩ : ∃ X, X = ((w2.alloc (.cells #[.string ⟨#[102]⟩, .bool false, .slice none 0 0, .int .i64 0, .int .i64 1, .int .i64 0, .slice (some ⟨W.heap.size + 2, 0, none⟩) 1 1, .slice none 0 0, .slice none 0 0] 39)).alloc (.cells #[.string ⟨#[65]⟩, .bool false, .bool false, .int .i64 0, .slice (some ⟨W.heap.size, 0, none⟩) 1 1, .slice none 0 0, .slice none 0 0, .slice (some ⟨w2.heap.size, 0, none⟩) 1 1] 31)) := ⟨_, rfl⟩
  have hz5 : W5.heap.size ≤ w2.heap.size + 2 ∧ w2.heap.size + 2 ≤ W5.heap.size := by rw [hW5]; (repeat (first | rw [sz_al] | rw [sz_sc])); omega
  have g0 : W5.heap[w1.heap.size]? = some (.cells #[.string ⟨#[102]⟩, .bool false, .slice none 0 0, .int .i64 0, .int .i64 0, .int .i64 0, .slice none 0 0, .slice none 0 0, .slice none 0 0] 39 (0, 0)) := by rw [hW5]; exact (by (repeat (first | rw [hp_al] | rw [hp_sc] | rw [sz_al] | rw [sz_sc] | rw [if_neg (by omega)] | rw [if_pos (by omega)] | rw [h0] | rw [h1] | rw [h2] | rw [h3])); all_goals rfl)
  have g1 : W5.heap[w1.heap.size + 1]? = some (.cells #[.string ⟨#[73]⟩, .bool true, .bool false, .int .i64 0, .slice none 0 0, .slice none 0 0, .slice none 0 0, .slice (some ⟨w1.heap.size, 0, none⟩) 1 1] 31 (0, 0)) := by rw [hW5]; exact (by (repeat (first | rw [hp_al] | rw [hp_sc] | rw [sz_al] | rw [sz_sc] | rw [if_neg (by omega)] | rw [if_pos (by omega)] | rw [h0] | rw [h1] | rw [h2] | rw [h3])); all_goals rfl)
  have g2 : W5.heap[W.heap.size]? = some (.cells #[.int .i64 12] 3 (0, 0)) := by rw [hW5]; exact (by (repeat (first | rw [hp_al] | rw [hp_sc] | rw [sz_al] | rw [sz_sc] | rw [if_neg (by omega)] | rw [if_pos (by omega)] | rw [h0] | rw [h1] | rw [h2] | rw [h3])); all_goals rfl)
  have gi : W5.heap[W.heap.size + 2]? = some (.cells #[.int .i64 29, .int .i64 0, .int .i64 0] 44 (0, 0)) := by rw [hW5]; exact (by (repeat (first | rw [hp_al] | rw [hp_sc] | rw [sz_al] | rw [sz_sc] | rw [if_neg (by omega)] | rw [if_pos (by omega)] | rw [h0] | rw [h1] | rw [h2] | rw [h3])); all_goals rfl)
  have g3 : W5.heap[w2.heap.size]? = some (.cells #[.string ⟨#[102]⟩, .bool false, .slice none 0 0, .int .i64 0, .int .i64 1, .int .i64 0, .slice (some ⟨W.heap.size + 2, 0, none⟩) 1 1, .slice none 0 0, .slice none 0 0] 39 (0, 0)) := by rw [hW5]; exact (by (repeat (first | rw [hp_al] | rw [hp_sc] | rw [sz_al] | rw [sz_sc] | rw [if_neg (by omega)] | rw [if_pos (by omega)] | rw [h0] | rw [h1] | rw [h2] | rw [h3])); all_goals rfl)
  have g4 : W5.heap[w2.heap.size + 1]? = some (.cells #[.string ⟨#[65]⟩, .bool false, .bool false, .int .i64 0, .slice (some ⟨W.heap.size, 0, none⟩) 1 1, .slice none 0 0, .slice none 0 0, .slice (some ⟨w2.heap.size, 0, none⟩) 1 1] 31 (0, 0)) := by rw [hW5]; exact (by (repeat (first | rw [hp_al] | rw [hp_sc] | rw [sz_al] | rw [sz_sc] | rw [if_neg (by omega)] | rw [if_pos (by omega)] | rw [h0] | rw [h1] | rw [h2] | rw [h3])); all_goals rfl)
  have HB5w : Hid (Below w1.heap.size w2 W5) := ⟨by rw [hW5]; rfl, by rw [hW5]; rfl, by rw [hW5]; rfl, by omega, fun k hk => by rw [hW5]; (repeat (first | rw [hp_al] | rw [hp_sc] | rw [sz_al] | rw [sz_sc] | rw [if_neg (by omega)]))⟩
  rw [← hW5]
  clear hW5 h0 h1 h2 h3 hb0
  have p1 : (W5.alloc (.cells #[.string ⟨#[120]⟩, .int .i64 1] 42)).heap[w1.heap.size + 1]? = some (.cells #[.string ⟨#[73]⟩, .bool true, .bool false, .int .i64 0, .slice none 0 0, .slice none 0 0, .slice none 0 0, .slice (some ⟨w1.heap.size, 0, none⟩) 1 1] 31 (0, 0)) := (by (repeat (first | rw [hp_al] | rw [hp_sc] | rw [sz_al] | rw [sz_sc] | rw [if_neg (by omega)] | rw [if_pos (by omega)])); all_goals first | assumption)
  have x0 : (W5.alloc (.cells #[.string ⟨#[120]⟩, .int .i64 1] 42)).cell? ⟨w1.heap.size + 1, 0, none⟩ = _ := bxq_cell p1 rfl
  have x1 : (W5.alloc (.cells #[.string ⟨#[120]⟩, .int .i64 1] 42)).cell? ⟨w1.heap.size + 1, 1, none⟩ = _ := bxq_cell p1 rfl
  have x2 : (W5.alloc (.cells #[.string ⟨#[120]⟩, .int .i64 1] 42)).cell? ⟨w1.heap.size + 1, 2, none⟩ = _ := bxq_cell p1 rfl
  have x3 : (W5.alloc (.cells #[.string ⟨#[120]⟩, .int .i64 1] 42)).cell? ⟨w1.heap.size + 1, 3, none⟩ = _ := bxq_cell p1 rfl
  have x4 : (W5.alloc (.cells #[.string ⟨#[120]⟩, .int .i64 1] 42)).cell? ⟨w1.heap.size + 1, 4, none⟩ = _ := bxq_cell p1 rfl
  have x5 : (W5.alloc (.cells #[.string ⟨#[120]⟩, .int .i64 1] 42)).cell? ⟨w1.heap.size + 1, 5, none⟩ = _ := bxq_cell p1 rfl
  have x6 : (W5.alloc (.cells #[.string ⟨#[120]⟩, .int .i64 1] 42)).cell? ⟨w1.heap.size + 1, 6, none⟩ = _ := bxq_cell p1 rfl
  have x7 : (W5.alloc (.cells #[.string ⟨#[120]⟩, .int .i64 1] 42)).cell? ⟨w1.heap.size + 1, 7, none⟩ = _ := bxq_cell p1 rfl
  have fx : (W5.alloc (.cells #[.string ⟨#[120]⟩, .int .i64 1] 42)).frozen? ⟨w1.heap.size + 1, 5, none⟩ = false := (by simp [World.frozen?, p1])
  have n1 : ¬ w1.heap.size + 1 = W5.heap.size := by omega
  have G0 : Hid _ := g0
  have G1 : Hid _ := g1
  have G2 : Hid _ := g2
  have Gi : Hid _ := gi
  have G3 : Hid _ := g3
  have G4 : Hid _ := g4
  have HZ5 : Hid _ := hz5
  clear g0 g1 g2 gi g3 g4 hz5 hwz hz2 p1
  go_upto_region 21 with fail
  have g0 := G0.out
  have g1 := G1.out
  have g2 := G2.out
  have gi := Gi.out
  have g3 := G3.out
  have g4 := G4.out
  have hz5 := HZ5.out
  have hwz := HWz.out
  have hz2 := HZ2.out
  obtain ⟨W6, hW6⟩ : ∃ X, X = ((W5.alloc (.cells #[.string ⟨#[120]⟩, .int .i64 1] 42)).setCell ⟨w1.heap.size + 1, 5, none⟩ (.slice (some ⟨W5.heap.size, 0, none⟩) 1 1)) := ⟨_, rfl⟩
  have hz6 : W6.heap.size ≤ w2.heap.size + 3 ∧ w2.heap.size + 3 ≤ W6.heap.size := by rw [hW6]; (repeat (first | rw [sz_al] | rw [sz_sc])); omega
  have u0 : W6.heap[w1.heap.size]? = some (.cells #[.string ⟨#[102]⟩, .bool false, .slice none 0 0, .int .i64 0, .int .i64 0, .int .i64 0, .slice none 0 0, .slice none 0 0, .slice none 0 0] 39 (0, 0)) := by rw [hW6]; exact (by (repeat (first | rw [hp_al] | rw [hp_sc] | rw [sz_al] | rw [sz_sc] | rw [if_neg (by omega)] | rw [if_pos (by omega)] | rw [g0] | rw [g1] | rw [g2] | rw [gi] | rw [g3] | rw [g4])); all_goals rfl)
  have u1 : W6.heap[w1.heap.size + 1]? = some (.cells #[.string ⟨#[73]⟩, .bool true, .bool false, .int .i64 0, .slice none 0 0, .slice (some ⟨W5.heap.size, 0, none⟩) 1 1, .slice none 0 0, .slice (some ⟨w1.heap.size, 0, none⟩) 1 1] 31 (0, 0)) := by rw [hW6]; exact (by (repeat (first | rw [hp_al] | rw [hp_sc] | rw [sz_al] | rw [sz_sc] | rw [if_neg (by omega)] | rw [if_pos (by omega)] | rw [g0] | rw [g1] | rw [g2] | rw [gi] | rw [g3] | rw [g4])); all_goals rfl)
  have u2 : W6.heap[W.heap.size]? = some (.cells #[.int .i64 12] 3 (0, 0)) := by rw [hW6]; exact (by (repeat (first | rw [hp_al] | rw [hp_sc] | rw [sz_al] | rw [sz_sc] | rw [if_neg (by omega)] | rw [if_pos (by omega)] | rw [g0] | rw [g1] | rw [g2] | rw [gi] | rw [g3] | rw [g4])); all_goals rfl)
  have ui : W6.heap[W.heap.size + 2]? = some (.cells #[.int .i64 29, .int .i64 0, .int .i64 0] 44 (0, 0)) := by rw [hW6]; exact (by (repeat (first | rw [hp_al] | rw [hp_sc] | rw [sz_al] | rw [sz_sc] | rw [if_neg (by omega)] | rw [if_pos (by omega)] | rw [g0] | rw [g1] | rw [g2] | rw [gi] | rw [g3] | rw [g4])); all_goals rfl)
  have u3 : W6.heap[w2.heap.size]? = some (.cells #[.string ⟨#[102]⟩, .bool false, .slice none 0 0, .int .i64 0, .int .i64 1, .int .i64 0, .slice (some ⟨W.heap.size + 2, 0, none⟩) 1 1, .slice none 0 0, .slice none 0 0] 39 (0, 0)) := by rw [hW6]; exact (by (repeat (first | rw [hp_al] | rw [hp_sc] | rw [sz_al] | rw [sz_sc] | rw [if_neg (by omega)] | rw [if_pos (by omega)] | rw [g0] | rw [g1] | rw [g2] | rw [gi] | rw [g3] | rw [g4])); all_goals rfl)
  have u4 : W6.heap[w2.heap.size + 1]? = some (.cells #[.string ⟨#[65]⟩, .bool false, .bool false, .int .i64 0, .slice (some ⟨W.heap.size, 0, none⟩) 1 1, .slice none 0 0, .slice none 0 0, .slice (some ⟨w2.heap.size, 0, none⟩) 1 1] 31 (0, 0)) := by rw [hW6]; exact (by (repeat (first | rw [hp_al] | rw [hp_sc] | rw [sz_al] | rw [sz_sc] | rw [if_neg (by omega)] | rw [if_pos (by omega)] | rw [g0] | rw [g1] | rw [g2] | rw [gi] | rw [g3] | rw [g4])); all_goals rfl)
  have ue : W6.heap[W5.heap.size]? = some (.cells #[.string ⟨#[120]⟩, .int .i64 1] 42 (0, 0)) := by rw [hW6]; exact (by (repeat (first | rw [hp_al] | rw [hp_sc] | rw [sz_al] | rw [sz_sc] | rw [if_neg (by omega)] | rw [if_pos (by omega)] | rw [g0])); all_goals rfl)
  have HB6w : Hid (Below w1.heap.size W5 W6) := ⟨by rw [hW6]; rfl, by rw [hW6]; rfl, by rw [hW6]; rfl, by omega, fun k hk => by rw [hW6]; (repeat (first | rw [hp_al] | rw [hp_sc] | rw [sz_al] | rw [sz_sc] | rw [if_neg (by omega)]))⟩
  rw [← hW6]
  clear hW6 g0 g1 g2 gi g3 g4
  have z0 : W6.cell? ⟨w1.heap.size + 1, 0, none⟩ = _ := bxq_cell u1 rfl
  have y0 : W6.cell? ⟨w2.heap.size + 1, 0, none⟩ = _ := bxq_cell u4 rfl
  have z1 : W6.cell? ⟨w1.heap.size + 1, 1, none⟩ = _ := bxq_cell u1 rfl
  have y1 : W6.cell? ⟨w2.heap.size + 1, 1, none⟩ = _ := bxq_cell u4 rfl
  have z2 : W6.cell? ⟨w1.heap.size + 1, 2, none⟩ = _ := bxq_cell u1 rfl
  have y2 : W6.cell? ⟨w2.heap.size + 1, 2, none⟩ = _ := bxq_cell u4 rfl
  have z3 : W6.cell? ⟨w1.heap.size + 1, 3, none⟩ = _ := bxq_cell u1 rfl
  have y3 : W6.cell? ⟨w2.heap.size + 1, 3, none⟩ = _ := bxq_cell u4 rfl
  have z4 : W6.cell? ⟨w1.heap.size + 1, 4, none⟩ = _ := bxq_cell u1 rfl
  have y4 : W6.cell? ⟨w2.heap.size + 1, 4, none⟩ = _ := bxq_cell u4 rfl
  have z5 : W6.cell? ⟨w1.heap.size + 1, 5, none⟩ = _ := bxq_cell u1 rfl
  have y5 : W6.cell? ⟨w2.heap.size + 1, 5, none⟩ = _ := bxq_cell u4 rfl
  have z6 : W6.cell? ⟨w1.heap.size + 1, 6, none⟩ = _ := bxq_cell u1 rfl
  have y6 : W6.cell? ⟨w2.heap.size + 1, 6, none⟩ = _ := bxq_cell u4 rfl
  have z7 : W6.cell? ⟨w1.heap.size + 1, 7, none⟩ = _ := bxq_cell u1 rfl
  have y7 : W6.cell? ⟨w2.heap.size + 1, 7, none⟩ = _ := bxq_cell u4 rfl
  go_wp2_with (first
    | (go_at_call 12; refine (with_ok (S := fun k => k < w2.heap.size + 4) (xs := [facI false [⟨⟨#[120]⟩, 1⟩] false [], facA 12]) (fun k (q : k < _) => (by repeat (first | rw [sz_al] | rw [sz_sc]); omega)) (by
        refine Sl.blk [[.string ⟨#[73]⟩, .bool true, .bool false, .int .i64 0, .slice none 0 0, .slice (some ⟨W5.heap.size, 0, none⟩) 1 1, .slice none 0 0, .slice (some ⟨w1.heap.size, 0, none⟩) 1 1], [.string ⟨#[65]⟩, .bool false, .bool false, .int .i64 0, .slice (some ⟨W.heap.size, 0, none⟩) 1 1, .slice none 0 0, .slice none 0 0, .slice (some ⟨w2.heap.size, 0, none⟩) 1 1]] (T := 31) (by (repeat (first | rw [hp_al] | rw [hp_sc] | rw [sz_al] | rw [sz_sc] | rw [if_neg (by omega)] | rw [if_pos (by omega)])); all_goals first | rfl | assumption) (show _ < _ by omega) rfl rfl rfl (by decide) fun i y r hy hr => ?_
        match i, hy, hr with
        | 0, hy, hr =>
            cases hy; cases hr
            refine ⟨_, _, _, _, rfl, Sl.nil _ _ _, ?_, Sl.nil _ _ _, ?_⟩
            · refine Sl.blk [[.string ⟨#[120]⟩, .int .i64 1]] (T := 42) (by (repeat (first | rw [hp_al] | rw [hp_sc] | rw [sz_al] | rw [sz_sc] | rw [if_neg (by omega)] | rw [if_pos (by omega)])); all_goals first | rfl | assumption) (show _ < _ by omega) rfl rfl rfl (by decide) fun i y r hy hr => ?_
              match i, hy, hr with
              | 0, hy, hr => cases hy; cases hr; rfl
            · refine Sl.blk [[.string ⟨#[102]⟩, .bool false, .slice none 0 0, .int .i64 0, .int .i64 0, .int .i64 0, .slice none 0 0, .slice none 0 0, .slice none 0 0]] (T := 39) (by (repeat (first | rw [hp_al] | rw [hp_sc] | rw [sz_al] | rw [sz_sc] | rw [if_neg (by omega)] | rw [if_pos (by omega)])); all_goals first | rfl | assumption) (show _ < _ by omega) rfl rfl rfl (by decide) fun i y r hy hr => ?_
              match i, hy, hr with
              | 0, hy, hr =>
                cases hy; cases hr
                exact ⟨_, _, _, _, rfl, Sl.nil _ _ _, Sl.nil _ _ _, Sl.nil _ _ _, Sl.nil _ _ _⟩
        | 1, hy, hr =>
            cases hy; cases hr
            refine ⟨_, _, _, _, rfl, ?_, Sl.nil _ _ _, Sl.nil _ _ _, ?_⟩
            · refine Sl.blk [[.int .i64 12]] (T := 3) (by (repeat (first | rw [hp_al] | rw [hp_sc] | rw [sz_al] | rw [sz_sc] | rw [if_neg (by omega)] | rw [if_pos (by omega)])); all_goals first | rfl | assumption) (show _ < _ by omega) rfl rfl rfl (by decide) fun i y r hy hr => ?_
              match i, hy, hr with
              | 0, hy, hr => cases hy; cases hr; rfl
            · refine Sl.blk [[.string ⟨#[102]⟩, .bool false, .slice none 0 0, .int .i64 0, .int .i64 1, .int .i64 0, .slice (some ⟨W.heap.size + 2, 0, none⟩) 1 1, .slice none 0 0, .slice none 0 0]] (T := 39) (by (repeat (first | rw [hp_al] | rw [hp_sc] | rw [sz_al] | rw [sz_sc] | rw [if_neg (by omega)] | rw [if_pos (by omega)])); all_goals first | rfl | assumption) (show _ < _ by omega) rfl rfl rfl (by decide) fun i y r hy hr => ?_
              match i, hy, hr with
              | 0, hy, hr =>
                cases hy; cases hr
                refine ⟨_, _, _, _, rfl, Sl.nil _ _ _, ?_, Sl.nil _ _ _, Sl.nil _ _ _⟩
                refine Sl.blk [[.int .i64 29, .int .i64 0, .int .i64 0]] (T := 44) (by (repeat (first | rw [hp_al] | rw [hp_sc] | rw [sz_al] | rw [sz_sc] | rw [if_neg (by omega)] | rw [if_pos (by omega)])); all_goals first | rfl | assumption) (show _ < _ by omega) rfl rfl rfl (by decide) fun i y r hy hr => ?_
                match i, hy, hr with
                | 0, hy, hr => cases hy; cases hr; rfl
        ) (by decide) (by decide)).mono ?_; rintro e w5 ⟨g, c, rfl, hb5, S', hS', hs⟩; have HB5 : Hid (Below w1.heap.size W6 w5) := ((Below.refl _ _).alloc (by omega) _).trans (hb5.mono (by rw [sz_al]; omega)); have hF := faults_err (w := w5) (S := S') (p := facP1) facO1 hS' hs (by decide) facJ1; clear hb5 hS' hs)
    | (go_at_call 13; refine hF.mono ?_; clear hF; rintro e w6 ⟨rfl, hb6⟩; have HB6 : Hid (Below w1.heap.size W6 w6) := HB5.out.trans (hb6.mono (by have := HB5.out.size; omega)); clear hb6))
  go_ret
  exact ⟨rfl, HB1.out.trans (((((HBW.out.trans (HB2.out.mono (by omega))).trans HB5w.out).trans HB6w.out).trans HB6.out).mono HB1.out.size)⟩
def facP2 : Pg := ⟨11, [tinyC, facI false [] true [], facA 12]⟩
theorem facO2 : Okl facP2 := okl_of (by kernel_rfl)
theorem facJ2 : loadJ facP2 = .error (1502, 12) := by kernel_rfl
set_option maxRecDepth 20000 in
set_option maxHeartbeats 8000000 in
theorem faces_2 (n : Int) (hm : bits BinOp.and .i64 n 7 = 2) (w : World) : Calls Tryz.prog 5 #[.int .i64 n] w fun e w' => e = .returned (.bool true) ∧ Below w.heap.size w w' := by
  have hA := awake15 w
  go_enter Tryz.func5, Tryz.ntmps5
  go_upto_region 4 with (go_at_call 11; refine hA.mono ?_; clear hA; rintro e w1 ⟨rfl, hb1⟩; have HB1 : Hid (Below w.heap.size w w1) := hb1; clear hb1)
  obtain ⟨W, hW⟩ : ∃ W, W = ((w1.alloc (.cells #[.string ⟨#[102]⟩, .bool false, .slice none 0 0, .int .i64 0, .int .i64 0, .int .i64 0, .slice none 0 0, .slice none 0 0, .slice none 0 0] 39)).alloc (.cells #[.string ⟨#[73]⟩, .bool true, .bool false, .int .i64 0, .slice none 0 0, .slice none 0 0, .slice none 0 0, .slice (some ⟨w1.heap.size, 0, none⟩) 1 1] 31)) := ⟨_, rfl⟩
  have HWz : Hid (W.heap.size ≤ w1.heap.size + 2 ∧ w1.heap.size + 2 ≤ W.heap.size) := by show _ ∧ _; rw [hW]; simp only [sz_al]; omega
  have HBW : Hid (Below w1.heap.size w1 W) := by rw [hW]; exact (((Below.refl _ _).alloc (Nat.le_refl _) _).alloc (by rw [sz_al]; omega) _)
  have h0 : W.heap[w1.heap.size]? = some (.cells #[.string ⟨#[102]⟩, .bool false, .slice none 0 0, .int .i64 0, .int .i64 0, .int .i64 0, .slice none 0 0, .slice none 0 0, .slice none 0 0] 39 (0, 0)) := by rw [hW]; exact (by (repeat (first | rw [hp_al] | rw [hp_sc] | rw [sz_al] | rw [sz_sc] | rw [if_neg (by omega)] | rw [if_pos (by omega)])); all_goals first | rfl | assumption)
  have h1 : W.heap[w1.heap.size + 1]? = some (.cells #[.string ⟨#[73]⟩, .bool true, .bool false, .int .i64 0, .slice none 0 0, .slice none 0 0, .slice none 0 0, .slice (some ⟨w1.heap.size, 0, none⟩) 1 1] 31 (0, 0)) := by rw [hW]; exact (by (repeat (first | rw [hp_al] | rw [hp_sc] | rw [sz_al] | rw [sz_sc] | rw [if_neg (by omega)] | rw [if_pos (by omega)])); all_goals first | rfl | assumption)
  have hwz := HWz.out
  rw [← hW]
  clear hW
  have hM : Calls Tryz.prog 14 #[.string ⟨#[102]⟩, .slice none 0 0, .int .i64 0] (W.alloc (.cells #[.int .i64 12] 3)) fun e w' => e = .returned (.agg #[.string ⟨#[102]⟩, .bool false, .slice none 0 0, .int .i64 0, .int .i64 1, .int .i64 0, .slice (some ⟨W.heap.size + 2, 0, none⟩) 1 1, .slice none 0 0, .slice none 0 0]) ∧ Below (W.heap.size + 1) (W.alloc (.cells #[.int .i64 12] 3)) w' ∧ W.heap.size + 3 ≤ w'.heap.size ∧ w'.heap[W.heap.size + 2]? = some (.cells #[.int .i64 29, .int .i64 0, .int .i64 0] 44 (0, 0)) := by
    have q := method_ok ⟨#[102]⟩ none 0 0 0 (by decide) (W.alloc (.cells #[.int .i64 12] 3))
    rw [sz_al] at q
    exact q
  have HX : Hid (∀ w2, Below (W.heap.size + 1) (W.alloc (.cells #[.int .i64 12] 3)) w2 → Below W.heap.size W w2 ∧ w2.heap[w1.heap.size]? = some (.cells #[.string ⟨#[102]⟩, .bool false, .slice none 0 0, .int .i64 0, .int .i64 0, .int .i64 0, .slice none 0 0, .slice none 0 0, .slice none 0 0] 39 (0, 0)) ∧ w2.heap[w1.heap.size + 1]? = some (.cells #[.string ⟨#[73]⟩, .bool true, .bool false, .int .i64 0, .slice none 0 0, .slice none 0 0, .slice none 0 0, .slice (some ⟨w1.heap.size, 0, none⟩) 1 1] 31 (0, 0)) ∧ w2.heap[W.heap.size]? = some (.cells #[.int .i64 12] 3 (0, 0))) := fun w2 hb => by
    have hq : W.heap.size ≤ W.heap.size + 1 := by omega
    have hb0 : Below W.heap.size W w2 := ((Below.refl _ _).alloc (Nat.le_refl _) _).trans (hb.mono hq)
    exact ⟨hb0, (hb0.block _ (by omega)).trans h0, (hb0.block _ (by omega)).trans h1, (hb.block _ (by omega)).trans (by (repeat (first | rw [hp_al] | rw [hp_sc] | rw [sz_al] | rw [sz_sc] | rw [if_neg (by omega)] | rw [if_pos (by omega)])); all_goals first | rfl | assumption)⟩
  clear h0 h1 hwz
  go_upto_region 5 with (go_at_call 14; refine hM.mono ?_; clear hM; rintro e w2 ⟨rfl, hb2, hz2, hc2⟩; have HZ2 : Hid _ := hz2; have HC2 : Hid _ := hc2; have HXX : Hid _ := HX.out w2 hb2; clear hb2 hz2 hc2)
  obtain ⟨hb0, h0, h1, h2⟩ := HXX.out
  have HB2 : Hid (Below W.heap.size W w2) := hb0
  have h3 := HC2.out
  have hz2 := HZ2.out
  have hwz := HWz.out
  obtain ⟨W5, hW5⟩ : ∃ X, X = ((w2.alloc (.cells #[.string ⟨#[102]⟩, .bool false, .slice none 0 0, .int .i64 0, .int .i64 1, .int .i64 0, .slice (some ⟨W.heap.size + 2, 0, none⟩) 1 1, .slice none 0 0, .slice none 0 0] 39)).alloc (.cells #[.string ⟨#[65]⟩, .bool false, .bool false, .int .i64 0, .slice (some ⟨W.heap.size, 0, none⟩) 1 1, .slice none 0 0, .slice none 0 0, .slice (some ⟨w2.heap.size, 0, none⟩) 1 1] 31)) := ⟨_, rfl⟩
  have hz5 : W5.heap.size ≤ w2.heap.size + 2 ∧ w2.heap.size + 2 ≤ W5.heap.size := by rw [hW5]; (repeat (first | rw [sz_al] | rw [sz_sc])); omega
  have g0 : W5.heap[w1.heap.size]? = some (.cells #[.string ⟨#[102]⟩, .bool false, .slice none 0 0, .int .i64 0, .int .i64 0, .int .i64 0, .slice none 0 0, .slice none 0 0, .slice none 0 0] 39 (0, 0)) := by rw [hW5]; exact (by (repeat (first | rw [hp_al] | rw [hp_sc] | rw [sz_al] | rw [sz_sc] | rw [if_neg (by omega)] | rw [if_pos (by omega)] | rw [h0] | rw [h1] | rw [h2] | rw [h3])); all_goals rfl)
  have g1 : W5.heap[w1.heap.size + 1]? = some (.cells #[.string ⟨#[73]⟩, .bool true, .bool false, .int .i64 0, .slice none 0 0, .slice none 0 0, .slice none 0 0, .slice (some ⟨w1.heap.size, 0, none⟩) 1 1] 31 (0, 0)) := by rw [hW5]; exact (by (repeat (first | rw [hp_al] | rw [hp_sc] | rw [sz_al] | rw [sz_sc] | rw [if_neg (by omega)] | rw [if_pos (by omega)] | rw [h0] | rw [h1] | rw [h2] | rw [h3])); all_goals rfl)
  have g2 : W5.heap[W.heap.size]? = some (.cells #[.int .i64 12] 3 (0, 0)) := by rw [hW5]; exact (by (repeat (first | rw [hp_al] | rw [hp_sc] | rw [sz_al] | rw [sz_sc] | rw [if_neg (by omega)] | rw [if_pos (by omega)] | rw [h0] | rw [h1] | rw [h2] | rw [h3])); all_goals rfl)
  have gi : W5.heap[W.heap.size + 2]? = some (.cells #[.int .i64 29, .int .i64 0, .int .i64 0] 44 (0, 0)) := by rw [hW5]; exact (by (repeat (first | rw [hp_al] | rw [hp_sc] | rw [sz_al] | rw [sz_sc] | rw [if_neg (by omega)] | rw [if_pos (by omega)] | rw [h0] | rw [h1] | rw [h2] | rw [h3])); all_goals rfl)
  have g3 : W5.heap[w2.heap.size]? = some (.cells #[.string ⟨#[102]⟩, .bool false, .slice none 0 0, .int .i64 0, .int .i64 1, .int .i64 0, .slice (some ⟨W.heap.size + 2, 0, none⟩) 1 1, .slice none 0 0, .slice none 0 0] 39 (0, 0)) := by rw [hW5]; exact (by (repeat (first | rw [hp_al] | rw [hp_sc] | rw [sz_al] | rw [sz_sc] | rw [if_neg (by omega)] | rw [if_pos (by omega)] | rw [h0] | rw [h1] | rw [h2] | rw [h3])); all_goals rfl)
  have g4 : W5.heap[w2.heap.size + 1]? = some (.cells #[.string ⟨#[65]⟩, .bool false, .bool false, .int .i64 0, .slice (some ⟨W.heap.size, 0, none⟩) 1 1, .slice none 0 0, .slice none 0 0, .slice (some ⟨w2.heap.size, 0, none⟩) 1 1] 31 (0, 0)) := by rw [hW5]; exact (by (repeat (first | rw [hp_al] | rw [hp_sc] | rw [sz_al] | rw [sz_sc] | rw [if_neg (by omega)] | rw [if_pos (by omega)] | rw [h0] | rw [h1] | rw [h2] | rw [h3])); all_goals rfl)
  have HB5w : Hid (Below w1.heap.size w2 W5) := ⟨by rw [hW5]; rfl, by rw [hW5]; rfl, by rw [hW5]; rfl, by omega, fun k hk => by rw [hW5]; (repeat (first | rw [hp_al] | rw [hp_sc] | rw [sz_al] | rw [sz_sc] | rw [if_neg (by omega)]))⟩
  rw [← hW5]
  clear hW5 h0 h1 h2 h3 hb0
  have x0 : W5.cell? ⟨w1.heap.size, 0, none⟩ = _ := bxq_cell g0 rfl
  have x1 : W5.cell? ⟨w1.heap.size, 1, none⟩ = _ := bxq_cell g0 rfl
  have x2 : W5.cell? ⟨w1.heap.size, 2, none⟩ = _ := bxq_cell g0 rfl
  have x3 : W5.cell? ⟨w1.heap.size, 3, none⟩ = _ := bxq_cell g0 rfl
  have x4 : W5.cell? ⟨w1.heap.size, 4, none⟩ = _ := bxq_cell g0 rfl
  have x5 : W5.cell? ⟨w1.heap.size, 5, none⟩ = _ := bxq_cell g0 rfl
  have x6 : W5.cell? ⟨w1.heap.size, 6, none⟩ = _ := bxq_cell g0 rfl
  have x7 : W5.cell? ⟨w1.heap.size, 7, none⟩ = _ := bxq_cell g0 rfl
  have x8 : W5.cell? ⟨w1.heap.size, 8, none⟩ = _ := bxq_cell g0 rfl
  have fx : W5.frozen? ⟨w1.heap.size, 1, none⟩ = false := (by simp [World.frozen?, g0])
  have y7 : W5.cell? ⟨w1.heap.size + 1, 7, none⟩ = _ := bxq_cell g1 rfl
  have n1 : ¬ w1.heap.size = W5.heap.size := by omega
  have G0 : Hid _ := g0
  have G1 : Hid _ := g1
  have G2 : Hid _ := g2
  have Gi : Hid _ := gi
  have G3 : Hid _ := g3
  have G4 : Hid _ := g4
  have HZ5 : Hid _ := hz5
  clear g0 g1 g2 gi g3 g4 hz5 hwz hz2
  go_upto_region 21 with fail
  have g0 := G0.out
  have g1 := G1.out
  have g2 := G2.out
  have gi := Gi.out
  have g3 := G3.out
  have g4 := G4.out
  have hz5 := HZ5.out
  have hwz := HWz.out
  have hz2 := HZ2.out
  obtain ⟨W6, hW6⟩ : ∃ X, X = (W5.setCell ⟨w1.heap.size, 1, none⟩ (.bool true)) := ⟨_, rfl⟩
  have hz6 : W6.heap.size ≤ w2.heap.size + 2 ∧ w2.heap.size + 2 ≤ W6.heap.size := by rw [hW6]; (repeat (first | rw [sz_al] | rw [sz_sc])); omega
  have u0 : W6.heap[w1.heap.size]? = some (.cells #[.string ⟨#[102]⟩, .bool true, .slice none 0 0, .int .i64 0, .int .i64 0, .int .i64 0, .slice none 0 0, .slice none 0 0, .slice none 0 0] 39 (0, 0)) := by rw [hW6]; exact (by (repeat (first | rw [hp_al] | rw [hp_sc] | rw [sz_al] | rw [sz_sc] | rw [if_neg (by omega)] | rw [if_pos (by omega)] | rw [g0] | rw [g1] | rw [g2] | rw [gi] | rw [g3] | rw [g4])); all_goals rfl)
  have u1 : W6.heap[w1.heap.size + 1]? = some (.cells #[.string ⟨#[73]⟩, .bool true, .bool false, .int .i64 0, .slice none 0 0, .slice none 0 0, .slice none 0 0, .slice (some ⟨w1.heap.size, 0, none⟩) 1 1] 31 (0, 0)) := by rw [hW6]; exact (by (repeat (first | rw [hp_al] | rw [hp_sc] | rw [sz_al] | rw [sz_sc] | rw [if_neg (by omega)] | rw [if_pos (by omega)] | rw [g0] | rw [g1] | rw [g2] | rw [gi] | rw [g3] | rw [g4])); all_goals rfl)
  have u2 : W6.heap[W.heap.size]? = some (.cells #[.int .i64 12] 3 (0, 0)) := by rw [hW6]; exact (by (repeat (first | rw [hp_al] | rw [hp_sc] | rw [sz_al] | rw [sz_sc] | rw [if_neg (by omega)] | rw [if_pos (by omega)] | rw [g0] | rw [g1] | rw [g2] | rw [gi] | rw [g3] | rw [g4])); all_goals rfl)
  have ui : W6.heap[W.heap.size + 2]? = some (.cells #[.int .i64 29, .int .i64 0, .int .i64 0] 44 (0, 0)) := by rw [hW6]; exact (by (repeat (first | rw [hp_al] | rw [hp_sc] | rw [sz_al] | rw [sz_sc] | rw [if_neg (by omega)] | rw [if_pos (by omega)] | rw [g0] | rw [g1] | rw [g2] | rw [gi] | rw [g3] | rw [g4])); all_goals rfl)
  have u3 : W6.heap[w2.heap.size]? = some (.cells #[.string ⟨#[102]⟩, .bool false, .slice none 0 0, .int .i64 0, .int .i64 1, .int .i64 0, .slice (some ⟨W.heap.size + 2, 0, none⟩) 1 1, .slice none 0 0, .slice none 0 0] 39 (0, 0)) := by rw [hW6]; exact (by (repeat (first | rw [hp_al] | rw [hp_sc] | rw [sz_al] | rw [sz_sc] | rw [if_neg (by omega)] | rw [if_pos (by omega)] | rw [g0] | rw [g1] | rw [g2] | rw [gi] | rw [g3] | rw [g4])); all_goals rfl)
  have u4 : W6.heap[w2.heap.size + 1]? = some (.cells #[.string ⟨#[65]⟩, .bool false, .bool false, .int .i64 0, .slice (some ⟨W.heap.size, 0, none⟩) 1 1, .slice none 0 0, .slice none 0 0, .slice (some ⟨w2.heap.size, 0, none⟩) 1 1] 31 (0, 0)) := by rw [hW6]; exact (by (repeat (first | rw [hp_al] | rw [hp_sc] | rw [sz_al] | rw [sz_sc] | rw [if_neg (by omega)] | rw [if_pos (by omega)] | rw [g0] | rw [g1] | rw [g2] | rw [gi] | rw [g3] | rw [g4])); all_goals rfl)
  have HB6w : Hid (Below w1.heap.size W5 W6) := ⟨by rw [hW6]; rfl, by rw [hW6]; rfl, by rw [hW6]; rfl, by omega, fun k hk => by rw [hW6]; (repeat (first | rw [hp_al] | rw [hp_sc] | rw [sz_al] | rw [sz_sc] | rw [if_neg (by omega)]))⟩
  rw [← hW6]
  clear hW6 g0 g1 g2 gi g3 g4
  have z0 : W6.cell? ⟨w1.heap.size + 1, 0, none⟩ = _ := bxq_cell u1 rfl
  have y0 : W6.cell? ⟨w2.heap.size + 1, 0, none⟩ = _ := bxq_cell u4 rfl
  have z1 : W6.cell? ⟨w1.heap.size + 1, 1, none⟩ = _ := bxq_cell u1 rfl
  have y1 : W6.cell? ⟨w2.heap.size + 1, 1, none⟩ = _ := bxq_cell u4 rfl
  have z2 : W6.cell? ⟨w1.heap.size + 1, 2, none⟩ = _ := bxq_cell u1 rfl
  have y2 : W6.cell? ⟨w2.heap.size + 1, 2, none⟩ = _ := bxq_cell u4 rfl
  have z3 : W6.cell? ⟨w1.heap.size + 1, 3, none⟩ = _ := bxq_cell u1 rfl
  have y3 : W6.cell? ⟨w2.heap.size + 1, 3, none⟩ = _ := bxq_cell u4 rfl
  have z4 : W6.cell? ⟨w1.heap.size + 1, 4, none⟩ = _ := bxq_cell u1 rfl
  have y4 : W6.cell? ⟨w2.heap.size + 1, 4, none⟩ = _ := bxq_cell u4 rfl
  have z5 : W6.cell? ⟨w1.heap.size + 1, 5, none⟩ = _ := bxq_cell u1 rfl
  have y5 : W6.cell? ⟨w2.heap.size + 1, 5, none⟩ = _ := bxq_cell u4 rfl
  have z6 : W6.cell? ⟨w1.heap.size + 1, 6, none⟩ = _ := bxq_cell u1 rfl
  have y6 : W6.cell? ⟨w2.heap.size + 1, 6, none⟩ = _ := bxq_cell u4 rfl
  have z7 : W6.cell? ⟨w1.heap.size + 1, 7, none⟩ = _ := bxq_cell u1 rfl
  have y7 : W6.cell? ⟨w2.heap.size + 1, 7, none⟩ = _ := bxq_cell u4 rfl
  go_wp2_with (first
    | (go_at_call 12; refine (with_ok (S := fun k => k < w2.heap.size + 3) (xs := [facI false [] true [], facA 12]) (fun k (q : k < _) => (by repeat (first | rw [sz_al] | rw [sz_sc]); omega)) (by
        refine Sl.blk [[.string ⟨#[73]⟩, .bool true, .bool false, .int .i64 0, .slice none 0 0, .slice none 0 0, .slice none 0 0, .slice (some ⟨w1.heap.size, 0, none⟩) 1 1], [.string ⟨#[65]⟩, .bool false, .bool false, .int .i64 0, .slice (some ⟨W.heap.size, 0, none⟩) 1 1, .slice none 0 0, .slice none 0 0, .slice (some ⟨w2.heap.size, 0, none⟩) 1 1]] (T := 31) (by (repeat (first | rw [hp_al] | rw [hp_sc] | rw [sz_al] | rw [sz_sc] | rw [if_neg (by omega)] | rw [if_pos (by omega)])); all_goals first | rfl | assumption) (show _ < _ by omega) rfl rfl rfl (by decide) fun i y r hy hr => ?_
        match i, hy, hr with
        | 0, hy, hr =>
            cases hy; cases hr
            refine ⟨_, _, _, _, rfl, Sl.nil _ _ _, Sl.nil _ _ _, Sl.nil _ _ _, ?_⟩
            · refine Sl.blk [[.string ⟨#[102]⟩, .bool true, .slice none 0 0, .int .i64 0, .int .i64 0, .int .i64 0, .slice none 0 0, .slice none 0 0, .slice none 0 0]] (T := 39) (by (repeat (first | rw [hp_al] | rw [hp_sc] | rw [sz_al] | rw [sz_sc] | rw [if_neg (by omega)] | rw [if_pos (by omega)])); all_goals first | rfl | assumption) (show _ < _ by omega) rfl rfl rfl (by decide) fun i y r hy hr => ?_
              match i, hy, hr with
              | 0, hy, hr =>
                cases hy; cases hr
                exact ⟨_, _, _, _, rfl, Sl.nil _ _ _, Sl.nil _ _ _, Sl.nil _ _ _, Sl.nil _ _ _⟩
        | 1, hy, hr =>
            cases hy; cases hr
            refine ⟨_, _, _, _, rfl, ?_, Sl.nil _ _ _, Sl.nil _ _ _, ?_⟩
            · refine Sl.blk [[.int .i64 12]] (T := 3) (by (repeat (first | rw [hp_al] | rw [hp_sc] | rw [sz_al] | rw [sz_sc] | rw [if_neg (by omega)] | rw [if_pos (by omega)])); all_goals first | rfl | assumption) (show _ < _ by omega) rfl rfl rfl (by decide) fun i y r hy hr => ?_
              match i, hy, hr with
              | 0, hy, hr => cases hy; cases hr; rfl
            · refine Sl.blk [[.string ⟨#[102]⟩, .bool false, .slice none 0 0, .int .i64 0, .int .i64 1, .int .i64 0, .slice (some ⟨W.heap.size + 2, 0, none⟩) 1 1, .slice none 0 0, .slice none 0 0]] (T := 39) (by (repeat (first | rw [hp_al] | rw [hp_sc] | rw [sz_al] | rw [sz_sc] | rw [if_neg (by omega)] | rw [if_pos (by omega)])); all_goals first | rfl | assumption) (show _ < _ by omega) rfl rfl rfl (by decide) fun i y r hy hr => ?_
              match i, hy, hr with
              | 0, hy, hr =>
                cases hy; cases hr
                refine ⟨_, _, _, _, rfl, Sl.nil _ _ _, ?_, Sl.nil _ _ _, Sl.nil _ _ _⟩
                refine Sl.blk [[.int .i64 29, .int .i64 0, .int .i64 0]] (T := 44) (by (repeat (first | rw [hp_al] | rw [hp_sc] | rw [sz_al] | rw [sz_sc] | rw [if_neg (by omega)] | rw [if_pos (by omega)])); all_goals first | rfl | assumption) (show _ < _ by omega) rfl rfl rfl (by decide) fun i y r hy hr => ?_
                match i, hy, hr with
                | 0, hy, hr => cases hy; cases hr; rfl
        ) (by decide) (by decide)).mono ?_; rintro e w5 ⟨g, c, rfl, hb5, S', hS', hs⟩; have HB5 : Hid (Below w1.heap.size W6 w5) := ((Below.refl _ _).alloc (by omega) _).trans (hb5.mono (by rw [sz_al]; omega)); have hF := faults_err (w := w5) (S := S') (p := facP2) facO2 hS' hs (by decide) facJ2; clear hb5 hS' hs)
    | (go_at_call 13; refine hF.mono ?_; clear hF; rintro e w6 ⟨rfl, hb6⟩; have HB6 : Hid (Below w1.heap.size W6 w6) := HB5.out.trans (hb6.mono (by have := HB5.out.size; omega)); clear hb6))
  go_ret
  exact ⟨rfl, HB1.out.trans (((((HBW.out.trans (HB2.out.mono (by omega))).trans HB5w.out).trans HB6w.out).trans HB6.out).mono HB1.out.size)⟩
def facP3 : Pg := ⟨11, [tinyC, facI false [] false [retI], facA 12]⟩
theorem facO3 : Okl facP3 := okl_of (by kernel_rfl)
theorem facJ3 : loadJ facP3 = .error (1502, 12) := by kernel_rfl
set_option maxRecDepth 20000 in
set_option maxHeartbeats 8000000 in
theorem faces_3 (n : Int) (hm : bits BinOp.and .i64 n 7 = 3) (w : World) : Calls Tryz.prog 5 #[.int .i64 n] w fun e w' => e = .returned (.bool true) ∧ Below w.heap.size w w' := by
  have hA := awake15 w
  go_enter Tryz.func5, Tryz.ntmps5
  go_upto_region 4 with (go_at_call 11; refine hA.mono ?_; clear hA; rintro e w1 ⟨rfl, hb1⟩; have HB1 : Hid (Below w.heap.size w w1) := hb1; clear hb1)
  obtain ⟨W, hW⟩ : ∃ W, W = ((w1.alloc (.cells #[.string ⟨#[102]⟩, .bool false, .slice none 0 0, .int .i64 0, .int .i64 0, .int .i64 0, .slice none 0 0, .slice none 0 0, .slice none 0 0] 39)).alloc (.cells #[.string ⟨#[73]⟩, .bool true, .bool false, .int .i64 0, .slice none 0 0, .slice none 0 0, .slice none 0 0, .slice (some ⟨w1.heap.size, 0, none⟩) 1 1] 31)) := ⟨_, rfl⟩
  have HWz : Hid (W.heap.size ≤ w1.heap.size + 2 ∧ w1.heap.size + 2 ≤ W.heap.size) := by show _ ∧ _; rw [hW]; simp only [sz_al]; omega
  have HBW : Hid (Below w1.heap.size w1 W) := by rw [hW]; exact (((Below.refl _ _).alloc (Nat.le_refl _) _).alloc (by rw [sz_al]; omega) _)
  have h0 : W.heap[w1.heap.size]? = some (.cells #[.string ⟨#[102]⟩, .bool false, .slice none 0 0, .int .i64 0, .int .i64 0, .int .i64 0, .slice none 0 0, .slice none 0 0, .slice none 0 0] 39 (0, 0)) := by rw [hW]; exact (by (repeat (first | rw [hp_al] | rw [hp_sc] | rw [sz_al] | rw [sz_sc] | rw [if_neg (by omega)] | rw [if_pos (by omega)])); all_goals first | rfl | assumption)
  have h1 : W.heap[w1.heap.size + 1]? = some (.cells #[.string ⟨#[73]⟩, .bool true, .bool false, .int .i64 0, .slice none 0 0, .slice none 0 0, .slice none 0 0, .slice (some ⟨w1.heap.size, 0, none⟩) 1 1] 31 (0, 0)) := by rw [hW]; exact (by (repeat (first | rw [hp_al] | rw [hp_sc] | rw [sz_al] | rw [sz_sc] | rw [if_neg (by omega)] | rw [if_pos (by omega)])); all_goals first | rfl | assumption)
  have hwz := HWz.out
  rw [← hW]
  clear hW
  have hM : Calls Tryz.prog 14 #[.string ⟨#[102]⟩, .slice none 0 0, .int .i64 0] (W.alloc (.cells #[.int .i64 12] 3)) fun e w' => e = .returned (.agg #[.string ⟨#[102]⟩, .bool false, .slice none 0 0, .int .i64 0, .int .i64 1, .int .i64 0, .slice (some ⟨W.heap.size + 2, 0, none⟩) 1 1, .slice none 0 0, .slice none 0 0]) ∧ Below (W.heap.size + 1) (W.alloc (.cells #[.int .i64 12] 3)) w' ∧ W.heap.size + 3 ≤ w'.heap.size ∧ w'.heap[W.heap.size + 2]? = some (.cells #[.int .i64 29, .int .i64 0, .int .i64 0] 44 (0, 0)) := by
    have q := method_ok ⟨#[102]⟩ none 0 0 0 (by decide) (W.alloc (.cells #[.int .i64 12] 3))
    rw [sz_al] at q
    exact q
  have HX : Hid (∀ w2, Below (W.heap.size + 1) (W.alloc (.cells #[.int .i64 12] 3)) w2 → Below W.heap.size W w2 ∧ w2.heap[w1.heap.size]? = some (.cells #[.string ⟨#[102]⟩, .bool false, .slice none 0 0, .int .i64 0, .int .i64 0, .int .i64 0, .slice none 0 0, .slice none 0 0, .slice none 0 0] 39 (0, 0)) ∧ w2.heap[w1.heap.size + 1]? = some (.cells #[.string ⟨#[73]⟩, .bool true, .bool false, .int .i64 0, .slice none 0 0, .slice none 0 0, .slice none 0 0, .slice (some ⟨w1.heap.size, 0, none⟩) 1 1] 31 (0, 0)) ∧ w2.heap[W.heap.size]? = some (.cells #[.int .i64 12] 3 (0, 0))) := fun w2 hb => by
    have hq : W.heap.size ≤ W.heap.size + 1 := by omega
    have hb0 : Below W.heap.size W w2 := ((Below.refl _ _).alloc (Nat.le_refl _) _).trans (hb.mono hq)
    exact ⟨hb0, (hb0.block _ (by omega)).trans h0, (hb0.block _ (by omega)).trans h1, (hb.block _ (by omega)).trans (by (repeat (first | rw [hp_al] | rw [hp_sc] | rw [sz_al] | rw [sz_sc] | rw [if_neg (by omega)] | rw [if_pos (by omega)])); all_goals first | rfl | assumption)⟩
  clear h0 h1 hwz
  go_upto_region 5 with (go_at_call 14; refine hM.mono ?_; clear hM; rintro e w2 ⟨rfl, hb2, hz2, hc2⟩; have HZ2 : Hid _ := hz2; have HC2 : Hid _ := hc2; have HXX : Hid _ := HX.out w2 hb2; clear hb2 hz2 hc2)
  obtain ⟨hb0, h0, h1, h2⟩ := HXX.out
  have HB2 : Hid (Below W.heap.size W w2) := hb0
  have h3 := HC2.out
  have hz2 := HZ2.out
  have hwz := HWz.out
  obtain ⟨W5, hW5⟩ : ∃ X, X = ((w2.alloc (.cells #[.string ⟨#[102]⟩, .bool false, .slice none 0 0, .int .i64 0, .int .i64 1, .int .i64 0, .slice (some ⟨W.heap.size + 2, 0, none⟩) 1 1, .slice none 0 0, .slice none 0 0] 39)).alloc (.cells #[.string ⟨#[65]⟩, .bool false, .bool false, .int .i64 0, .slice (some ⟨W.heap.size, 0, none⟩) 1 1, .slice none 0 0, .slice none 0 0, .slice (some ⟨w2.heap.size, 0, none⟩) 1 1] 31)) := ⟨_, rfl⟩
  have hz5 : W5.heap.size ≤ w2.heap.size + 2 ∧ w2.heap.size + 2 ≤ W5.heap.size := by rw [hW5]; (repeat (first | rw [sz_al] | rw [sz_sc])); omega
  have g0 : W5.heap[w1.heap.size]? = some (.cells #[.string ⟨#[102]⟩, .bool false, .slice none 0 0, .int .i64 0, .int .i64 0, .int .i64 0, .slice none 0 0, .slice none 0 0, .slice none 0 0] 39 (0, 0)) := by rw [hW5]; exact (by (repeat (first | rw [hp_al] | rw [hp_sc] | rw [sz_al] | rw [sz_sc] | rw [if_neg (by omega)] | rw [if_pos (by omega)] | rw [h0] | rw [h1] | rw [h2] | rw [h3])); all_goals rfl)
  have g1 : W5.heap[w1.heap.size + 1]? = some (.cells #[.string ⟨#[73]⟩, .bool true, .bool false, .int .i64 0, .slice none 0 0, .slice none 0 0, .slice none 0 0, .slice (some ⟨w1.heap.size, 0, none⟩) 1 1] 31 (0, 0)) := by rw [hW5]; exact (by (repeat (first | rw [hp_al] | rw [hp_sc] | rw [sz_al] | rw [sz_sc] | rw [if_neg (by omega)] | rw [if_pos (by omega)] | rw [h0] | rw [h1] | rw [h2] | rw [h3])); all_goals rfl)
  have g2 : W5.heap[W.heap.size]? = some (.cells #[.int .i64 12] 3 (0, 0)) := by rw [hW5]; exact (by (repeat (first | rw [hp_al] | rw [hp_sc] | rw [sz_al] | rw [sz_sc] | rw [if_neg (by omega)] | rw [if_pos (by omega)] | rw [h0] | rw [h1] | rw [h2] | rw [h3])); all_goals rfl)
  have gi : W5.heap[W.heap.size + 2]? = some (.cells #[.int .i64 29, .int .i64 0, .int .i64 0] 44 (0, 0)) := by rw [hW5]; exact (by (repeat (first | rw [hp_al] | rw [hp_sc] | rw [sz_al] | rw [sz_sc] | rw [if_neg (by omega)] | rw [if_pos (by omega)] | rw [h0] | rw [h1] | rw [h2] | rw [h3])); all_goals rfl)
  have g3 : W5.heap[w2.heap.size]? = some (.cells #[.string ⟨#[102]⟩, .bool false, .slice none 0 0, .int .i64 0, .int .i64 1, .int .i64 0, .slice (some ⟨W.heap.size + 2, 0, none⟩) 1 1, .slice none 0 0, .slice none 0 0] 39 (0, 0)) := by rw [hW5]; exact (by (repeat (first | rw [hp_al] | rw [hp_sc] | rw [sz_al] | rw [sz_sc] | rw [if_neg (by omega)] | rw [if_pos (by omega)] | rw [h0] | rw [h1] | rw [h2] | rw [h3])); all_goals rfl)
  have g4 : W5.heap[w2.heap.size + 1]? = some (.cells #[.string ⟨#[65]⟩, .bool false, .bool false, .int .i64 0, .slice (some ⟨W.heap.size, 0, none⟩) 1 1, .slice none 0 0, .slice none 0 0, .slice (some ⟨w2.heap.size, 0, none⟩) 1 1] 31 (0, 0)) := by rw [hW5]; exact (by (repeat (first | rw [hp_al] | rw [hp_sc] | rw [sz_al] | rw [sz_sc] | rw [if_neg (by omega)] | rw [if_pos (by omega)] | rw [h0] | rw [h1] | rw [h2] | rw [h3])); all_goals rfl)
  have HB5w : Hid (Below w1.heap.size w2 W5) := ⟨by rw [hW5]; rfl, by rw [hW5]; rfl, by rw [hW5]; rfl, by omega, fun k hk => by rw [hW5]; (repeat (first | rw [hp_al] | rw [hp_sc] | rw [sz_al] | rw [sz_sc] | rw [if_neg (by omega)]))⟩
  rw [← hW5]
  clear hW5 h0 h1 h2 h3 hb0
  have p0 : (W5.alloc (.cells #[.int .i64 29, .int .i64 0, .int .i64 0] 44)).heap[w1.heap.size]? = some (.cells #[.string ⟨#[102]⟩, .bool false, .slice none 0 0, .int .i64 0, .int .i64 0, .int .i64 0, .slice none 0 0, .slice none 0 0, .slice none 0 0] 39 (0, 0)) := (by (repeat (first | rw [hp_al] | rw [hp_sc] | rw [sz_al] | rw [sz_sc] | rw [if_neg (by omega)] | rw [if_pos (by omega)])); all_goals first | assumption)
  have x0 : (W5.alloc (.cells #[.int .i64 29, .int .i64 0, .int .i64 0] 44)).cell? ⟨w1.heap.size, 0, none⟩ = _ := bxq_cell p0 rfl
  have x1 : (W5.alloc (.cells #[.int .i64 29, .int .i64 0, .int .i64 0] 44)).cell? ⟨w1.heap.size, 1, none⟩ = _ := bxq_cell p0 rfl
  have x2 : (W5.alloc (.cells #[.int .i64 29, .int .i64 0, .int .i64 0] 44)).cell? ⟨w1.heap.size, 2, none⟩ = _ := bxq_cell p0 rfl
  have x3 : (W5.alloc (.cells #[.int .i64 29, .int .i64 0, .int .i64 0] 44)).cell? ⟨w1.heap.size, 3, none⟩ = _ := bxq_cell p0 rfl
  have x4 : (W5.alloc (.cells #[.int .i64 29, .int .i64 0, .int .i64 0] 44)).cell? ⟨w1.heap.size, 4, none⟩ = _ := bxq_cell p0 rfl
  have x5 : (W5.alloc (.cells #[.int .i64 29, .int .i64 0, .int .i64 0] 44)).cell? ⟨w1.heap.size, 5, none⟩ = _ := bxq_cell p0 rfl
  have x6 : (W5.alloc (.cells #[.int .i64 29, .int .i64 0, .int .i64 0] 44)).cell? ⟨w1.heap.size, 6, none⟩ = _ := bxq_cell p0 rfl
  have x7 : (W5.alloc (.cells #[.int .i64 29, .int .i64 0, .int .i64 0] 44)).cell? ⟨w1.heap.size, 7, none⟩ = _ := bxq_cell p0 rfl
  have x8 : (W5.alloc (.cells #[.int .i64 29, .int .i64 0, .int .i64 0] 44)).cell? ⟨w1.heap.size, 8, none⟩ = _ := bxq_cell p0 rfl
  have fx : (W5.alloc (.cells #[.int .i64 29, .int .i64 0, .int .i64 0] 44)).frozen? ⟨w1.heap.size, 6, none⟩ = false := (by simp [World.frozen?, p0])
  have y7 : W5.cell? ⟨w1.heap.size + 1, 7, none⟩ = _ := bxq_cell g1 rfl
  have n1 : ¬ w1.heap.size = W5.heap.size := by omega
  have G0 : Hid _ := g0
  have G1 : Hid _ := g1
  have G2 : Hid _ := g2
  have Gi : Hid _ := gi
  have G3 : Hid _ := g3
  have G4 : Hid _ := g4
  have HZ5 : Hid _ := hz5
  clear g0 g1 g2 gi g3 g4 hz5 hwz hz2 p0
  go_upto_region 21 with fail
  have g0 := G0.out
  have g1 := G1.out
  have g2 := G2.out
  have gi := Gi.out
  have g3 := G3.out
  have g4 := G4.out
  have hz5 := HZ5.out
  have hwz := HWz.out
  have hz2 := HZ2.out
  obtain ⟨W6, hW6⟩ : ∃ X, X = ((W5.alloc (.cells #[.int .i64 29, .int .i64 0, .int .i64 0] 44)).setCell ⟨w1.heap.size, 6, none⟩ (.slice (some ⟨W5.heap.size, 0, none⟩) 1 1)) := ⟨_, rfl⟩
  have hz6 : W6.heap.size ≤ w2.heap.size + 3 ∧ w2.heap.size + 3 ≤ W6.heap.size := by rw [hW6]; (repeat (first | rw [sz_al] | rw [sz_sc])); omega
  have u0 : W6.heap[w1.heap.size]? = some (.cells #[.string ⟨#[102]⟩, .bool false, .slice none 0 0, .int .i64 0, .int .i64 0, .int .i64 0, .slice (some ⟨W5.heap.size, 0, none⟩) 1 1, .slice none 0 0, .slice none 0 0] 39 (0, 0)) := by rw [hW6]; exact (by (repeat (first | rw [hp_al] | rw [hp_sc] | rw [sz_al] | rw [sz_sc] | rw [if_neg (by omega)] | rw [if_pos (by omega)] | rw [g0] | rw [g1] | rw [g2] | rw [gi] | rw [g3] | rw [g4])); all_goals rfl)
  have u1 : W6.heap[w1.heap.size + 1]? = some (.cells #[.string ⟨#[73]⟩, .bool true, .bool false, .int .i64 0, .slice none 0 0, .slice none 0 0, .slice none 0 0, .slice (some ⟨w1.heap.size, 0, none⟩) 1 1] 31 (0, 0)) := by rw [hW6]; exact (by (repeat (first | rw [hp_al] | rw [hp_sc] | rw [sz_al] | rw [sz_sc] | rw [if_neg (by omega)] | rw [if_pos (by omega)] | rw [g0] | rw [g1] | rw [g2] | rw [gi] | rw [g3] | rw [g4])); all_goals rfl)
  have u2 : W6.heap[W.heap.size]? = some (.cells #[.int .i64 12] 3 (0, 0)) := by rw [hW6]; exact (by (repeat (first | rw [hp_al] | rw [hp_sc] | rw [sz_al] | rw [sz_sc] | rw [if_neg (by omega)] | rw [if_pos (by omega)] | rw [g0] | rw [g1] | rw [g2] | rw [gi] | rw [g3] | rw [g4])); all_goals rfl)
  have ui : W6.heap[W.heap.size + 2]? = some (.cells #[.int .i64 29, .int .i64 0, .int .i64 0] 44 (0, 0)) := by rw [hW6]; exact (by (repeat (first | rw [hp_al] | rw [hp_sc] | rw [sz_al] | rw [sz_sc] | rw [if_neg (by omega)] | rw [if_pos (by omega)] | rw [g0] | rw [g1] | rw [g2] | rw [gi] | rw [g3] | rw [g4])); all_goals rfl)
  have u3 : W6.heap[w2.heap.size]? = some (.cells #[.string ⟨#[102]⟩, .bool false, .slice none 0 0, .int .i64 0, .int .i64 1, .int .i64 0, .slice (some ⟨W.heap.size + 2, 0, none⟩) 1 1, .slice none 0 0, .slice none 0 0] 39 (0, 0)) := by rw [hW6]; exact (by (repeat (first | rw [hp_al] | rw [hp_sc] | rw [sz_al] | rw [sz_sc] | rw [if_neg (by omega)] | rw [if_pos (by omega)] | rw [g0] | rw [g1] | rw [g2] | rw [gi] | rw [g3] | rw [g4])); all_goals rfl)
  have u4 : W6.heap[w2.heap.size + 1]? = some (.cells #[.string ⟨#[65]⟩, .bool false, .bool false, .int .i64 0, .slice (some ⟨W.heap.size, 0, none⟩) 1 1, .slice none 0 0, .slice none 0 0, .slice (some ⟨w2.heap.size, 0, none⟩) 1 1] 31 (0, 0)) := by rw [hW6]; exact (by (repeat (first | rw [hp_al] | rw [hp_sc] | rw [sz_al] | rw [sz_sc] | rw [if_neg (by omega)] | rw [if_pos (by omega)] | rw [g0] | rw [g1] | rw [g2] | rw [gi] | rw [g3] | rw [g4])); all_goals rfl)
  have ue : W6.heap[W5.heap.size]? = some (.cells #[.int .i64 29, .int .i64 0, .int .i64 0] 44 (0, 0)) := by rw [hW6]; exact (by (repeat (first | rw [hp_al] | rw [hp_sc] | rw [sz_al] | rw [sz_sc] | rw [if_neg (by omega)] | rw [if_pos (by omega)] | rw [g0])); all_goals rfl)
  have HB6w : Hid (Below w1.heap.size W5 W6) := ⟨by rw [hW6]; rfl, by rw [hW6]; rfl, by rw [hW6]; rfl, by omega, fun k hk => by rw [hW6]; (repeat (first | rw [hp_al] | rw [hp_sc] | rw [sz_al] | rw [sz_sc] | rw [if_neg (by omega)]))⟩
  rw [← hW6]
  clear hW6 g0 g1 g2 gi g3 g4
  have z0 : W6.cell? ⟨w1.heap.size + 1, 0, none⟩ = _ := bxq_cell u1 rfl
  have y0 : W6.cell? ⟨w2.heap.size + 1, 0, none⟩ = _ := bxq_cell u4 rfl
  have z1 : W6.cell? ⟨w1.heap.size + 1, 1, none⟩ = _ := bxq_cell u1 rfl
  have y1 : W6.cell? ⟨w2.heap.size + 1, 1, none⟩ = _ := bxq_cell u4 rfl
  have z2 : W6.cell? ⟨w1.heap.size + 1, 2, none⟩ = _ := bxq_cell u1 rfl
  have y2 : W6.cell? ⟨w2.heap.size + 1, 2, none⟩ = _ := bxq_cell u4 rfl
  have z3 : W6.cell? ⟨w1.heap.size + 1, 3, none⟩ = _ := bxq_cell u1 rfl
  have y3 : W6.cell? ⟨w2.heap.size + 1, 3, none⟩ = _ := bxq_cell u4 rfl
  have z4 : W6.cell? ⟨w1.heap.size + 1, 4, none⟩ = _ := bxq_cell u1 rfl
  have y4 : W6.cell? ⟨w2.heap.size + 1, 4, none⟩ = _ := bxq_cell u4 rfl
  have z5 : W6.cell? ⟨w1.heap.size + 1, 5, none⟩ = _ := bxq_cell u1 rfl
  have y5 : W6.cell? ⟨w2.heap.size + 1, 5, none⟩ = _ := bxq_cell u4 rfl
  have z6 : W6.cell? ⟨w1.heap.size + 1, 6, none⟩ = _ := bxq_cell u1 rfl
  have y6 : W6.cell? ⟨w2.heap.size + 1, 6, none⟩ = _ := bxq_cell u4 rfl
  have z7 : W6.cell? ⟨w1.heap.size + 1, 7, none⟩ = _ := bxq_cell u1 rfl
  have y7 : W6.cell? ⟨w2.heap.size + 1, 7, none⟩ = _ := bxq_cell u4 rfl
  go_wp2_with (first
    | (go_at_call 12; refine (with_ok (S := fun k => k < w2.heap.size + 4) (xs := [facI false [] false [retI], facA 12]) (fun k (q : k < _) => (by repeat (first | rw [sz_al] | rw [sz_sc]); omega)) (by
        refine Sl.blk [[.string ⟨#[73]⟩, .bool true, .bool false, .int .i64 0, .slice none 0 0, .slice none 0 0, .slice none 0 0, .slice (some ⟨w1.heap.size, 0, none⟩) 1 1], [.string ⟨#[65]⟩, .bool false, .bool false, .int .i64 0, .slice (some ⟨W.heap.size, 0, none⟩) 1 1, .slice none 0 0, .slice none 0 0, .slice (some ⟨w2.heap.size, 0, none⟩) 1 1]] (T := 31) (by (repeat (first | rw [hp_al] | rw [hp_sc] | rw [sz_al] | rw [sz_sc] | rw [if_neg (by omega)] | rw [if_pos (by omega)])); all_goals first | rfl | assumption) (show _ < _ by omega) rfl rfl rfl (by decide) fun i y r hy hr => ?_
        match i, hy, hr with
        | 0, hy, hr =>
            cases hy; cases hr
            refine ⟨_, _, _, _, rfl, Sl.nil _ _ _, Sl.nil _ _ _, Sl.nil _ _ _, ?_⟩
            · refine Sl.blk [[.string ⟨#[102]⟩, .bool false, .slice none 0 0, .int .i64 0, .int .i64 0, .int .i64 0, .slice (some ⟨W5.heap.size, 0, none⟩) 1 1, .slice none 0 0, .slice none 0 0]] (T := 39) (by (repeat (first | rw [hp_al] | rw [hp_sc] | rw [sz_al] | rw [sz_sc] | rw [if_neg (by omega)] | rw [if_pos (by omega)])); all_goals first | rfl | assumption) (show _ < _ by omega) rfl rfl rfl (by decide) fun i y r hy hr => ?_
              match i, hy, hr with
              | 0, hy, hr =>
                cases hy; cases hr
                refine ⟨_, _, _, _, rfl, Sl.nil _ _ _, ?_, Sl.nil _ _ _, Sl.nil _ _ _⟩
                refine Sl.blk [[.int .i64 29, .int .i64 0, .int .i64 0]] (T := 44) (by (repeat (first | rw [hp_al] | rw [hp_sc] | rw [sz_al] | rw [sz_sc] | rw [if_neg (by omega)] | rw [if_pos (by omega)])); all_goals first | rfl | assumption) (show _ < _ by omega) rfl rfl rfl (by decide) fun i y r hy hr => ?_
                match i, hy, hr with
                | 0, hy, hr => cases hy; cases hr; rfl
        | 1, hy, hr =>
            cases hy; cases hr
            refine ⟨_, _, _, _, rfl, ?_, Sl.nil _ _ _, Sl.nil _ _ _, ?_⟩
            · refine Sl.blk [[.int .i64 12]] (T := 3) (by (repeat (first | rw [hp_al] | rw [hp_sc] | rw [sz_al] | rw [sz_sc] | rw [if_neg (by omega)] | rw [if_pos (by omega)])); all_goals first | rfl | assumption) (show _ < _ by omega) rfl rfl rfl (by decide) fun i y r hy hr => ?_
              match i, hy, hr with
              | 0, hy, hr => cases hy; cases hr; rfl
            · refine Sl.blk [[.string ⟨#[102]⟩, .bool false, .slice none 0 0, .int .i64 0, .int .i64 1, .int .i64 0, .slice (some ⟨W.heap.size + 2, 0, none⟩) 1 1, .slice none 0 0, .slice none 0 0]] (T := 39) (by (repeat (first | rw [hp_al] | rw [hp_sc] | rw [sz_al] | rw [sz_sc] | rw [if_neg (by omega)] | rw [if_pos (by omega)])); all_goals first | rfl | assumption) (show _ < _ by omega) rfl rfl rfl (by decide) fun i y r hy hr => ?_
              match i, hy, hr with
              | 0, hy, hr =>
                cases hy; cases hr
                refine ⟨_, _, _, _, rfl, Sl.nil _ _ _, ?_, Sl.nil _ _ _, Sl.nil _ _ _⟩
                refine Sl.blk [[.int .i64 29, .int .i64 0, .int .i64 0]] (T := 44) (by (repeat (first | rw [hp_al] | rw [hp_sc] | rw [sz_al] | rw [sz_sc] | rw [if_neg (by omega)] | rw [if_pos (by omega)])); all_goals first | rfl | assumption) (show _ < _ by omega) rfl rfl rfl (by decide) fun i y r hy hr => ?_
                match i, hy, hr with
                | 0, hy, hr => cases hy; cases hr; rfl
        ) (by decide) (by decide)).mono ?_; rintro e w5 ⟨g, c, rfl, hb5, S', hS', hs⟩; have HB5 : Hid (Below w1.heap.size W6 w5) := ((Below.refl _ _).alloc (by omega) _).trans (hb5.mono (by rw [sz_al]; omega)); have hF := faults_err (w := w5) (S := S') (p := facP3) facO3 hS' hs (by decide) facJ3; clear hb5 hS' hs)
    | (go_at_call 13; refine hF.mono ?_; clear hF; rintro e w6 ⟨rfl, hb6⟩; have HB6 : Hid (Below w1.heap.size W6 w6) := HB5.out.trans (hb6.mono (by have := HB5.out.size; omega)); clear hb6))
  go_ret
  exact ⟨rfl, HB1.out.trans (((((HBW.out.trans (HB2.out.mono (by omega))).trans HB5w.out).trans HB6w.out).trans HB6.out).mono HB1.out.size)⟩
def facP4 : Pg := ⟨11, [tinyC, facI false [] false [], facA 11]⟩
theorem facO4 : Okl facP4 := okl_of (by kernel_rfl)
theorem facJ4 : loadJ facP4 = .error (1502, 13) := by kernel_rfl
set_option maxRecDepth 20000 in
set_option maxHeartbeats 8000000 in
theorem faces_4 (n : Int) (hm : bits BinOp.and .i64 n 7 = 4) (w : World) : Calls Tryz.prog 5 #[.int .i64 n] w fun e w' => e = .returned (.bool true) ∧ Below w.heap.size w w' := by
  have hA := awake15 w
  go_enter Tryz.func5, Tryz.ntmps5
  go_upto_region 4 with (go_at_call 11; refine hA.mono ?_; clear hA; rintro e w1 ⟨rfl, hb1⟩; have HB1 : Hid (Below w.heap.size w w1) := hb1; clear hb1)
  obtain ⟨W, hW⟩ : ∃ W, W = ((w1.alloc (.cells #[.string ⟨#[102]⟩, .bool false, .slice none 0 0, .int .i64 0, .int .i64 0, .int .i64 0, .slice none 0 0, .slice none 0 0, .slice none 0 0] 39)).alloc (.cells #[.string ⟨#[73]⟩, .bool true, .bool false, .int .i64 0, .slice none 0 0, .slice none 0 0, .slice none 0 0, .slice (some ⟨w1.heap.size, 0, none⟩) 1 1] 31)) := ⟨_, rfl⟩
  have HWz : Hid (W.heap.size ≤ w1.heap.size + 2 ∧ w1.heap.size + 2 ≤ W.heap.size) := by show _ ∧ _; rw [hW]; simp only [sz_al]; omega
  have HBW : Hid (Below w1.heap.size w1 W) := by rw [hW]; exact (((Below.refl _ _).alloc (Nat.le_refl _) _).alloc (by rw [sz_al]; omega) _)
  have h0 : W.heap[w1.heap.size]? = some (.cells #[.string ⟨#[102]⟩, .bool false, .slice none 0 0, .int .i64 0, .int .i64 0, .int .i64 0, .slice none 0 0, .slice none 0 0, .slice none 0 0] 39 (0, 0)) := by rw [hW]; exact (by (repeat (first | rw [hp_al] | rw [hp_sc] | rw [sz_al] | rw [sz_sc] | rw [if_neg (by omega)] | rw [if_pos (by omega)])); all_goals first | rfl | assumption)
  have h1 : W.heap[w1.heap.size + 1]? = some (.cells #[.string ⟨#[73]⟩, .bool true, .bool false, .int .i64 0, .slice none 0 0, .slice none 0 0, .slice none 0 0, .slice (some ⟨w1.heap.size, 0, none⟩) 1 1] 31 (0, 0)) := by rw [hW]; exact (by (repeat (first | rw [hp_al] | rw [hp_sc] | rw [sz_al] | rw [sz_sc] | rw [if_neg (by omega)] | rw [if_pos (by omega)])); all_goals first | rfl | assumption)
  have hwz := HWz.out
  rw [← hW]
  clear hW
  have hM : Calls Tryz.prog 14 #[.string ⟨#[102]⟩, .slice none 0 0, .int .i64 0] (W.alloc (.cells #[.int .i64 12] 3)) fun e w' => e = .returned (.agg #[.string ⟨#[102]⟩, .bool false, .slice none 0 0, .int .i64 0, .int .i64 1, .int .i64 0, .slice (some ⟨W.heap.size + 2, 0, none⟩) 1 1, .slice none 0 0, .slice none 0 0]) ∧ Below (W.heap.size + 1) (W.alloc (.cells #[.int .i64 12] 3)) w' ∧ W.heap.size + 3 ≤ w'.heap.size ∧ w'.heap[W.heap.size + 2]? = some (.cells #[.int .i64 29, .int .i64 0, .int .i64 0] 44 (0, 0)) := by
    have q := method_ok ⟨#[102]⟩ none 0 0 0 (by decide) (W.alloc (.cells #[.int .i64 12] 3))
    rw [sz_al] at q
    exact q
  have HX : Hid (∀ w2, Below (W.heap.size + 1) (W.alloc (.cells #[.int .i64 12] 3)) w2 → Below W.heap.size W w2 ∧ w2.heap[w1.heap.size]? = some (.cells #[.string ⟨#[102]⟩, .bool false, .slice none 0 0, .int .i64 0, .int .i64 0, .int .i64 0, .slice none 0 0, .slice none 0 0, .slice none 0 0] 39 (0, 0)) ∧ w2.heap[w1.heap.size + 1]? = some (.cells #[.string ⟨#[73]⟩, .bool true, .bool false, .int .i64 0, .slice none 0 0, .slice none 0 0, .slice none 0 0, .slice (some ⟨w1.heap.size, 0, none⟩) 1 1] 31 (0, 0)) ∧ w2.heap[W.heap.size]? = some (.cells #[.int .i64 12] 3 (0, 0))) := fun w2 hb => by
    have hq : W.heap.size ≤ W.heap.size + 1 := by omega
    have hb0 : Below W.heap.size W w2 := ((Below.refl _ _).alloc (Nat.le_refl _) _).trans (hb.mono hq)
    exact ⟨hb0, (hb0.block _ (by omega)).trans h0, (hb0.block _ (by omega)).trans h1, (hb.block _ (by omega)).trans (by (repeat (first | rw [hp_al] | rw [hp_sc] | rw [sz_al] | rw [sz_sc] | rw [if_neg (by omega)] | rw [if_pos (by omega)])); all_goals first | rfl | assumption)⟩
  clear h0 h1 hwz
  go_upto_region 5 with (go_at_call 14; refine hM.mono ?_; clear hM; rintro e w2 ⟨rfl, hb2, hz2, hc2⟩; have HZ2 : Hid _ := hz2; have HC2 : Hid _ := hc2; have HXX : Hid _ := HX.out w2 hb2; clear hb2 hz2 hc2)
  obtain ⟨hb0, h0, h1, h2⟩ := HXX.out
  have HB2 : Hid (Below W.heap.size W w2) := hb0
  have h3 := HC2.out
  have hz2 := HZ2.out
  have hwz := HWz.out
  obtain ⟨W5, hW5⟩ : ∃ X, X = ((w2.alloc (.cells #[.string ⟨#[102]⟩, .bool false, .slice none 0 0, .int .i64 0, .int .i64 1, .int .i64 0, .slice (some ⟨W.heap.size + 2, 0, none⟩) 1 1, .slice none 0 0, .slice none 0 0] 39)).alloc (.cells #[.string ⟨#[65]⟩, .bool false, .bool false, .int .i64 0, .slice (some ⟨W.heap.size, 0, none⟩) 1 1, .slice none 0 0, .slice none 0 0, .slice (some ⟨w2.heap.size, 0, none⟩) 1 1] 31)) := ⟨_, rfl⟩
  have hz5 : W5.heap.size ≤ w2.heap.size + 2 ∧ w2.heap.size + 2 ≤ W5.heap.size := by rw [hW5]; (repeat (first | rw [sz_al] | rw [sz_sc])); omega
  have g0 : W5.heap[w1.heap.size]? = some (.cells #[.string ⟨#[102]⟩, .bool false, .slice none 0 0, .int .i64 0, .int .i64 0, .int .i64 0, .slice none 0 0, .slice none 0 0, .slice none 0 0] 39 (0, 0)) := by rw [hW5]; exact (by (repeat (first | rw [hp_al] | rw [hp_sc] | rw [sz_al] | rw [sz_sc] | rw [if_neg (by omega)] | rw [if_pos (by omega)] | rw [h0] | rw [h1] | rw [h2] | rw [h3])); all_goals rfl)
  have g1 : W5.heap[w1.heap.size + 1]? = some (.cells #[.string ⟨#[73]⟩, .bool true, .bool false, .int .i64 0, .slice none 0 0, .slice none 0 0, .slice none 0 0, .slice (some ⟨w1.heap.size, 0, none⟩) 1 1] 31 (0, 0)) := by rw [hW5]; exact (by (repeat (first | rw [hp_al] | rw [hp_sc] | rw [sz_al] | rw [sz_sc] | rw [if_neg (by omega)] | rw [if_pos (by omega)] | rw [h0] | rw [h1] | rw [h2] | rw [h3])); all_goals rfl)
  have g2 : W5.heap[W.heap.size]? = some (.cells #[.int .i64 12] 3 (0, 0)) := by rw [hW5]; exact (by (repeat (first | rw [hp_al] | rw [hp_sc] | rw [sz_al] | rw [sz_sc] | rw [if_neg (by omega)] | rw [if_pos (by omega)] | rw [h0] | rw [h1] | rw [h2] | rw [h3])); all_goals rfl)
  have gi : W5.heap[W.heap.size + 2]? = some (.cells #[.int .i64 29, .int .i64 0, .int .i64 0] 44 (0, 0)) := by rw [hW5]; exact (by (repeat (first | rw [hp_al] | rw [hp_sc] | rw [sz_al] | rw [sz_sc] | rw [if_neg (by omega)] | rw [if_pos (by omega)] | rw [h0] | rw [h1] | rw [h2] | rw [h3])); all_goals rfl)
  have g3 : W5.heap[w2.heap.size]? = some (.cells #[.string ⟨#[102]⟩, .bool false, .slice none 0 0, .int .i64 0, .int .i64 1, .int .i64 0, .slice (some ⟨W.heap.size + 2, 0, none⟩) 1 1, .slice none 0 0, .slice none 0 0] 39 (0, 0)) := by rw [hW5]; exact (by (repeat (first | rw [hp_al] | rw [hp_sc] | rw [sz_al] | rw [sz_sc] | rw [if_neg (by omega)] | rw [if_pos (by omega)] | rw [h0] | rw [h1] | rw [h2] | rw [h3])); all_goals rfl)
  have g4 : W5.heap[w2.heap.size + 1]? = some (.cells #[.string ⟨#[65]⟩, .bool false, .bool false, .int .i64 0, .slice (some ⟨W.heap.size, 0, none⟩) 1 1, .slice none 0 0, .slice none 0 0, .slice (some ⟨w2.heap.size, 0, none⟩) 1 1] 31 (0, 0)) := by rw [hW5]; exact (by (repeat (first | rw [hp_al] | rw [hp_sc] | rw [sz_al] | rw [sz_sc] | rw [if_neg (by omega)] | rw [if_pos (by omega)] | rw [h0] | rw [h1] | rw [h2] | rw [h3])); all_goals rfl)
  have HB5w : Hid (Below w1.heap.size w2 W5) := ⟨by rw [hW5]; rfl, by rw [hW5]; rfl, by rw [hW5]; rfl, by omega, fun k hk => by rw [hW5]; (repeat (first | rw [hp_al] | rw [hp_sc] | rw [sz_al] | rw [sz_sc] | rw [if_neg (by omega)]))⟩
  rw [← hW5]
  clear hW5 h0 h1 h2 h3 hb0
  have p4 : (W5.alloc (.cells #[.int .i64 11] 3)).heap[w2.heap.size + 1]? = some (.cells #[.string ⟨#[65]⟩, .bool false, .bool false, .int .i64 0, .slice (some ⟨W.heap.size, 0, none⟩) 1 1, .slice none 0 0, .slice none 0 0, .slice (some ⟨w2.heap.size, 0, none⟩) 1 1] 31 (0, 0)) := (by (repeat (first | rw [hp_al] | rw [hp_sc] | rw [sz_al] | rw [sz_sc] | rw [if_neg (by omega)] | rw [if_pos (by omega)])); all_goals first | assumption)
  have x0 : (W5.alloc (.cells #[.int .i64 11] 3)).cell? ⟨w2.heap.size + 1, 0, none⟩ = _ := bxq_cell p4 rfl
  have x1 : (W5.alloc (.cells #[.int .i64 11] 3)).cell? ⟨w2.heap.size + 1, 1, none⟩ = _ := bxq_cell p4 rfl
  have x2 : (W5.alloc (.cells #[.int .i64 11] 3)).cell? ⟨w2.heap.size + 1, 2, none⟩ = _ := bxq_cell p4 rfl
  have x3 : (W5.alloc (.cells #[.int .i64 11] 3)).cell? ⟨w2.heap.size + 1, 3, none⟩ = _ := bxq_cell p4 rfl
  have x4 : (W5.alloc (.cells #[.int .i64 11] 3)).cell? ⟨w2.heap.size + 1, 4, none⟩ = _ := bxq_cell p4 rfl
  have x5 : (W5.alloc (.cells #[.int .i64 11] 3)).cell? ⟨w2.heap.size + 1, 5, none⟩ = _ := bxq_cell p4 rfl
  have x6 : (W5.alloc (.cells #[.int .i64 11] 3)).cell? ⟨w2.heap.size + 1, 6, none⟩ = _ := bxq_cell p4 rfl
  have x7 : (W5.alloc (.cells #[.int .i64 11] 3)).cell? ⟨w2.heap.size + 1, 7, none⟩ = _ := bxq_cell p4 rfl
  have fx : (W5.alloc (.cells #[.int .i64 11] 3)).frozen? ⟨w2.heap.size + 1, 4, none⟩ = false := (by simp [World.frozen?, p4])
  have n1 : ¬ w2.heap.size + 1 = W5.heap.size := by omega
  have G0 : Hid _ := g0
  have G1 : Hid _ := g1
  have G2 : Hid _ := g2
  have Gi : Hid _ := gi
  have G3 : Hid _ := g3
  have G4 : Hid _ := g4
  have HZ5 : Hid _ := hz5
  clear g0 g1 g2 gi g3 g4 hz5 hwz hz2 p4
  go_upto_region 17 with fail
  have g0 := G0.out
  have g1 := G1.out
  have g2 := G2.out
  have gi := Gi.out
  have g3 := G3.out
  have g4 := G4.out
  have hz5 := HZ5.out
  have hwz := HWz.out
  have hz2 := HZ2.out
  obtain ⟨W6, hW6⟩ : ∃ X, X = ((W5.alloc (.cells #[.int .i64 11] 3)).setCell ⟨w2.heap.size + 1, 4, none⟩ (.slice (some ⟨W5.heap.size, 0, none⟩) 1 1)) := ⟨_, rfl⟩
  have hz6 : W6.heap.size ≤ w2.heap.size + 3 ∧ w2.heap.size + 3 ≤ W6.heap.size := by rw [hW6]; (repeat (first | rw [sz_al] | rw [sz_sc])); omega
  have u0 : W6.heap[w1.heap.size]? = some (.cells #[.string ⟨#[102]⟩, .bool false, .slice none 0 0, .int .i64 0, .int .i64 0, .int .i64 0, .slice none 0 0, .slice none 0 0, .slice none 0 0] 39 (0, 0)) := by rw [hW6]; exact (by (repeat (first | rw [hp_al] | rw [hp_sc] | rw [sz_al] | rw [sz_sc] | rw [if_neg (by omega)] | rw [if_pos (by omega)] | rw [g0] | rw [g1] | rw [g2] | rw [gi] | rw [g3] | rw [g4])); all_goals rfl)
  have u1 : W6.heap[w1.heap.size + 1]? = some (.cells #[.string ⟨#[73]⟩, .bool true, .bool false, .int .i64 0, .slice none 0 0, .slice none 0 0, .slice none 0 0, .slice (some ⟨w1.heap.size, 0, none⟩) 1 1] 31 (0, 0)) := by rw [hW6]; exact (by (repeat (first | rw [hp_al] | rw [hp_sc] | rw [sz_al] | rw [sz_sc] | rw [if_neg (by omega)] | rw [if_pos (by omega)] | rw [g0] | rw [g1] | rw [g2] | rw [gi] | rw [g3] | rw [g4])); all_goals rfl)
  have u2 : W6.heap[W.heap.size]? = some (.cells #[.int .i64 12] 3 (0, 0)) := by rw [hW6]; exact (by (repeat (first | rw [hp_al] | rw [hp_sc] | rw [sz_al] | rw [sz_sc] | rw [if_neg (by omega)] | rw [if_pos (by omega)] | rw [g0] | rw [g1] | rw [g2] | rw [gi] | rw [g3] | rw [g4])); all_goals rfl)
  have ui : W6.heap[W.heap.size + 2]? = some (.cells #[.int .i64 29, .int .i64 0, .int .i64 0] 44 (0, 0)) := by rw [hW6]; exact (by (repeat (first | rw [hp_al] | rw [hp_sc] | rw [sz_al] | rw [sz_sc] | rw [if_neg (by omega)] | rw [if_pos (by omega)] | rw [g0] | rw [g1] | rw [g2] | rw [gi] | rw [g3] | rw [g4])); all_goals rfl)
  have u3 : W6.heap[w2.heap.size]? = some (.cells #[.string ⟨#[102]⟩, .bool false, .slice none 0 0, .int .i64 0, .int .i64 1, .int .i64 0, .slice (some ⟨W.heap.size + 2, 0, none⟩) 1 1, .slice none 0 0, .slice none 0 0] 39 (0, 0)) := by rw [hW6]; exact (by (repeat (first | rw [hp_al] | rw [hp_sc] | rw [sz_al] | rw [sz_sc] | rw [if_neg (by omega)] | rw [if_pos (by omega)] | rw [g0] | rw [g1] | rw [g2] | rw [gi] | rw [g3] | rw [g4])); all_goals rfl)
  have u4 : W6.heap[w2.heap.size + 1]? = some (.cells #[.string ⟨#[65]⟩, .bool false, .bool false, .int .i64 0, .slice (some ⟨W5.heap.size, 0, none⟩) 1 1, .slice none 0 0, .slice none 0 0, .slice (some ⟨w2.heap.size, 0, none⟩) 1 1] 31 (0, 0)) := by rw [hW6]; exact (by (repeat (first | rw [hp_al] | rw [hp_sc] | rw [sz_al] | rw [sz_sc] | rw [if_neg (by omega)] | rw [if_pos (by omega)] | rw [g0] | rw [g1] | rw [g2] | rw [gi] | rw [g3] | rw [g4])); all_goals rfl)
  have ue : W6.heap[W5.heap.size]? = some (.cells #[.int .i64 11] 3 (0, 0)) := by rw [hW6]; exact (by (repeat (first | rw [hp_al] | rw [hp_sc] | rw [sz_al] | rw [sz_sc] | rw [if_neg (by omega)] | rw [if_pos (by omega)] | rw [g0])); all_goals rfl)
  have HB6w : Hid (Below w1.heap.size W5 W6) := ⟨by rw [hW6]; rfl, by rw [hW6]; rfl, by rw [hW6]; rfl, by omega, fun k hk => by rw [hW6]; (repeat (first | rw [hp_al] | rw [hp_sc] | rw [sz_al] | rw [sz_sc] | rw [if_neg (by omega)]))⟩
  rw [← hW6]
  clear hW6 g0 g1 g2 gi g3 g4
  have z0 : W6.cell? ⟨w1.heap.size + 1, 0, none⟩ = _ := bxq_cell u1 rfl
  have y0 : W6.cell? ⟨w2.heap.size + 1, 0, none⟩ = _ := bxq_cell u4 rfl
  have z1 : W6.cell? ⟨w1.heap.size + 1, 1, none⟩ = _ := bxq_cell u1 rfl
  have y1 : W6.cell? ⟨w2.heap.size + 1, 1, none⟩ = _ := bxq_cell u4 rfl
  have z2 : W6.cell? ⟨w1.heap.size + 1, 2, none⟩ = _ := bxq_cell u1 rfl
  have y2 : W6.cell? ⟨w2.heap.size + 1, 2, none⟩ = _ := bxq_cell u4 rfl
  have z3 : W6.cell? ⟨w1.heap.size + 1, 3, none⟩ = _ := bxq_cell u1 rfl
  have y3 : W6.cell? ⟨w2.heap.size + 1, 3, none⟩ = _ := bxq_cell u4 rfl
  have z4 : W6.cell? ⟨w1.heap.size + 1, 4, none⟩ = _ := bxq_cell u1 rfl
  have y4 : W6.cell? ⟨w2.heap.size + 1, 4, none⟩ = _ := bxq_cell u4 rfl
  have z5 : W6.cell? ⟨w1.heap.size + 1, 5, none⟩ = _ := bxq_cell u1 rfl
  have y5 : W6.cell? ⟨w2.heap.size + 1, 5, none⟩ = _ := bxq_cell u4 rfl
  have z6 : W6.cell? ⟨w1.heap.size + 1, 6, none⟩ = _ := bxq_cell u1 rfl
  have y6 : W6.cell? ⟨w2.heap.size + 1, 6, none⟩ = _ := bxq_cell u4 rfl
  have z7 : W6.cell? ⟨w1.heap.size + 1, 7, none⟩ = _ := bxq_cell u1 rfl
  have y7 : W6.cell? ⟨w2.heap.size + 1, 7, none⟩ = _ := bxq_cell u4 rfl
  go_wp2_with (first
    | (go_at_call 12; refine (with_ok (S := fun k => k < w2.heap.size + 4) (xs := [facI false [] false [], facA 11]) (fun k (q : k < _) => (by repeat (first | rw [sz_al] | rw [sz_sc]); omega)) (by
        refine Sl.blk [[.string ⟨#[73]⟩, .bool true, .bool false, .int .i64 0, .slice none 0 0, .slice none 0 0, .slice none 0 0, .slice (some ⟨w1.heap.size, 0, none⟩) 1 1], [.string ⟨#[65]⟩, .bool false, .bool false, .int .i64 0, .slice (some ⟨W5.heap.size, 0, none⟩) 1 1, .slice none 0 0, .slice none 0 0, .slice (some ⟨w2.heap.size, 0, none⟩) 1 1]] (T := 31) (by (repeat (first | rw [hp_al] | rw [hp_sc] | rw [sz_al] | rw [sz_sc] | rw [if_neg (by omega)] | rw [if_pos (by omega)])); all_goals first | rfl | assumption) (show _ < _ by omega) rfl rfl rfl (by decide) fun i y r hy hr => ?_
        match i, hy, hr with
        | 0, hy, hr =>
            cases hy; cases hr
            refine ⟨_, _, _, _, rfl, Sl.nil _ _ _, Sl.nil _ _ _, Sl.nil _ _ _, ?_⟩
            · refine Sl.blk [[.string ⟨#[102]⟩, .bool false, .slice none 0 0, .int .i64 0, .int .i64 0, .int .i64 0, .slice none 0 0, .slice none 0 0, .slice none 0 0]] (T := 39) (by (repeat (first | rw [hp_al] | rw [hp_sc] | rw [sz_al] | rw [sz_sc] | rw [if_neg (by omega)] | rw [if_pos (by omega)])); all_goals first | rfl | assumption) (show _ < _ by omega) rfl rfl rfl (by decide) fun i y r hy hr => ?_
              match i, hy, hr with
              | 0, hy, hr =>
                cases hy; cases hr
                exact ⟨_, _, _, _, rfl, Sl.nil _ _ _, Sl.nil _ _ _, Sl.nil _ _ _, Sl.nil _ _ _⟩
        | 1, hy, hr =>
            cases hy; cases hr
            refine ⟨_, _, _, _, rfl, ?_, Sl.nil _ _ _, Sl.nil _ _ _, ?_⟩
            · refine Sl.blk [[.int .i64 11]] (T := 3) (by (repeat (first | rw [hp_al] | rw [hp_sc] | rw [sz_al] | rw [sz_sc] | rw [if_neg (by omega)] | rw [if_pos (by omega)])); all_goals first | rfl | assumption) (show _ < _ by omega) rfl rfl rfl (by decide) fun i y r hy hr => ?_
              match i, hy, hr with
              | 0, hy, hr => cases hy; cases hr; rfl
            · refine Sl.blk [[.string ⟨#[102]⟩, .bool false, .slice none 0 0, .int .i64 0, .int .i64 1, .int .i64 0, .slice (some ⟨W.heap.size + 2, 0, none⟩) 1 1, .slice none 0 0, .slice none 0 0]] (T := 39) (by (repeat (first | rw [hp_al] | rw [hp_sc] | rw [sz_al] | rw [sz_sc] | rw [if_neg (by omega)] | rw [if_pos (by omega)])); all_goals first | rfl | assumption) (show _ < _ by omega) rfl rfl rfl (by decide) fun i y r hy hr => ?_
              match i, hy, hr with
              | 0, hy, hr =>
                cases hy; cases hr
                refine ⟨_, _, _, _, rfl, Sl.nil _ _ _, ?_, Sl.nil _ _ _, Sl.nil _ _ _⟩
                refine Sl.blk [[.int .i64 29, .int .i64 0, .int .i64 0]] (T := 44) (by (repeat (first | rw [hp_al] | rw [hp_sc] | rw [sz_al] | rw [sz_sc] | rw [if_neg (by omega)] | rw [if_pos (by omega)])); all_goals first | rfl | assumption) (show _ < _ by omega) rfl rfl rfl (by decide) fun i y r hy hr => ?_
                match i, hy, hr with
                | 0, hy, hr => cases hy; cases hr; rfl
        ) (by decide) (by decide)).mono ?_; rintro e w5 ⟨g, c, rfl, hb5, S', hS', hs⟩; have HB5 : Hid (Below w1.heap.size W6 w5) := ((Below.refl _ _).alloc (by omega) _).trans (hb5.mono (by rw [sz_al]; omega)); have hF := faults_err (w := w5) (S := S') (p := facP4) facO4 hS' hs (by decide) facJ4; clear hb5 hS' hs)
    | (go_at_call 13; refine hF.mono ?_; clear hF; rintro e w6 ⟨rfl, hb6⟩; have HB6 : Hid (Below w1.heap.size W6 w6) := HB5.out.trans (hb6.mono (by have := HB5.out.size; omega)); clear hb6))
  go_ret
  exact ⟨rfl, HB1.out.trans (((((HBW.out.trans (HB2.out.mono (by omega))).trans HB5w.out).trans HB6w.out).trans HB6.out).mono HB1.out.size)⟩
def facP5 : Pg := ⟨11, [tinyC, facI false [] false [], facA 9]⟩
theorem facO5 : Okl facP5 := okl_of (by kernel_rfl)
theorem facJ5 : loadJ facP5 = .error (1502, 13) := by kernel_rfl
set_option maxRecDepth 20000 in
set_option maxHeartbeats 8000000 in
theorem faces_5 (n : Int) (hm : bits BinOp.and .i64 n 7 = 5) (w : World) : Calls Tryz.prog 5 #[.int .i64 n] w fun e w' => e = .returned (.bool true) ∧ Below w.heap.size w w' := by
  have hA := awake15 w
  go_enter Tryz.func5, Tryz.ntmps5
  go_upto_region 4 with (go_at_call 11; refine hA.mono ?_; clear hA; rintro e w1 ⟨rfl, hb1⟩; have HB1 : Hid (Below w.heap.size w w1) := hb1; clear hb1)
  obtain ⟨W, hW⟩ : ∃ W, W = ((w1.alloc (.cells #[.string ⟨#[102]⟩, .bool false, .slice none 0 0, .int .i64 0, .int .i64 0, .int .i64 0, .slice none 0 0, .slice none 0 0, .slice none 0 0] 39)).alloc (.cells #[.string ⟨#[73]⟩, .bool true, .bool false, .int .i64 0, .slice none 0 0, .slice none 0 0, .slice none 0 0, .slice (some ⟨w1.heap.size, 0, none⟩) 1 1] 31)) := ⟨_, rfl⟩
  have HWz : Hid (W.heap.size ≤ w1.heap.size + 2 ∧ w1.heap.size + 2 ≤ W.heap.size) := by show _ ∧ _; rw [hW]; simp only [sz_al]; omega
  have HBW : Hid (Below w1.heap.size w1 W) := by rw [hW]; exact (((Below.refl _ _).alloc (Nat.le_refl _) _).alloc (by rw [sz_al]; omega) _)
  have h0 : W.heap[w1.heap.size]? = some (.cells #[.string ⟨#[102]⟩, .bool false, .slice none 0 0, .int .i64 0, .int .i64 0, .int .i64 0, .slice none 0 0, .slice none 0 0, .slice none 0 0] 39 (0, 0)) := by rw [hW]; exact (by (repeat (first | rw [hp_al] | rw [hp_sc] | rw [sz_al] | rw [sz_sc] | rw [if_neg (by omega)] | rw [if_pos (by omega)])); all_goals first | rfl | assumption)
  have h1 : W.heap[w1.heap.size + 1]? = some (.cells #[.string ⟨#[73]⟩, .bool true, .bool false, .int .i64 0, .slice none 0 0, .slice none 0 0, .slice none 0 0, .slice (some ⟨w1.heap.size, 0, none⟩) 1 1] 31 (0, 0)) := by rw [hW]; exact (by (repeat (first | rw [hp_al] | rw [hp_sc] | rw [sz_al] | rw [sz_sc] | rw [if_neg (by omega)] | rw [if_pos (by omega)])); all_goals first | rfl | assumption)
  have hwz := HWz.out
  rw [← hW]
  clear hW
  have hM : Calls Tryz.prog 14 #[.string ⟨#[102]⟩, .slice none 0 0, .int .i64 0] (W.alloc (.cells #[.int .i64 12] 3)) fun e w' => e = .returned (.agg #[.string ⟨#[102]⟩, .bool false, .slice none 0 0, .int .i64 0, .int .i64 1, .int .i64 0, .slice (some ⟨W.heap.size + 2, 0, none⟩) 1 1, .slice none 0 0, .slice none 0 0]) ∧ Below (W.heap.size + 1) (W.alloc (.cells #[.int .i64 12] 3)) w' ∧ W.heap.size + 3 ≤ w'.heap.size ∧ w'.heap[W.heap.size + 2]? = some (.cells #[.int .i64 29, .int .i64 0, .int .i64 0] 44 (0, 0)) := by
    have q := method_ok ⟨#[102]⟩ none 0 0 0 (by decide) (W.alloc (.cells #[.int .i64 12] 3))
    rw [sz_al] at q
    exact q
  have HX : Hid (∀ w2, Below (W.heap.size + 1) (W.alloc (.cells #[.int .i64 12] 3)) w2 → Below W.heap.size W w2 ∧ w2.heap[w1.heap.size]? = some (.cells #[.string ⟨#[102]⟩, .bool false, .slice none 0 0, .int .i64 0, .int .i64 0, .int .i64 0, .slice none 0 0, .slice none 0 0, .slice none 0 0] 39 (0, 0)) ∧ w2.heap[w1.heap.size + 1]? = some (.cells #[.string ⟨#[73]⟩, .bool true, .bool false, .int .i64 0, .slice none 0 0, .slice none 0 0, .slice none 0 0, .slice (some ⟨w1.heap.size, 0, none⟩) 1 1] 31 (0, 0)) ∧ w2.heap[W.heap.size]? = some (.cells #[.int .i64 12] 3 (0, 0))) := fun w2 hb => by
    have hq : W.heap.size ≤ W.heap.size + 1 := by omega
    have hb0 : Below W.heap.size W w2 := ((Below.refl _ _).alloc (Nat.le_refl _) _).trans (hb.mono hq)
    exact ⟨hb0, (hb0.block _ (by omega)).trans h0, (hb0.block _ (by omega)).trans h1, (hb.block _ (by omega)).trans (by (repeat (first | rw [hp_al] | rw [hp_sc] | rw [sz_al] | rw [sz_sc] | rw [if_neg (by omega)] | rw [if_pos (by omega)])); all_goals first | rfl | assumption)⟩
  clear h0 h1 hwz
  go_upto_region 5 with (go_at_call 14; refine hM.mono ?_; clear hM; rintro e w2 ⟨rfl, hb2, hz2, hc2⟩; have HZ2 : Hid _ := hz2; have HC2 : Hid _ := hc2; have HXX : Hid _ := HX.out w2 hb2; clear hb2 hz2 hc2)
  obtain ⟨hb0, h0, h1, h2⟩ := HXX.out
  have HB2 : Hid (Below W.heap.size W w2) := hb0
  have h3 := HC2.out
  have hz2 := HZ2.out
  have hwz := HWz.out
  obtain ⟨W5, hW5⟩ : ∃ X, X = ((w2.alloc (.cells #[.string ⟨#[102]⟩, .bool false, .slice none 0 0, .int .i64 0, .int .i64 1, .int .i64 0, .slice (some ⟨W.heap.size + 2, 0, none⟩) 1 1, .slice none 0 0, .slice none 0 0] 39)).alloc (.cells #[.string ⟨#[65]⟩, .bool false, .bool false, .int .i64 0, .slice (some ⟨W.heap.size, 0, none⟩) 1 1, .slice none 0 0, .slice none 0 0, .slice (some ⟨w2.heap.size, 0, none⟩) 1 1] 31)) := ⟨_, rfl⟩
  have hz5 : W5.heap.size ≤ w2.heap.size + 2 ∧ w2.heap.size + 2 ≤ W5.heap.size := by rw [hW5]; (repeat (first | rw [sz_al] | rw [sz_sc])); omega
  have g0 : W5.heap[w1.heap.size]? = some (.cells #[.string ⟨#[102]⟩, .bool false, .slice none 0 0, .int .i64 0, .int .i64 0, .int .i64 0, .slice none 0 0, .slice none 0 0, .slice none 0 0] 39 (0, 0)) := by rw [hW5]; exact (by (repeat (first | rw [hp_al] | rw [hp_sc] | rw [sz_al] | rw [sz_sc] | rw [if_neg (by omega)] | rw [if_pos (by omega)] | rw [h0] | rw [h1] | rw [h2] | rw [h3])); all_goals rfl)
  have g1 : W5.heap[w1.heap.size + 1]? = some (.cells #[.string ⟨#[73]⟩, .bool true, .bool false, .int .i64 0, .slice none 0 0, .slice none 0 0, .slice none 0 0, .slice (some ⟨w1.heap.size, 0, none⟩) 1 1] 31 (0, 0)) := by rw [hW5]; exact (by (repeat (first | rw [hp_al] | rw [hp_sc] | rw [sz_al] | rw [sz_sc] | rw [if_neg (by omega)] | rw [if_pos (by omega)] | rw [h0] | rw [h1] | rw [h2] | rw [h3])); all_goals rfl)
  have g2 : W5.heap[W.heap.size]? = some (.cells #[.int .i64 12] 3 (0, 0)) := by rw [hW5]; exact (by (repeat (first | rw [hp_al] | rw [hp_sc] | rw [sz_al] | rw [sz_sc] | rw [if_neg (by omega)] | rw [if_pos (by omega)] | rw [h0] | rw [h1] | rw [h2] | rw [h3])); all_goals rfl)
  have gi : W5.heap[W.heap.size + 2]? = some (.cells #[.int .i64 29, .int .i64 0, .int .i64 0] 44 (0, 0)) := by rw [hW5]; exact (by (repeat (first | rw [hp_al] | rw [hp_sc] | rw [sz_al] | rw [sz_sc] | rw [if_neg (by omega)] | rw [if_pos (by omega)] | rw [h0] | rw [h1] | rw [h2] | rw [h3])); all_goals rfl)
  have g3 : W5.heap[w2.heap.size]? = some (.cells #[.string ⟨#[102]⟩, .bool false, .slice none 0 0, .int .i64 0, .int .i64 1, .int .i64 0, .slice (some ⟨W.heap.size + 2, 0, none⟩) 1 1, .slice none 0 0, .slice none 0 0] 39 (0, 0)) := by rw [hW5]; exact (by (repeat (first | rw [hp_al] | rw [hp_sc] | rw [sz_al] | rw [sz_sc] | rw [if_neg (by omega)] | rw [if_pos (by omega)] | rw [h0] | rw [h1] | rw [h2] | rw [h3])); all_goals rfl)
  have g4 : W5.heap[w2.heap.size + 1]? = some (.cells #[.string ⟨#[65]⟩, .bool false, .bool false, .int .i64 0, .slice (some ⟨W.heap.size, 0, none⟩) 1 1, .slice none 0 0, .slice none 0 0, .slice (some ⟨w2.heap.size, 0, none⟩) 1 1] 31 (0, 0)) := by rw [hW5]; exact (by (repeat (first | rw [hp_al] | rw [hp_sc] | rw [sz_al] | rw [sz_sc] | rw [if_neg (by omega)] | rw [if_pos (by omega)] | rw [h0] | rw [h1] | rw [h2] | rw [h3])); all_goals rfl)
  have HB5w : Hid (Below w1.heap.size w2 W5) := ⟨by rw [hW5]; rfl, by rw [hW5]; rfl, by rw [hW5]; rfl, by omega, fun k hk => by rw [hW5]; (repeat (first | rw [hp_al] | rw [hp_sc] | rw [sz_al] | rw [sz_sc] | rw [if_neg (by omega)]))⟩
  rw [← hW5]
  clear hW5 h0 h1 h2 h3 hb0
  have p4 : (W5.alloc (.cells #[.int .i64 9] 3)).heap[w2.heap.size + 1]? = some (.cells #[.string ⟨#[65]⟩, .bool false, .bool false, .int .i64 0, .slice (some ⟨W.heap.size, 0, none⟩) 1 1, .slice none 0 0, .slice none 0 0, .slice (some ⟨w2.heap.size, 0, none⟩) 1 1] 31 (0, 0)) := (by (repeat (first | rw [hp_al] | rw [hp_sc] | rw [sz_al] | rw [sz_sc] | rw [if_neg (by omega)] | rw [if_pos (by omega)])); all_goals first | assumption)
  have x0 : (W5.alloc (.cells #[.int .i64 9] 3)).cell? ⟨w2.heap.size + 1, 0, none⟩ = _ := bxq_cell p4 rfl
  have x1 : (W5.alloc (.cells #[.int .i64 9] 3)).cell? ⟨w2.heap.size + 1, 1, none⟩ = _ := bxq_cell p4 rfl
  have x2 : (W5.alloc (.cells #[.int .i64 9] 3)).cell? ⟨w2.heap.size + 1, 2, none⟩ = _ := bxq_cell p4 rfl
  have x3 : (W5.alloc (.cells #[.int .i64 9] 3)).cell? ⟨w2.heap.size + 1, 3, none⟩ = _ := bxq_cell p4 rfl
  have x4 : (W5.alloc (.cells #[.int .i64 9] 3)).cell? ⟨w2.heap.size + 1, 4, none⟩ = _ := bxq_cell p4 rfl
  have x5 : (W5.alloc (.cells #[.int .i64 9] 3)).cell? ⟨w2.heap.size + 1, 5, none⟩ = _ := bxq_cell p4 rfl
  have x6 : (W5.alloc (.cells #[.int .i64 9] 3)).cell? ⟨w2.heap.size + 1, 6, none⟩ = _ := bxq_cell p4 rfl
  have x7 : (W5.alloc (.cells #[.int .i64 9] 3)).cell? ⟨w2.heap.size + 1, 7, none⟩ = _ := bxq_cell p4 rfl
  have fx : (W5.alloc (.cells #[.int .i64 9] 3)).frozen? ⟨w2.heap.size + 1, 4, none⟩ = false := (by simp [World.frozen?, p4])
  have n1 : ¬ w2.heap.size + 1 = W5.heap.size := by omega
  have G0 : Hid _ := g0
  have G1 : Hid _ := g1
  have G2 : Hid _ := g2
  have Gi : Hid _ := gi
  have G3 : Hid _ := g3
  have G4 : Hid _ := g4
  have HZ5 : Hid _ := hz5
  clear g0 g1 g2 gi g3 g4 hz5 hwz hz2 p4
  go_upto_region 20 with fail
  have g0 := G0.out
  have g1 := G1.out
  have g2 := G2.out
  have gi := Gi.out
  have g3 := G3.out
  have g4 := G4.out
  have hz5 := HZ5.out
  have hwz := HWz.out
  have hz2 := HZ2.out
  obtain ⟨W6, hW6⟩ : ∃ X, X = ((W5.alloc (.cells #[.int .i64 9] 3)).setCell ⟨w2.heap.size + 1, 4, none⟩ (.slice (some ⟨W5.heap.size, 0, none⟩) 1 1)) := ⟨_, rfl⟩
  have hz6 : W6.heap.size ≤ w2.heap.size + 3 ∧ w2.heap.size + 3 ≤ W6.heap.size := by rw [hW6]; (repeat (first | rw [sz_al] | rw [sz_sc])); omega
  have u0 : W6.heap[w1.heap.size]? = some (.cells #[.string ⟨#[102]⟩, .bool false, .slice none 0 0, .int .i64 0, .int .i64 0, .int .i64 0, .slice none 0 0, .slice none 0 0, .slice none 0 0] 39 (0, 0)) := by rw [hW6]; exact (by (repeat (first | rw [hp_al] | rw [hp_sc] | rw [sz_al] | rw [sz_sc] | rw [if_neg (by omega)] | rw [if_pos (by omega)] | rw [g0] | rw [g1] | rw [g2] | rw [gi] | rw [g3] | rw [g4])); all_goals rfl)
  have u1 : W6.heap[w1.heap.size + 1]? = some (.cells #[.string ⟨#[73]⟩, .bool true, .bool false, .int .i64 0, .slice none 0 0, .slice none 0 0, .slice none 0 0, .slice (some ⟨w1.heap.size, 0, none⟩) 1 1] 31 (0, 0)) := by rw [hW6]; exact (by (repeat (first | rw [hp_al] | rw [hp_sc] | rw [sz_al] | rw [sz_sc] | rw [if_neg (by omega)] | rw [if_pos (by omega)] | rw [g0] | rw [g1] | rw [g2] | rw [gi] | rw [g3] | rw [g4])); all_goals rfl)
  have u2 : W6.heap[W.heap.size]? = some (.cells #[.int .i64 12] 3 (0, 0)) := by rw [hW6]; exact (by (repeat (first | rw [hp_al] | rw [hp_sc] | rw [sz_al] | rw [sz_sc] | rw [if_neg (by omega)] | rw [if_pos (by omega)] | rw [g0] | rw [g1] | rw [g2] | rw [gi] | rw [g3] | rw [g4])); all_goals rfl)
  have ui : W6.heap[W.heap.size + 2]? = some (.cells #[.int .i64 29, .int .i64 0, .int .i64 0] 44 (0, 0)) := by rw [hW6]; exact (by (repeat (first | rw [hp_al] | rw [hp_sc] | rw [sz_al] | rw [sz_sc] | rw [if_neg (by omega)] | rw [if_pos (by omega)] | rw [g0] | rw [g1] | rw [g2] | rw [gi] | rw [g3] | rw [g4])); all_goals rfl)
  have u3 : W6.heap[w2.heap.size]? = some (.cells #[.string ⟨#[102]⟩, .bool false, .slice none 0 0, .int .i64 0, .int .i64 1, .int .i64 0, .slice (some ⟨W.heap.size + 2, 0, none⟩) 1 1, .slice none 0 0, .slice none 0 0] 39 (0, 0)) := by rw [hW6]; exact (by (repeat (first | rw [hp_al] | rw [hp_sc] | rw [sz_al] | rw [sz_sc] | rw [if_neg (by omega)] | rw [if_pos (by omega)] | rw [g0] | rw [g1] | rw [g2] | rw [gi] | rw [g3] | rw [g4])); all_goals rfl)
  have u4 : W6.heap[w2.heap.size + 1]? = some (.cells #[.string ⟨#[65]⟩, .bool false, .bool false, .int .i64 0, .slice (some ⟨W5.heap.size, 0, none⟩) 1 1, .slice none 0 0, .slice none 0 0, .slice (some ⟨w2.heap.size, 0, none⟩) 1 1] 31 (0, 0)) := by rw [hW6]; exact (by (repeat (first | rw [hp_al] | rw [hp_sc] | rw [sz_al] | rw [sz_sc] | rw [if_neg (by omega)] | rw [if_pos (by omega)] | rw [g0] | rw [g1] | rw [g2] | rw [gi] | rw [g3] | rw [g4])); all_goals rfl)
  have ue : W6.heap[W5.heap.size]? = some (.cells #[.int .i64 9] 3 (0, 0)) := by rw [hW6]; exact (by (repeat (first | rw [hp_al] | rw [hp_sc] | rw [sz_al] | rw [sz_sc] | rw [if_neg (by omega)] | rw [if_pos (by omega)] | rw [g0])); all_goals rfl)
  have HB6w : Hid (Below w1.heap.size W5 W6) := ⟨by rw [hW6]; rfl, by rw [hW6]; rfl, by rw [hW6]; rfl, by omega, fun k hk => by rw [hW6]; (repeat (first | rw [hp_al] | rw [hp_sc] | rw [sz_al] | rw [sz_sc] | rw [if_neg (by omega)]))⟩
  rw [← hW6]
  clear hW6 g0 g1 g2 gi g3 g4
  have z0 : W6.cell? ⟨w1.heap.size + 1, 0, none⟩ = _ := bxq_cell u1 rfl
  have y0 : W6.cell? ⟨w2.heap.size + 1, 0, none⟩ = _ := bxq_cell u4 rfl
  have z1 : W6.cell? ⟨w1.heap.size + 1, 1, none⟩ = _ := bxq_cell u1 rfl
  have y1 : W6.cell? ⟨w2.heap.size + 1, 1, none⟩ = _ := bxq_cell u4 rfl
  have z2 : W6.cell? ⟨w1.heap.size + 1, 2, none⟩ = _ := bxq_cell u1 rfl
  have y2 : W6.cell? ⟨w2.heap.size + 1, 2, none⟩ = _ := bxq_cell u4 rfl
  have z3 : W6.cell? ⟨w1.heap.size + 1, 3, none⟩ = _ := bxq_cell u1 rfl
  have y3 : W6.cell? ⟨w2.heap.size + 1, 3, none⟩ = _ := bxq_cell u4 rfl
  have z4 : W6.cell? ⟨w1.heap.size + 1, 4, none⟩ = _ := bxq_cell u1 rfl
  have y4 : W6.cell? ⟨w2.heap.size + 1, 4, none⟩ = _ := bxq_cell u4 rfl
  have z5 : W6.cell? ⟨w1.heap.size + 1, 5, none⟩ = _ := bxq_cell u1 rfl
  have y5 : W6.cell? ⟨w2.heap.size + 1, 5, none⟩ = _ := bxq_cell u4 rfl
  have z6 : W6.cell? ⟨w1.heap.size + 1, 6, none⟩ = _ := bxq_cell u1 rfl
  have y6 : W6.cell? ⟨w2.heap.size + 1, 6, none⟩ = _ := bxq_cell u4 rfl
  have z7 : W6.cell? ⟨w1.heap.size + 1, 7, none⟩ = _ := bxq_cell u1 rfl
  have y7 : W6.cell? ⟨w2.heap.size + 1, 7, none⟩ = _ := bxq_cell u4 rfl
  go_wp2_with (first
    | (go_at_call 12; refine (with_ok (S := fun k => k < w2.heap.size + 4) (xs := [facI false [] false [], facA 9]) (fun k (q : k < _) => (by repeat (first | rw [sz_al] | rw [sz_sc]); omega)) (by
        refine Sl.blk [[.string ⟨#[73]⟩, .bool true, .bool false, .int .i64 0, .slice none 0 0, .slice none 0 0, .slice none 0 0, .slice (some ⟨w1.heap.size, 0, none⟩) 1 1], [.string ⟨#[65]⟩, .bool false, .bool false, .int .i64 0, .slice (some ⟨W5.heap.size, 0, none⟩) 1 1, .slice none 0 0, .slice none 0 0, .slice (some ⟨w2.heap.size, 0, none⟩) 1 1]] (T := 31) (by (repeat (first | rw [hp_al] | rw [hp_sc] | rw [sz_al] | rw [sz_sc] | rw [if_neg (by omega)] | rw [if_pos (by omega)])); all_goals first | rfl | assumption) (show _ < _ by omega) rfl rfl rfl (by decide) fun i y r hy hr => ?_
        match i, hy, hr with
        | 0, hy, hr =>
            cases hy; cases hr
            refine ⟨_, _, _, _, rfl, Sl.nil _ _ _, Sl.nil _ _ _, Sl.nil _ _ _, ?_⟩
            · refine Sl.blk [[.string ⟨#[102]⟩, .bool false, .slice none 0 0, .int .i64 0, .int .i64 0, .int .i64 0, .slice none 0 0, .slice none 0 0, .slice none 0 0]] (T := 39) (by (repeat (first | rw [hp_al] | rw [hp_sc] | rw [sz_al] | rw [sz_sc] | rw [if_neg (by omega)] | rw [if_pos (by omega)])); all_goals first | rfl | assumption) (show _ < _ by omega) rfl rfl rfl (by decide) fun i y r hy hr => ?_
              match i, hy, hr with
              | 0, hy, hr =>
                cases hy; cases hr
                exact ⟨_, _, _, _, rfl, Sl.nil _ _ _, Sl.nil _ _ _, Sl.nil _ _ _, Sl.nil _ _ _⟩
        | 1, hy, hr =>
            cases hy; cases hr
            refine ⟨_, _, _, _, rfl, ?_, Sl.nil _ _ _, Sl.nil _ _ _, ?_⟩
            · refine Sl.blk [[.int .i64 9]] (T := 3) (by (repeat (first | rw [hp_al] | rw [hp_sc] | rw [sz_al] | rw [sz_sc] | rw [if_neg (by omega)] | rw [if_pos (by omega)])); all_goals first | rfl | assumption) (show _ < _ by omega) rfl rfl rfl (by decide) fun i y r hy hr => ?_
              match i, hy, hr with
              | 0, hy, hr => cases hy; cases hr; rfl
            · refine Sl.blk [[.string ⟨#[102]⟩, .bool false, .slice none 0 0, .int .i64 0, .int .i64 1, .int .i64 0, .slice (some ⟨W.heap.size + 2, 0, none⟩) 1 1, .slice none 0 0, .slice none 0 0]] (T := 39) (by (repeat (first | rw [hp_al] | rw [hp_sc] | rw [sz_al] | rw [sz_sc] | rw [if_neg (by omega)] | rw [if_pos (by omega)])); all_goals first | rfl | assumption) (show _ < _ by omega) rfl rfl rfl (by decide) fun i y r hy hr => ?_
              match i, hy, hr with
              | 0, hy, hr =>
                cases hy; cases hr
                refine ⟨_, _, _, _, rfl, Sl.nil _ _ _, ?_, Sl.nil _ _ _, Sl.nil _ _ _⟩
                refine Sl.blk [[.int .i64 29, .int .i64 0, .int .i64 0]] (T := 44) (by (repeat (first | rw [hp_al] | rw [hp_sc] | rw [sz_al] | rw [sz_sc] | rw [if_neg (by omega)] | rw [if_pos (by omega)])); all_goals first | rfl | assumption) (show _ < _ by omega) rfl rfl rfl (by decide) fun i y r hy hr => ?_
                match i, hy, hr with
                | 0, hy, hr => cases hy; cases hr; rfl
        ) (by decide) (by decide)).mono ?_; rintro e w5 ⟨g, c, rfl, hb5, S', hS', hs⟩; have HB5 : Hid (Below w1.heap.size W6 w5) := ((Below.refl _ _).alloc (by omega) _).trans (hb5.mono (by rw [sz_al]; omega)); have hF := faults_err (w := w5) (S := S') (p := facP5) facO5 hS' hs (by decide) facJ5; clear hb5 hS' hs)
    | (go_at_call 13; refine hF.mono ?_; clear hF; rintro e w6 ⟨rfl, hb6⟩; have HB6 : Hid (Below w1.heap.size W6 w6) := HB5.out.trans (hb6.mono (by have := HB5.out.size; omega)); clear hb6))
  go_ret
  exact ⟨rfl, HB1.out.trans (((((HBW.out.trans (HB2.out.mono (by omega))).trans HB5w.out).trans HB6w.out).trans HB6.out).mono HB1.out.size)⟩
def facP6 : Pg := ⟨11, [tinyC, facI false [] false [], facA 12]⟩
theorem facO6 : Okl facP6 := okl_of (by kernel_rfl)
theorem facJ6 : loadJ facP6 = .ok (allJ facP6) := by kernel_rfl
set_option maxRecDepth 20000 in
set_option maxHeartbeats 8000000 in
theorem faces_6 (n : Int) (hm : bits BinOp.and .i64 n 7 = 6) (w : World) : Calls Tryz.prog 5 #[.int .i64 n] w fun e w' => e = .returned (.bool true) ∧ Below w.heap.size w w' := by
  have hA := awake15 w
  go_enter Tryz.func5, Tryz.ntmps5
  go_upto_region 4 with (go_at_call 11; refine hA.mono ?_; clear hA; rintro e w1 ⟨rfl, hb1⟩; have HB1 : Hid (Below w.heap.size w w1) := hb1; clear hb1)
  obtain ⟨W, hW⟩ : ∃ W, W = ((w1.alloc (.cells #[.string ⟨#[102]⟩, .bool false, .slice none 0 0, .int .i64 0, .int .i64 0, .int .i64 0, .slice none 0 0, .slice none 0 0, .slice none 0 0] 39)).alloc (.cells #[.string ⟨#[73]⟩, .bool true, .bool false, .int .i64 0, .slice none 0 0, .slice none 0 0, .slice none 0 0, .slice (some ⟨w1.heap.size, 0, none⟩) 1 1] 31)) := ⟨_, rfl⟩
  have HWz : Hid (W.heap.size ≤ w1.heap.size + 2 ∧ w1.heap.size + 2 ≤ W.heap.size) := by show _ ∧ _; rw [hW]; simp only [sz_al]; omega
  have HBW : Hid (Below w1.heap.size w1 W) := by rw [hW]; exact (((Below.refl _ _).alloc (Nat.le_refl _) _).alloc (by rw [sz_al]; omega) _)
  have h0 : W.heap[w1.heap.size]? = some (.cells #[.string ⟨#[102]⟩, .bool false, .slice none 0 0, .int .i64 0, .int .i64 0, .int .i64 0, .slice none 0 0, .slice none 0 0, .slice none 0 0] 39 (0, 0)) := by rw [hW]; exact (by (repeat (first | rw [hp_al] | rw [hp_sc] | rw [sz_al] | rw [sz_sc] | rw [if_neg (by omega)] | rw [if_pos (by omega)])); all_goals first | rfl | assumption)
  have h1 : W.heap[w1.heap.size + 1]? = some (.cells #[.string ⟨#[73]⟩, .bool true, .bool false, .int .i64 0, .slice none 0 0, .slice none 0 0, .slice none 0 0, .slice (some ⟨w1.heap.size, 0, none⟩) 1 1] 31 (0, 0)) := by rw [hW]; exact (by (repeat (first | rw [hp_al] | rw [hp_sc] | rw [sz_al] | rw [sz_sc] | rw [if_neg (by omega)] | rw [if_pos (by omega)])); all_goals first | rfl | assumption)
  have hwz := HWz.out
  rw [← hW]
  clear hW
  have hM : Calls Tryz.prog 14 #[.string ⟨#[102]⟩, .slice none 0 0, .int .i64 0] (W.alloc (.cells #[.int .i64 12] 3)) fun e w' => e = .returned (.agg #[.string ⟨#[102]⟩, .bool false, .slice none 0 0, .int .i64 0, .int .i64 1, .int .i64 0, .slice (some ⟨W.heap.size + 2, 0, none⟩) 1 1, .slice none 0 0, .slice none 0 0]) ∧ Below (W.heap.size + 1) (W.alloc (.cells #[.int .i64 12] 3)) w' ∧ W.heap.size + 3 ≤ w'.heap.size ∧ w'.heap[W.heap.size + 2]? = some (.cells #[.int .i64 29, .int .i64 0, .int .i64 0] 44 (0, 0)) := by
    have q := method_ok ⟨#[102]⟩ none 0 0 0 (by decide) (W.alloc (.cells #[.int .i64 12] 3))
    rw [sz_al] at q
    exact q
  have HX : Hid (∀ w2, Below (W.heap.size + 1) (W.alloc (.cells #[.int .i64 12] 3)) w2 → Below W.heap.size W w2 ∧ w2.heap[w1.heap.size]? = some (.cells #[.string ⟨#[102]⟩, .bool false, .slice none 0 0, .int .i64 0, .int .i64 0, .int .i64 0, .slice none 0 0, .slice none 0 0, .slice none 0 0] 39 (0, 0)) ∧ w2.heap[w1.heap.size + 1]? = some (.cells #[.string ⟨#[73]⟩, .bool true, .bool false, .int .i64 0, .slice none 0 0, .slice none 0 0, .slice none 0 0, .slice (some ⟨w1.heap.size, 0, none⟩) 1 1] 31 (0, 0)) ∧ w2.heap[W.heap.size]? = some (.cells #[.int .i64 12] 3 (0, 0))) := fun w2 hb => by
    have hq : W.heap.size ≤ W.heap.size + 1 := by omega
    have hb0 : Below W.heap.size W w2 := ((Below.refl _ _).alloc (Nat.le_refl _) _).trans (hb.mono hq)
    exact ⟨hb0, (hb0.block _ (by omega)).trans h0, (hb0.block _ (by omega)).trans h1, (hb.block _ (by omega)).trans (by (repeat (first | rw [hp_al] | rw [hp_sc] | rw [sz_al] | rw [sz_sc] | rw [if_neg (by omega)] | rw [if_pos (by omega)])); all_goals first | rfl | assumption)⟩
  clear h0 h1 hwz
  go_upto_region 5 with (go_at_call 14; refine hM.mono ?_; clear hM; rintro e w2 ⟨rfl, hb2, hz2, hc2⟩; have HZ2 : Hid _ := hz2; have HC2 : Hid _ := hc2; have HXX : Hid _ := HX.out w2 hb2; clear hb2 hz2 hc2)
  obtain ⟨hb0, h0, h1, h2⟩ := HXX.out
  have HB2 : Hid (Below W.heap.size W w2) := hb0
  have h3 := HC2.out
  have hz2 := HZ2.out
  have hwz := HWz.out
  obtain ⟨W5, hW5⟩ : ∃ X, X = ((w2.alloc (.cells #[.string ⟨#[102]⟩, .bool false, .slice none 0 0, .int .i64 0, .int .i64 1, .int .i64 0, .slice (some ⟨W.heap.size + 2, 0, none⟩) 1 1, .slice none 0 0, .slice none 0 0] 39)).alloc (.cells #[.string ⟨#[65]⟩, .bool false, .bool false, .int .i64 0, .slice (some ⟨W.heap.size, 0, none⟩) 1 1, .slice none 0 0, .slice none 0 0, .slice (some ⟨w2.heap.size, 0, none⟩) 1 1] 31)) := ⟨_, rfl⟩
  have hz5 : W5.heap.size ≤ w2.heap.size + 2 ∧ w2.heap.size + 2 ≤ W5.heap.size := by rw [hW5]; (repeat (first | rw [sz_al] | rw [sz_sc])); omega
  have g0 : W5.heap[w1.heap.size]? = some (.cells #[.string ⟨#[102]⟩, .bool false, .slice none 0 0, .int .i64 0, .int .i64 0, .int .i64 0, .slice none 0 0, .slice none 0 0, .slice none 0 0] 39 (0, 0)) := by rw [hW5]; exact (by (repeat (first | rw [hp_al] | rw [hp_sc] | rw [sz_al] | rw [sz_sc] | rw [if_neg (by omega)] | rw [if_pos (by omega)] | rw [h0] | rw [h1] | rw [h2] | rw [h3])); all_goals rfl)
  have g1 : W5.heap[w1.heap.size + 1]? = some (.cells #[.string ⟨#[73]⟩, .bool true, .bool false, .int .i64 0, .slice none 0 0, .slice none 0 0, .slice none 0 0, .slice (some ⟨w1.heap.size, 0, none⟩) 1 1] 31 (0, 0)) := by rw [hW5]; exact (by (repeat (first | rw [hp_al] | rw [hp_sc] | rw [sz_al] | rw [sz_sc] | rw [if_neg (by omega)] | rw [if_pos (by omega)] | rw [h0] | rw [h1] | rw [h2] | rw [h3])); all_goals rfl)
  have g2 : W5.heap[W.heap.size]? = some (.cells #[.int .i64 12] 3 (0, 0)) := by rw [hW5]; exact (by (repeat (first | rw [hp_al] | rw [hp_sc] | rw [sz_al] | rw [sz_sc] | rw [if_neg (by omega)] | rw [if_pos (by omega)] | rw [h0] | rw [h1] | rw [h2] | rw [h3])); all_goals rfl)
  have gi : W5.heap[W.heap.size + 2]? = some (.cells #[.int .i64 29, .int .i64 0, .int .i64 0] 44 (0, 0)) := by rw [hW5]; exact (by (repeat (first | rw [hp_al] | rw [hp_sc] | rw [sz_al] | rw [sz_sc] | rw [if_neg (by omega)] | rw [if_pos (by omega)] | rw [h0] | rw [h1] | rw [h2] | rw [h3])); all_goals rfl)
  have g3 : W5.heap[w2.heap.size]? = some (.cells #[.string ⟨#[102]⟩, .bool false, .slice none 0 0, .int .i64 0, .int .i64 1, .int .i64 0, .slice (some ⟨W.heap.size + 2, 0, none⟩) 1 1, .slice none 0 0, .slice none 0 0] 39 (0, 0)) := by rw [hW5]; exact (by (repeat (first | rw [hp_al] | rw [hp_sc] | rw [sz_al] | rw [sz_sc] | rw [if_neg (by omega)] | rw [if_pos (by omega)] | rw [h0] | rw [h1] | rw [h2] | rw [h3])); all_goals rfl)
  have g4 : W5.heap[w2.heap.size + 1]? = some (.cells #[.string ⟨#[65]⟩, .bool false, .bool false, .int .i64 0, .slice (some ⟨W.heap.size, 0, none⟩) 1 1, .slice none 0 0, .slice none 0 0, .slice (some ⟨w2.heap.size, 0, none⟩) 1 1] 31 (0, 0)) := by rw [hW5]; exact (by (repeat (first | rw [hp_al] | rw [hp_sc] | rw [sz_al] | rw [sz_sc] | rw [if_neg (by omega)] | rw [if_pos (by omega)] | rw [h0] | rw [h1] | rw [h2] | rw [h3])); all_goals rfl)
  have HB5w : Hid (Below w1.heap.size w2 W5) := ⟨by rw [hW5]; rfl, by rw [hW5]; rfl, by rw [hW5]; rfl, by omega, fun k hk => by rw [hW5]; (repeat (first | rw [hp_al] | rw [hp_sc] | rw [sz_al] | rw [sz_sc] | rw [if_neg (by omega)]))⟩
  rw [← hW5]
  clear hW5 h0 h1 h2 h3 hb0
  obtain ⟨W6, hW6⟩ : ∃ X, X = W5 := ⟨_, rfl⟩
  have hz6 : W6.heap.size ≤ w2.heap.size + 2 ∧ w2.heap.size + 2 ≤ W6.heap.size := by rw [hW6]; exact hz5
  have u0 : W6.heap[w1.heap.size]? = some (.cells #[.string ⟨#[102]⟩, .bool false, .slice none 0 0, .int .i64 0, .int .i64 0, .int .i64 0, .slice none 0 0, .slice none 0 0, .slice none 0 0] 39 (0, 0)) := by rw [hW6]; exact g0
  have u1 : W6.heap[w1.heap.size + 1]? = some (.cells #[.string ⟨#[73]⟩, .bool true, .bool false, .int .i64 0, .slice none 0 0, .slice none 0 0, .slice none 0 0, .slice (some ⟨w1.heap.size, 0, none⟩) 1 1] 31 (0, 0)) := by rw [hW6]; exact g1
  have u2 : W6.heap[W.heap.size]? = some (.cells #[.int .i64 12] 3 (0, 0)) := by rw [hW6]; exact g2
  have ui : W6.heap[W.heap.size + 2]? = some (.cells #[.int .i64 29, .int .i64 0, .int .i64 0] 44 (0, 0)) := by rw [hW6]; exact gi
  have u3 : W6.heap[w2.heap.size]? = some (.cells #[.string ⟨#[102]⟩, .bool false, .slice none 0 0, .int .i64 0, .int .i64 1, .int .i64 0, .slice (some ⟨W.heap.size + 2, 0, none⟩) 1 1, .slice none 0 0, .slice none 0 0] 39 (0, 0)) := by rw [hW6]; exact g3
  have u4 : W6.heap[w2.heap.size + 1]? = some (.cells #[.string ⟨#[65]⟩, .bool false, .bool false, .int .i64 0, .slice (some ⟨W.heap.size, 0, none⟩) 1 1, .slice none 0 0, .slice none 0 0, .slice (some ⟨w2.heap.size, 0, none⟩) 1 1] 31 (0, 0)) := by rw [hW6]; exact g4
  have HB6w : Hid (Below w1.heap.size W5 W6) := by rw [hW6]; exact Below.refl _ _
  rw [← hW6]
  clear hW6 g0 g1 g2 gi g3 g4
  go_upto_region 6 with fail
  have z0 : W6.cell? ⟨w1.heap.size + 1, 0, none⟩ = _ := bxq_cell u1 rfl
  have y0 : W6.cell? ⟨w2.heap.size + 1, 0, none⟩ = _ := bxq_cell u4 rfl
  have z1 : W6.cell? ⟨w1.heap.size + 1, 1, none⟩ = _ := bxq_cell u1 rfl
  have y1 : W6.cell? ⟨w2.heap.size + 1, 1, none⟩ = _ := bxq_cell u4 rfl
  have z2 : W6.cell? ⟨w1.heap.size + 1, 2, none⟩ = _ := bxq_cell u1 rfl
  have y2 : W6.cell? ⟨w2.heap.size + 1, 2, none⟩ = _ := bxq_cell u4 rfl
  have z3 : W6.cell? ⟨w1.heap.size + 1, 3, none⟩ = _ := bxq_cell u1 rfl
  have y3 : W6.cell? ⟨w2.heap.size + 1, 3, none⟩ = _ := bxq_cell u4 rfl
  have z4 : W6.cell? ⟨w1.heap.size + 1, 4, none⟩ = _ := bxq_cell u1 rfl
  have y4 : W6.cell? ⟨w2.heap.size + 1, 4, none⟩ = _ := bxq_cell u4 rfl
  have z5 : W6.cell? ⟨w1.heap.size + 1, 5, none⟩ = _ := bxq_cell u1 rfl
  have y5 : W6.cell? ⟨w2.heap.size + 1, 5, none⟩ = _ := bxq_cell u4 rfl
  have z6 : W6.cell? ⟨w1.heap.size + 1, 6, none⟩ = _ := bxq_cell u1 rfl
  have y6 : W6.cell? ⟨w2.heap.size + 1, 6, none⟩ = _ := bxq_cell u4 rfl
  have z7 : W6.cell? ⟨w1.heap.size + 1, 7, none⟩ = _ := bxq_cell u1 rfl
  have y7 : W6.cell? ⟨w2.heap.size + 1, 7, none⟩ = _ := bxq_cell u4 rfl
  go_wp2_with (first
    | (go_at_call 12; refine (with_ok (S := fun k => k < w2.heap.size + 3) (xs := [facI false [] false [], facA 12]) (fun k (q : k < _) => (by repeat (first | rw [sz_al] | rw [sz_sc]); omega)) (by
        refine Sl.blk [[.string ⟨#[73]⟩, .bool true, .bool false, .int .i64 0, .slice none 0 0, .slice none 0 0, .slice none 0 0, .slice (some ⟨w1.heap.size, 0, none⟩) 1 1], [.string ⟨#[65]⟩, .bool false, .bool false, .int .i64 0, .slice (some ⟨W.heap.size, 0, none⟩) 1 1, .slice none 0 0, .slice none 0 0, .slice (some ⟨w2.heap.size, 0, none⟩) 1 1]] (T := 31) (by (repeat (first | rw [hp_al] | rw [hp_sc] | rw [sz_al] | rw [sz_sc] | rw [if_neg (by omega)] | rw [if_pos (by omega)])); all_goals first | rfl | assumption) (show _ < _ by omega) rfl rfl rfl (by decide) fun i y r hy hr => ?_
        match i, hy, hr with
        | 0, hy, hr =>
            cases hy; cases hr
            refine ⟨_, _, _, _, rfl, Sl.nil _ _ _, Sl.nil _ _ _, Sl.nil _ _ _, ?_⟩
            · refine Sl.blk [[.string ⟨#[102]⟩, .bool false, .slice none 0 0, .int .i64 0, .int .i64 0, .int .i64 0, .slice none 0 0, .slice none 0 0, .slice none 0 0]] (T := 39) (by (repeat (first | rw [hp_al] | rw [hp_sc] | rw [sz_al] | rw [sz_sc] | rw [if_neg (by omega)] | rw [if_pos (by omega)])); all_goals first | rfl | assumption) (show _ < _ by omega) rfl rfl rfl (by decide) fun i y r hy hr => ?_
              match i, hy, hr with
              | 0, hy, hr =>
                cases hy; cases hr
                exact ⟨_, _, _, _, rfl, Sl.nil _ _ _, Sl.nil _ _ _, Sl.nil _ _ _, Sl.nil _ _ _⟩
        | 1, hy, hr =>
            cases hy; cases hr
            refine ⟨_, _, _, _, rfl, ?_, Sl.nil _ _ _, Sl.nil _ _ _, ?_⟩
            · refine Sl.blk [[.int .i64 12]] (T := 3) (by (repeat (first | rw [hp_al] | rw [hp_sc] | rw [sz_al] | rw [sz_sc] | rw [if_neg (by omega)] | rw [if_pos (by omega)])); all_goals first | rfl | assumption) (show _ < _ by omega) rfl rfl rfl (by decide) fun i y r hy hr => ?_
              match i, hy, hr with
              | 0, hy, hr => cases hy; cases hr; rfl
            · refine Sl.blk [[.string ⟨#[102]⟩, .bool false, .slice none 0 0, .int .i64 0, .int .i64 1, .int .i64 0, .slice (some ⟨W.heap.size + 2, 0, none⟩) 1 1, .slice none 0 0, .slice none 0 0]] (T := 39) (by (repeat (first | rw [hp_al] | rw [hp_sc] | rw [sz_al] | rw [sz_sc] | rw [if_neg (by omega)] | rw [if_pos (by omega)])); all_goals first | rfl | assumption) (show _ < _ by omega) rfl rfl rfl (by decide) fun i y r hy hr => ?_
              match i, hy, hr with
              | 0, hy, hr =>
                cases hy; cases hr
                refine ⟨_, _, _, _, rfl, Sl.nil _ _ _, ?_, Sl.nil _ _ _, Sl.nil _ _ _⟩
                refine Sl.blk [[.int .i64 29, .int .i64 0, .int .i64 0]] (T := 44) (by (repeat (first | rw [hp_al] | rw [hp_sc] | rw [sz_al] | rw [sz_sc] | rw [if_neg (by omega)] | rw [if_pos (by omega)])); all_goals first | rfl | assumption) (show _ < _ by omega) rfl rfl rfl (by decide) fun i y r hy hr => ?_
                match i, hy, hr with
                | 0, hy, hr => cases hy; cases hr; rfl
        ) (by decide) (by decide)).mono ?_; rintro e w5 ⟨g, c, rfl, hb5, S', hS', hs⟩; have HB5 : Hid (Below w1.heap.size W6 w5) := ((Below.refl _ _).alloc (by omega) _).trans (hb5.mono (by rw [sz_al]; omega)); have hF := faults_yes (w := w5) (S := S') (p := facP6) facO6 hS' hs facJ6; clear hb5 hS' hs)
    | (go_at_call 13; refine hF.mono ?_; clear hF; rintro e w6 ⟨rfl, hb6⟩; have HB6 : Hid (Below w1.heap.size W6 w6) := HB5.out.trans (hb6.mono (by have := HB5.out.size; omega)); clear hb6))
  go_ret
  exact ⟨rfl, HB1.out.trans (((((HBW.out.trans (HB2.out.mono (by omega))).trans HB5w.out).trans HB6w.out).trans HB6.out).mono HB1.out.size)⟩
def facP7 : Pg := ⟨11, [tinyC, facI false [] false [], facA 12]⟩
theorem facO7 : Okl facP7 := okl_of (by kernel_rfl)
theorem facJ7 : loadJ facP7 = .ok (allJ facP7) := by kernel_rfl
set_option maxRecDepth 20000 in
set_option maxHeartbeats 8000000 in
theorem faces_7 (n : Int) (hm : bits BinOp.and .i64 n 7 = 7) (w : World) : Calls Tryz.prog 5 #[.int .i64 n] w fun e w' => e = .returned (.bool true) ∧ Below w.heap.size w w' := by
  have hA := awake15 w
  go_enter Tryz.func5, Tryz.ntmps5
  go_upto_region 4 with (go_at_call 11; refine hA.mono ?_; clear hA; rintro e w1 ⟨rfl, hb1⟩; have HB1 : Hid (Below w.heap.size w w1) := hb1; clear hb1)
  obtain ⟨W, hW⟩ : ∃ W, W = ((w1.alloc (.cells #[.string ⟨#[102]⟩, .bool false, .slice none 0 0, .int .i64 0, .int .i64 0, .int .i64 0, .slice none 0 0, .slice none 0 0, .slice none 0 0] 39)).alloc (.cells #[.string ⟨#[73]⟩, .bool true, .bool false, .int .i64 0, .slice none 0 0, .slice none 0 0, .slice none 0 0, .slice (some ⟨w1.heap.size, 0, none⟩) 1 1] 31)) := ⟨_, rfl⟩
  have HWz : Hid (W.heap.size ≤ w1.heap.size + 2 ∧ w1.heap.size + 2 ≤ W.heap.size) := by show _ ∧ _; rw [hW]; simp only [sz_al]; omega
  have HBW : Hid (Below w1.heap.size w1 W) := by rw [hW]; exact (((Below.refl _ _).alloc (Nat.le_refl _) _).alloc (by rw [sz_al]; omega) _)
  have h0 : W.heap[w1.heap.size]? = some (.cells #[.string ⟨#[102]⟩, .bool false, .slice none 0 0, .int .i64 0, .int .i64 0, .int .i64 0, .slice none 0 0, .slice none 0 0, .slice none 0 0] 39 (0, 0)) := by rw [hW]; exact (by (repeat (first | rw [hp_al] | rw [hp_sc] | rw [sz_al] | rw [sz_sc] | rw [if_neg (by omega)] | rw [if_pos (by omega)])); all_goals first | rfl | assumption)
  have h1 : W.heap[w1.heap.size + 1]? = some (.cells #[.string ⟨#[73]⟩, .bool true, .bool false, .int .i64 0, .slice none 0 0, .slice none 0 0, .slice none 0 0, .slice (some ⟨w1.heap.size, 0, none⟩) 1 1] 31 (0, 0)) := by rw [hW]; exact (by (repeat (first | rw [hp_al] | rw [hp_sc] | rw [sz_al] | rw [sz_sc] | rw [if_neg (by omega)] | rw [if_pos (by omega)])); all_goals first | rfl | assumption)
  have hwz := HWz.out
  rw [← hW]
  clear hW
  have hM : Calls Tryz.prog 14 #[.string ⟨#[102]⟩, .slice none 0 0, .int .i64 0] (W.alloc (.cells #[.int .i64 12] 3)) fun e w' => e = .returned (.agg #[.string ⟨#[102]⟩, .bool false, .slice none 0 0, .int .i64 0, .int .i64 1, .int .i64 0, .slice (some ⟨W.heap.size + 2, 0, none⟩) 1 1, .slice none 0 0, .slice none 0 0]) ∧ Below (W.heap.size + 1) (W.alloc (.cells #[.int .i64 12] 3)) w' ∧ W.heap.size + 3 ≤ w'.heap.size ∧ w'.heap[W.heap.size + 2]? = some (.cells #[.int .i64 29, .int .i64 0, .int .i64 0] 44 (0, 0)) := by
    have q := method_ok ⟨#[102]⟩ none 0 0 0 (by decide) (W.alloc (.cells #[.int .i64 12] 3))
    rw [sz_al] at q
    exact q
  have HX : Hid (∀ w2, Below (W.heap.size + 1) (W.alloc (.cells #[.int .i64 12] 3)) w2 → Below W.heap.size W w2 ∧ w2.heap[w1.heap.size]? = some (.cells #[.string ⟨#[102]⟩, .bool false, .slice none 0 0, .int .i64 0, .int .i64 0, .int .i64 0, .slice none 0 0, .slice none 0 0, .slice none 0 0] 39 (0, 0)) ∧ w2.heap[w1.heap.size + 1]? = some (.cells #[.string ⟨#[73]⟩, .bool true, .bool false, .int .i64 0, .slice none 0 0, .slice none 0 0, .slice none 0 0, .slice (some ⟨w1.heap.size, 0, none⟩) 1 1] 31 (0, 0)) ∧ w2.heap[W.heap.size]? = some (.cells #[.int .i64 12] 3 (0, 0))) := fun w2 hb => by
    have hq : W.heap.size ≤ W.heap.size + 1 := by omega
    have hb0 : Below W.heap.size W w2 := ((Below.refl _ _).alloc (Nat.le_refl _) _).trans (hb.mono hq)
    exact ⟨hb0, (hb0.block _ (by omega)).trans h0, (hb0.block _ (by omega)).trans h1, (hb.block _ (by omega)).trans (by (repeat (first | rw [hp_al] | rw [hp_sc] | rw [sz_al] | rw [sz_sc] | rw [if_neg (by omega)] | rw [if_pos (by omega)])); all_goals first | rfl | assumption)⟩
  clear h0 h1 hwz
  go_upto_region 5 with (go_at_call 14; refine hM.mono ?_; clear hM; rintro e w2 ⟨rfl, hb2, hz2, hc2⟩; have HZ2 : Hid _ := hz2; have HC2 : Hid _ := hc2; have HXX : Hid _ := HX.out w2 hb2; clear hb2 hz2 hc2)
  obtain ⟨hb0, h0, h1, h2⟩ := HXX.out
  have HB2 : Hid (Below W.heap.size W w2) := hb0
  have h3 := HC2.out
  have hz2 := HZ2.out
  have hwz := HWz.out
  obtain ⟨W5, hW5⟩ : ∃ X, X = ((w2.alloc (.cells #[.string ⟨#[102]⟩, .bool false, .slice none 0 0, .int .i64 0, .int .i64 1, .int .i64 0, .slice (some ⟨W.heap.size + 2, 0, none⟩) 1 1, .slice none 0 0, .slice none 0 0] 39)).alloc (.cells #[.string ⟨#[65]⟩, .bool false, .bool false, .int .i64 0, .slice (some ⟨W.heap.size, 0, none⟩) 1 1, .slice none 0 0, .slice none 0 0, .slice (some ⟨w2.heap.size, 0, none⟩) 1 1] 31)) := ⟨_, rfl⟩
  have hz5 : W5.heap.size ≤ w2.heap.size + 2 ∧ w2.heap.size + 2 ≤ W5.heap.size := by rw [hW5]; (repeat (first | rw [sz_al] | rw [sz_sc])); omega
  have g0 : W5.heap[w1.heap.size]? = some (.cells #[.string ⟨#[102]⟩, .bool false, .slice none 0 0, .int .i64 0, .int .i64 0, .int .i64 0, .slice none 0 0, .slice none 0 0, .slice none 0 0] 39 (0, 0)) := by rw [hW5]; exact (by (repeat (first | rw [hp_al] | rw [hp_sc] | rw [sz_al] | rw [sz_sc] | rw [if_neg (by omega)] | rw [if_pos (by omega)] | rw [h0] | rw [h1] | rw [h2] | rw [h3])); all_goals rfl)
  have g1 : W5.heap[w1.heap.size + 1]? = some (.cells #[.string ⟨#[73]⟩, .bool true, .bool false, .int .i64 0, .slice none 0 0, .slice none 0 0, .slice none 0 0, .slice (some ⟨w1.heap.size, 0, none⟩) 1 1] 31 (0, 0)) := by rw [hW5]; exact (by (repeat (first | rw [hp_al] | rw [hp_sc] | rw [sz_al] | rw [sz_sc] | rw [if_neg (by omega)] | rw [if_pos (by omega)] | rw [h0] | rw [h1] | rw [h2] | rw [h3])); all_goals rfl)
  have g2 : W5.heap[W.heap.size]? = some (.cells #[.int .i64 12] 3 (0, 0)) := by rw [hW5]; exact (by (repeat (first | rw [hp_al] | rw [hp_sc] | rw [sz_al] | rw [sz_sc] | rw [if_neg (by omega)] | rw [if_pos (by omega)] | rw [h0] | rw [h1] | rw [h2] | rw [h3])); all_goals rfl)
  have gi : W5.heap[W.heap.size + 2]? = some (.cells #[.int .i64 29, .int .i64 0, .int .i64 0] 44 (0, 0)) := by rw [hW5]; exact (by (repeat (first | rw [hp_al] | rw [hp_sc] | rw [sz_al] | rw [sz_sc] | rw [if_neg (by omega)] | rw [if_pos (by omega)] | rw [h0] | rw [h1] | rw [h2] | rw [h3])); all_goals rfl)
  have g3 : W5.heap[w2.heap.size]? = some (.cells #[.string ⟨#[102]⟩, .bool false, .slice none 0 0, .int .i64 0, .int .i64 1, .int .i64 0, .slice (some ⟨W.heap.size + 2, 0, none⟩) 1 1, .slice none 0 0, .slice none 0 0] 39 (0, 0)) := by rw [hW5]; exact (by (repeat (first | rw [hp_al] | rw [hp_sc] | rw [sz_al] | rw [sz_sc] | rw [if_neg (by omega)] | rw [if_pos (by omega)] | rw [h0] | rw [h1] | rw [h2] | rw [h3])); all_goals rfl)
  have g4 : W5.heap[w2.heap.size + 1]? = some (.cells #[.string ⟨#[65]⟩, .bool false, .bool false, .int .i64 0, .slice (some ⟨W.heap.size, 0, none⟩) 1 1, .slice none 0 0, .slice none 0 0, .slice (some ⟨w2.heap.size, 0, none⟩) 1 1] 31 (0, 0)) := by rw [hW5]; exact (by (repeat (first | rw [hp_al] | rw [hp_sc] | rw [sz_al] | rw [sz_sc] | rw [if_neg (by omega)] | rw [if_pos (by omega)] | rw [h0] | rw [h1] | rw [h2] | rw [h3])); all_goals rfl)
  have HB5w : Hid (Below w1.heap.size w2 W5) := ⟨by rw [hW5]; rfl, by rw [hW5]; rfl, by rw [hW5]; rfl, by omega, fun k hk => by rw [hW5]; (repeat (first | rw [hp_al] | rw [hp_sc] | rw [sz_al] | rw [sz_sc] | rw [if_neg (by omega)]))⟩
  rw [← hW5]
  clear hW5 h0 h1 h2 h3 hb0
  obtain ⟨W6, hW6⟩ : ∃ X, X = W5 := ⟨_, rfl⟩
  have hz6 : W6.heap.size ≤ w2.heap.size + 2 ∧ w2.heap.size + 2 ≤ W6.heap.size := by rw [hW6]; exact hz5
  have u0 : W6.heap[w1.heap.size]? = some (.cells #[.string ⟨#[102]⟩, .bool false, .slice none 0 0, .int .i64 0, .int .i64 0, .int .i64 0, .slice none 0 0, .slice none 0 0, .slice none 0 0] 39 (0, 0)) := by rw [hW6]; exact g0
  have u1 : W6.heap[w1.heap.size + 1]? = some (.cells #[.string ⟨#[73]⟩, .bool true, .bool false, .int .i64 0, .slice none 0 0, .slice none 0 0, .slice none 0 0, .slice (some ⟨w1.heap.size, 0, none⟩) 1 1] 31 (0, 0)) := by rw [hW6]; exact g1
  have u2 : W6.heap[W.heap.size]? = some (.cells #[.int .i64 12] 3 (0, 0)) := by rw [hW6]; exact g2
  have ui : W6.heap[W.heap.size + 2]? = some (.cells #[.int .i64 29, .int .i64 0, .int .i64 0] 44 (0, 0)) := by rw [hW6]; exact gi
  have u3 : W6.heap[w2.heap.size]? = some (.cells #[.string ⟨#[102]⟩, .bool false, .slice none 0 0, .int .i64 0, .int .i64 1, .int .i64 0, .slice (some ⟨W.heap.size + 2, 0, none⟩) 1 1, .slice none 0 0, .slice none 0 0] 39 (0, 0)) := by rw [hW6]; exact g3
  have u4 : W6.heap[w2.heap.size + 1]? = some (.cells #[.string ⟨#[65]⟩, .bool false, .bool false, .int .i64 0, .slice (some ⟨W.heap.size, 0, none⟩) 1 1, .slice none 0 0, .slice none 0 0, .slice (some ⟨w2.heap.size, 0, none⟩) 1 1] 31 (0, 0)) := by rw [hW6]; exact g4
  have HB6w : Hid (Below w1.heap.size W5 W6) := by rw [hW6]; exact Below.refl _ _
  rw [← hW6]
  clear hW6 g0 g1 g2 gi g3 g4
  go_upto_region 6 with fail
  have z0 : W6.cell? ⟨w1.heap.size + 1, 0, none⟩ = _ := bxq_cell u1 rfl
  have y0 : W6.cell? ⟨w2.heap.size + 1, 0, none⟩ = _ := bxq_cell u4 rfl
  have z1 : W6.cell? ⟨w1.heap.size + 1, 1, none⟩ = _ := bxq_cell u1 rfl
  have y1 : W6.cell? ⟨w2.heap.size + 1, 1, none⟩ = _ := bxq_cell u4 rfl
  have z2 : W6.cell? ⟨w1.heap.size + 1, 2, none⟩ = _ := bxq_cell u1 rfl
  have y2 : W6.cell? ⟨w2.heap.size + 1, 2, none⟩ = _ := bxq_cell u4 rfl
  have z3 : W6.cell? ⟨w1.heap.size + 1, 3, none⟩ = _ := bxq_cell u1 rfl
  have y3 : W6.cell? ⟨w2.heap.size + 1, 3, none⟩ = _ := bxq_cell u4 rfl
  have z4 : W6.cell? ⟨w1.heap.size + 1, 4, none⟩ = _ := bxq_cell u1 rfl
  have y4 : W6.cell? ⟨w2.heap.size + 1, 4, none⟩ = _ := bxq_cell u4 rfl
  have z5 : W6.cell? ⟨w1.heap.size + 1, 5, none⟩ = _ := bxq_cell u1 rfl
  have y5 : W6.cell? ⟨w2.heap.size + 1, 5, none⟩ = _ := bxq_cell u4 rfl
  have z6 : W6.cell? ⟨w1.heap.size + 1, 6, none⟩ = _ := bxq_cell u1 rfl
  have y6 : W6.cell? ⟨w2.heap.size + 1, 6, none⟩ = _ := bxq_cell u4 rfl
  have z7 : W6.cell? ⟨w1.heap.size + 1, 7, none⟩ = _ := bxq_cell u1 rfl
  have y7 : W6.cell? ⟨w2.heap.size + 1, 7, none⟩ = _ := bxq_cell u4 rfl
  go_wp2_with (first
    | (go_at_call 12; refine (with_ok (S := fun k => k < w2.heap.size + 3) (xs := [facI false [] false [], facA 12]) (fun k (q : k < _) => (by repeat (first | rw [sz_al] | rw [sz_sc]); omega)) (by
        refine Sl.blk [[.string ⟨#[73]⟩, .bool true, .bool false, .int .i64 0, .slice none 0 0, .slice none 0 0, .slice none 0 0, .slice (some ⟨w1.heap.size, 0, none⟩) 1 1], [.string ⟨#[65]⟩, .bool false, .bool false, .int .i64 0, .slice (some ⟨W.heap.size, 0, none⟩) 1 1, .slice none 0 0, .slice none 0 0, .slice (some ⟨w2.heap.size, 0, none⟩) 1 1]] (T := 31) (by (repeat (first | rw [hp_al] | rw [hp_sc] | rw [sz_al] | rw [sz_sc] | rw [if_neg (by omega)] | rw [if_pos (by omega)])); all_goals first | rfl | assumption) (show _ < _ by omega) rfl rfl rfl (by decide) fun i y r hy hr => ?_
        match i, hy, hr with
        | 0, hy, hr =>
            cases hy; cases hr
            refine ⟨_, _, _, _, rfl, Sl.nil _ _ _, Sl.nil _ _ _, Sl.nil _ _ _, ?_⟩
            · refine Sl.blk [[.string ⟨#[102]⟩, .bool false, .slice none 0 0, .int .i64 0, .int .i64 0, .int .i64 0, .slice none 0 0, .slice none 0 0, .slice none 0 0]] (T := 39) (by (repeat (first | rw [hp_al] | rw [hp_sc] | rw [sz_al] | rw [sz_sc] | rw [if_neg (by omega)] | rw [if_pos (by omega)])); all_goals first | rfl | assumption) (show _ < _ by omega) rfl rfl rfl (by decide) fun i y r hy hr => ?_
              match i, hy, hr with
              | 0, hy, hr =>
                cases hy; cases hr
                exact ⟨_, _, _, _, rfl, Sl.nil _ _ _, Sl.nil _ _ _, Sl.nil _ _ _, Sl.nil _ _ _⟩
        | 1, hy, hr =>
            cases hy; cases hr
            refine ⟨_, _, _, _, rfl, ?_, Sl.nil _ _ _, Sl.nil _ _ _, ?_⟩
            · refine Sl.blk [[.int .i64 12]] (T := 3) (by (repeat (first | rw [hp_al] | rw [hp_sc] | rw [sz_al] | rw [sz_sc] | rw [if_neg (by omega)] | rw [if_pos (by omega)])); all_goals first | rfl | assumption) (show _ < _ by omega) rfl rfl rfl (by decide) fun i y r hy hr => ?_
              match i, hy, hr with
              | 0, hy, hr => cases hy; cases hr; rfl
            · refine Sl.blk [[.string ⟨#[102]⟩, .bool false, .slice none 0 0, .int .i64 0, .int .i64 1, .int .i64 0, .slice (some ⟨W.heap.size + 2, 0, none⟩) 1 1, .slice none 0 0, .slice none 0 0]] (T := 39) (by (repeat (first | rw [hp_al] | rw [hp_sc] | rw [sz_al] | rw [sz_sc] | rw [if_neg (by omega)] | rw [if_pos (by omega)])); all_goals first | rfl | assumption) (show _ < _ by omega) rfl rfl rfl (by decide) fun i y r hy hr => ?_
              match i, hy, hr with
              | 0, hy, hr =>
                cases hy; cases hr
                refine ⟨_, _, _, _, rfl, Sl.nil _ _ _, ?_, Sl.nil _ _ _, Sl.nil _ _ _⟩
                refine Sl.blk [[.int .i64 29, .int .i64 0, .int .i64 0]] (T := 44) (by (repeat (first | rw [hp_al] | rw [hp_sc] | rw [sz_al] | rw [sz_sc] | rw [if_neg (by omega)] | rw [if_pos (by omega)])); all_goals first | rfl | assumption) (show _ < _ by omega) rfl rfl rfl (by decide) fun i y r hy hr => ?_
                match i, hy, hr with
                | 0, hy, hr => cases hy; cases hr; rfl
        ) (by decide) (by decide)).mono ?_; rintro e w5 ⟨g, c, rfl, hb5, S', hS', hs⟩; have HB5 : Hid (Below w1.heap.size W6 w5) := ((Below.refl _ _).alloc (by omega) _).trans (hb5.mono (by rw [sz_al]; omega)); have hF := faults_yes (w := w5) (S := S') (p := facP7) facO7 hS' hs facJ7; clear hb5 hS' hs)
    | (go_at_call 13; refine hF.mono ?_; clear hF; rintro e w6 ⟨rfl, hb6⟩; have HB6 : Hid (Below w1.heap.size W6 w6) := HB5.out.trans (hb6.mono (by have := HB5.out.size; omega)); clear hb6))
  go_ret
  exact ⟨rfl, HB1.out.trans (((((HBW.out.trans (HB2.out.mono (by omega))).trans HB5w.out).trans HB6w.out).trans HB6.out).mono HB1.out.size)⟩
theorem faces_walk (n : Int) (w : World) : Calls Tryz.prog 5 #[.int .i64 n] w fun e w' => e = .returned (.bool true) ∧ Below w.heap.size w w' := by
  rcases masked7 n with h | h | h | h | h | h | h | h
  · exact faces_0 n h w
  · exact faces_1 n h w
  · exact faces_2 n h w
  · exact faces_3 n h w
  · exact faces_4 n h w
  · exact faces_5 n h w
  · exact faces_6 n h w
  · exact faces_7 n h w
end Go.Proofs.YtbdfpodglfpjnaaGreat
