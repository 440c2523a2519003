/- The walk of CollectMoves. -/
import Derived.Test.YtibnipockmnmhaaGreatMC8
import Derived.Test.YtibnipockmnmhaaGreatMS5
import Derived.Deep.RegionHeld3
namespace Go.Proofs.YtibnipockmnmhaaGreat
open Go.RowKit
attribute [local go_sem ↓] app_C
theorem mask1 (n : Int) : bits BinOp.and .i64 n 1 = n % 2 := by
  have e : (BitVec.ofInt 64 n &&& BitVec.ofInt 64 1).toNat = (n % 18446744073709551616).toNat % 2 := by
    rw [BitVec.toNat_and, BitVec.toNat_ofInt, show (BitVec.ofInt 64 1).toNat = 2 ^ 1 - 1 from by decide, Nat.and_two_pow_sub_one_eq_mod]; rfl
  show IntKind.i64.wrap ((BitVec.ofInt 64 n &&& BitVec.ofInt 64 1).toNat : Nat) = n % 2
  rw [e, IntKind.wrap_i64]; omega
theorem xor1_0 : bits BinOp.xor .i64 0 1 = 1 := by kernel_rfl
theorem xor1_1 : bits BinOp.xor .i64 1 1 = 0 := by kernel_rfl
/-- The threads that hold the head by turns. -/
theorem par2 (a : Nat) : ∃ t u : Nat, t < 2 ∧ u < 2 ∧ t = a % 2 ∧ u = 1 - a % 2 ∧ bits BinOp.and .i64 (a : Int) 1 = (t : Int) ∧ bits BinOp.xor .i64 (t : Int) 1 = (u : Int) := by
  refine ⟨a % 2, 1 - a % 2, by omega, by omega, rfl, rfl, by rw [mask1]; rfl, ?_⟩
  rcases (show a % 2 = 0 ∨ a % 2 = 1 by omega) with e | e
  · rw [e]; exact xor1_0
  · rw [e]; exact xor1_1
def hd2 (a : Nat) : Nat → List Int := fun t => if t = a % 2 then [(a : Int) + 1] else []
section
variable {B : Nat} {w0 w w' : World} {hb : Nat} {v : Value}
theorem mv_app2 {i c : Nat} {ao : Option Addr} {cap : Nat} (h : MvS B w0 hb (i + 1) i 0 (seg 0 (i + 1)) c (.slice ao i cap) w) (hi : i < 18) : ∃ ao' cap' w3, (appC #[39, 39] 39 #[.slice ao i cap, .slice (some ⟨w.heap.size, 0, none⟩) 1 1]).run Tryz.prog (w.alloc (.cells #[.int .i64 ((i : Int) + 1)] 3)) = .ok (.slice ao' (i + 1) cap') w3 ∧ MvS B w0 hb (i + 1) (i + 1) 0 (seg 0 (i + 1)) c (.slice ao' (i + 1) cap') w3 := by
  obtain ⟨ao2, cap2, ao', cap', w3, e, h2, h3⟩ := mv_app h hi
  simp only [Value.slice.injEq] at e
  obtain ⟨rfl, _, rfl⟩ := e
  exact ⟨ao', cap', w3, h2, h3⟩
theorem MvS.form {i j l c : Nat} {P : List Int} (h : MvS B w0 hb i j l P c v w) : ∃ ao cap, v = .slice ao j cap := by
  obtain ⟨X, Z, H, hr, _⟩ := h
  obtain ⟨ao, cap, e⟩ := hr.form
  rw [seg_len] at e
  exact ⟨ao, cap, e⟩
theorem MvS.below {i j l c : Nat} {P : List Int} (h : MvS B w0 hb i j l P c v w) (b : Below w.heap.size w w') : MvS B w0 hb i j l P c v w' := by
  obtain ⟨X, Z, H, hr, hg, hm⟩ := h
  exact ⟨X, Z, (H.below b).1, hr.below b, hg, hm⟩
theorem MvS.cells {i k l c p cap : Nat} {P : List Int} (h : MvS B w0 hb i k l P c (.slice (some ⟨p, 0, none⟩) k cap) w) (hk : 0 < k) : p < w.heap.size ∧ ∀ x, x < k → w.cell? ⟨p, x, none⟩ = some (.int .i64 ((x : Int) + 1)) := by
  obtain ⟨p', cap', e, h1, h2⟩ := h.row hk
  simp only [Value.slice.injEq, Option.some.injEq, Addr.mk.injEq, and_true] at e
  rw [e.1]
  exact ⟨h1, h2⟩
theorem MvM.cells {k b c p cap : Nat} {R : Nat → List Int} (h : MvM B w0 hb k b R c (.slice (some ⟨p, 0, none⟩) k cap) w) (hk : 0 < k) : p < w.heap.size ∧ ∀ x, x < k → w.cell? ⟨p, x, none⟩ = some (.int .i64 ((x : Int) + 1)) := by
  obtain ⟨p', cap', e, h1, h2⟩ := h.row hk
  simp only [Value.slice.injEq, Option.some.injEq, Addr.mk.injEq, and_true] at e
  rw [e.1]
  exact ⟨h1, h2⟩
theorem MvM.most {k b c c' : Nat} {R : Nat → List Int} (h : MvM B w0 hb k b R c v w) (hc : c ≤ c') : MvM B w0 hb k b R c' v w := by
  obtain ⟨X, Z, H, hr, hg, hm⟩ := h
  exact ⟨X, Z, H, hr, hg, by omega⟩
theorem MvS.most {i j l c c' : Nat} {P : List Int} (h : MvS B w0 hb i j l P c v w) (hc : c ≤ c') : MvS B w0 hb i j l P c' v w := by
  obtain ⟨X, Z, H, hr, hg, hm⟩ := h
  exact ⟨X, Z, H, hr, hg, by omega⟩
theorem CvC.mv0 {Z : Cx} (H : CvC B w0 w hb (cm0 16384 2) Z) : MvS B w0 hb 0 0 0 [] 0 (.slice none 0 0) w :=
  ⟨_, Z, H.sd.less (fun k hk => by simp [ownB, Value.ownBlock] at hk), Ri.nil _ _, ⟨rfl, rfl, rfl, by show ¬ (0 : Int) < 0; omega, by show allB 2 (fun _ => true) = true; decide, rfl, fun x hx => by omega, rfl, rfl, fun x hx => by omega, rfl, rfl⟩, Nat.le_refl _⟩
/-- The head has been moved. -/
theorem hd2_next {a t u : Nat} (ht : t = a % 2) (hu : u = 1 - a % 2) : ∀ s, s < 2 → setL (setL (hd2 a) u (hd2 a u ++ [((a + 1 : Nat) : Int) + 1])) t [] s = hd2 (a + 1) s := fun s hs => by
  have e1 : hd2 a u = [] := by unfold hd2; rw [if_neg (by omega)]
  rw [e1]
  unfold setL hd2
  by_cases e : s = t
  · rw [if_pos e, if_neg (by omega)]
  · rw [if_neg e, if_pos (by omega), if_pos (by omega)]; rfl
end
set_option maxRecDepth 20000 in
set_option maxHeartbeats 8000000 in
theorem moves_walk (many : Int) (v : Value) (N : Nat) (f : Nat → Int) (w : World) (hv : Ints w v N f) : Calls Tryz.prog 6 #[.int .i64 many, v] w fun e w' => e = .returned (.bool true) ∧ Below w.heap.size w w' := by
  obtain ⟨ao, cap, rfl, hv0⟩ := hv
  have H0 : Hid (N = 0 ∨ ∃ B o : Nat, ao = some ⟨B, o, none⟩ ∧ B < w.heap.size ∧ ∀ i, i < N → w.cell? ⟨B, o + i, none⟩ = some (.int .i64 (f i))) := hv0
  clear hv0
  obtain ⟨s0, hs0, ls0⟩ := masked15 many
  obtain ⟨k, hk⟩ : ∃ k : Nat, k = 3 + s0 := ⟨_, rfl⟩
  have hki : (3 : Int) + (s0 : Int) = (k : Int) := by omega
  have hkb : 3 ≤ k ∧ k ≤ 18 := by omega
  clear hk ls0
  have hA := awake12 w
  go_enter Tryz.func6, Tryz.ntmps6
  go_wp2_with (first
    | (go_at_call 13; refine hA.mono ?_; rintro e w1 ⟨rfl, hb1⟩; clear hA; have hN := cnew_of 16384 2 16384 2 w1 rfl rfl (by omega) (by omega))
    | (go_at_call 9; refine hN.mono ?_; rintro e w2 ⟨hb, Z2, rfl, H2⟩; have HS : Hid (MvS w1.heap.size w1 hb 0 0 0 [] 0 (.slice none 0 0) w2) := H2.mv0; clear hN H2))
  clear hs0 hki
  go_loopg [8, 9] 20 (fun kx s8 s9 wr => ∃ (i : Nat) (ai : Option Addr) (ci : Nat), s8 = .slice ai i ci ∧ s9 = .int .i64 i ∧ i ≤ k ∧ k - i ≤ kx ∧ Hid (MvS w1.heap.size w1 hb i i 0 (seg 0 i) (500 * i) (.slice ai i ci) wr))
  case atStart => exact ⟨0, none, 0, rfl, rfl, by omega, by omega, HS.out⟩
  case round =>
    clear HS
    obtain ⟨i, ai, ci, rfl, rfl, hi, hkx, HI⟩ := hrel
    by_cases hik : i < k
    · have g1 : (i : Int) < (k : Int) := by omega
      have hMk := mv_make HI.out (by omega) (by omega)
      clear HI
      go_wp2_with (first
        | (go_at_call 14; refine hMk.mono ?_; rintro e w3 ⟨rfl, hK⟩; obtain ⟨a4, c4, w4, hrun, hS4⟩ := mv_app2 hK (by omega); have HS4 : Hid (MvS w1.heap.size w1 hb (i + 1) (i + 1) 0 (seg 0 (i + 1)) (500 * i + 500) (.slice a4 (i + 1) c4) w4) := hS4; clear hMk hK hS4)
        | (go_at_call 10; refine (num_any _ _).mono ?_; rintro e w9 ⟨rfl, hw9⟩; replace hw9 := hw9.symm; subst hw9))
      go_roundg (k - (i + 1))
      case measure => omega
      case rel => exact ⟨i + 1, a4, c4, rfl, by go_num, by omega, by omega, HS4.out.most (by omega)⟩
    · have g1 : ¬ (i : Int) < (k : Int) := by omega
      have hik2 : i = k := by omega
      rw [hik2] at HI
      rw [hik2]
      clear hik2 hik hi g1
      obtain ⟨p, c3, e, hp, _⟩ := HI.out.row (by omega)
      simp only [Value.slice.injEq] at e
      obtain ⟨rfl, _, rfl⟩ := e
      have g1 : ¬ (k : Int) < (k : Int) := by omega
      clear hp
      go_wp2_with fail
      go_loopg [12] 20 (fun kx s12 wx => ∃ l : Nat, s12 = .int .i64 l ∧ l + 1 ≤ k ∧ k - l ≤ kx ∧ Hid (MvS w1.heap.size w1 hb k k l (seg 0 k) (500 * k + 2 * l) (.slice (some ⟨p, 0, none⟩) k ci) wx))
      case atStart => exact ⟨0, rfl, by omega, by omega, HI.out⟩
      case round =>
        clear HI
        obtain ⟨l, rfl, hl, hkl, HL⟩ := hrel
        by_cases hlk : l + 1 < k
        · have g2 : (l : Int) + 1 < (k : Int) := by omega
          obtain ⟨hp, hc⟩ := HL.out.cells (by omega)
          have c1 := hc l (by omega)
          have c2 := hc (l + 1) hlk
          rw [show ((l + 1 : Nat) : Int) + 1 = (l : Int) + 2 by omega] at c2
          obtain ⟨l1, hl1⟩ : ∃ l1, l1 = l + 1 := ⟨_, rfl⟩
          have HL1 : Hid (l1 = l + 1) := hl1
          rw [← hl1] at c2
          have hwl : IntKind.i64.wrap ((l : Int) + 1) = (l1 : Int) := by rw [IntKind.wrap_i64]; omega
          have g3 : (l : Int) < (k : Int) := by omega
          have g4 : (l1 : Int) < (k : Int) := by omega
          have g5 : (0 : Int) ≤ (l1 : Int) := by omega
          have g6 : (0 : Int) ≤ (l : Int) := by omega
          clear hl1
          have HX : Hid (∀ u, Below wr.heap.size wr u → Calls Tryz.prog 15 #[.pointer (some ⟨hb, 0, none⟩), .int .i64 0, .int .i64 ((l : Int) + 1), .int .i64 0, .int .i64 ((l : Int) + 2)] u fun e w' => e = .returned (.int .i64 0) ∧ Hid (MvS w1.heap.size w1 hb k k (l + 1) (seg 0 k) (500 * k + 2 * (l + 1)) (.slice (some ⟨p, 0, none⟩) k ci) w') ∧ w'.cell? ⟨p, l, none⟩ = some (.int .i64 ((l : Int) + 1)) ∧ w'.cell? ⟨p, l1, none⟩ = some (.int .i64 ((l : Int) + 2))) := fun u bu => (mv_link (HL.out.below bu) hlk (by omega) _ _ rfl rfl).mono fun e w' q => ⟨q.1, q.2, (q.2.cells (by omega)).2 l (by omega), by have := (q.2.cells (by omega)).2 (l + 1) hlk; rw [HL1.out, show (l : Int) + 2 = ((l + 1 : Nat) : Int) + 1 by omega]; exact this⟩
          clear hc HL
          go_wp2_with fail
          go_region_held3 (fun w' => w'.cell? ⟨p, l, none⟩ = some (.int .i64 ((l : Int) + 1)) ∧ w'.cell? ⟨p, l1, none⟩ = some (.int .i64 ((l : Int) + 2))) (go_keep) ((go_at_call 15; refine (HX.out _ (by first | exact (Below.refl _ _).drew.drew | exact (Below.refl _ _).drew)).mono ?_; rintro e w3 ⟨rfl, HP, k3, k4⟩; clear HX))
          go_wp2
          go_roundg (k - (l + 1))
          case measure => omega
          case rel => exact ⟨l + 1, by first | rw [HL1.out] | go_num, by omega, by omega, HP.out⟩
        · have g2 : ¬ (l : Int) + 1 < (k : Int) := by omega
          have hlk2 : l = k - 1 := by omega
          have HP0 : Hid (MvS w1.heap.size w1 hb k k (k - 1) (seg 0 (k + 1 - 1)) 10000 (.slice (some ⟨p, 0, none⟩) k ci) wr) := (by have := HL.out.most (c' := 10000) (by omega); rw [hlk2] at this; exact this)
          clear HL hlk2
          go_wp2_with fail
          go_loopg [13] 20 (fun kx s13 wx => ∃ t : Nat, s13 = .int .i64 t ∧ 1 ≤ t ∧ t ≤ k ∧ k - t ≤ kx ∧ Hid (MvS w1.heap.size w1 hb k k (k - 1) (seg 0 (k + 1 - t)) 10000 (.slice (some ⟨p, 0, none⟩) k ci) wx))
          case atStart => exact ⟨1, rfl, by omega, by omega, by omega, HP0.out⟩
          case round =>
            clear HP0
            obtain ⟨t, rfl, ht1, ht, hkt, HT⟩ := hrel
            by_cases htk : t < k
            · have g3 : (t : Int) < (k : Int) := by omega
              have hPp := mv_pop0 (j := k + 1 - (t + 1)) (by rw [show k + 1 - (t + 1) + 1 = k + 1 - t by omega]; exact HT.out)
              clear HT
              go_wp2_with (go_at_call 16; refine hPp.mono ?_; rintro e w6 ⟨⟨x6, y6, rfl⟩, hT6⟩; have HT6 : Hid (MvS w1.heap.size w1 hb k k (k - 1) (seg 0 (k + 1 - (t + 1))) 10000 (.slice (some ⟨p, 0, none⟩) k ci) w6) := hT6; clear hPp hT6)
              go_roundg (k - (t + 1))
              case measure => omega
              case rel => exact ⟨t + 1, by go_num, by omega, by omega, by omega, HT6.out⟩
            · have g3 : ¬ (t : Int) < (k : Int) := by omega
              have hBg := mv_begin (k := k) (by have := HT.out; rw [show k + 1 - t = 1 by omega] at this; exact this) hkb (by omega)
              clear HT
              go_wp2_with (go_at_call 18; refine hBg.mono ?_; rintro e w7 ⟨rfl, hM7⟩; have HM7 : Hid (MvM w1.heap.size w1 hb k 0 (hd2 0) 10000 (.slice (some ⟨p, 0, none⟩) k ci) w7) := hM7.roots (fun t ht => by unfold hd2; rfl); clear hBg hM7)
              go_loopg [14, 15] 20 (fun kx s14 s15 wx => ∃ a : Nat, s14 = .int .i64 a ∧ s15 = .int .i64 a ∧ a + 1 ≤ k ∧ k - a ≤ kx ∧ Hid (MvM w1.heap.size w1 hb k a (hd2 a) (10000 + 4000 * a) (.slice (some ⟨p, 0, none⟩) k ci) wx))
              case atStart => exact ⟨0, rfl, rfl, by omega, by omega, HM7.out⟩
              case round =>
                clear HM7
                obtain ⟨a, rfl, rfl, ha, hka, HM⟩ := hrel
                by_cases haN : a < N ∧ a + 1 < k
                · have g4 : (a : Int) < (N : Int) := by omega
                  have g5 : (a : Int) + 1 < (k : Int) := by omega
                  obtain ⟨Bp, op, rfl, hBp, hcp⟩ := H0.out.resolve_left (by omega)
                  have HC : Hid (∀ u, Below w1.heap.size w1 u → u.cell? ⟨Bp, op + a, none⟩ = some (.int .i64 (f a)) ∧ Bp < u.heap.size) := fun u bu => by
                    have hbel : Below w.heap.size w u := hb1.trans (bu.mono hb1.size)
                    exact ⟨(World.cell?_of_block (a := ⟨Bp, op + a, none⟩) (hbel.block Bp hBp)).trans (hcp a (by omega)), Nat.lt_of_lt_of_le hBp hbel.size⟩
                  obtain ⟨s, hs, ls⟩ := masked7 (f a)
                  clear hcp hBp
                  go_wp2_with fail
                  go_loopg [16] 9 (fun kx s16 wy => ∃ j : Nat, s16 = .int .i64 j ∧ j ≤ s ∧ s - j ≤ kx ∧ Hid (MvM w1.heap.size w1 hb k a (hd2 a) (10000 + 4000 * a + 500 * j) (.slice (some ⟨p, 0, none⟩) k ci) wy))
                  case atStart => exact ⟨0, rfl, by omega, by omega, HM.out⟩
                  case round =>
                    clear HM
                    obtain ⟨j, rfl, hj, hkj, HJ⟩ := hrel
                    obtain ⟨k1, k2⟩ := HC.out _ HJ.out.bel
                    by_cases hjs : j < s
                    · have g6 : (j : Int) < (s : Int) := by omega
                      have hTn := mv_turn HJ.out (by omega)
                      clear HJ
                      go_wp2_with (go_at_call 25; refine hTn.mono ?_; rintro e w8 ⟨⟨x8, rfl⟩, hM8⟩; have HM8 : Hid (MvM w1.heap.size w1 hb k a (hd2 a) (10000 + 4000 * a + 500 * j + 500) (.slice (some ⟨p, 0, none⟩) k ci) w8) := hM8; clear hTn hM8)
                      go_roundg (s - (j + 1))
                      case measure => omega
                      case rel => exact ⟨j + 1, by go_num, by omega, by omega, HM8.out⟩
                    · have g6 : ¬ (j : Int) < (s : Int) := by omega
                      have HJ2 : Hid (MvM w1.heap.size w1 hb k a (hd2 a) (10000 + 4000 * a + 3500) (.slice (some ⟨p, 0, none⟩) k ci) wr) := HJ.out.most (by omega)
                      clear HJ
                      obtain ⟨t, u, lt, lu, et, eu, ht5, hu5⟩ := par2 a
                      obtain ⟨hp, hc⟩ := HJ2.out.cells (by omega)
                      have c1 := hc a (by omega)
                      have g7 : (a : Int) < (k : Int) := by omega
                      have hLd := mv_load HJ2.out (a := a) ⟨Nat.le_refl _, by omega⟩ (by omega) ((a : Int) + 1) rfl
                      have HXL : Hid (∀ u8, MvM w1.heap.size w1 hb k a (hd2 a) (10000 + 4000 * a + 3500 + 1) (.slice (some ⟨p, 0, none⟩) k ci) u8 → (p < u8.heap.size ∧ u8.cell? ⟨p, a + 1, none⟩ = some (.int .i64 ((a : Int) + 2))) ∧ Calls Tryz.prog 26 #[.pointer (some ⟨hb, 0, none⟩), .int .i64 u, .int .i64 ((a : Int) + 2)] u8 fun e w' => e = .returned (.int .i64 0) ∧ MvM w1.heap.size w1 hb k a (setL (hd2 a) u (hd2 a u ++ [((a + 1 : Nat) : Int) + 1])) (10000 + 4000 * a + 3500 + 1) (.slice (some ⟨p, 0, none⟩) k ci) w') := fun u8 h8 => by
                        obtain ⟨q1, q2⟩ := h8.cells (by omega)
                        have q3 := q2 (a + 1) (by omega)
                        rw [show ((a + 1 : Nat) : Int) + 1 = (a : Int) + 2 by omega] at q3
                        exact ⟨⟨q1, q3⟩, mv_push h8 (a := a + 1) (by omega) u lu (by unfold hd2; rw [if_neg (by omega)]; simp) _ _ rfl (by omega)⟩
                      have HXP : Hid (∀ u8, MvM w1.heap.size w1 hb k a (setL (hd2 a) u (hd2 a u ++ [((a + 1 : Nat) : Int) + 1])) (10000 + 4000 * a + 3500 + 1) (.slice (some ⟨p, 0, none⟩) k ci) u8 → (p < u8.heap.size ∧ u8.cell? ⟨p, a, none⟩ = some (.int .i64 ((a : Int) + 1))) ∧ Calls Tryz.prog 15 #[.pointer (some ⟨hb, 0, none⟩), .int .i64 1, .int .i64 ((a : Int) + 1), .int .i64 0, .int .i64 0] u8 fun e w' => e = .returned (.int .i64 0) ∧ MvM w1.heap.size w1 hb k (a + 1) (setL (hd2 a) u (hd2 a u ++ [((a + 1 : Nat) : Int) + 1])) (10000 + 4000 * a + 3500 + 1 + 2) (.slice (some ⟨p, 0, none⟩) k ci) w') := fun u8 h8 => by
                        obtain ⟨q1, q2⟩ := h8.cells (by omega)
                        exact ⟨⟨q1, q2 a (by omega)⟩, mv_put h8 ⟨Nat.le_refl _, by omega⟩ (by omega) _ rfl⟩
                      have HXQ : Hid (∀ u8, MvM w1.heap.size w1 hb k (a + 1) (setL (hd2 a) u (hd2 a u ++ [((a + 1 : Nat) : Int) + 1])) (10000 + 4000 * a + 3500 + 1 + 2) (.slice (some ⟨p, 0, none⟩) k ci) u8 → Calls Tryz.prog 16 #[.pointer (some ⟨hb, 0, none⟩), .int .i64 t] u8 fun e w' => (∃ x y, e = .returned (.tuple #[.int .i64 x, .int .i64 y])) ∧ MvM w1.heap.size w1 hb k (a + 1) (hd2 (a + 1)) (10000 + 4000 * (a + 1)) (.slice (some ⟨p, 0, none⟩) k ci) w') := fun u8 h8 => by
                        refine (mv_pop h8 t lt (U := []) (x := (a : Int) + 1) ?_ t rfl).mono fun e w' q => ⟨q.1, (q.2.roots (hd2_next et eu)).most (by omega)⟩
                        unfold setL hd2
                        rw [if_neg (by omega), if_pos et]; rfl
                      have hbb : ((a : Int) + 2 != (a : Int) + 2) = false := by simp
                      have hwa : (a : Int) + 1 < 9223372036854775807 := by omega
                      clear hc HJ2 et eu
                      go_wp2_with (first
                        | (go_at_call 22; refine hLd.mono ?_; rintro e w8 ⟨rfl, hM8⟩; obtain ⟨⟨k3, k4⟩, hPu⟩ := HXL.out w8 hM8; clear hLd hM8 HXL)
                        | (go_at_call 26; refine hPu.mono ?_; rintro e w10 ⟨rfl, hM10⟩; obtain ⟨⟨k5, k6⟩, hPt⟩ := HXP.out w10 hM10; clear hPu hM10 HXP)
                        | (go_at_call 15; refine hPt.mono ?_; rintro e w11 ⟨rfl, hM11⟩; have hPp := HXQ.out w11 hM11; clear hPt hM11 HXQ)
                        | (go_at_call 16; refine hPp.mono ?_; rintro e w12 ⟨⟨x12, y12, rfl⟩, hM12⟩; have HM12 : Hid (MvM w1.heap.size w1 hb k (a + 1) (hd2 (a + 1)) (10000 + 4000 * (a + 1)) (.slice (some ⟨p, 0, none⟩) k ci) w12) := hM12; clear hPp hM12)
                        | (go_at_call 10; refine (num_any _ _).mono ?_; rintro e w9 ⟨rfl, hw9⟩; replace hw9 := hw9.symm; subst hw9))
                      go_roundg (k - (a + 1))
                      case measure => omega
                      case rel => exact ⟨a + 1, by go_num, by go_num, by omega, by omega, HM12.out⟩
                · have hcase : ¬ a < N ∨ (a < N ∧ a + 1 = k) := by omega
                  have HF0 : Hid (MvF w1.heap.size w1 hb k a (hd2 a) (10000 + 4000 * a + 500 * 102) 102 (.slice (some ⟨p, 0, none⟩) k ci) wr) := HM.out.last
                  clear HM H0 haN
                  rcases hcase with hx | ⟨hx, hx2⟩
                  all_goals
                    go_wp2_with fail
                    go_loopg [21] 110 (fun kx s21 wy => ∃ (jj rr : Nat), s21 = .int .i64 jj ∧ jj + rr ≤ 102 ∧ rr ≤ kx ∧ Hid (MvF w1.heap.size w1 hb k a (hd2 a) (10000 + 4000 * a + 500 * 102) rr (.slice (some ⟨p, 0, none⟩) k ci) wy))
                    case atStart => exact ⟨0, 102, rfl, by omega, by omega, HF0.out⟩
                    case round =>
                      clear HF0
                      obtain ⟨jj, rr, rfl, hjr, hkr, HR⟩ := hrel
                      have hTn := mv_last HR.out (by omega)
                      clear HR
                      have hd : decide ((8000 : Int) < (jj : Int)) = false := by simp; omega
                      go_wp2_with fail
                      refine hTn.mono ?_
                      rintro e w6 (⟨rfl, r', hr', hT6⟩ | ⟨rfl, hO6⟩)
                      · have HT6 : Hid (MvF w1.heap.size w1 hb k a (hd2 a) (10000 + 4000 * a + 500 * 102) r' (.slice (some ⟨p, 0, none⟩) k ci) w6) := hT6
                        clear hT6 hTn
                        go_wp2
                        go_roundg (r')
                        case measure => omega
                        case rel => exact ⟨jj + 1, r', by go_num, by omega, by omega, HT6.out⟩
                      · have HO6 : Hid (MvM w1.heap.size w1 hb k a (hd2 a) (200000 + 0) (.slice (some ⟨p, 0, none⟩) k ci) w6) := hO6.most (by omega)
                        clear hO6 hTn
                        go_wp2
                        go_loopg [22] 20 (fun kx s22 wy => ∃ x : Nat, s22 = .int .i64 x ∧ a ≤ x ∧ x + 1 ≤ k ∧ k - x ≤ kx ∧ Hid (MvM w1.heap.size w1 hb k a (hd2 a) (200000 + x) (.slice (some ⟨p, 0, none⟩) k ci) wy))
                        case atStart => exact ⟨a, rfl, by omega, by omega, by omega, HO6.out.most (by omega)⟩
                        case round =>
                          clear HO6
                          obtain ⟨x, rfl, hax, hxk, hkx2, HXx⟩ := hrel
                          by_cases hx1 : x + 1 < k
                          · have g8 : (x : Int) + 1 < (k : Int) := by omega
                            have g9 : (x : Int) < (k : Int) := by omega
                            obtain ⟨hp, hc⟩ := HXx.out.cells (by omega)
                            have c1 := hc x (by omega)
                            have hLd := mv_load HXx.out (a := x) ⟨hax, hx1⟩ (by omega) ((x : Int) + 1) rfl
                            have HXL : Hid (∀ u8, MvM w1.heap.size w1 hb k a (hd2 a) (200000 + x + 1) (.slice (some ⟨p, 0, none⟩) k ci) u8 → (p < u8.heap.size ∧ u8.cell? ⟨p, x + 1, none⟩ = some (.int .i64 ((x : Int) + 2)))) := fun u8 h8 => by
                              obtain ⟨q1, q2⟩ := h8.cells (by omega)
                              have q3 := q2 (x + 1) (by omega)
                              rw [show ((x + 1 : Nat) : Int) + 1 = (x : Int) + 2 by omega] at q3
                              exact ⟨q1, q3⟩
                            have hbb : ((x : Int) + 2 != (x : Int) + 2) = false := by simp
                            clear hc HXx
                            go_wp2_with (first
                              | (go_at_call 22; refine hLd.mono ?_; rintro e w8 ⟨rfl, hM8⟩; obtain ⟨k3, k4⟩ := HXL.out w8 hM8; have HM8 : Hid (MvM w1.heap.size w1 hb k a (hd2 a) (200000 + x + 1) (.slice (some ⟨p, 0, none⟩) k ci) w8) := hM8; clear hLd hM8 HXL)
                              | (go_at_call 10; refine (num_any _ _).mono ?_; rintro e w9 ⟨rfl, hw9⟩; replace hw9 := hw9.symm; subst hw9))
                            go_roundg (k - (x + 1))
                            case measure => omega
                            case rel => exact ⟨x + 1, by go_num, by omega, by omega, by omega, HM8.out⟩
                          · have g8 : ¬ (x : Int) + 1 < (k : Int) := by omega
                            have HB : Hid (Below w.heap.size w _) := hb1.trans (HXx.out.bel.mono hb1.size)
                            clear HXx
                            go_wp2_with (go_at_call 10; refine (num_any _ _).mono ?_; rintro e w9 ⟨rfl, hw9⟩; replace hw9 := hw9.symm; subst hw9)
                            go_ret
                            exact ⟨rfl, HB.out⟩
end Go.Proofs.YtibnipockmnmhaaGreat
