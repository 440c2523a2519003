/- The walk of CollectRoots. -/
import Derived.Test.YtibnipockmnmhaaGreatMXRl
namespace Go.Proofs.YtibnipockmnmhaaGreat
open Go.RowKit
attribute [local go_sem ↓] app_C
section
variable {B : Nat} {w0 w w' : World} {hb y : Nat} {X : Cm} {Z : Cx} {vl : Nat → Value} {L : Nat → List Int}
/-- The roots are as the law's rows. -/
def RlS (B : Nat) (w0 : World) (hb y _i : Nat) (w : World) : Prop := ∃ X Z vl L, Rl B w0 w hb y X Z vl L ∧ (∀ t, t < 3 → X.rt t = L t) ∧ X.m ≤ 2000
/-- A push, and what the append behind it finds. -/
def RlP (B : Nat) (w0 : World) (hb y i t : Nat) (r : Int) (w : World) : Prop := ∃ (n : Nat) (ao : Option Addr) (cap : Nat) (ao' : Option Addr) (cap' : Nat) (w3 : World), (appC #[39, 39] 39 #[.slice ao n cap, .slice (some ⟨w.heap.size, 0, none⟩) 1 1]).run Tryz.prog (w.alloc (.cells #[.int .i64 r] 3)) = .ok (.slice ao' (n + 1) cap') w3 ∧
  ((w.cell? ⟨y, t, none⟩ = some (.slice ao n cap) ∧ y < w.heap.size) ∧ w3.cell? ⟨y, t, none⟩ = some (.slice ao n cap) ∧ y < w3.heap.size ∧ w3.frozen? ⟨y, t, none⟩ = false) ∧ RlS B w0 hb y i (w3.setCell ⟨y, t, none⟩ (.slice ao' (n + 1) cap'))
theorem rl_push {i t : Nat} (H : Rl B w0 w hb y X Z vl L) (hrt : ∀ t, t < 3 → X.rt t = L t) (hm : X.m ≤ 2000) (ht : t < 3) (hl : (L t).length < 64) (r : Int) : Calls Tryz.prog 26 #[.pointer (some ⟨hb, 0, none⟩), .int .i64 t, .int .i64 r] w fun e w' => e = .returned (.int .i64 0) ∧ RlP B w0 hb y i t r w' := by
  refine (cpush_ok H.cv t r (by rw [H.is.1]; exact ht) (by rw [hrt t ht]; exact hl)).mono ?_
  rintro e w' ⟨rfl, hT⟩
  obtain ⟨Z', H'⟩ := H.heap hT rfl rfl
  obtain ⟨ao, cap, ao', cap', w3, _, h2, h3, h4⟩ := rl_app H' ht (by omega) r
  refine ⟨rfl, _, ao, cap, ao', cap', w3, h2, h3, _, Z', _, _, h4, fun s hs => ?_, hm⟩
  show setL X.rt t (X.rt t ++ [r]) s = setL L t (L t ++ [r]) s
  unfold setL
  split
  · rw [hrt t ht]
  · exact hrt s hs
/-- From thread t on the roots are as the law's rows. -/
def RlT (B : Nat) (w0 : World) (hb y t : Nat) (w : World) : Prop := ∃ X Z vl L, Rl B w0 w hb y X Z vl L ∧ (∀ s, t ≤ s → s < 3 → X.rt s = L s) ∧ ∀ s, s < 3 → (L s).length ≤ 64
/-- Of thread t's so many are left. -/
def RlU (B : Nat) (w0 : World) (hb y t : Nat) (vl : Nat → Value) (L : Nat → List Int) (j : Nat) (w : World) : Prop := ∃ X Z, Rl B w0 w hb y X Z vl L ∧ X.rt t = (L t).take j ∧ ∀ s, t < s → s < 3 → X.rt s = L s
theorem RlS.pops {i : Nat} (h : RlS B w0 hb y i w) : RlT B w0 hb y 0 w := by
  obtain ⟨X, Z, vl, L, h1, h2, _⟩ := h
  exact ⟨X, Z, vl, L, h1, fun s _ hs => h2 s hs, fun s hs => by rw [← h2 s hs]; exact h1.cv.rtl s (by rw [h1.is.1]; exact hs)⟩
theorem rl_pop {t j : Nat} (h : RlU B w0 hb y t vl L (j + 1) w) (ht : t < 3) (hj : j < (L t).length) : ∃ r, (L t)[j]? = some r ∧ Calls Tryz.prog 16 #[.pointer (some ⟨hb, 0, none⟩), .int .i64 t] w fun e w' => e = .returned (.tuple #[.int .i64 r, .int .i64 0]) ∧ RlU B w0 hb y t vl L j w' := by
  obtain ⟨X, Z, h1, h2, h3⟩ := h
  obtain ⟨r, hr⟩ : ∃ r, (L t)[j]? = some r := ⟨_, List.getElem?_eq_getElem hj⟩
  refine ⟨r, hr, ?_⟩
  have e : X.rt t = (L t).take j ++ [r] := by rw [h2, List.take_add_one, hr]; rfl
  refine (cpop_ok h1.cv t (by rw [h1.is.1]; exact ht) e).mono ?_
  rintro e' w' ⟨rfl, hT⟩
  have et : X.popTr r = X.tr := if_neg (by rw [h1.is.2]; omega)
  rw [et] at hT
  obtain ⟨Z', H'⟩ := h1.heap hT rfl rfl
  refine ⟨rfl, _, Z', H', by show setL X.rt t _ t = _; simp [setL], fun s hs hs3 => ?_⟩
  show setL X.rt t _ s = _
  unfold setL
  rw [if_neg (by omega)]
  exact h3 s hs hs3
theorem rl_last {t : Nat} (h : RlU B w0 hb y t vl L 0 w) (ht : t < 3) (hl : ∀ s, s < 3 → (L s).length ≤ 64) : Calls Tryz.prog 16 #[.pointer (some ⟨hb, 0, none⟩), .int .i64 t] w fun e w' => e = .returned (.tuple #[.int .i64 0, .int .i64 1203]) ∧ RlT B w0 hb y (t + 1) w' := by
  obtain ⟨X, Z, h1, h2, h3⟩ := h
  refine (cpop_none h1.cv t (by rw [h1.is.1]; exact ht) (by rw [h2]; rfl)).mono ?_
  rintro e' w' ⟨rfl, rfl⟩
  exact ⟨rfl, X, Z, vl, L, h1, fun s hs hs3 => h3 s (by omega) hs3, hl⟩
theorem RlU.cells {t j : Nat} (h : RlU B w0 hb y t vl L j w) (ht : t < 3) {ao : Option Addr} {cap : Nat} (hv : vl t = .slice ao (L t).length cap) : (w.cell? ⟨y, t, none⟩ = some (.slice ao (L t).length cap) ∧ y < w.heap.size) ∧ ∀ i r, (L t)[i]? = some r → ∃ p, ao = some ⟨p, 0, none⟩ ∧ w.cell? ⟨p, i, none⟩ = some (.int .i64 r) ∧ p < w.heap.size := by
  obtain ⟨X, Z, h1, h2, h3⟩ := h
  refine ⟨⟨by rw [h1.row.cell ht, hv], h1.row.lt⟩, fun i r hr => ?_⟩
  have ho := h1.own t ht
  rw [hv] at ho
  obtain ⟨p, e, hp, _, _, hc⟩ := ho.cells (by have := (List.getElem?_eq_some_iff.1 hr).1; omega)
  exact ⟨p, e, hc i r hr, hp.2⟩
theorem RlT.bel {t : Nat} (h : RlT B w0 hb y t w) : Below B w0 w := let ⟨_, _, _, _, h1, _⟩ := h; h1.cv.hv.bel
theorem rem3 (z : Int) : ∃ t : Nat, (bits BinOp.and .i64 z 255).tmod 3 = (t : Int) ∧ t < 3 := by
  obtain ⟨r, hr, hl⟩ := masked255 z
  refine ⟨r % 3, ?_, by omega⟩
  rw [hr, Int.tmod_eq_emod_of_nonneg (by omega)]; rfl
end
set_option maxRecDepth 20000 in
set_option maxHeartbeats 4000000 in
theorem roots_walk (v : Value) (N : Nat) (f : Nat → Int) (w : World) (hv : Ints w v N f) : Calls Tryz.prog 8 #[v] w fun e w' => e = .returned (.bool true) ∧ Below w.heap.size w w' := by
  obtain ⟨ao, cap, rfl, hv0⟩ := hv
  have H0 : Hid (N = 0 ∨ ∃ B o : Nat, ao = some ⟨B, o, none⟩ ∧ B < w.heap.size ∧ ∀ i, i < N → w.cell? ⟨B, o + i, none⟩ = some (.int .i64 (f i))) := hv0
  clear hv0
  have hA := awake12 w
  go_enter Tryz.func8, Tryz.ntmps8
  go_wp2_with (first
    | (go_at_call 13; refine hA.mono ?_; rintro e w1 ⟨rfl, hb1⟩; clear hA; have hN := cnew_of 8192 3 8192 3 w1 rfl rfl (by omega) (by omega))
    | (go_at_call 9; refine hN.mono ?_; rintro e w2 ⟨hb, Z2, rfl, H2⟩; have hM := cmake_ok H2 (by show 0 ≤ 2000000; omega) 0 1 1 1 (show 0 < 3 by omega) (fits_obj (by omega) (by omega)) (show 0 < 64 by omega) (by show 0 + (1 + 16) ≤ 8192 / 4; omega); clear hN H2)
    | (go_at_call_of 14 (Value.int .i64 0); refine hM.mono ?_; rintro e w3 ⟨ia, S3, a3, c3, rfl, hAd3, Z3, H3, _, _⟩; have hs3 := hAd3.sum; have hM2 := cmake_ok H3 (by show 0 + 500 ≤ 2000000; omega) 1 1 2 1 (show 1 < 3 by omega) (fits_obj (by omega) (by omega)) (show 0 < 64 by omega) (by show sumS S3 + (1 + 16) ≤ 8192 / 4; rw [hs3]; show 0 + (1 + 16) + (1 + 16) ≤ 8192 / 4; omega); clear hM H3)
    | (go_at_call 14; refine hM2.mono ?_; rintro e w4 ⟨ib, S4, a4, c4, rfl, hAd4, Z4, H4, _, _⟩; have H4' : Hid (CvC w1.heap.size w1 w4 hb _ Z4) := H4; clear hM2 H4))
  obtain ⟨vl0, hR0⟩ := rl_start H4'.out ⟨rfl, rfl⟩ ((ia : Int) + 1) ((ib : Int) + 1)
  have HS : Hid (RlS w1.heap.size w1 hb (w4.heap.size + 1 + 1 + 1) 0 ((((w4.alloc (.cells #[.int .i64 ((ia : Int) + 1)] 3)).alloc (.cells #[.int .i64 ((ib : Int) + 1)] 3)).alloc (.cells #[] 3)).alloc (.cells #[.slice (some ⟨w4.heap.size, 0, none⟩) 1 1, .slice (some ⟨w4.heap.size + 1, 0, none⟩) 1 1, .slice (some ⟨w4.heap.size + 1 + 1, 0, none⟩) 0 0] 60))) := ⟨_, _, vl0, _, hR0, fun t ht => by rcases (show t = 0 ∨ t = 1 ∨ t = 2 by omega) with q | q | q <;> subst q <;> rfl, by show 0 + 500 + 500 ≤ 2000; omega⟩
  clear H4' hR0 hAd3 hAd4 hs3
  generalize w4.heap.size + 1 + 1 + 1 = y at *
  go_loopg [10] 101 (fun kx s10 wr => ∃ i : Nat, s10 = .int .i64 i ∧ i ≤ 100 ∧ 100 - i ≤ kx ∧ Hid (RlS w1.heap.size w1 hb y i wr))
  case atStart => exact ⟨0, rfl, by omega, by omega, HS.out⟩
  case round =>
    clear HS
    obtain ⟨i, rfl, hi, hkx, HI⟩ := hrel
    by_cases hiN : i < N ∧ i < 100
    · have g1 : (i : Int) < (N : Int) := by omega
      have g2 : (i : Int) < 100 := by omega
      obtain ⟨X, Z, vl, L, hL, hrt, hm⟩ := HI.out
      have hbel : Below w.heap.size w wr := hb1.trans (hL.cv.hv.bel.mono hb1.size)
      obtain ⟨Bp, op, rfl, hBp, hcp⟩ := H0.out.resolve_left (by omega)
      have cpi : wr.cell? ⟨Bp, op + i, none⟩ = some (.int .i64 (f i)) := (World.cell?_of_block (a := ⟨Bp, op + i, none⟩) (hbel.block Bp hBp)).trans (hcp i (by omega))
      have hBpw : Bp < wr.heap.size := Nat.lt_of_lt_of_le hBp hbel.size
      obtain ⟨t, ht, lt3⟩ := rem3 (f i)
      obtain ⟨c, hc, lc3⟩ := rem3 (wrap64 ((f i).tdiv 3))
      have cyt := hL.row.cell lt3
      obtain ⟨ar, cr, evl⟩ := (hL.own t lt3).form
      rw [evl] at cyt
      have hyl := hL.row.lt
      have ti : (t : Int) < 3 := by omega
      have hc3 : c = 0 ∨ c = 1 ∨ c = 2 := by omega
      by_cases hfull : 64 ≤ (L t).length
      · have HN : Hid (∀ w5, Below wr.heap.size wr w5 → RlS w1.heap.size w1 hb y (i + 1) w5) := fun w5 b5 => ⟨X, Z, vl, L, hL.below b5, hrt, hm⟩
        generalize (L t).length = ln at *
        clear hL hrt hm HI hcp hbel evl
        rcases hc3 with rfl | rfl | rfl
        · have HC : Hid ((bits BinOp.and .i64 (wrap64 ((f i).tdiv 3)) 255).tmod 3 = 0) := hc
          clear hc
          go_upto_region 12 with fail
          · simp only [HC.out]
            go_wp2
            go_roundg (100 - (i + 1))
            case measure => omega
            case rel => exact ⟨i + 1, by go_num, by omega, by omega, HN.out _ ((Below.refl _ _).alloc (Nat.le_refl _) _)⟩
          · rename_i hx; exfalso; apply hx; rw [HC.out]; decide
        · have HC : Hid ((bits BinOp.and .i64 (wrap64 ((f i).tdiv 3)) 255).tmod 3 = 1) := hc
          clear hc
          go_upto_region 12 with fail
          · simp only [HC.out]
            go_wp2
            go_roundg (100 - (i + 1))
            case measure => omega
            case rel => exact ⟨i + 1, by go_num, by omega, by omega, HN.out _ ((Below.refl _ _).alloc (Nat.le_refl _) _)⟩
          · rename_i hx; exfalso; apply hx; rw [HC.out]; decide
        · have HC : Hid ((bits BinOp.and .i64 (wrap64 ((f i).tdiv 3)) 255).tmod 3 = 2) := hc
          clear hc
          go_upto_region 12 with fail
          · simp only [HC.out]
            go_wp2
            go_roundg (100 - (i + 1))
            case measure => omega
            case rel => exact ⟨i + 1, by go_num, by omega, by omega, HN.out _ ((Below.refl _ _).alloc (Nat.le_refl _) _)⟩
          · rename_i hx; exfalso; apply hx; rw [HC.out]; decide
      · have hfd : decide (64 ≤ (L t).length) = false := by simpa using hfull
        have HX : Hid (∀ w5, Below wr.heap.size wr w5 → ∀ r, Calls Tryz.prog 26 #[.pointer (some ⟨hb, 0, none⟩), .int .i64 t, .int .i64 r] w5 fun e w' => e = .returned (.int .i64 0) ∧ RlP w1.heap.size w1 hb y (i + 1) t r w') := fun w5 b5 r => rl_push (hL.below b5) hrt hm lt3 (by omega) r
        generalize (L t).length = ln at *
        clear hL hrt hm HI hcp hbel evl
        rcases hc3 with rfl | rfl | rfl
        · have HC : Hid ((bits BinOp.and .i64 (wrap64 ((f i).tdiv 3)) 255).tmod 3 = 0) := hc
          clear hc
          go_upto_region 12 with fail
          · simp only [HC.out]
            go_wp2_with (first
              | (go_at_call 26; refine (HX.out _ ((Below.refl _ _).alloc (Nat.le_refl _) _) _).mono ?_; rintro e w6 ⟨rfl, n6, ao6, cap6, ao7, cap7, w7, hrun, k6, hP⟩; have HP : Hid (RlS w1.heap.size w1 hb y (i + 1) (w7.setCell ⟨y, t, none⟩ (.slice ao7 (n6 + 1) cap7))) := hP; clear HX hP)
              | (go_at_call 10; refine (num_any _ _).mono ?_; rintro e w9 ⟨rfl, hw9⟩; replace hw9 := hw9.symm; subst hw9))
            go_roundg (100 - (i + 1))
            case measure => omega
            case rel => exact ⟨i + 1, by go_num, by omega, by omega, HP.out⟩
          · rename_i hx; exfalso; apply hx; rw [HC.out]; decide
        · have HC : Hid ((bits BinOp.and .i64 (wrap64 ((f i).tdiv 3)) 255).tmod 3 = 1) := hc
          clear hc
          go_upto_region 12 with fail
          · simp only [HC.out]
            go_wp2_with (first
              | (go_at_call 26; refine (HX.out _ ((Below.refl _ _).alloc (Nat.le_refl _) _) _).mono ?_; rintro e w6 ⟨rfl, n6, ao6, cap6, ao7, cap7, w7, hrun, k6, hP⟩; have HP : Hid (RlS w1.heap.size w1 hb y (i + 1) (w7.setCell ⟨y, t, none⟩ (.slice ao7 (n6 + 1) cap7))) := hP; clear HX hP)
              | (go_at_call 10; refine (num_any _ _).mono ?_; rintro e w9 ⟨rfl, hw9⟩; replace hw9 := hw9.symm; subst hw9))
            go_roundg (100 - (i + 1))
            case measure => omega
            case rel => exact ⟨i + 1, by go_num, by omega, by omega, HP.out⟩
          · rename_i hx; exfalso; apply hx; rw [HC.out]; decide
        · have HC : Hid ((bits BinOp.and .i64 (wrap64 ((f i).tdiv 3)) 255).tmod 3 = 2) := hc
          clear hc
          go_upto_region 12 with fail
          · simp only [HC.out]
            go_wp2_with (first
              | (go_at_call 26; refine (HX.out _ ((Below.refl _ _).alloc (Nat.le_refl _) _) _).mono ?_; rintro e w6 ⟨rfl, n6, ao6, cap6, ao7, cap7, w7, hrun, k6, hP⟩; have HP : Hid (RlS w1.heap.size w1 hb y (i + 1) (w7.setCell ⟨y, t, none⟩ (.slice ao7 (n6 + 1) cap7))) := hP; clear HX hP)
              | (go_at_call 10; refine (num_any _ _).mono ?_; rintro e w9 ⟨rfl, hw9⟩; replace hw9 := hw9.symm; subst hw9))
            go_roundg (100 - (i + 1))
            case measure => omega
            case rel => exact ⟨i + 1, by go_num, by omega, by omega, HP.out⟩
          · rename_i hx; exfalso; apply hx; rw [HC.out]; decide
    · have hcase : ¬ i < N ∨ (i < N ∧ i = 100) := by omega
      have HT0 : Hid (RlT w1.heap.size w1 hb y 0 wr) := HI.out.pops
      clear HI H0 hiN
      rcases hcase with hx | ⟨hx, hx2⟩
      all_goals
        go_wp2_with fail
        go_loopg [14] 4 (fun kx s14 wx => ∃ t : Nat, s14 = .int .i64 t ∧ t ≤ 3 ∧ 3 - t ≤ kx ∧ Hid (RlT w1.heap.size w1 hb y t wx))
        case atStart => exact ⟨0, rfl, by omega, by omega, HT0.out⟩
        case round =>
          clear HT0
          obtain ⟨t, rfl, ht3, hkt, HT⟩ := hrel
          by_cases htl : t < 3
          · have g3 : (t : Int) < 3 := by omega
            obtain ⟨X, Z, vl, L, hL, hrt, hlen⟩ := HT.out
            obtain ⟨ar, cr, evl⟩ := (hL.own t htl).form
            have HU0 : Hid (RlU w1.heap.size w1 hb y t vl L (L t).length _) := ⟨X, Z, hL, by rw [List.take_length]; exact hrt t (Nat.le_refl _) htl, fun s hs hs3 => hrt s (by omega) hs3⟩
            have HL : Hid ((∀ s, s < 3 → (L s).length ≤ 64) ∧ vl t = .slice ar (L t).length cr) := ⟨hlen, evl⟩
            have kc := (HU0.out.cells htl evl).1
            have h64 := hlen t htl
            clear hL hrt hlen HT evl
            obtain ⟨ln, hln⟩ : ∃ ln, ln = (L t).length := ⟨_, rfl⟩
            have HLn : Hid (ln = (L t).length) := hln
            rw [← hln] at kc h64 HU0
            clear hln
            go_wp2_with fail
            go_loopg [15] 66 (fun kx s15 wx => ∃ j : Nat, s15 = .int .i64 ((j : Int) - 1) ∧ j ≤ ln ∧ j ≤ kx ∧ Hid (RlU w1.heap.size w1 hb y t vl L j wx))
            case atStart => exact ⟨ln, rfl, by omega, by omega, HU0.out⟩
            case round =>
              clear HU0
              obtain ⟨j, rfl, hj, hkj, HU⟩ := hrel
              cases j with
              | succ j =>
                have g4 : (0 : Int) ≤ ((j + 1 : Nat) : Int) - 1 := by omega
                obtain ⟨r, hr, hPp⟩ := rl_pop HU.out htl (by rw [← HLn.out]; omega)
                have HK : Hid (∀ w6, RlU w1.heap.size w1 hb y t vl L j w6 → (w6.cell? ⟨y, t, none⟩ = some (.slice ar ln cr) ∧ y < w6.heap.size) ∧ ∃ p, ar = some ⟨p, 0, none⟩ ∧ w6.cell? ⟨p, j, none⟩ = some (.int .i64 r) ∧ p < w6.heap.size) := fun w6 h6 => by
                  have hh := h6.cells htl HL.out.2
                  rw [← HLn.out] at hh
                  exact ⟨hh.1, hh.2 j r hr⟩
                have e5 : ((j + 1 : Nat) : Int) - 1 = (j : Int) := by omega
                have g6 : (j : Int) < (ln : Int) := by omega
                have g7 : j < 100 := by omega
                clear HU hr
                rw [e5]
                go_wp2_with (first
                  | (go_at_call 16; refine hPp.mono ?_; rintro e w6 ⟨rfl, hU6⟩; obtain ⟨k6, p6, rfl, k7, k8⟩ := HK.out w6 hU6; have HU6 : Hid (RlU w1.heap.size w1 hb y t vl L j w6) := hU6; clear hPp hU6 HK)
                  | (go_at_call 10; refine (num_any _ _).mono ?_; rintro e w9 ⟨rfl, hw9⟩; replace hw9 := hw9.symm; subst hw9))
                go_roundg (j)
                case measure => omega
                case rel => exact ⟨j, rfl, by omega, by omega, HU6.out⟩
              | zero =>
                have g4 : ¬ (0 : Int) ≤ ((0 : Nat) : Int) - 1 := by omega
                have hPp := rl_last HU.out htl HL.out.1
                clear HU
                go_wp2_with (first
                  | (go_at_call 16; refine hPp.mono ?_; rintro e w6 ⟨rfl, hT6⟩; have HT6 : Hid (RlT w1.heap.size w1 hb y (t + 1) w6) := hT6; clear hPp hT6)
                  | (go_at_call 10; refine (num_any _ _).mono ?_; rintro e w9 ⟨rfl, hw9⟩; replace hw9 := hw9.symm; subst hw9))
                go_roundg (3 - (t + 1))
                case measure => omega
                case rel => exact ⟨t + 1, by go_num, by omega, by omega, HT6.out⟩
          · have g3 : ¬ (t : Int) < 3 := by omega
            have HB : Hid (Below w.heap.size w _) := hb1.trans (HT.out.bel.mono hb1.size)
            clear HT
            go_wp2_with (go_at_call 10; refine (num_any _ _).mono ?_; rintro e w9 ⟨rfl, hw9⟩; replace hw9 := hw9.symm; subst hw9)
            go_ret
            exact ⟨rfl, HB.out⟩
end Go.Proofs.YtibnipockmnmhaaGreat
