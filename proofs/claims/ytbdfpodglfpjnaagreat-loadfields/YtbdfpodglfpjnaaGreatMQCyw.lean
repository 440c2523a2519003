/- LoadCycles. -/
import Derived.Test.YtbdfpodglfpjnaaGreatMQTyp
namespace Go.Proofs.YtbdfpodglfpjnaaGreat
open Go.RowKit Go.Deep

/-- One cell of one struct of a row of one's own. -/
theorem Gro.lens {α : Type} {K : Kd α} {base : Nat} {w : World} {v : Value} {xs : List α} {css : List (List Value)} (h1 : css.length = xs.length) (h2 : ∀ (i : Nat) (x : α), xs[i]? = some x → ∃ cs, css[i]? = some cs ∧ K.R w (Sx base w v) x cs) : ∀ z ∈ css, z.length = K.k := fun z hz => by
  obtain ⟨j, hj, rfl⟩ := List.getElem_of_mem hz
  obtain ⟨cs, e1, e2⟩ := h2 j (xs[j]'(by omega)) (List.getElem?_eq_getElem (by omega))
  rw [List.getElem?_eq_getElem hj] at e1
  cases e1
  exact K.len e2
theorem Gro.set1 {α : Type} {K : Kd α} {T : TypeId} {base : Nat} {w : World} {xs : List α} {g cap : Nat} (h : Gro K T base w (.slice (some ⟨g, 0, none⟩) xs.length cap) xs) {i j : Nat} {x x' : α} {u : Value} (hj : j < K.k) (hx : xs[i]? = some x) (hR : ∀ S cs, K.R w S x cs → K.R w S x' (cs.set j u)) :
    Gro K T base (w.setCell ⟨g, i * K.k + j, none⟩ u) (.slice (some ⟨g, 0, none⟩) xs.length cap) (xs.set i x') ∧ (∃ u0, w.cell? ⟨g, i * K.k + j, none⟩ = some u0) ∧ w.frozen? ⟨g, i * K.k + j, none⟩ = false := by
  obtain ⟨css, q1, q2, q3⟩ := h.css
  have hi := (List.getElem?_eq_some_iff.1 hx).1
  obtain ⟨cs, e1, e2⟩ := q2 i x hx
  have hl := Gro.lens q1 q2
  have hf := flatten_set1 (u := u) hj css i cs hl e1
  have ho := own_set1 (idx := i * K.k + j) (u := u) q3
  rw [← hf] at ho
  refine ⟨⟨css.set i (cs.set j u), by simp [q1], fun a y hy => ?_, by rw [List.length_set]; exact ho⟩, ?_, ?_⟩
  · by_cases e : i = a
    · subst e
      rw [List.getElem?_set_self hi] at hy
      cases hy
      exact ⟨_, List.getElem?_set_self (by omega), K.mono (S := Sx base w (.slice (some ⟨g, 0, none⟩) xs.length cap)) (fun b hb => ⟨hb.1, by rw [sz_sc]; exact hb.2.1, hb.2.2⟩) (K.keep (fun b hb => Below.heap_setCell _ _ _ _ (fun q => hb.2.2 (by rw [q]; rfl))) (hR _ _ e2))⟩
    · rw [List.getElem?_set_ne e] at hy
      obtain ⟨ds, d1, d2⟩ := q2 a y hy
      exact ⟨ds, by rw [List.getElem?_set_ne e]; exact d1, K.mono (S := Sx base w (.slice (some ⟨g, 0, none⟩) xs.length cap)) (fun b hb => ⟨hb.1, by rw [sz_sc]; exact hb.2.1, hb.2.2⟩) (K.keep (fun b hb => Below.heap_setCell _ _ _ _ (fun q => hb.2.2 (by rw [q]; rfl))) d2)⟩
  · have hlt : i * K.k + j < xs.length * K.k := by
      have := Nat.mul_le_mul_right K.k (show i + 1 ≤ xs.length by omega)
      rw [Nat.add_mul, Nat.one_mul] at this; omega
    obtain ⟨u0, hu⟩ : ∃ u0, css.flatten[i * K.k + j]? = some u0 := ⟨_, List.getElem?_eq_getElem (by rw [flat_len css hl, q1]; exact hlt)⟩
    exact ⟨u0, (q3.cellAt _ hlt).trans hu⟩
  · rcases q3.2 with ⟨e, -⟩ | ⟨g', cap', cur, e, r1, r2, -⟩
    · cases e
    · injection e with f1
      injection f1 with f1
      injection f1 with f1
      subst f1
      simp [World.frozen?, r2]
theorem mask7c (n : Int) : bits BinOp.and .i64 n 7 = n % 8 := by
  have e : (BitVec.ofInt 64 n &&& BitVec.ofInt 64 7).toNat = (n % 18446744073709551616).toNat % 8 := by
    rw [BitVec.toNat_and, BitVec.toNat_ofInt, show (BitVec.ofInt 64 7).toNat = 2 ^ 3 - 1 from by decide, Nat.and_two_pow_sub_one_eq_mod]; rfl
  show IntKind.i64.wrap ((BitVec.ofInt 64 n &&& BitVec.ofInt 64 7).toNat : Nat) = n % 8
  rw [e, IntKind.wrap_i64]; omega
def cycC (m i : Nat) : Cs := ⟨⟨#[65]⟩, false, false, 12 + (((i + 1) % (m + 1) : Nat) : Int), [], [], [], []⟩
def cycs (m : Nat) : List Cs := (List.range (m + 1)).map (cycC m)
def cycP (m : Nat) : Pg := ⟨11, tinyC :: cycs m⟩
def cycO (m : Nat) : List Cs := (cycs m).set m ⟨⟨#[65]⟩, false, false, 0, [], [], [], []⟩
def cycQ (m : Nat) : Pg := ⟨11, tinyC :: cycO m⟩
theorem cyc_tab : ((List.range 8).all fun m => (okB (cycP m) && decide (st8 (cycP m) = (1501, 12))) && (okB (cycQ m) && decide (st8 (cycQ m) = (0, 0)))) = true := by kernel_rfl
theorem cyc_at (m : Nat) (h : m ≤ 7) : (Okl (cycP m) ∧ loadJ (cycP m) = .error (1501, 12)) ∧ Okl (cycQ m) ∧ loadJ (cycQ m) = .ok (allJ (cycQ m)) := by
  have h := List.all_eq_true.1 cyc_tab m (List.mem_range.2 (by omega))
  simp only [Bool.and_eq_true, decide_eq_true_eq] at h
  exact ⟨⟨okl_of h.1.1, (load_of h.1.2).trans rfl⟩, okl_of h.2.1, (load_of h.2.2).trans rfl⟩
theorem cycs_len (m : Nat) : (cycs m).length = m + 1 := by unfold cycs; rw [List.length_map, List.length_range]
theorem cycs_at (m i : Nat) (h : i < m + 1) : (cycs m)[i]? = some (cycC m i) := by unfold cycs; rw [List.getElem?_map, List.getElem?_range h]; rfl
attribute [local go_sem ↓] app_Y
set_option maxRecDepth 20000 in
set_option maxHeartbeats 8000000 in
theorem cycles_false (n : Int) (m : Nat) (hm : bits BinOp.and .i64 n 7 = (m : Int)) (h7 : m ≤ 7) (w : World) : Calls Tryz.prog 4 #[.int .i64 n, .bool false] w fun e w' => e = .returned (.bool true) ∧ Below w.heap.size w w' := by
  obtain ⟨i0, hi, hz0, hz1, hz2⟩ := info_parts infoCQ
  have hA := awake15 w
  obtain ⟨⟨hO1, hJ1⟩, hO2, hJ2⟩ := cyc_at m h7
  have HO1 : Hid _ := hO1
  have HJ1 : Hid _ := hJ1
  have HO2 : Hid _ := hO2
  have HJ2 : Hid _ := hJ2
  have HP : Hid (∀ (base : Nat) (wr : World) (v : Value) (i : Nat), Gro kCs 31 base wr v ((cycs m).take i) → base ≤ wr.heap.size → i < m + 1 → ∃ g cap w2, (appY #[23, 23] 23 #[v, .slice (some ⟨wr.heap.size, 0, none⟩) 1 1]).run Tryz.prog (wr.alloc (.cells #[.string ⟨#[65]⟩, .bool false, .bool false, .int .i64 (12 + (((i + 1) % (m + 1) : Nat) : Int)), .slice none 0 0, .slice none 0 0, .slice none 0 0, .slice none 0 0] 31)) = .ok (.slice (some ⟨g, 0, none⟩) (i + 1) cap) w2 ∧ Hid (Gro kCs 31 base w2 (.slice (some ⟨g, 0, none⟩) (i + 1) cap) ((cycs m).take (i + 1))) ∧ Hid (Below base wr w2)) := fun base wr v i hG hb hlt => by
    have hl : ((cycs m).take i).length = i := by rw [List.length_take, cycs_len]; omega
    obtain ⟨g, cap, w2, h1, h2, h3, -⟩ := Gro.push hG hb Tryz.underlying23 hi hz0 hz1 hz2 rfl (by decide) (Below.refl _ _) (x := cycC m i) (cs := [.string ⟨#[65]⟩, .bool false, .bool false, .int .i64 (12 + (((i + 1) % (m + 1) : Nat) : Int)), .slice none 0 0, .slice none 0 0, .slice none 0 0, .slice none 0 0]) ⟨_, _, _, _, rfl, Sl.nil _ _ _, Sl.nil _ _ _, Sl.nil _ _ _, Sl.nil _ _ _⟩ (by omega)
    rw [hl] at h1 h2
    rw [← take_next (cycs_at m i hlt)] at h2
    exact ⟨g, cap, w2, h1, h2, h3⟩
  clear hi hz0 hz1 hz2 hO1 hJ1 hO2 hJ2
  go_enter Tryz.func4, Tryz.ntmps4
  go_wp2_with (go_at_call 11; refine hA.mono ?_; clear hA; rintro e w1 ⟨rfl, hb1⟩; have HB1 : Hid (Below w.heap.size w w1) := hb1; clear hb1)
  go_loopg [6, 7] (m + 2) (fun kx s6 s7 wr => ∃ i : Nat, s7 = .int .i64 i ∧ i ≤ m + 1 ∧ m + 1 - i ≤ kx ∧ Hid (Gro kCs 31 w1.heap.size wr s6 ((cycs m).take i)) ∧ Hid (Below w1.heap.size w1 wr))
  case atStart => exact ⟨0, rfl, by omega, by omega, Gro.nil _ _ _ _, Below.refl _ _⟩
  case round =>
    obtain ⟨i, rfl, hi, hk, HG, HB⟩ := hrel
    by_cases hlt : i < m + 1
    · have hl2 : (i : Int) < 1 + (m : Int) := by omega
      obtain ⟨g, cap, w2, hrun, HG2, HB2⟩ := HP.out _ _ _ _ HG.out HB.out.size hlt
      have hrem : Int.tmod ((i : Int) + 1) (1 + (m : Int)) = (((i + 1) % (m + 1) : Nat) : Int) := by
        rw [show (1 + (m : Int)) = ((m + 1 : Nat) : Int) from by omega, show ((i : Int) + 1) = ((i + 1 : Nat) : Int) from by omega]; rfl
      have hr8 := Nat.mod_lt (i + 1) (show 0 < m + 1 by omega)
      generalize (i + 1) % (m + 1) = r at *
      go_wp2
      go_roundg (m + 1 - (i + 1))
      case measure => omega
      case rel => exact ⟨i + 1, by go_num, by omega, Nat.le_refl _, HG2, HB.out.trans HB2.out⟩
    · obtain rfl : i = m + 1 := by omega
      have hl2 : ¬ ((m + 1 : Nat) : Int) < 1 + (m : Int) := by omega
      have hG := HG.out
      rw [List.take_of_length_le (by rw [cycs_len]; exact Nat.le_refl _)] at hG
      obtain ⟨ao, cap, hv⟩ := hG.slice
      rw [cycs_len] at hv
      subst hv
      have hS : Sl kCs wr (fun b => w1.heap.size ≤ b ∧ b < wr.heap.size) (.slice ao (m + 1) cap) (cycs m) := hG.sl
      have hW := withN (cycs_len m) (fun k q => q.2) hS (by omega) (by omega)
      have HB0 : Hid _ := HB.out
      clear hG hS HG HP
      go_wp2_with (first
        | (go_at_call 12; refine hW.mono ?_; clear hW; rintro e w5 ⟨g, c, rfl, hb5, S', hS', hs⟩; have HB5 : Hid _ := hb5; have hF := errN (p := cycP m) rfl (by show _ + 1 = _; rw [cycs_len]) HO1.out hS' hs (by decide) HJ1.out; clear hb5 hS' hs)
        | (go_at_call 13; refine hF.mono ?_; clear hF; rintro e w6 ⟨rfl, hb6⟩; have HB6 : Hid _ := hb6; clear hb6))
      go_ret
      exact ⟨rfl, HB1.out.trans (((HB0.out.trans (HB5.out.mono HB0.out.size)).trans (HB6.out.mono (Nat.le_trans HB0.out.size HB5.out.size))).mono HB1.out.size)⟩
set_option maxRecDepth 20000 in
set_option maxHeartbeats 8000000 in
theorem cycles_true (n : Int) (m : Nat) (hm : bits BinOp.and .i64 n 7 = (m : Int)) (h7 : m ≤ 7) (w : World) : Calls Tryz.prog 4 #[.int .i64 n, .bool true] w fun e w' => e = .returned (.bool true) ∧ Below w.heap.size w w' := by
  obtain ⟨i0, hi, hz0, hz1, hz2⟩ := info_parts infoCQ
  have hA := awake15 w
  obtain ⟨⟨hO1, hJ1⟩, hO2, hJ2⟩ := cyc_at m h7
  have HO1 : Hid _ := hO1
  have HJ1 : Hid _ := hJ1
  have HO2 : Hid _ := hO2
  have HJ2 : Hid _ := hJ2
  have HP : Hid (∀ (base : Nat) (wr : World) (v : Value) (i : Nat), Gro kCs 31 base wr v ((cycs m).take i) → base ≤ wr.heap.size → i < m + 1 → ∃ g cap w2, (appY #[23, 23] 23 #[v, .slice (some ⟨wr.heap.size, 0, none⟩) 1 1]).run Tryz.prog (wr.alloc (.cells #[.string ⟨#[65]⟩, .bool false, .bool false, .int .i64 (12 + (((i + 1) % (m + 1) : Nat) : Int)), .slice none 0 0, .slice none 0 0, .slice none 0 0, .slice none 0 0] 31)) = .ok (.slice (some ⟨g, 0, none⟩) (i + 1) cap) w2 ∧ Hid (Gro kCs 31 base w2 (.slice (some ⟨g, 0, none⟩) (i + 1) cap) ((cycs m).take (i + 1))) ∧ Hid (Below base wr w2)) := fun base wr v i hG hb hlt => by
    have hl : ((cycs m).take i).length = i := by rw [List.length_take, cycs_len]; omega
    obtain ⟨g, cap, w2, h1, h2, h3, -⟩ := Gro.push hG hb Tryz.underlying23 hi hz0 hz1 hz2 rfl (by decide) (Below.refl _ _) (x := cycC m i) (cs := [.string ⟨#[65]⟩, .bool false, .bool false, .int .i64 (12 + (((i + 1) % (m + 1) : Nat) : Int)), .slice none 0 0, .slice none 0 0, .slice none 0 0, .slice none 0 0]) ⟨_, _, _, _, rfl, Sl.nil _ _ _, Sl.nil _ _ _, Sl.nil _ _ _, Sl.nil _ _ _⟩ (by omega)
    rw [hl] at h1 h2
    rw [← take_next (cycs_at m i hlt)] at h2
    exact ⟨g, cap, w2, h1, h2, h3⟩
  clear hi hz0 hz1 hz2 hO1 hJ1 hO2 hJ2
  go_enter Tryz.func4, Tryz.ntmps4
  go_wp2_with (go_at_call 11; refine hA.mono ?_; clear hA; rintro e w1 ⟨rfl, hb1⟩; have HB1 : Hid (Below w.heap.size w w1) := hb1; clear hb1)
  go_loopg [6, 7] (m + 2) (fun kx s6 s7 wr => ∃ i : Nat, s7 = .int .i64 i ∧ i ≤ m + 1 ∧ m + 1 - i ≤ kx ∧ Hid (Gro kCs 31 w1.heap.size wr s6 ((cycs m).take i)) ∧ Hid (Below w1.heap.size w1 wr))
  case atStart => exact ⟨0, rfl, by omega, by omega, Gro.nil _ _ _ _, Below.refl _ _⟩
  case round =>
    obtain ⟨i, rfl, hi, hk, HG, HB⟩ := hrel
    by_cases hlt : i < m + 1
    · have hl2 : (i : Int) < 1 + (m : Int) := by omega
      obtain ⟨g, cap, w2, hrun, HG2, HB2⟩ := HP.out _ _ _ _ HG.out HB.out.size hlt
      have hrem : Int.tmod ((i : Int) + 1) (1 + (m : Int)) = (((i + 1) % (m + 1) : Nat) : Int) := by
        rw [show (1 + (m : Int)) = ((m + 1 : Nat) : Int) from by omega, show ((i : Int) + 1) = ((i + 1 : Nat) : Int) from by omega]; rfl
      have hr8 := Nat.mod_lt (i + 1) (show 0 < m + 1 by omega)
      generalize (i + 1) % (m + 1) = r at *
      go_wp2
      go_roundg (m + 1 - (i + 1))
      case measure => omega
      case rel => exact ⟨i + 1, by go_num, by omega, Nat.le_refl _, HG2, HB.out.trans HB2.out⟩
    · obtain rfl : i = m + 1 := by omega
      have hl2 : ¬ ((m + 1 : Nat) : Int) < 1 + (m : Int) := by omega
      have hG := HG.out
      rw [List.take_of_length_le (by rw [cycs_len]; exact Nat.le_refl _)] at hG
      have hsh := hG.shape
      rcases hsh with e | ⟨g, cap, rfl, hg1, hg2⟩
      · obtain ⟨_, _, e2⟩ := hG.slice
        rw [e, cycs_len] at e2
        cases e2
      · obtain ⟨hG2, ⟨u0, hu⟩, hfz⟩ := hG.set1 (i := m) (j := 3) (x' := ⟨⟨#[65]⟩, false, false, 0, [], [], [], []⟩) (u := .int .i64 0) (by decide) (cycs_at m m (by omega)) (fun S cs hR => by obtain ⟨v1, v2, v3, v4, rfl, s1, s2, s3, s4⟩ := hR; exact ⟨v1, v2, v3, v4, rfl, s1, s2, s3, s4⟩)
        rw [show m * kCs.k + 3 = m * 8 + 3 from rfl] at hG2 hu hfz
        obtain ⟨W, hW⟩ : ∃ W, W = wr.setCell ⟨g, m * 8 + 3, none⟩ (.int .i64 0) := ⟨_, rfl⟩
        rw [← hW] at hG2
        have hzW : W.heap.size = wr.heap.size := by rw [hW, sz_sc]
        have hbW : Below w1.heap.size wr W := ⟨by rw [hW]; rfl, by rw [hW]; rfl, by rw [hW]; rfl, by omega, fun k hk => by rw [hW, hp_sc, if_neg (by omega)]⟩
        rw [cycs_len] at *
        have hS : Sl kCs W (fun b => w1.heap.size ≤ b ∧ b < W.heap.size) (.slice (some ⟨g, 0, none⟩) (m + 1) cap) (cycO m) := hG2.sl
        have hWW := withN (xs := cycO m) (by unfold cycO; rw [List.length_set, cycs_len]) (fun k q => q.2) hS (by omega) (by omega)
        have HB0 : Hid (Below w1.heap.size w1 W) := HB.out.trans hbW
        clear hG hS HG HP hG2 hbW hzW
        go_upto_region 11 with fail
        rw [← hW]
        clear hW hu hfz
        go_wp2_with (first
          | (go_at_call 12; refine hWW.mono ?_; clear hWW; rintro e w5 ⟨g, c, rfl, hb5, S', hS', hs⟩; have HB5 : Hid _ := hb5; have hF := yesN (p := cycQ m) rfl (by show (cycO m).length + 1 = _; unfold cycO; rw [List.length_set, cycs_len]) HO2.out hS' hs HJ2.out; clear hb5 hS' hs)
          | (go_at_call 13; refine hF.mono ?_; clear hF; rintro e w6 ⟨rfl, hb6⟩; have HB6 : Hid _ := hb6; clear hb6))
        go_ret
        exact ⟨rfl, HB1.out.trans (((HB0.out.trans (HB5.out.mono HB0.out.size)).trans (HB6.out.mono (Nat.le_trans HB0.out.size HB5.out.size))).mono HB1.out.size)⟩
theorem cycles_walk (n : Int) (o : Bool) (w : World) : Calls Tryz.prog 4 #[.int .i64 n, .bool o] w fun e w' => e = .returned (.bool true) ∧ Below w.heap.size w w' := by
  have h := mask7c n
  cases o
  · exact cycles_false n (n % 8).toNat (by rw [h]; omega) (by omega) w
  · exact cycles_true n (n % 8).toNat (by rw [h]; omega) (by omega) w
end Go.Proofs.YtbdfpodglfpjnaaGreat
