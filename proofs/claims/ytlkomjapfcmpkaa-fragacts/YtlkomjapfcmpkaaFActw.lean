/- The walk of FragActs. -/
import Derived.Test.YtlkomjapfcmpkaaFActa
import Derived.Test.YtlkomjapfcmpkaaFActf
import Derived.Test.YtlkomjapfcmpkaaFActs
import Derived.Test.YtlkomjapfcmpkaaFActo
import Derived.Test.YtlkomjapfcmpkaaFRow
namespace Go.Proofs.Ytlkomjapfcmpkaa
open Go.RowKit

/-- One act, whatever it is. -/
theorem act_any {B : Nat} {w0 w : World} {p b W base n m y q : Nat} (h : Play B w0 w p b W base n m y q) (hm : m ≤ 100000) (K A F J v : Int) :
    Calls Try.prog 7 #[.pointer (some ⟨y, 0, none⟩), .agg #[.int .i64 K, .int .i64 A, .int .i64 F, .int .i64 J, .int .i64 v]] w (ActPost B w0 p b W base n (m + 1) y q) := by
  obtain ⟨P, cs, T, xs, ws, I, V, many, hG, hT, hA, hM⟩ := h
  by_cases k0 : K = 0 ∨ K = 1 ∨ K = 2
  · exact act_alloc hG hA hM m ⟨hT, hm⟩ K A F J v k0
  by_cases k3 : K = 3
  · exact act_free hG hA hM m ⟨hT, hm⟩ K A F J v k3
  by_cases k4 : K = 4
  · exact act_load hG hA hM m ⟨hT, hm⟩ K A F J v k4
  by_cases k5 : K = 5
  · exact act_store5 hG hA hM m ⟨hT, hm⟩ K A F J v k5
  by_cases k6 : K = 6
  · exact act_store6 hG hA hM m ⟨hT, hm⟩ K A F J v k6
  exact act_other hG hA hM m ⟨hT, hm⟩ K A F J v (by omega)

theorem infoUu : (Try.prog.info? 38).map (fun i => (i.zero, i.size, i.bytes)) = some (some (.agg #[.bool false, .int .i64 0, .int .i64 0, .int .i64 0, .int .i64 0, .int .i64 0, .int .i64 0, .int .i64 0, .int .i64 0, .int .i64 0]), 10, 80) := by kernel_rfl
/-- The row of what must be, all of it free. -/
theorem make_used (x : Int) (n : Nat) (hx : x = n) (hn : n ≤ 1000) : ∃ C : Array Value, (∀ u : World, (Instr.makeSlice 28 (.int .i64 x) (.int .i64 x)).run Try.prog u = .ok (.slice (some ⟨u.heap.size, 0, none⟩) n n) (u.alloc (.cells C 38))) ∧
    C.size = n * 10 ∧ ∀ i, i < n * 10 → C[i]? = some (ucell (fun _ => false) (fun _ _ => 0) i) := by
  subst hx
  obtain ⟨i, hi, hz, hs, hb⟩ := info_parts infoUu
  refine ⟨madeCells #[.bool false, .int .i64 0, .int .i64 0, .int .i64 0, .int .i64 0, .int .i64 0, .int .i64 0, .int .i64 0, .int .i64 0, .int .i64 0] (n * 10), fun u => ?_, size_madeCells _ _, fun j hj => ?_⟩
  · have := run_make (P := Try.prog) u 28 38 i _ Try.underlying28 hi hz .i64 .i64 n n (by omega) (Int.le_refl _) (by rw [hb]; omega) (by omega)
    rw [hs] at this
    simpa [Value.cells] using this
  · unfold madeCells ucell
    simp only [Array.getElem?_map]
    rw [show (Array.range (n * 10))[j]? = some j by simp [hj]]
    simp only [Option.map_some]
    rcases (show j % 10 = 0 ∨ j % 10 = 1 ∨ j % 10 = 2 ∨ j % 10 = 3 ∨ j % 10 = 4 ∨ j % 10 = 5 ∨ j % 10 = 6 ∨ j % 10 = 7 ∨ j % 10 = 8 ∨ j % 10 = 9 by omega) with e | e | e | e | e | e | e | e | e | e <;> simp [e]
theorem masked31k (n : Int) : ∃ k : Nat, 1 + bits BinOp.and .i64 n 31 = (k : Int) ∧ 1 ≤ k ∧ k ≤ 32 := by
  obtain ⟨r, hr, h4⟩ := masked31 n
  exact ⟨1 + r, by rw [hr]; omega, by omega, by omega⟩
theorem play_start {B : Nat} {w0 w : World} {P : Nat → Prop} {p b W base n : Nat} {C : Array Value} (h : Pl w P p b W base n 3 (fun _ => 0) 0 (up n 1) (fun _ => 0)) (hb : Below B w0 w) (hB : B ≤ w.heap.size) (hP : ∀ j, P j → B ≤ j) (hs : C.size = n * 10) (hc : ∀ i, i < n * 10 → C[i]? = some (ucell (fun _ => false) (fun _ _ => 0) i)) :
    Play B w0 ((w.alloc (.cells C 38)).alloc (.cells #[.pointer (some ⟨p, 0, none⟩), .pointer (some ⟨b, 0, none⟩), .slice (some ⟨w.heap.size, 0, none⟩) n n, .int .i64 0] 30)) p b W base n 0 (w.heap.size + 1) w.heap.size := by
  have e1 := heap_alloc_new (w.alloc (.cells C 38)) (.cells #[.pointer (some ⟨p, 0, none⟩), .pointer (some ⟨b, 0, none⟩), .slice (some ⟨w.heap.size, 0, none⟩) n n, .int .i64 0] 30)
  rw [Go.Deep.nblk_alloc] at e1
  have h2 := two_below w (.cells C 38) (.cells #[.pointer (some ⟨p, 0, none⟩), .pointer (some ⟨b, 0, none⟩), .slice (some ⟨w.heap.size, 0, none⟩) n n, .int .i64 0] 30)
  refine ⟨P, _, 0, _, _, fun _ => false, fun _ _ => 0, 0, ⟨h.below h2, e1, ⟨C, box_alloc (heap_alloc_new w _) _, hs, hc⟩, hb.trans (h2.mono hB), Nat.le_trans hB h2.size, ⟨fun r => ?_, fun r => ?_⟩, hP, ⟨by omega, hB⟩⟩, Int.le_refl _, fun f hf => ⟨⟨fun r => absurd r (by simp), fun r => absurd rfl r⟩, fun r => absurd r (by simp)⟩, by rw [up_len]; omega⟩
  · have := h.lt _ r; omega
  · have := h.lt _ r; omega
/-- Used, twice. -/
theorem used_p {w : World} {P : Nat → Prop} {p b W base n : Nat} {cs : Nat → Int} {T : Int} {xs : List Int} {ws : Nat → Int} (h : Pl w P p b W base n 3 cs T xs ws) {C : Nat → Int} {N : Nat} (hC : C = fun f => ws (base + 8 * n + f)) (hN : N = cnt C n) (u : World) (hu : Below w.heap.size w u) :
    Calls Try.prog 8 #[.pointer (some ⟨p, 0, none⟩)] u fun e w' => ∃ ao k F, e = .returned (.slice ao N k) ∧ Mine w' u.heap.size (.slice ao N k) N F ∧ Lists C F n ∧ Below u.heap.size u w' := by
  subst hN hC
  refine (used_ok (h.below hu)).mono ?_
  rintro e w' ⟨v, F, rfl, hM, hF, hb⟩
  obtain ⟨ao, k, rfl, _⟩ := hM.ints
  exact ⟨ao, k, F, rfl, hM, hF, hb⟩
set_option maxRecDepth 20000 in
set_option maxHeartbeats 8000000 in
theorem acts_walk (base count : Int) (ao : Option Addr) (len cap : Nat) (w : World) (_hlen : len ≤ maxLen)
    (hs : len = 0 ∨ ∃ (B o : Nat) (F : Nat → Nat → Int), ao = some ⟨B, o, none⟩ ∧ B < w.heap.size ∧ ∀ i j, i < len → j < 5 → w.cell? ⟨B, o + i * 5 + j, none⟩ = some (.int .i64 (F i j))) :
    Calls Try.prog 3 #[.int .i64 base, .int .i64 count, .slice ao len cap] w fun e w' => e = .returned (.bool true) ∧ Below w.heap.size w w' := by
  obtain ⟨d, hd, d16⟩ := masked15 base
  obtain ⟨n, hn, n1, n32⟩ := masked31k count
  unfold maxLen at _hlen
  have Hs : Hid (len = 0 ∨ ∃ (B o : Nat) (F : Nat → Nat → Int), ao = some ⟨B, o, none⟩ ∧ B < w.heap.size ∧ ∀ i j, i < len → j < 5 → w.cell? ⟨B, o + i * 5 + j, none⟩ = some (.int .i64 (F i j))) := hs
  clear hs
  obtain ⟨C, hmk, hC1, hC2⟩ := make_used (n : Int) n rfl (by omega)
  have Hc1 : Hid (C.size = n * 10) := hC1
  have Hc2 : Hid (∀ i, i < n * 10 → C[i]? = some (ucell (fun _ => false) (fun _ _ => 0) i)) := hC2
  clear hC1 hC2
  go_enter Try.func3, Try.ntmps3
  go_wp2_with (go_at_call 6; refine (begun_ok _ _ d n _ (by omega) (by omega) (by omega) (by omega) (by omega)).mono ?_; rintro e w1 ⟨p, b, P, rfl, hP1, hb1, hQ1⟩)
  have hE0 := play_start hP1 hb1 hb1.size hQ1 Hc1.out Hc2.out
  clear hP1 hb1 hQ1 hmk Hc1 Hc2
  generalize (w1.alloc (.cells C 38)).alloc (.cells #[.pointer (some ⟨p, 0, none⟩), .pointer (some ⟨b, 0, none⟩), .slice (some ⟨w1.heap.size, 0, none⟩) n n, .int .i64 0] 30) = U at hE0 ⊢
  generalize w1.heap.size + 1 = y at hE0 ⊢
  generalize w1.heap.size = q at hE0 ⊢
  go_loopw [13] (fun v13 wr => ∃ (t : Nat), t ≤ 300 ∧ v13 = .int .i64 t ∧ Play w.heap.size w wr p b (d + (14 * n + 64)) d n t y q) (fun v13 _ => 300 - (intOf v13).toNat)
  case atStart => exact ⟨0, by omega, rfl, hE0⟩
  case round =>
  clear hE0
  obtain ⟨t, ht, rfl, hE⟩ := hrel
  by_cases hgo : t < len ∧ t < 300
  · obtain ⟨B, o, F, rfl, hB, hF⟩ := Hs.out.resolve_left (by omega)
    have hn' : (t : Int) < (len : Int) := by omega
    have h300 : (t : Int) < 300 := by omega
    have hbel : Below w.heap.size w wr := by obtain ⟨_, _, _, _, _, _, _, _, hG, _⟩ := hE; exact hG.out
    have cel : ∀ j, j < 5 → wr.cell? ⟨B, o + t * 5 + j, none⟩ = some (.int .i64 (F t j)) := fun j hj => (hbel.cell hB).trans (hF t j hgo.1 hj)
    obtain ⟨K, hK⟩ : ∃ K, F t 0 = K := ⟨_, rfl⟩
    obtain ⟨A, hA⟩ : ∃ A, F t 1 = A := ⟨_, rfl⟩
    obtain ⟨G, hG⟩ : ∃ G, F t 2 = G := ⟨_, rfl⟩
    obtain ⟨J, hJ⟩ : ∃ J, F t 3 = J := ⟨_, rfl⟩
    obtain ⟨v, hv⟩ : ∃ v, F t 4 = v := ⟨_, rfl⟩
    have d0 := cel 0 (by omega)
    have d1 := cel 1 (by omega)
    have d2 := cel 2 (by omega)
    have d3 := cel 3 (by omega)
    have d4 := cel 4 (by omega)
    rw [hK] at d0
    rw [hA] at d1
    rw [hG] at d2
    rw [hJ] at d3
    rw [hv] at d4
    rw [Nat.add_zero] at d0
    have hact := act_any hE (by omega) K A G J v
    clear cel hF hK hA hG hJ hv hE hbel
    go_wp2_with (first
      | (go_at_call 7; refine hact.mono ?_; rintro e w2 ⟨rfl, hE2⟩; obtain ⟨P2, cs2, T2, xs2, ws2, I2, V2, many2, hG2, hT2, hA2, hM2⟩ := hE2; obtain ⟨C2, hC2⟩ : ∃ C2 : Nat → Int, C2 = fun f => ws2 (d + 8 * n + f) := ⟨_, rfl⟩; obtain ⟨N, hN⟩ : ∃ N, N = cnt C2 n := ⟨_, rfl⟩; have hu := used_p hG2.pl hC2 hN; have c2 := blk4' hG2.blk; have HG2 : Hid (Gm w.heap.size w w2 P2 p b (d + (14 * n + 64)) d n cs2 T2 xs2 ws2 y q I2 V2 many2) := hG2; have HA2 : Hid (Agree ws2 d n I2 V2) := hA2; have HM2 : Hid (many2 + xs2.length = n) := hM2; have HC2 : Hid (C2 = fun f => ws2 (d + 8 * n + f)) := hC2; have HN : Hid (N = cnt C2 n) := hN; have HT2 : Hid (T2 ≤ ((t + 1 : Nat) : Int)) := hT2; clear hG2 hA2 hM2 hC2 hN hT2 hact d0 d1 d2 d3 d4)
      | (go_at_call 8; refine (hu w2 (Below.refl _ _)).mono ?_; rintro e w3 ⟨ao3, k3, F3, rfl, hM3, hL3, hb3⟩; have c3 := blk4' (ov hb3 HG2.out.blk); have HM3 : Hid (Mine w3 w2.heap.size (.slice ao3 N k3) N F3) := hM3; have HL3 : Hid (Lists C2 F3 n) := hL3; have Hb3 : Hid (Below w2.heap.size w2 w3) := hb3; clear hM3 hL3 hb3)
      | (go_at_call 8; refine (hu w3 Hb3.out).mono ?_; rintro e w4 ⟨ao4, k4, F4, rfl, hM4, hL4, hb4⟩; have HM4 : Hid (Mine w4 w3.heap.size (.slice ao4 N k4) N F4) := hM4; have HL4 : Hid (Lists C2 F4 n) := hL4; have Hb4 : Hid (Below w3.heap.size w3 w4) := hb4; clear hM4 hL4 hb4 hu c2 c3))
    have Hb24 : Hid (Below w2.heap.size w2 w4) := (show Below w2.heap.size w2 w4 from Hb3.out.trans (Hb4.out.mono Hb3.out.size))
    have HI : Hid (∀ f, f < n → (I2 f = true ↔ C2 f ≠ 0)) := fun f hf => by rw [HC2.out]; exact (HA2.out f hf).1
    have c4 := blk4' (ov Hb24.out HG2.out.blk)
    go_loopw [16, 17] (fun v16 v17 wr => wr = w4 ∧ ∃ f : Nat, f ≤ n ∧ v17 = .int .i64 f ∧ v16 = .int .i64 (cnt C2 f : Nat)) (fun _ v17 _ => n - (intOf v17).toNat)
    case atStart => exact ⟨rfl, 0, by omega, rfl, rfl⟩
    case round =>
    obtain ⟨rfl, f, hf, rfl, rfl⟩ := hrel
    by_cases hfn : f < n
    · have hfn' : (f : Int) < (n : Int) := by omega
      have ci := (HG2.out.below Hb24.out).is hfn
      cases hI : I2 f with
      | false =>
        rw [hI] at ci
        have hz : C2 f = 0 := Classical.byContradiction fun r => by have := (HI.out f hfn).2 r; rw [hI] at this; cases this
        have HE : Hid (cnt C2 (f + 1) = cnt C2 f) := (show _ = _ by simp only [cnt, if_pos hz, Nat.add_zero])
        clear hz hI
        go_wp2
        go_roundw
        case rel => exact ⟨trivial, f + 1, by omega, by go_num, by rw [HE.out]⟩
        case measure => simp [intOf]; omega
      | true =>
        rw [hI] at ci
        have hz : C2 f ≠ 0 := (HI.out f hfn).1 hI
        have HE : Hid (cnt C2 (f + 1) = cnt C2 f + 1) := (show _ = _ by simp only [cnt, if_neg hz])
        have hlt : cnt C2 f < N := by rw [HN.out]; exact cnt_lt C2 hfn hz
        obtain ⟨g3, rfl, hg3, hr3⟩ := HM3.out.row.resolve_left (by omega)
        have ca := (hr3.of_block (Hb4.out.block _ hr3.lt)).cell hlt
        rw [HL3.out.1 f hfn hz] at ca
        clear hz hI hr3
        generalize cnt C2 f = kk at hlt ca HE ⊢
        have hlt' : decide ((N : Int) ≤ (kk : Int)) = false := by simp; omega
        have hlt2 : (kk : Int) < (N : Int) := by omega
        have n1000 : N ≤ 1000 := by have := HN.out; have := cnt_le C2 n; omega
        go_wp2
        go_roundw
        case rel => exact ⟨trivial, f + 1, by omega, by go_num, by rw [HE.out]; go_num⟩
        case measure => simp [intOf]; omega
    · obtain rfl : f = n := by omega
      have hfn' : ¬ ((f : Int) < (f : Int)) := by omega
      have hkk : cnt C2 f = N := HN.out.symm
      rw [hkk]
      have n1000 : N ≤ 1000 := by have := HN.out; have := cnt_le C2 f; omega
      have hsp := spoil_ok ao3 N k3 F3 (fun g => ao3 = some ⟨g, 0, none⟩ ∧ w2.heap.size ≤ g) wr (HM3.out.row.imp id (fun ⟨g, e1, e2, e3⟩ => ⟨g, e1, ⟨e1, e2⟩, e3.of_block (Hb4.out.block _ e3.lt)⟩)) n1000
      clear hkk hfn
      go_wp2_with (go_at_call 9; refine hsp.mono ?_; rintro e w5 ⟨rfl, hB5⟩)
      have hb25 : Below w2.heap.size w2 w5 := Bt.under Hb24.out Hb24.out.size (fun g r => r.2) hB5
      have hG5 := HG2.out.below hb25
      clear hsp c4
      rcases Nat.eq_zero_or_pos N with hN0 | hN0
      · subst hN0
        have c5 := blk4' hG5.blk
        go_quiet (fail)
        go_wp2
        go_roundw
        case rel => exact ⟨t + 1, by omega, by go_num, P2, cs2, T2, xs2, ws2, I2, V2, many2, hG5.below (below_drewN _ _ _), HT2.out, HA2.out, HM2.out⟩
        case measure => simp [intOf]; omega
      · obtain ⟨g3, e3, _, hr3⟩ := HM3.out.row.resolve_left (by omega)
        obtain ⟨g4, rfl, hg4, hr4⟩ := HM4.out.row.resolve_left (by omega)
        have hne : ¬ (ao3 = some ⟨g4, 0, none⟩ ∧ w2.heap.size ≤ g4) := fun r => by
          rw [e3] at r
          have e : g3 = g4 := by simpa using r.1
          have := hr3.lt
          omega
        have ca := (hr4.of_block (hB5.block g4 hr4.lt hne)).cell hN0
        obtain ⟨f0, hf0, hz0, e0⟩ := HL4.out.2 0 (by rw [← HN.out]; exact hN0)
        rw [e0] at ca
        have ci := hG5.is hf0
        rw [(HI.out f0 hf0).2 hz0] at ci
        have c5 := blk4' hG5.blk
        have hN0' : (0 : Int) < (N : Int) := by omega
        have hf0' : (f0 : Int) < (f : Int) := by omega
        clear hr3 hr4 hne hz0 e0 e3 hB5
        go_quiet (fail)
        go_wp2
        go_roundw
        case rel => exact ⟨t + 1, by omega, by go_num, P2, cs2, T2, xs2, ws2, I2, V2, many2, hG5.below (below_drewN _ _ _), HT2.out, HA2.out, HM2.out⟩
        case measure => simp [intOf]; omega
  · have hnot : (t : Int) < (len : Int) → ¬ (t : Int) < 300 := by omega
    have hbel : Below w.heap.size w wr ∧ w.heap.size ≤ wr.heap.size := by obtain ⟨_, _, _, _, _, _, _, _, hG, _⟩ := hE; exact ⟨hG.out, hG.big⟩
    clear hE
    by_cases t1 : t < len
    · have t1' : (t : Int) < (len : Int) := by omega
      have t2 : decide ((t : Int) < 300) = false := by simp; omega
      clear hnot hgo
      go_wp2_with (go_at_call 10; refine (awake_any _).mono ?_; rintro e w9 ⟨rfl, hb9⟩)
      go_ret
      exact ⟨rfl, hbel.1.trans (hb9.mono hbel.2)⟩
    · have t1' : decide ((t : Int) < (len : Int)) = false := by simp; omega
      clear hnot hgo
      go_wp2_with (go_at_call 10; refine (awake_any _).mono ?_; rintro e w9 ⟨rfl, hb9⟩)
      go_ret
      exact ⟨rfl, hbel.1.trans (hb9.mono hbel.2)⟩
end Go.Proofs.Ytlkomjapfcmpkaa
