/- LoadFields: its walk. -/
import Derived.Test.YtbdfpodglfpjnaaGreatMQFdw
import Derived.Deep.QuietTactic
import Derived.BigQuiet
namespace Go.Proofs.YtbdfpodglfpjnaaGreat
open Go.RowKit Go.Deep

attribute [local go_sem ↓] app_Y
set_option maxRecDepth 20000 in
set_option maxHeartbeats 16000000 in
theorem fields_any (m n : Int) (a b : Nat) (hma : bits BinOp.and .i64 m 7 = (a : Int)) (hmb : bits BinOp.and .i64 n 7 = (b : Int)) (ha : a ≤ 7) (hb : b ≤ 7) (w : World) : Calls Tryz.prog 9 #[.int .i64 m, .int .i64 n] w fun e w' => e = .returned (.bool true) ∧ Below w.heap.size w w' := by
  have hA := awake15 w
  go_enter Tryz.func9, Tryz.ntmps9
  go_upto_region 5 with (go_at_call 11; refine hA.mono ?_; clear hA; rintro e w1 ⟨rfl, hb1⟩; have HB1 : Hid (Below w.heap.size w w1) := hb1; clear hb1)
  obtain ⟨W1, hW1⟩ : ∃ X, X = w1.alloc (.cells #[.string ⟨#[97]⟩, .string ⟨#[98]⟩, .string ⟨#[99]⟩, .string ⟨#[100]⟩, .string ⟨#[101]⟩, .string ⟨#[102]⟩, .string ⟨#[103]⟩, .string ⟨#[104]⟩] 9) := ⟨_, rfl⟩
  have hn : W1.heap[w1.heap.size]? = some (.cells #[.string ⟨#[97]⟩, .string ⟨#[98]⟩, .string ⟨#[99]⟩, .string ⟨#[100]⟩, .string ⟨#[101]⟩, .string ⟨#[102]⟩, .string ⟨#[103]⟩, .string ⟨#[104]⟩] 9 (0, 0)) := by rw [hW1]; exact heap_alloc_new _ _
  have HBn : Hid (Below w1.heap.size w1 W1) := by rw [hW1]; exact (Below.refl _ _).alloc (Nat.le_refl _) _
  have HN : Hid (∀ (i : Nat) (s : ByteArray), nms[i]? = some s → W1.cell? ⟨w1.heap.size, i, none⟩ = some (.string s)) := fun i s h => by
    rcases i with _ | _ | _ | _ | _ | _ | _ | _ | _
    all_goals first | (cases h; exact bxq_cell hn rfl) | simp [nms] at h
  rw [← hW1]
  clear hW1 hn
  go_wp2_with fail
  go_loopg [8, 10] 10 (fun kx s8 s10 wr => ∃ i : Nat, s10 = .int .i64 i ∧ i ≤ a ∧ a - i ≤ kx ∧ Hid (Gro kFd 42 W1.heap.size wr s8 (fdsF 1 i)) ∧ Hid (Below W1.heap.size W1 wr))
  case atStart => exact ⟨0, rfl, by omega, by omega, Gro.nil _ _ _ _, Below.refl _ _⟩
  case round =>
    obtain ⟨i, rfl, hi, hk, HG, HB⟩ := hrel
    by_cases hlt : i < a
    · have hl2 : (i : Int) < (a : Int) := by omega
      have hl8 : (i : Int) < 8 := by omega
      obtain ⟨s, hs⟩ := nms_at i (by omega)
      have cs := cell_keep (HN.out i s hs) HB.out
      obtain ⟨g, cap, w2, hrun, HG2, HB2⟩ := fld_push HG.out HB.out.size hs
      clear hs
      go_wp2
      go_roundg (a - (i + 1))
      case measure => omega
      case rel => exact ⟨i + 1, by go_num, by omega, Nat.le_refl _, HG2, HB.out.trans HB2.out⟩
    · obtain rfl : i = a := by omega
      have hl2 : ¬ (i : Int) < (i : Int) := by omega
      obtain ⟨ax, cx, hv⟩ := HG.out.slice
      rw [fds_len 1 i (by omega)] at hv
      subst hv
      have HGx : Hid _ := HG.out
      have HBx : Hid _ := HB.out
      obtain ⟨W2, hW2⟩ : ∃ X, X = wr := ⟨_, rfl⟩
      subst hW2
      clear HG HB
      go_wp2_with fail
      go_loopg [9, 11] 10 (fun kx s9 s11 wx => ∃ j : Nat, s11 = .int .i64 j ∧ j ≤ b ∧ b - j ≤ kx ∧ Hid (Gro kFd 42 W2.heap.size wx s9 (fdsF 4 j)) ∧ Hid (Below W2.heap.size W2 wx))
      case atStart => exact ⟨0, rfl, by omega, by omega, Gro.nil _ _ _ _, Below.refl _ _⟩
      case round =>
        obtain ⟨j, rfl, hj, hkj, HG, HB⟩ := hrel
        by_cases hlt : j < b
        · have hl3 : (j : Int) < (b : Int) := by omega
          have hl8 : (j : Int) < 8 := by omega
          obtain ⟨s, hs⟩ := nms_at j (by omega)
          have cs := cell_keep (HN.out j s hs) (HBx.out.trans (HB.out.mono HBx.out.size))
          obtain ⟨g, cap, w2, hrun, HG2, HB2⟩ := fld_push HG.out HB.out.size hs
          clear hs
          go_wp2
          go_roundg (b - (j + 1))
          case measure => omega
          case rel => exact ⟨j + 1, by go_num, by omega, Nat.le_refl _, HG2, HB.out.trans HB2.out⟩
        · obtain rfl : j = b := by omega
          have hl3 : ¬ (j : Int) < (j : Int) := by omega
          obtain ⟨ay, cy, hv⟩ := HG.out.slice
          rw [fds_len 4 j (by omega)] at hv
          subst hv
          obtain ⟨W3, hW3⟩ : ∃ X, X = wr := ⟨_, rfl⟩
          subst hW3
          have hx : Sl kFd W3 (fun k => k < W3.heap.size) (.slice ax i cx) (fdsF 1 i) := (HGx.out.sl.keep fun k q => HB.out.block k q.2).mono fun k q => Nat.lt_of_lt_of_le q.2 HB.out.size
          have hy : Sl kFd W3 (fun k => k < W3.heap.size) (.slice ay j cy) (fdsF 4 j) := HG.out.sl.mono fun k q => q.2
          have HSX : Hid (∀ o, Sl kFd (W3.alloc o) (fun k => k < W3.heap.size + 1) (.slice ax i cx) (fdsF 1 i)) := fun o => (hx.keep fun k q => Below.heap_alloc _ _ _ q).mono fun k q => by omega
          have HSY : Hid (∀ o, Sl kFd (W3.alloc o) (fun k => k < W3.heap.size + 1) (.slice ay j cy) (fdsF 4 j)) := fun o => (hy.keep fun k q => Below.heap_alloc _ _ _ q).mono fun k q => by omega
          have HX : Hid (Sl kFd W3 (fun k => k < W3.heap.size) (.slice ax i cx) (fdsF 1 i)) := hx
          have HY : Hid (Sl kFd W3 (fun k => k < W3.heap.size) (.slice ay j cy) (fdsF 4 j)) := hy
          obtain ⟨hO, hJ⟩ := fld_at i j ha hb
          have HO : Hid _ := hO
          have HJ : Hid _ := hJ
          have HBy : Hid (Below w1.heap.size w1 W3) := HBn.out.trans ((HBx.out.trans (HB.out.mono HBx.out.size)).mono HBn.out.size)
          clear hx hy hO hJ HG HB HGx HBx HN HBn
          go_upto_region 15 with (first
            | (go_at_call 12; refine (withN (n := 2) (S := fun k => k < W3.heap.size + 1) (xs := [⟨⟨#[65]⟩, false, false, 0, [], fdsF 1 i, [], []⟩, ⟨⟨#[66]⟩, false, false, 12, [], fdsF 4 j, fdsF 1 i, []⟩]) rfl (fun k (q : k < _) => (by rw [sz_al]; omega)) (by
                refine Sl.blk [[.string ⟨#[65]⟩, .bool false, .bool false, .int .i64 0, .slice none 0 0, .slice ax i cx, .slice none 0 0, .slice none 0 0], [.string ⟨#[66]⟩, .bool false, .bool false, .int .i64 12, .slice none 0 0, .slice ay j cy, .slice ax i cx, .slice none 0 0]] (T := 31) (by (repeat (first | rw [hp_al] | rw [hp_sc] | rw [sz_al] | rw [sz_sc] | rw [if_neg (by omega)] | rw [if_pos (by omega)])); all_goals first | rfl | assumption) (show _ < _ by omega) rfl rfl rfl (by decide) fun i1 y r hy hr => ?_
                match i1, hy, hr with
                | 0, hy, hr => cases hy; cases hr; exact ⟨_, _, _, _, rfl, Sl.nil _ _ _, HSX.out _, Sl.nil _ _ _, Sl.nil _ _ _⟩
                | 1, hy, hr => cases hy; cases hr; exact ⟨_, _, _, _, rfl, Sl.nil _ _ _, HSY.out _, HSX.out _, Sl.nil _ _ _⟩) (by decide) (by decide)).mono ?_; rintro e w5 ⟨g, c, rfl, hb5, S', hS', hs⟩; have HB5 : Hid (Below W3.heap.size W3 w5) := ((Below.refl _ _).alloc (Nat.le_refl _) _).trans (hb5.mono (by rw [sz_al]; omega)); have hL := load_any (w := w5) (S := S') (p := fldP i j) (cs := [.int .i64 11, .slice (some ⟨g, 0, none⟩) 3 c]) HO.out hS' ⟨_, rfl, hs⟩; unfold LdQ at hL; rw [HJ.out] at hL; clear hb5 hS' hs)
            | (go_at_call 15; refine hL.mono ?_; clear hL; rintro e w7 ⟨hb7, vl, rfl, hs⟩; have HB7 : Hid (Below w5.heap.size w5 w7) := hb7; obtain ⟨al, cl, hvl⟩ := hs.form; rw [fld_len] at hvl; subst hvl; have HS : Hid (Sl kLy w7 (fun k => k < w7.heap.size) (.slice al 14 cl) (allJ (fldP i j))) := (soft_Ly hs).mono fun k q => q.2; clear hb7 hs))
          obtain ⟨p, o, f2, d2, f3, d3, rfl, k48, k49, k52, k53, hsf⟩ := fld_cells ha hb HS.out
          have HB0 : Hid (Below W3.heap.size W3 w7) := HB5.out.trans (HB7.out.mono HB5.out.size)
          have HSF : Hid (Sl kFd w7 (fun k => k < w7.heap.size) (.slice f3 (i + j) d3) (fdsF 1 i ++ fdsF 4 j)) := hsf
          have hln : (((i + j : Nat) : Int) != (i : Int) + (j : Int)) = false := by simp
          clear hsf HS HSX HSY HO HJ
          go_upto_region 17 with (go_at_call 16; refine (num_any _ _).mono ?_; rintro e w9 ⟨rfl, hw9⟩; replace hw9 := hw9.symm; subst hw9)
          go_wp2_with fail
          go_loopg [15] (i + j + 2) (fun kx s15 wr => ∃ k : Nat, s15 = .int .i64 k ∧ k ≤ i + j ∧ i + j - k ≤ kx ∧ Hid (Below w7.heap.size w7 wr))
          case atStart => exact ⟨0, rfl, by omega, by omega, Below.refl _ _⟩
          case round =>
            obtain ⟨k, rfl, hk1, hkk, HBk⟩ := hrel
            have n48 := cell_keep k48 HBk.out
            have n49 := cell_keep k49 HBk.out
            have n52 := cell_keep k52 HBk.out
            by_cases hlt : k < i + j
            · have hl4 : (k : Int) < (i : Int) + (j : Int) := by omega
              have hl5 : (k : Int) < ((i + j : Nat) : Int) := by omega
              have l1 := fds_len 1 i (by omega)
              have l2 := fds_len 4 j (by omega)
              obtain ⟨s, t, hf, hs⟩ : ∃ s t, (fdsF 1 i ++ fdsF 4 j)[k]? = some ⟨s, t⟩ ∧ ((k < i ∧ (fdsF 1 i)[k]? = some ⟨s, t⟩) ∨ (i ≤ k ∧ (fdsF 4 j)[k - i]? = some ⟨s, t⟩)) := by
                by_cases q : k < i
                · obtain ⟨s, h⟩ := nms_at k (by omega)
                  exact ⟨s, 1, by rw [List.getElem?_append_left (by omega)]; exact fds_at h q, .inl ⟨q, fds_at h q⟩⟩
                · obtain ⟨s, h⟩ := nms_at (k - i) (by omega)
                  exact ⟨s, 4, by rw [List.getElem?_append_right (by omega), l1]; exact fds_at h (by omega), .inr ⟨by omega, fds_at h (by omega)⟩⟩
              obtain ⟨q, r, rfl, -, fs, hr, hc⟩ := HSF.out.atJ hf
              obtain rfl := hr
              have a0 := cell_keep (hc 0 _ rfl) HBk.out
              have a1 := cell_keep (hc 1 _ rfl) HBk.out
              rw [show r + (k * kFd.k + 0) = r + k * 2 by show r + (k * 2 + 0) = r + k * 2; omega] at a0
              rw [show r + (k * kFd.k + 1) = r + k * 2 + 1 by show r + (k * 2 + 1) = r + k * 2 + 1; omega] at a1
              obtain ⟨U, hU⟩ : ∃ U, U = wr.alloc (.cells #[.string s, .int .i64 t] 42) := ⟨_, rfl⟩
              have hu : U.heap[wr.heap.size]? = some (.cells #[.string s, .int .i64 t] 42 (0, 0)) := by rw [hU]; exact heap_alloc_new _ _
              have hbU : Below w7.heap.size w7 U := by rw [hU]; exact HBk.out.alloc HBk.out.size _
              have HBU : Hid _ := hbU
              have HU : Hid _ := hU
              have u0 : U.cell? ⟨wr.heap.size, 0, none⟩ = some (.string s) := bxq_cell hu rfl
              have u1 : U.cell? ⟨wr.heap.size, 1, none⟩ = some (.int .i64 t) := bxq_cell hu rfl
              have HB7U : Hid (Below W3.heap.size W3 U) := HB0.out.trans (hbU.mono HB0.out.size)
              clear hc hf hbU hu
              rcases hs with ⟨hki, hs⟩ | ⟨hki, hs⟩
              · obtain ⟨p1, o1, rfl, -, fs, hr, hc⟩ := HX.out.atJ hs
                obtain rfl := hr
                have b0 := cell_keep (hc 0 _ rfl) HB7U.out
                have b1 := cell_keep (hc 1 _ rfl) HB7U.out
                rw [show o1 + (k * kFd.k + 0) = o1 + k * 2 by show o1 + (k * 2 + 0) = o1 + k * 2; omega] at b0
                rw [show o1 + (k * kFd.k + 1) = o1 + k * 2 + 1 by show o1 + (k * 2 + 1) = o1 + k * 2 + 1; omega] at b1
                have hd : decide ((k : Int) < (i : Int)) = true := decide_eq_true (by omega)
                have hd2 : decide ((k : Int) ≥ (i : Int)) = false := decide_eq_false (by omega)
                have hd3 : (k : Int) < (i : Int) := by omega
                have hd4 : decide (i ≤ k) = false := decide_eq_false (by omega)
                clear hc hs
                go_upto_region 21 with fail
                rw [← hU]
                clear hU
                go_quiet (fail)
                go_wp2
                go_roundg (i + j - (k + 1))
                case measure => omega
                case rel => exact ⟨k + 1, by go_num, by omega, Nat.le_refl _, HBU.out.trans ⟨rfl, rfl, rfl, Nat.le_refl _, fun _ _ => rfl⟩⟩
              · obtain ⟨k2, hk2⟩ : ∃ k2, k = i + k2 := ⟨k - i, by omega⟩
                rw [show k - i = k2 by omega] at hs
                obtain ⟨p1, o1, rfl, -, fs, hr, hc⟩ := HY.out.atJ hs
                obtain rfl := hr
                have b0 := cell_keep (hc 0 _ rfl) HB7U.out
                have b1 := cell_keep (hc 1 _ rfl) HB7U.out
                rw [show o1 + (k2 * kFd.k + 0) = o1 + k2 * 2 by show o1 + (k2 * 2 + 0) = o1 + k2 * 2; omega] at b0
                rw [show o1 + (k2 * kFd.k + 1) = o1 + k2 * 2 + 1 by show o1 + (k2 * 2 + 1) = o1 + k2 * 2 + 1; omega] at b1
                have hd : decide ((k : Int) < (i : Int)) = false := decide_eq_false (by omega)
                have hd2 : decide (k < i) = false := decide_eq_false (by omega)
                have hd4 : decide (i ≤ k) = true := decide_eq_true (by omega)
                have hsb : (k : Int) - (i : Int) = (k2 : Int) := by omega
                have hd6 : (k2 : Int) < (j : Int) := by omega
                have hd7 : ¬ (k : Int) < (i : Int) := by omega
                clear hc hs hk2 hki
                go_upto_region 21 with fail
                rw [← hU]
                clear hU
                go_quiet (fail)
                go_wp2
                go_roundg (i + j - (k + 1))
                case measure => omega
                case rel => exact ⟨k + 1, by go_num, by omega, Nat.le_refl _, HBU.out.trans ⟨rfl, rfl, rfl, Nat.le_refl _, fun _ _ => rfl⟩⟩
            · obtain rfl : k = i + j := by omega
              have hl4 : ¬ ((i + j : Nat) : Int) < (i : Int) + (j : Int) := by omega
              go_wp2_with fail
              go_ret
              exact ⟨rfl, HB1.out.trans (((HBy.out.trans (HB0.out.mono HBy.out.size)).trans (HBk.out.mono (Nat.le_trans HBy.out.size HB0.out.size))).mono HB1.out.size)⟩
theorem fields_walk (m n : Int) (w : World) : Calls Tryz.prog 9 #[.int .i64 m, .int .i64 n] w fun e w' => e = .returned (.bool true) ∧ Below w.heap.size w w' := by
  have h1 := mask7c m
  have h2 := mask7c n
  exact fields_any m n (m % 8).toNat (n % 8).toNat (by rw [h1]; omega) (by rw [h2]; omega) (by omega) (by omega) w
end Go.Proofs.YtbdfpodglfpjnaaGreat
