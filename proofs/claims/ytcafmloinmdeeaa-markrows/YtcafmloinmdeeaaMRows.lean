/- The walk of the law MarkRows. -/
import Derived.Test.YtcafmloinmdeeaaMCount
namespace Go.Proofs.Ytcafmloinmdeeaa
open Go.RowKit
attribute [local go_sem ↓] ap_M
set_option maxRecDepth 20000 in
set_option maxHeartbeats 4000000 in
theorem rows11_walk (cap0 : Int) (v : Value) (n : Nat) (f : Nat → Int) (w : World) (hv : Ints w v n f) :
    Calls Try.prog 4 #[.int .i64 cap0, v] w fun e w' => e = .returned (.bool true) ∧ Below w.heap.size w w' := by
  obtain ⟨a, ha, ha2⟩ := masked63 cap0
  obtain ⟨N, hN⟩ : ∃ N : Nat, N = 1 + a := ⟨_, rfl⟩
  have hN1 : 1 ≤ N ∧ N ≤ 64 := by omega
  have hNe : (1 : Int) + (a : Int) = (N : Int) := by omega
  clear hN ha2
  obtain ⟨ao, cap, rfl, hv0⟩ := hv
  have H0 : Hid (n = 0 ∨ ∃ B o : Nat, ao = some ⟨B, o, none⟩ ∧ B < w.heap.size ∧ ∀ i, i < n → w.cell? ⟨B, o + i, none⟩ = some (.int .i64 (f i))) := hv0
  clear hv0
  go_enter Try.func4, Try.ntmps4
  go_wp2_with (first
    | (go_at_call 7; refine (awake_any w).mono ?_; rintro e w1 ⟨rfl, hb1⟩)
    | (go_at_call 5; refine (mnew_ok N w1 hN1.1 (by omega)).mono ?_; rintro e w2 ⟨s, bc, bi, rfl, hM2, hb2, hl2⟩))
  have HR : Hid (Rw w.heap.size w w2 s bc bi N (fun _ => 1) [] (.slice none 0 0) []) := ⟨hM2, Que.nil _ _, hb1.trans (hb2.mono hb1.size), Nat.le_trans hb1.size hb2.size, fun k hk => Nat.le_trans hb1.size (hl2 k hk)⟩
  clear hM2 hb2 hl2 hb1 ha hNe
  go_loopg [8, 9, 10, 11, 12] 100 (fun kx v8 v9 s10 s11 s12 wr => ∃ (i m : Nat) (ro : Option Addr) (rc : Nat) (c : Nat → Int) (q : List Nat), v9 = .int .i64 i ∧ v8 = .slice ro m rc ∧ i ≤ n ∧ i ≤ 100 ∧ 100 - i ≤ kx ∧ Hid (m = q.length ∧ q.length ≤ i) ∧ Hid (∀ j, j < N → c j ≠ 3) ∧ Hid (Rw w.heap.size w wr s bc bi N c q (.slice ro m rc) q))
  case atStart => exact ⟨0, 0, none, 0, _, [], rfl, rfl, by omega, by omega, by omega, ⟨rfl, by simp⟩, fun j _ => by show (1 : Int) ≠ 3; omega, HR⟩
  case round =>
    clear HR
    obtain ⟨i, m, ro, rc, c, q, rfl, rfl, hin, hi1, hkx, Hm, Hc, hR⟩ := hrel
    by_cases hlt : i < n ∧ i < 100
    · obtain ⟨Bs, o, rfl, hBs, hcell⟩ := H0.out.resolve_left (by omega)
      have cz : wr.cell? ⟨Bs, o + i, none⟩ = some (.int .i64 (f i)) := (World.cell?_of_block (a := ⟨Bs, o + i, none⟩) (hR.out.bel.block Bs hBs)).trans (hcell i hlt.1)
      obtain ⟨t, ht, htN⟩ := at_c N (f i) hN1.1 hN1.2
      have hNz : ((N : Int) == 0) = false := by simp; omega
      have hlt1 : (i : Int) < (n : Int) := by omega
      have hlt2 : (i : Int) < 100 := by omega
      generalize f i = z at *
      clear hcell
      by_cases h1 : c t = 1
      · have hg := mgrey_ok hR.out.wk t htN h1
        go_wp2_with (first
          | (go_at_call 8; refine hg.mono ?_; rintro e w3 ⟨rfl, hM3, hB3⟩; obtain ⟨p', o', cap', w4, hrun, hq4, hb4⟩ := que_app (hR.out.call hM3 hB3).row (hR.out.call hM3 hB3).fresh t (by have := Hm.out; omega); rw [← Hm.out.1] at hrun)
          | (go_at_call 6; refine (num_any _ _).mono ?_; rintro e w9 ⟨rfl, hw9⟩; replace hw9 := hw9.symm; subst hw9))
        go_roundg (100 - (i + 1))
        case rel =>
          have hR4 := (hR.out.call hM3 hB3).app hq4 hb4
          refine ⟨i + 1, m + 1, _, _, setC c t 2, q ++ [t], by go_num, rfl, by omega, by omega, by omega, ⟨by simp [Hm.out.1], by have := Hm.out; simp; omega⟩, fun j hj => ?_, ?_⟩
          · by_cases e : j = t
            · subst e; rw [setC_at]; omega
            · rw [setC_else e]; exact Hc.out j hj
          · rw [Hm.out.1]; exact hR4
        case measure => omega
      · have hg := mgrey_old hR.out.wk t htN h1
        go_wp2_with (first
          | (go_at_call 8; refine hg.mono ?_; rintro e w3 ⟨rfl, hw3⟩; replace hw3 := hw3.symm; subst hw3)
          | (go_at_call 6; refine (num_any _ _).mono ?_; rintro e w9 ⟨rfl, hw9⟩; replace hw9 := hw9.symm; subst hw9))
        go_roundg (100 - (i + 1))
        case rel => exact ⟨i + 1, m, ro, rc, c, q, by go_num, rfl, by omega, by omega, by omega, ⟨Hm.out.1, by have := Hm.out; omega⟩, Hc, hR⟩
        case measure => omega
    · have HQ : Hid (q.Nodup ∧ ∀ x, x ∈ q → x < N) := ⟨hR.out.wk.nodup, fun x hx => hR.out.wk.lt hx⟩
      have HR0 : Hid (Rw w.heap.size w wr s bc bi N c (q.drop 0) (.slice ro m rc) q) := hR
      have HC0 : Hid (∀ x, x < N → (c x = 3 ↔ x ∈ q.take 0)) := fun x hx => by simp [Hc.out x hx]
      have hm1 : m ≤ 100 := by have := Hm.out; omega
      have HM : Hid (m = q.length) := Hm.out.1
      clear hR Hc Hm
      go_upto_region 7 with fail
      go_cut [37] (fun s37 wx => s37 = .bool false ∧ wr = wx)
      case first =>
        by_cases hl : i < n
        · have h2 : ¬ (i : Int) < 100 := by omega
          have h1 : (i : Int) < (n : Int) := by omega
          go_wp2_with fail
          go_meet
          exact ⟨rfl, rfl⟩
        · have h1 : ¬ (i : Int) < (n : Int) := by omega
          go_wp2_with fail
          go_meet
          exact ⟨rfl, rfl⟩
      case rest =>
      obtain ⟨rfl, rfl⟩ := hcut
      go_wp2
      clear hlt hkx hin hi1
      go_loopg [13, 14, 15, 16] m (fun kx v13 s14 s15 s16 wr => ∃ (k : Nat) (c : Nat → Int), v13 = .int .i64 k ∧ k ≤ m ∧ m - k ≤ kx ∧ Hid (Rw w.heap.size w wr s bc bi N c (q.drop k) (.slice ro m rc) q) ∧ Hid (∀ x, x < N → (c x = 3 ↔ x ∈ q.take k)))
      case atStart => exact ⟨0, c, rfl, by omega, by omega, HR0, HC0⟩
      case round =>
        clear HR0 HC0
        obtain ⟨k, c, rfl, hk, hkx, hR, Hc⟩ := hrel
        by_cases hlt : k < m
        · have hlt' : (k : Int) < (m : Int) := by omega
          have hkq : k < q.length := by have := HM.out; omega
          obtain ⟨x, hx⟩ : ∃ x, x = q[k] := ⟨_, rfl⟩
          have HX : Hid (q[k]? = some x) := by rw [hx]; exact List.getElem?_eq_getElem hkq
          have HD : Hid (q.drop k = x :: q.drop (k + 1)) := by rw [hx]; exact List.drop_eq_getElem_cons hkq
          clear hx
          obtain ⟨g, o, rc', hsl, hle, hcel⟩ := hR.out.row.open (by omega)
          simp only [Value.slice.injEq] at hsl
          obtain ⟨rfl, hmq, rfl⟩ := hsl
          clear hmq hcel
          have HR1 : Hid (Rw w.heap.size w wr s bc bi N c (x :: q.drop (k + 1)) (.slice (some ⟨g, o, none⟩) m rc) q) := by rw [← HD.out]; exact hR
          clear hR
          go_wp2
          go_loopg [14] k (fun ky v14 wr => ∃ j : Nat, v14 = .int .i64 j ∧ j ≤ k ∧ k - j ≤ ky ∧ Hid (Rw w.heap.size w wr s bc bi N c (x :: q.drop (k + 1)) (.slice (some ⟨g, o, none⟩) m rc) q))
          case atStart => exact ⟨0, rfl, by omega, by omega, HR1⟩
          case round =>
            clear HR1
            obtain ⟨j, rfl, hj, hky, hR⟩ := hrel
            obtain ⟨g', o', rc', hsl, hle', hcel⟩ := hR.out.row.open (by omega)
            simp only [Value.slice.injEq, Option.some.injEq, Addr.mk.injEq, and_true] at hsl
            obtain ⟨⟨rfl, rfl⟩, -, rfl⟩ := hsl
            have ck := hcel k x HX.out
            by_cases hjk : j < k
            · have hjk' : (j : Int) < (k : Int) := by omega
              have hjm : (j : Int) < (m : Int) := by omega
              obtain ⟨y, hy⟩ : ∃ y, y = q[j] := ⟨_, rfl⟩
              have cj := hcel j y (by rw [hy]; exact List.getElem?_eq_getElem (by omega))
              have hne : ((y : Int) == (x : Int)) = false := by
                have h1 := List.pairwise_iff_getElem.1 HQ.out.1 j k (by omega) hkq hjk
                have h2 : x = q[k] := by have := HX.out; rw [List.getElem?_eq_getElem hkq] at this; exact (Option.some.inj this).symm
                rw [← hy, ← h2] at h1
                simp; omega
              clear hcel hy
              go_wp2
              go_quiet (fail)
              have HR2 : Hid _ := hR.out.below (below_drewN wr nq _)
              go_wp2
              go_roundg (k - (j + 1))
              case rel => exact ⟨j + 1, by go_num, by omega, by omega, HR2⟩
              case measure => omega
            · have hjk' : ¬ (j : Int) < (k : Int) := by omega
              have hn := mnext_ok hR.out.wk
              have HC2 : Hid (∀ z, z < N → (setC c x 3 z = 3 ↔ z ∈ q.take (k + 1))) := by
                intro z hz
                have h1 : q.take (k + 1) = q.take k ++ [x] := by rw [List.take_add_one, HX.out]; rfl
                rw [h1, List.mem_append, List.mem_singleton]
                by_cases e : z = x
                · subst e; simp [setC_at]
                · rw [setC_else e, Hc.out z hz]; simp [e]
              clear hcel
              go_wp2_with (go_at_call 9; refine hn.mono ?_; rintro e w5 ⟨rfl, hM5, hB5⟩; have hR5 := hR.out.call hM5 hB5; obtain ⟨g5, o5, rc5, hsl5, _, hcel5⟩ := hR5.row.open (by omega); simp only [Value.slice.injEq, Option.some.injEq, Addr.mk.injEq, and_true] at hsl5; obtain ⟨⟨rfl, rfl⟩, -, rfl⟩ := hsl5; have ck5 := hcel5 k x HX.out; clear hcel5)
              go_roundg (m - (k + 1))
              case rel => exact ⟨k + 1, setC c x 3, by go_num, by omega, by omega, hR5, HC2⟩
              case measure => omega
        · obtain rfl : k = m := by omega
          have hlt' : ¬ (k : Int) < (k : Int) := by omega
          have hR2 : Rw w.heap.size w wr s bc bi N c [] (.slice ro k rc) q := by
            have h := hR.out
            rw [List.drop_of_length_le (by have := HM.out; omega)] at h
            exact h
          have hcnt : (blk c N).length = k := by
            rw [blk_count HQ.out.1 HQ.out.2 (fun x hx => by have := Hc.out x hx; rwa [List.take_of_length_le (by have := HM.out; omega)] at this)]
            exact HM.out.symm
          have hz : (blk (fun _ => (1 : Int)) N).length = 0 := by rw [blk_none (fun _ _ => by omega)]; rfl
          have hn := mnext_none hR2.wk
          have hbl := black_len hR2.wk k hcnt
          clear hR Hc hcnt
          go_wp2_with (first
            | (go_at_call 9; refine hn.mono ?_; rintro e w4 ⟨rfl, hw4⟩; replace hw4 := hw4.symm; subst hw4)
            | (go_at_call 6; refine (num_any _ _).mono ?_; rintro e w9 ⟨rfl, hw9⟩; replace hw9 := hw9.symm; subst hw9)
            | (go_at_call 11; refine (reset_ok hR5.wk).mono ?_; rintro e w6 ⟨rfl, hM6, hB6⟩; have hR6 := hR5.call hM6 hB6; clear hM6 hB6)
            | (go_at_call 13; refine (black_len hR6.wk 0 hz).mono ?_; rintro e w7 ⟨ao7, cap7, rfl, hb7⟩; have hR7 := hR6.below hb7; clear hb7)
            | (go_at_call 13; refine hbl.mono ?_; rintro e w5 ⟨ao5, cap5, rfl, hb5⟩; have hR5 := hR2.below hb5; clear hb5))
          go_ret
          exact ⟨rfl, hR7.bel⟩
end Go.Proofs.Ytcafmloinmdeeaa
