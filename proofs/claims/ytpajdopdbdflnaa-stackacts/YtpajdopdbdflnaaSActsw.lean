/- The walk of StackActs. -/
import Derived.Test.YtpajdopdbdflnaaSActs
namespace Go.Proofs.Ytpajdopdbdflnaa
open Go.RowKit

theorem Mine.cellAt {w : World} {B p n c : Nat} {f : Nat → Int} (h : Mine w B (.slice (some ⟨p, 0, none⟩) n c) n f) {i : Nat} (hi : i < n) : w.cell? ⟨p, i, none⟩ = some (.int .i64 (f i)) := by
  obtain ⟨q, cp, e, _, _, _, cur, hcur, _, _, hc⟩ := h.shape (by omega)
  cases e
  exact Row.cell ⟨cur, hcur, hc⟩ hi
theorem masked7k (n : Int) : ∃ k : Nat, 1 + bits BinOp.and .i64 n 7 = (k : Int) ∧ 1 ≤ k ∧ k ≤ 8 := by
  obtain ⟨r, hr, h4⟩ := masked7 n
  exact ⟨1 + r, by rw [hr]; omega, by omega, by omega⟩
theorem masked31k (n : Int) : ∃ k : Nat, 1 + bits BinOp.and .i64 n 31 = (k : Int) ∧ 1 ≤ k ∧ k ≤ 32 := by
  obtain ⟨r, hr, h4⟩ := masked31 n
  exact ⟨1 + r, by rw [hr]; omega, by omega, by omega⟩
set_option maxRecDepth 20000 in
set_option maxHeartbeats 8000000 in
theorem acts_walk (agents base cap0 : Int) (ao : Option Addr) (len cap : Nat) (w : World) (_hlen : len ≤ maxLen)
    (hs : len = 0 ∨ ∃ (B o : Nat) (F : Nat → Nat → Int), ao = some ⟨B, o, none⟩ ∧ B < w.heap.size ∧ ∀ i j, i < len → j < 3 → w.cell? ⟨B, o + i * 3 + j, none⟩ = some (.int .i64 (F i j))) :
    Calls Try.prog 3 #[.int .i64 agents, .int .i64 base, .int .i64 cap0, .slice ao len cap] w fun e w' => e = .returned (.bool true) ∧ Below w.heap.size w w' := by
  obtain ⟨k, hk, k1, k8⟩ := masked7k agents
  obtain ⟨a0, hbs, b16⟩ := masked15 base
  obtain ⟨c, hc, c1, c32⟩ := masked31k cap0
  unfold maxLen at _hlen
  have Hs : Hid _ := hs
  clear hs
  go_enter Try.func3, Try.ntmps3
  go_wp2_with (go_at_call 8; refine (begun_ok k a0 c _ _ _ _ (by omega) (by omega) (by omega) (by omega) (by omega) (by omega) (by omega) (by omega)).mono ?_; rintro e w1 ⟨s, b, P, rfl, hG1, hb1, hP1⟩)
  have hW0 := Gw.start hG1 hb1 hP1
  clear hG1 hb1 hP1
  generalize (w1.alloc (.cells #[.pointer (some ⟨s, 0, none⟩), .pointer (some ⟨b.b, 0, none⟩), .int .i64 c, .slice none 0 0, .slice none 0 0] 30)) = U at hW0 ⊢
  generalize w1.heap.size = y at hW0 ⊢
  go_loopw [16] (fun v16 wr => ∃ (i : Nat) (vb : Value), i ≤ k ∧ v16 = .int .i64 i ∧ Gw w.heap.size w wr P s b k c y vb i) (fun v16 _ => k - (intOf v16).toNat)
  case atStart => exact ⟨0, _, by omega, rfl, hW0⟩
  case round =>
  clear hW0
  obtain ⟨i, vb, hi, rfl, h⟩ := hrel
  by_cases hik : i < k
  · obtain ⟨p, cp, w', hrun, hM, hg, hat⟩ := app1 h.it (-1) h.big (by omega)
    have hM' := h.more hg (hM.congr (g := fun _ => -1) (fun i hi => by unfold cat; split <;> rfl)) (fun g e => (by
      have e' : p = g := by simpa [Value.ownBlock] using e
      subst e'; exact hat))
    obtain ⟨_, _, _, _, z4, zf⟩ := cell5 h.blk
    obtain ⟨_, _, _, _, x4, xf⟩ := cell5 ((hg.block y (box_lt h.blk) (fun e => h.nei e.symm rfl)).trans h.blk)
    have HM : Hid _ := hM'
    clear hM hg hat hM' h
    go_wp2_with (at_builtin; refine wpList_app _ _ hrun rfl rfl rfl rfl rfl ?_; clear hrun)
    go_roundw
    case rel => exact ⟨i + 1, _, by omega, by go_num, HM.out⟩
    case measure => simp [intOf]; omega
  · obtain rfl : i = k := by omega
    obtain ⟨qb, cb, rfl, hE0⟩ := h.edge k1
    clear h hik
    have hik' : ¬ (i : Int) < (i : Int) := by omega
    go_wp2
    go_loopw [17] (fun v17 wr => ∃ (j : Nat), j ≤ 500 ∧ v17 = .int .i64 j ∧ Edge w.heap.size w s b i c y qb cb j wr) (fun v17 _ => 500 - (intOf v17).toNat)
    case atStart => exact ⟨0, by omega, rfl, hE0⟩
    case round =>
    clear hE0
    obtain ⟨t, ht, rfl, hE⟩ := hrel
    by_cases hgo : t < len ∧ t < 500
    · obtain ⟨B, o, F, rfl, hB, hF⟩ := Hs.out.resolve_left (by omega)
      have hn' : (t : Int) < (len : Int) := by omega
      have h500 : (t : Int) < 500 := by omega
      have cel : ∀ j, j < 3 → wr.cell? ⟨B, o + t * 3 + j, none⟩ = some (.int .i64 (F t j)) := fun j hj => (hE.bel.1.cell hB).trans (hF t j hgo.1 hj)
      obtain ⟨K, hK⟩ : ∃ K, F t 0 = K := ⟨_, rfl⟩
      obtain ⟨A, hA⟩ : ∃ A, F t 1 = A := ⟨_, rfl⟩
      obtain ⟨V, hV⟩ : ∃ V, F t 2 = V := ⟨_, rfl⟩
      have d0 := cel 0 (by omega)
      have d1 := cel 1 (by omega)
      have d2 := cel 2 (by omega)
      rw [hK] at d0
      rw [hA] at d1
      rw [hV] at d2
      rw [Nat.add_zero] at d0
      clear cel hF hK hA hV
      have hE1 := hE.below ((Below.refl _ _).alloc (Nat.le_refl _) (.cells #[.int .i64 K, .int .i64 A, .int .i64 V] 32))
      obtain ⟨e0, e1, e2⟩ := act_cells wr K A V
      clear hE
      by_cases hK4 : K < 4
      · have hbe := begin_edge hE1 (by omega) c32 (by omega) K A V
        go_wp2_with (first
          | (go_at_call 9; refine hbe.mono ?_; rintro e w2 ⟨rfl, hE2⟩; obtain ⟨P2, cs2, ops2, T2, xs, vi, busy, hP2, hT2, hst2⟩ := hE2; have HP2 : Hid _ := hP2; have Hst : Hid _ := hst2; obtain ⟨z0, _, _, z3, _, _⟩ := cell5 hP2.blk; have hl := hP2.good.range.2.2.1; have hi2 := g_its hP2.good (by omega); clear hP2 hst2 hbe hE1 e0 e1 e2)
          | (go_at_call 11; refine hi2.mono ?_; clear hi2; rintro e w3 ⟨ao3, c3, rfl, hb3, hr3⟩; have hP3 := HP2.out.below hb3; obtain ⟨x0, _, _, x3, _, _⟩ := cell5 hP3.blk; have hi3 := g_its hP3.good (by omega); have HP3 : Hid _ := hP3; have Hr3 : Hid _ := hr3; have Hb3 : Hid _ := hb3; clear hP3 hr3 hb3)
          | (go_at_call 11; refine hi3.mono ?_; clear hi3; rintro e w4 ⟨ao4, c4, rfl, hb4, hr4⟩; have HP4 : Hid _ := HP3.out.below hb4; have Hr4 : Hid _ := hr4; have Hb4 : Hid _ := hb4; clear hr4 hb4 x0 x3 z0 z3))
        generalize hN : xs.length = n at hl Hr3 Hr4 ⊢
        have HN : Hid _ := hN
        clear hN
        go_loopw [22] (fun v22 wr2 => ∃ j : Nat, j ≤ n ∧ v22 = .int .i64 j ∧ Hid (Below w4.heap.size w4 wr2)) (fun v22 _ => n - (intOf v22).toNat)
        case atStart => exact ⟨0, by omega, rfl, Below.refl _ _⟩
        case round =>
        obtain ⟨j, hj, rfl, hbj⟩ := hrel
        by_cases hjn : j < n
        · have hPj := HP4.out.below hbj.out
          have hjx : j < xs.length := by have := HN.out; omega
          obtain ⟨g3, rfl, hg3, hrow3⟩ := Hr3.out.resolve_left (fun e => by rw [e] at hjx; simp at hjx)
          have hrow4 := hrow3.of_block (Hb4.out.block _ hrow3.lt)
          have ca := (hrow4.of_block (hbj.out.block _ hrow4.lt)).cell hjn
          obtain ⟨p, cp, rfl, _, _, _, cur, hcur, _, _, hcell⟩ := hPj.it.shape (by omega)
          obtain ⟨m, rfl⟩ : ∃ m : Nat, n = j + 1 + m := ⟨n - 1 - j, by omega⟩
          have hm' : ((j + 1 + m : Nat) : Int) - 1 - j = m := by omega
          have hR : Row wr p xs.length (itm xs) := ⟨cur, hcur, hcell⟩
          have cd := hR.cell (i := m) (by have := HN.out; omega)
          have he := itm_its xs hjx
          rw [show xs.length - 1 - j = m by have := HN.out; omega] at he
          rw [he] at cd
          obtain ⟨_, _, _, z3, _, _⟩ := cell5 hPj.blk
          rw [HN.out] at z3
          clear hPj hrow3 hrow4 hcell hcur hR he hg3 hjx
          go_wp2
          go_quiet (fail)
          go_wp2
          go_roundw
          case rel => exact ⟨j + 1, by omega, by go_num, hbj.out.trans ((below_drewN _ _ _).mono hbj.out.size)⟩
          case measure => simp [intOf]; omega
        · obtain rfl : j = n := by omega
          have hb24 := Hb3.out.trans (Hb4.out.mono Hb3.out.size)
          have hb2j := hb24.trans (hbj.out.mono hb24.size)
          have hsp := spoil_ok ao3 j c3 (its xs) (fun g => w2.heap.size ≤ g ∧ g < w3.heap.size) wr (Hr3.out.imp (fun e => by have := HN.out; rw [e] at this; exact this.symm) (fun ⟨g, q1, q2, q3⟩ => ⟨g, q1, ⟨q2, q3.lt⟩, (q3.of_block (Hb4.out.block _ q3.lt)).of_block (hbj.out.block _ (q3.of_block (Hb4.out.block _ q3.lt)).lt)⟩)) (by omega)
          have HB2 : Hid _ := hb2j
          clear hb24 hb2j hjn hj
          rcases Nat.eq_zero_or_pos j with rfl | hpos
          · obtain ⟨ai, ci, rfl⟩ := HP2.out.it.slice
            go_wp2_with (go_at_call 12; refine hsp.mono ?_; rintro e w5 ⟨rfl, hB5⟩; have hb25 := Bt.under HB2.out HB2.out.size (fun _ q => q.1) hB5; have hP5 := HP2.out.below hb25; obtain ⟨_, _, _, z3, _, _⟩ := cell5 hP5.blk; rw [HN.out] at z3; have HP5 : Hid _ := hP5; clear hsp hB5 hb25 hP5)
            go_quiet (fail)
            go_wp2
            go_roundw
            case rel => exact ⟨t + 1, by omega, by go_num, ⟨P2, cs2, ops2, T2, xs, _, busy, HP5.out.drewN _, hT2, Hst.out⟩⟩
            case measure => simp [intOf]; omega
          · have hxp : 0 < xs.length := by have := HN.out; omega
            obtain ⟨p, cp, rfl, _⟩ := HP2.out.it.shape hxp
            obtain ⟨m, rfl⟩ : ∃ m : Nat, j = m + 1 := ⟨j - 1, by omega⟩
            obtain ⟨g4, rfl, hg4, hrow4⟩ := Hr4.out.resolve_left (fun e => by rw [e] at hxp; simp at hxp)
            have hrowj := hrow4.of_block (hbj.out.block _ hrow4.lt)
            have he := itm_its xs hxp
            rw [show xs.length - 1 - 0 = m by have := HN.out; omega] at he
            have Hrowj : Hid (Row wr g4 (m + 1) (its xs)) := hrowj
            have hmn : m < xs.length := by have := HN.out; omega
            have HE : Hid _ := he
            clear hrow4 hrowj he
            go_wp2_with (go_at_call 12; refine hsp.mono ?_; rintro e w5 ⟨rfl, hB5⟩; have hb25 := Bt.under HB2.out HB2.out.size (fun _ q => q.1) hB5; have hP5 := HP2.out.below hb25; obtain ⟨_, _, _, z3, _, _⟩ := cell5 hP5.blk; rw [HN.out] at z3; have ca := (Row.of_block Hrowj.out (hB5.block _ (Row.lt Hrowj.out) (fun q => absurd q.2 (Nat.not_lt.2 hg4)))).cell (Nat.succ_pos _); have cd := hP5.it.cellAt hmn; rw [HE.out] at cd; have HP5 : Hid _ := hP5; clear hsp hB5 hb25 hP5)
            go_quiet (fail)
            go_wp2
            go_roundw
            case rel => exact ⟨t + 1, by omega, by go_num, ⟨P2, cs2, ops2, T2, xs, _, busy, HP5.out.drewN _, hT2, Hst.out⟩⟩
            case measure => simp [intOf]; omega

      · have hbe := step_edge hE1 (by omega) c32 A
        go_wp2_with (first
          | (go_at_call 10; refine hbe.mono ?_; rintro e w2 ⟨rfl, hE2⟩; obtain ⟨P2, cs2, ops2, T2, xs, vi, busy, hP2, hT2, hst2⟩ := hE2; have HP2 : Hid _ := hP2; have Hst : Hid _ := hst2; obtain ⟨z0, _, _, z3, _, _⟩ := cell5 hP2.blk; have hl := hP2.good.range.2.2.1; have hi2 := g_its hP2.good (by omega); clear hP2 hst2 hbe hE1 e0 e1 e2)
          | (go_at_call 11; refine hi2.mono ?_; clear hi2; rintro e w3 ⟨ao3, c3, rfl, hb3, hr3⟩; have hP3 := HP2.out.below hb3; obtain ⟨x0, _, _, x3, _, _⟩ := cell5 hP3.blk; have hi3 := g_its hP3.good (by omega); have HP3 : Hid _ := hP3; have Hr3 : Hid _ := hr3; have Hb3 : Hid _ := hb3; clear hP3 hr3 hb3)
          | (go_at_call 11; refine hi3.mono ?_; clear hi3; rintro e w4 ⟨ao4, c4, rfl, hb4, hr4⟩; have HP4 : Hid _ := HP3.out.below hb4; have Hr4 : Hid _ := hr4; have Hb4 : Hid _ := hb4; clear hr4 hb4 x0 x3 z0 z3))
        generalize hN : xs.length = n at hl Hr3 Hr4 ⊢
        have HN : Hid _ := hN
        clear hN
        go_loopw [22] (fun v22 wr2 => ∃ j : Nat, j ≤ n ∧ v22 = .int .i64 j ∧ Hid (Below w4.heap.size w4 wr2)) (fun v22 _ => n - (intOf v22).toNat)
        case atStart => exact ⟨0, by omega, rfl, Below.refl _ _⟩
        case round =>
        obtain ⟨j, hj, rfl, hbj⟩ := hrel
        by_cases hjn : j < n
        · have hPj := HP4.out.below hbj.out
          have hjx : j < xs.length := by have := HN.out; omega
          obtain ⟨g3, rfl, hg3, hrow3⟩ := Hr3.out.resolve_left (fun e => by rw [e] at hjx; simp at hjx)
          have hrow4 := hrow3.of_block (Hb4.out.block _ hrow3.lt)
          have ca := (hrow4.of_block (hbj.out.block _ hrow4.lt)).cell hjn
          obtain ⟨p, cp, rfl, _, _, _, cur, hcur, _, _, hcell⟩ := hPj.it.shape (by omega)
          obtain ⟨m, rfl⟩ : ∃ m : Nat, n = j + 1 + m := ⟨n - 1 - j, by omega⟩
          have hm' : ((j + 1 + m : Nat) : Int) - 1 - j = m := by omega
          have hR : Row wr p xs.length (itm xs) := ⟨cur, hcur, hcell⟩
          have cd := hR.cell (i := m) (by have := HN.out; omega)
          have he := itm_its xs hjx
          rw [show xs.length - 1 - j = m by have := HN.out; omega] at he
          rw [he] at cd
          obtain ⟨_, _, _, z3, _, _⟩ := cell5 hPj.blk
          rw [HN.out] at z3
          clear hPj hrow3 hrow4 hcell hcur hR he hg3 hjx
          go_wp2
          go_quiet (fail)
          go_wp2
          go_roundw
          case rel => exact ⟨j + 1, by omega, by go_num, hbj.out.trans ((below_drewN _ _ _).mono hbj.out.size)⟩
          case measure => simp [intOf]; omega
        · obtain rfl : j = n := by omega
          have hb24 := Hb3.out.trans (Hb4.out.mono Hb3.out.size)
          have hb2j := hb24.trans (hbj.out.mono hb24.size)
          have hsp := spoil_ok ao3 j c3 (its xs) (fun g => w2.heap.size ≤ g ∧ g < w3.heap.size) wr (Hr3.out.imp (fun e => by have := HN.out; rw [e] at this; exact this.symm) (fun ⟨g, q1, q2, q3⟩ => ⟨g, q1, ⟨q2, q3.lt⟩, (q3.of_block (Hb4.out.block _ q3.lt)).of_block (hbj.out.block _ (q3.of_block (Hb4.out.block _ q3.lt)).lt)⟩)) (by omega)
          have HB2 : Hid _ := hb2j
          clear hb24 hb2j hjn hj
          rcases Nat.eq_zero_or_pos j with rfl | hpos
          · obtain ⟨ai, ci, rfl⟩ := HP2.out.it.slice
            go_wp2_with (go_at_call 12; refine hsp.mono ?_; rintro e w5 ⟨rfl, hB5⟩; have hb25 := Bt.under HB2.out HB2.out.size (fun _ q => q.1) hB5; have hP5 := HP2.out.below hb25; obtain ⟨_, _, _, z3, _, _⟩ := cell5 hP5.blk; rw [HN.out] at z3; have HP5 : Hid _ := hP5; clear hsp hB5 hb25 hP5)
            go_quiet (fail)
            go_wp2
            go_roundw
            case rel => exact ⟨t + 1, by omega, by go_num, ⟨P2, cs2, ops2, T2, xs, _, busy, HP5.out.drewN _, hT2, Hst.out⟩⟩
            case measure => simp [intOf]; omega
          · have hxp : 0 < xs.length := by have := HN.out; omega
            obtain ⟨p, cp, rfl, _⟩ := HP2.out.it.shape hxp
            obtain ⟨m, rfl⟩ : ∃ m : Nat, j = m + 1 := ⟨j - 1, by omega⟩
            obtain ⟨g4, rfl, hg4, hrow4⟩ := Hr4.out.resolve_left (fun e => by rw [e] at hxp; simp at hxp)
            have hrowj := hrow4.of_block (hbj.out.block _ hrow4.lt)
            have he := itm_its xs hxp
            rw [show xs.length - 1 - 0 = m by have := HN.out; omega] at he
            have Hrowj : Hid (Row wr g4 (m + 1) (its xs)) := hrowj
            have hmn : m < xs.length := by have := HN.out; omega
            have HE : Hid _ := he
            clear hrow4 hrowj he
            go_wp2_with (go_at_call 12; refine hsp.mono ?_; rintro e w5 ⟨rfl, hB5⟩; have hb25 := Bt.under HB2.out HB2.out.size (fun _ q => q.1) hB5; have hP5 := HP2.out.below hb25; obtain ⟨_, _, _, z3, _, _⟩ := cell5 hP5.blk; rw [HN.out] at z3; have ca := (Row.of_block Hrowj.out (hB5.block _ (Row.lt Hrowj.out) (fun q => absurd q.2 (Nat.not_lt.2 hg4)))).cell (Nat.succ_pos _); have cd := hP5.it.cellAt hmn; rw [HE.out] at cd; have HP5 : Hid _ := hP5; clear hsp hB5 hb25 hP5)
            go_quiet (fail)
            go_wp2
            go_roundw
            case rel => exact ⟨t + 1, by omega, by go_num, ⟨P2, cs2, ops2, T2, xs, _, busy, HP5.out.drewN _, hT2, Hst.out⟩⟩
            case measure => simp [intOf]; omega

    · by_cases hn : t < len
      · have hn' : (t : Int) < (len : Int) := by omega
        have h500 : ¬ (t : Int) < 500 := by omega
        go_wp2_with (go_at_call 13; refine (awake_any _).mono ?_; rintro e w2 ⟨rfl, hb2⟩)
        go_ret
        exact ⟨rfl, hE.bel.1.trans (hb2.mono hE.bel.2)⟩
      · have hn' : ¬ (t : Int) < (len : Int) := by omega
        go_wp2_with (go_at_call 13; refine (awake_any _).mono ?_; rintro e w2 ⟨rfl, hb2⟩)
        go_ret
        exact ⟨rfl, hE.bel.1.trans (hb2.mono hE.bel.2)⟩
end Go.Proofs.Ytpajdopdbdflnaa
