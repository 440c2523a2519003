/- An operation whose agent alone steps is done soon: the walk of StackAlone. -/
import Derived.Test.YtpajdopdbdflnaaSInts
namespace Go.Proofs.Ytpajdopdbdflnaa
open Go.RowKit

/-- 1 to i, from the top down. -/
def dn : Nat → List Int
  | 0 => []
  | i + 1 => ((i : Int) + 1) :: dn i
theorem dn_mem {i : Nat} {x : Int} (h : x ∈ dn i) : 1 ≤ x ∧ x ≤ i := by
  induction i with
  | zero => simp [dn] at h
  | succ i ih =>
    rcases List.mem_cons.1 h with e | e
    · omega
    · have := ih e; omega
theorem may_dn {cap i : Nat} (hi : i < cap) : May cap (fun _ => .idle) (dn i) (i : Int) := ⟨by omega, by omega, link_idle _ (by omega), fun hm => by have := dn_mem hm; omega⟩
theorem g_begin_pop_at {w : World} {P : Nat → Prop} {s : Nat} {b : Zone} {G cap : Nat} {cs : Nat → Int} {ops : Nat → Op} {T : Int} {xs : List Int} (h : Good w P s b G cap cs ops T xs) (x v : Int) (g : Nat) (hx : x = g) (hg : g < G) (hb : ops g = .idle) :
    Calls Try.prog 20 #[.pointer (some ⟨s, 0, none⟩), .int .i64 x, .int .i64 1, .int .i64 v] w fun e w' => e = .returned (.int .i64 0) ∧ ∃ P', Good w' P' s b G cap cs (updOp ops g (.pop 0 0 0 0)) T xs ∧ Bt P w w' ∧ Wider P P' w := by
  subst hx; exact g_begin_pop h g v hg hb
/-- A step of an agent, whatever it has under way: the others' operations stay. -/
theorem g_step_some {w : World} {P : Nat → Prop} {s : Nat} {b : Zone} {G cap : Nat} {cs : Nat → Int} {ops : Nat → Op} {T : Int} {xs : List Int} (h : Good w P s b G cap cs ops T xs) (hT : T ≤ 1000000000) (g : Nat) (hg : g < G) :
    Calls Try.prog 21 #[.pointer (some ⟨s, 0, none⟩), .int .i64 g] w fun e w' => ∃ (d : Bool) (v : Int) (ok : Bool) (c : Int), e = .returned (.tuple #[.bool d, .int .i64 v, .bool ok, .int .i64 c]) ∧ ∃ (cs' : Nat → Int) (ops' : Nat → Op) (T' : Int) (xs' : List Int), Good w' P s b G cap cs' ops' T' xs' ∧ Bt P w w' ∧ T' ≤ T + 1 ∧ ∀ j, j ≠ g → ops' j = ops j := by
  by_cases hb : ops g = .idle
  · refine (g_step_idle h g hg hb).mono ?_
    rintro e w' ⟨rfl, rfl⟩
    exact ⟨_, _, _, _, rfl, cs, ops, T, xs, h, Bt.refl _ _, by omega, fun _ _ => rfl⟩
  · refine (g_step h hT g hg hb).mono ?_
    rintro e w' ⟨done, v, ok, op', T', xs', rfl, hG, hB, hE⟩
    refine ⟨_, _, _, _, rfl, _, _, T', xs', hG, hB, ?_, fun j hj => updOp_else _ _ hj⟩
    generalize ops g = og at hE
    cases hE <;> omega

set_option maxRecDepth 20000 in
set_option maxHeartbeats 4000000 in
theorem alone_walk (vp : Value) (n : Nat) (f : Nat → Int) (cap0 : Int) (w : World) (hp : Ints w vp n f) :
    Calls Try.prog 5 #[vp, .int .i64 cap0] w fun e w' => e = .returned (.bool true) ∧ Below w.heap.size w w' := by
  obtain ⟨r, hr, hr16⟩ := masked15 cap0
  obtain ⟨ao, cp, rfl, hp'⟩ := hp
  have Hp : Hid (n = 0 ∨ ∃ B o : Nat, ao = some ⟨B, o, none⟩ ∧ B < w.heap.size ∧ ∀ i, i < n → w.cell? ⟨B, o + i, none⟩ = some (.int .i64 (f i))) := hp'
  clear hp'
  go_enter Try.func5, Try.ntmps5
  go_wp2_with (first
    | (go_at_call 13; refine (awake_any _).mono ?_; rintro e w0 ⟨rfl, hb0⟩)
    | (go_at_call 8; refine (begun_ok 8 0 (4 + r) _ _ _ _ rfl rfl (by omega) (by omega) (by omega) (by omega) (by omega) (by omega)).mono ?_; rintro e w1 ⟨s, b, P, rfl, hG1, hb1', hP1'⟩; have hb1 := hb0.trans (hb1'.mono hb0.size); have hP1 := fun j hj => Nat.le_trans hb0.size (hP1' j hj)))
  go_loopw [9] (fun v9 wr => ∃ (i : Nat) (P' : Nat → Prop) (cs : Nat → Int) (T : Int), i ≤ 4 ∧ v9 = .int .i64 i ∧ Good wr P' s b 8 (4 + r) cs (fun _ => .idle) T (dn i) ∧ T ≤ i ∧ Below w.heap.size w wr ∧ (∀ j, P' j → w.heap.size ≤ j)) (fun v9 _ => 4 - (intOf v9).toNat)
  case atStart => exact ⟨0, P, _, 0, by omega, rfl, hG1, by omega, hb1, hP1⟩
  case round =>
    obtain ⟨i, P', cs, T, hi, rfl, hG, hT, hb, hP⟩ := hrel
    clear hG1 hb1 hP1 hb1' hP1' hb0
    by_cases hlt : i < 4
    · have hal := alone_push hG (by omega) 7 i 7 rfl (by omega) rfl (may_dn (by omega))
      go_wp2_with (go_at_call 18; refine hal.mono ?_; rintro e w2 ⟨i2, rfl, P2, cs2, T2, hG2, hB2, hW2, hT2⟩)
      go_roundw
      case rel => exact ⟨i + 1, P2, cs2, T2, by omega, by go_num, hG2, by omega, Bt.under hb hb.size hP hB2, hW2.from_ hP hb.size⟩
      case measure => simp [intOf]; omega
    · have Hi : Hid (i = 4) := (show i = 4 by omega)
      go_wp2
      clear hlt hi
      go_loopw [10] (fun v10 wr => ∃ (i : Nat) (P' : Nat → Prop) (cs : Nat → Int) (ops : Nat → Op) (T : Int) (xs : List Int), i ≤ 6 ∧ v10 = .int .i64 i ∧ Good wr P' s b 8 (4 + r) cs ops T xs ∧ T ≤ 4 + 3 * i ∧ Below w.heap.size w wr ∧ (∀ j, P' j → w.heap.size ≤ j) ∧ Hid (∀ j, i ≤ j → ops j = .idle)) (fun v10 _ => 6 - (intOf v10).toNat)
      case atStart => exact ⟨0, P', cs, _, T, _, by omega, rfl, hG, by have := Hi.out; omega, hb, hP, fun _ _ => rfl⟩
      case round =>
        clear hG hb hP hT
        clear Hi
        obtain ⟨i, P', cs, ops, T, xs, hi, rfl, hG, hT, hb, hP, hid⟩ := hrel
        by_cases hn : i < n
        · by_cases h6 : i < 6
          · obtain ⟨B, o, rfl, hB, hc⟩ := Hp.out.resolve_left (by omega)
            obtain ⟨q, hq, hq4⟩ := masked3 (f i)
            have hcj : ∀ u, Below w.heap.size w u → u.cell? ⟨B, o + i, none⟩ = some (.int .i64 (f i)) := fun u hu => (World.cell?_of_block (a := ⟨B, o + i, none⟩) (hu.block B hB)).trans (hc i hn)
            have Hc : Hid _ := hcj
            clear hc hcj
            have hbe := g_begin_pop_at hG (i : Int) 0 i rfl (by omega) (hid.out i (by omega))
            go_wp2_with (go_at_call 20; refine hbe.mono ?_; rintro e w2 ⟨rfl, P2, hG2, hB2, hW2⟩; have hb2 := Bt.under hb hb.size hP hB2; have hP2 := hW2.from_ hP hb.size)
            go_loopw [11] (fun v11 wr2 => ∃ (k : Nat) (cs2 : Nat → Int) (ops2 : Nat → Op) (T2 : Int) (xs2 : List Int), k ≤ q ∧ v11 = .int .i64 k ∧ Good wr2 P2 s b 8 (4 + r) cs2 ops2 T2 xs2 ∧ T2 ≤ 4 + 3 * i + k ∧ Below w.heap.size w wr2 ∧ Hid (∀ j, i + 1 ≤ j → ops2 j = .idle)) (fun v11 _ => q - (intOf v11).toNat)
            case atStart => exact ⟨0, cs, _, T, xs, by omega, rfl, hG2, by omega, hb2, fun j hj => (updOp_else _ _ (by omega)).trans (hid.out j (by omega))⟩
            case round =>
              clear hbe hG2 hB2 hW2 hb2 hG hb
              obtain ⟨k, cs2, ops2, T2, xs2, hk, rfl, hG2, hT2, hb2, hid2⟩ := hrel
              have hcu := Hc.out _ hb2
              by_cases hkq : k < q
              · have hst := g_step_some hG2 (by omega) i (by omega)
                go_wp2_with (go_at_call 21; refine hst.mono ?_; rintro e w3 ⟨d3, v3, ok3, c3, rfl, cs3, ops3, T3, xs3, hG3, hB3, hT3, ho3⟩)
                go_roundw
                case rel => exact ⟨k + 1, cs3, ops3, T3, xs3, by omega, by go_num, hG3, by omega, Bt.under hb2 hb2.size hP2 hB3, fun j hj => (ho3 j (by omega)).trans (hid2.out j hj)⟩
                case measure => simp [intOf]; omega
              · obtain rfl : k = q := by omega
                go_wp2
                go_roundw
                case rel => exact ⟨i + 1, P2, cs2, ops2, T2, xs2, by omega, by go_num, hG2, by omega, hb2, hP2, hid2⟩
                case measure => simp [intOf]; omega
          · have h6' : i = 6 := by omega
            have hi6 : ¬ (i : Int) < 6 := by omega
            have h7 : ops 7 = .idle := hid.out 7 (by omega)
            have hit := g_its hG (by omega)
            have hlen := hG.range.2.2.1
            clear hid
            go_wp2_with (go_at_call 11; refine hit.mono ?_; rintro e w2 ⟨ao2, c2, rfl, hb2, _⟩; have hG2 := hG.below hb2; have hbb := hb.trans (hb2.mono hb.size))
            clear hit hG hb hb2
            go_loopw [13] (fun v13 wr2 => ∃ (k : Nat) (P2 : Nat → Prop) (cs2 : Nat → Int) (T2 : Int) (ys : List Int), v13 = .int .i64 k ∧ k + ys.length = xs.length ∧ Good wr2 P2 s b 8 (4 + r) cs2 ops T2 ys ∧ T2 ≤ 30 + k ∧ Below w.heap.size w wr2 ∧ (∀ j, P2 j → w.heap.size ≤ j)) (fun v13 _ => xs.length - (intOf v13).toNat)
            case atStart => exact ⟨0, P', cs, T, xs, rfl, by omega, hG2, by omega, hbb, hP⟩
            case round =>
              clear hG2 hbb hP
              obtain ⟨k, P2, cs2, T2, ys, rfl, hky, hG2, hT2, hb2, hP2⟩ := hrel
              have hit2 := g_its hG2 (by omega)
              cases ys with
              | nil =>
                have hkx : k = xs.length := by simpa using hky
                have hal := alone_pop hG2 (by omega) 7 0 7 rfl (by omega) h7
                have hal' : Calls Try.prog 18 #[.pointer (some ⟨s, 0, none⟩), .int .i64 7, .int .i64 1, .int .i64 0] wr fun e w' => ∃ i2, e = .returned (.tuple #[.int .i64 0, .bool false, .int .i64 i2, .bool true]) ∧ Left wr P2 s b 8 (4 + r) ops T2 [] w' := by
                  refine hal.mono ?_
                  rintro e w' ⟨i2, ⟨_, rfl, hL⟩ | ⟨_, _, q4, _⟩⟩
                  · exact ⟨i2, rfl, hL⟩
                  · cases q4
                clear hal hit2 hky
                have hlt : ¬ (k : Int) < (xs.length : Int) := by omega
                go_wp2_with (first
                  | (go_at_call 18; refine hal'.mono ?_; rintro e w3 ⟨i3, rfl, P3, cs3, T3, hG3, hB3, hW3, hT3⟩; have hb3 := Bt.under hb2 hb2.size hP2 hB3; have hit3 := g_its hG3 (by omega))
                  | (go_at_call 11; refine hit3.mono ?_; rintro e w4 ⟨ao4, c4, rfl, hb4, _⟩))
                go_ret
                exact ⟨rfl, hb3.trans (hb4.mono hb3.size)⟩
              | cons x r4 =>
                have hkx : k < xs.length := by simp at hky; omega
                have hal : ∀ u, Below wr.heap.size wr u → Calls Try.prog 18 #[.pointer (some ⟨s, 0, none⟩), .int .i64 7, .int .i64 1, .int .i64 0] u fun e w' => ∃ i2, e = .returned (.tuple #[.int .i64 (x - 1), .bool true, .int .i64 i2, .bool true]) ∧ Left u P2 s b 8 (4 + r) ops T2 r4 w' := by
                  intro u hu
                  refine (alone_pop (hG2.below hu) (by omega) 7 0 7 rfl (by omega) h7).mono ?_
                  rintro e w' ⟨i2, ⟨q4, _⟩ | ⟨x4, r5, q4, rfl, hL⟩⟩
                  · cases q4
                  · obtain ⟨rfl, rfl⟩ := List.cons.inj q4
                    exact ⟨i2, rfl, hL⟩
                have Hal : Hid _ := hal
                clear hal
                have hxx : (x - 1 != x - 1) = false := by simp
                obtain ⟨m, hm⟩ : ∃ m, (x :: r4).length = m := ⟨_, rfl⟩
                have hm1 : 0 < m := by rw [← hm]; simp
                have hm0 : ((m : Int) == 0) = false := by simp; omega
                have hlt2 := hG2.lt
                have hit3 : Calls Try.prog 11 #[.pointer (some ⟨s, 0, none⟩)] wr fun e w' => ∃ (g c : Nat), e = .returned (.slice (some ⟨g, 0, none⟩) m c) ∧ Below wr.heap.size wr w' ∧ wr.heap.size ≤ g ∧ Row w' g m (its (x :: r4)) := by
                  refine hit2.mono ?_
                  rintro e w' ⟨ao3, c3, rfl, hb3, q3 | ⟨g, rfl, hg, hrw⟩⟩
                  · cases q3
                  · exact ⟨g, c3, by rw [hm], hb3, hg, hm ▸ hrw⟩
                have Hky : Hid (k + (r4.length + 1) = xs.length) := (by simpa using hky : k + (r4.length + 1) = xs.length)
                clear hit2 hky hm
                go_wp2_with (first
                  | (go_at_call 11; refine hit3.mono ?_; rintro e w3 ⟨g3, c3, rfl, hb3, lg3, hr3⟩)
                  | (go_at_call 18; refine (Hal.out _ hb3).mono ?_; rintro e w4 ⟨i4, rfl, P4, cs4, T4, hG4, hB4, hW4, hT4⟩; have hr4 := (hr3.of_block (hB4.block g3 hr3.lt (fun q => by have := hlt2 _ q; omega))).cell (i := 0) hm1; have hb4 := Bt.under (hb2.trans (hb3.mono hb2.size)) (Nat.le_trans hb2.size hb3.size) hP2 hB4; have hP4 := hW4.from_ hP2 (Nat.le_trans hb2.size hb3.size); rw [its_cons] at hr4))
                go_roundw
                case rel => exact ⟨k + 1, P4, cs4, T4, r4, by go_num, by have := Hky.out; omega, hG4, by omega, hb4, hP4⟩
                case measure => simp [intOf]; omega
        · have hin : ¬ (i : Int) < (n : Int) := by omega
          have h7 : ops 7 = .idle := hid.out 7 (by omega)
          have hit := g_its hG (by omega)
          have hlen := hG.range.2.2.1
          clear hid
          go_wp2_with (go_at_call 11; refine hit.mono ?_; rintro e w2 ⟨ao2, c2, rfl, hb2, _⟩; have hG2 := hG.below hb2; have hbb := hb.trans (hb2.mono hb.size))
          clear hit hG hb hb2
          go_loopw [13] (fun v13 wr2 => ∃ (k : Nat) (P2 : Nat → Prop) (cs2 : Nat → Int) (T2 : Int) (ys : List Int), v13 = .int .i64 k ∧ k + ys.length = xs.length ∧ Good wr2 P2 s b 8 (4 + r) cs2 ops T2 ys ∧ T2 ≤ 30 + k ∧ Below w.heap.size w wr2 ∧ (∀ j, P2 j → w.heap.size ≤ j)) (fun v13 _ => xs.length - (intOf v13).toNat)
          case atStart => exact ⟨0, P', cs, T, xs, rfl, by omega, hG2, by omega, hbb, hP⟩
          case round =>
            clear hG2 hbb hP
            obtain ⟨k, P2, cs2, T2, ys, rfl, hky, hG2, hT2, hb2, hP2⟩ := hrel
            have hit2 := g_its hG2 (by omega)
            cases ys with
            | nil =>
              have hkx : k = xs.length := by simpa using hky
              have hal := alone_pop hG2 (by omega) 7 0 7 rfl (by omega) h7
              have hal' : Calls Try.prog 18 #[.pointer (some ⟨s, 0, none⟩), .int .i64 7, .int .i64 1, .int .i64 0] wr fun e w' => ∃ i2, e = .returned (.tuple #[.int .i64 0, .bool false, .int .i64 i2, .bool true]) ∧ Left wr P2 s b 8 (4 + r) ops T2 [] w' := by
                refine hal.mono ?_
                rintro e w' ⟨i2, ⟨_, rfl, hL⟩ | ⟨_, _, q4, _⟩⟩
                · exact ⟨i2, rfl, hL⟩
                · cases q4
              clear hal hit2 hky
              have hlt : ¬ (k : Int) < (xs.length : Int) := by omega
              go_wp2_with (first
                | (go_at_call 18; refine hal'.mono ?_; rintro e w3 ⟨i3, rfl, P3, cs3, T3, hG3, hB3, hW3, hT3⟩; have hb3 := Bt.under hb2 hb2.size hP2 hB3; have hit3 := g_its hG3 (by omega))
                | (go_at_call 11; refine hit3.mono ?_; rintro e w4 ⟨ao4, c4, rfl, hb4, _⟩))
              go_ret
              exact ⟨rfl, hb3.trans (hb4.mono hb3.size)⟩
            | cons x r4 =>
              have hkx : k < xs.length := by simp at hky; omega
              have hal : ∀ u, Below wr.heap.size wr u → Calls Try.prog 18 #[.pointer (some ⟨s, 0, none⟩), .int .i64 7, .int .i64 1, .int .i64 0] u fun e w' => ∃ i2, e = .returned (.tuple #[.int .i64 (x - 1), .bool true, .int .i64 i2, .bool true]) ∧ Left u P2 s b 8 (4 + r) ops T2 r4 w' := by
                intro u hu
                refine (alone_pop (hG2.below hu) (by omega) 7 0 7 rfl (by omega) h7).mono ?_
                rintro e w' ⟨i2, ⟨q4, _⟩ | ⟨x4, r5, q4, rfl, hL⟩⟩
                · cases q4
                · obtain ⟨rfl, rfl⟩ := List.cons.inj q4
                  exact ⟨i2, rfl, hL⟩
              have Hal : Hid _ := hal
              clear hal
              have hxx : (x - 1 != x - 1) = false := by simp
              obtain ⟨m, hm⟩ : ∃ m, (x :: r4).length = m := ⟨_, rfl⟩
              have hm1 : 0 < m := by rw [← hm]; simp
              have hm0 : ((m : Int) == 0) = false := by simp; omega
              have hlt2 := hG2.lt
              have hit3 : Calls Try.prog 11 #[.pointer (some ⟨s, 0, none⟩)] wr fun e w' => ∃ (g c : Nat), e = .returned (.slice (some ⟨g, 0, none⟩) m c) ∧ Below wr.heap.size wr w' ∧ wr.heap.size ≤ g ∧ Row w' g m (its (x :: r4)) := by
                refine hit2.mono ?_
                rintro e w' ⟨ao3, c3, rfl, hb3, q3 | ⟨g, rfl, hg, hrw⟩⟩
                · cases q3
                · exact ⟨g, c3, by rw [hm], hb3, hg, hm ▸ hrw⟩
              have Hky : Hid (k + (r4.length + 1) = xs.length) := (by simpa using hky : k + (r4.length + 1) = xs.length)
              clear hit2 hky hm
              go_wp2_with (first
                | (go_at_call 11; refine hit3.mono ?_; rintro e w3 ⟨g3, c3, rfl, hb3, lg3, hr3⟩)
                | (go_at_call 18; refine (Hal.out _ hb3).mono ?_; rintro e w4 ⟨i4, rfl, P4, cs4, T4, hG4, hB4, hW4, hT4⟩; have hr4 := (hr3.of_block (hB4.block g3 hr3.lt (fun q => by have := hlt2 _ q; omega))).cell (i := 0) hm1; have hb4 := Bt.under (hb2.trans (hb3.mono hb2.size)) (Nat.le_trans hb2.size hb3.size) hP2 hB4; have hP4 := hW4.from_ hP2 (Nat.le_trans hb2.size hb3.size); rw [its_cons] at hr4))
              go_roundw
              case rel => exact ⟨k + 1, P4, cs4, T4, r4, by go_num, by have := Hky.out; omega, hG4, by omega, hb4, hP4⟩
              case measure => simp [intOf]; omega
end Go.Proofs.Ytpajdopdbdflnaa
