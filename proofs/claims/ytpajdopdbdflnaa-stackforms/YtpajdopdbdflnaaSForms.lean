/- Which stacks there may be, and that they keep to their words: the walk of StackForms. -/
import Derived.Test.YtpajdopdbdflnaaSAlone
namespace Go.Proofs.Ytpajdopdbdflnaa
open Go.RowKit

theorem dn_length (k : Nat) : (dn k).length = k := by induction k with | zero => rfl | succ k ih => simp [dn, ih]
/-- An access of the arena's own leaves the stack. -/
theorem Stk.arena {w w' : World} {P : Nat → Prop} {s b bw bs bt bu bl W G base cap : Nat} {ws cs : Nat → Int} {ops : Nat → Op} {ob : Nat → Nat} (h : Stk w P s b bw bs bt bu bl W G base cap ws cs ops ob) {ws' cs' : Nat → Int} (hA : Ar w' b bw bs W G ws' cs') (hB : But bw bs w w') : Stk w' P s b bw bs bt bu bl W G base cap ws' cs' ops ob := by
  have hs := h.here
  refine ⟨hA, h.bx.but hB, hs.of_block (hB.block s hs.lt (fun q => row_stk h.ar.words hs q.symm) (fun q => row_stk h.ar.steps hs q.symm)), fun g hg => ?_, h.apart, h.rest, h.foot, fun k hk => Nat.lt_of_lt_of_le (h.lt k hk) hB.size, h.few, h.big, h.base1, h.cap1, h.cap2⟩
  have ht := h.tk g hg
  cases ho : ops g with
  | idle => trivial
  | push item n t i =>
    rw [ho] at ht
    obtain ⟨p0, x, y, z, p1, p2, p3, h1, h2, h3, y1, y2, h4⟩ := ht
    exact ⟨p0, x, y, z, p1, p2, p3, (hB.block _ (box_lt h1) (ne_row h1 (by decide) h.ar.words) (ne_row h1 (by decide) h.ar.steps)).trans h1, (hB.block _ (box_lt h2) (ne_row h2 (by decide) h.ar.words) (ne_row h2 (by decide) h.ar.steps)).trans h2, (hB.block _ (box_lt h3) y1 y2).trans h3, y1, y2, (hB.block _ (box_lt h4) (ne_row h4 (by decide) h.ar.words) (ne_row h4 (by decide) h.ar.steps)).trans h4⟩
  | pop n t i d =>
    rw [ho] at ht
    obtain ⟨p0, x, y, p1, p2, h1, h2, h3, y1, y2⟩ := ht
    exact ⟨p0, x, y, p1, p2, (hB.block _ (box_lt h1) (ne_row h1 (by decide) h.ar.words) (ne_row h1 (by decide) h.ar.steps)).trans h1, (hB.block _ (box_lt h2) (ne_row h2 (by decide) h.ar.words) (ne_row h2 (by decide) h.ar.steps)).trans h2, (hB.block _ (box_lt h3) y1 y2).trans h3, y1, y2⟩
theorem g_load {w : World} {P : Nat → Prop} {s : Nat} {b : Zone} {G cap : Nat} {cs : Nat → Int} {ops : Nat → Op} {T : Int} {xs : List Int} (h : Good w P s b G cap cs ops T xs) (x y : Int) (a g : Nat) (hx : x = g) (hy : y = a) (hg : g < G) (ha : a < b.W) :
    Calls Try.prog 19 #[.pointer (some ⟨b.b, 0, none⟩), .int .i64 x, .int .i64 y] w fun e w' => ∃ v : Int, e = .returned (.tuple #[.int .i64 v, .int .i64 0]) ∧ (a < b.base ∨ b.base + cap < a → v = b.old a) ∧ (∃ cs', Good w' P s b G cap cs' ops T xs) ∧ Bt P w w' := by
  subst hx hy
  obtain ⟨bw, bs, bt, bu, bl, ws, ob, hS, hI, hO⟩ := h
  refine (load_ok hS.ar g a hg ha).mono ?_
  rintro e w' ⟨rfl, hA, hB⟩
  exact ⟨_, rfl, hO a, ⟨_, _, _, _, _, _, _, _, hS.arena hA hB, hI, hO⟩, Bt.of_but hB hS.foot.2.2.1 hS.foot.2.2.2.1⟩
theorem store_at {w : World} {b bw bs W G : Nat} {ws cs : Nat → Int} (h : Ar w b bw bs W G ws cs) (x y v : Int) (g a : Nat) (hx : x = g) (hy : y = a) (hg : g < G) (ha : a < W) :
    Calls Try.prog 15 #[.pointer (some ⟨b, 0, none⟩), .int .i64 x, .int .i64 y, .int .i64 v] w fun e w' => e = .returned (.int .i64 0) ∧ Ar w' b bw bs W G (upd ws a v) (upd cs g (wrap64 (cs g + 1))) ∧ But bw bs w w' := by
  subst hx hy; exact store_ok h g a v hg ha

set_option maxRecDepth 20000 in
set_option maxHeartbeats 4000000 in
theorem forms_no (words base cap0 : Int) (w : World) (r : Nat) (hr : bits BinOp.and .i64 words 1023 = (r : Int)) (hr16 : r < 1024) (hbad : ¬ (1 ≤ cap0 ∧ cap0 ≤ 1000 ∧ 0 ≤ base ∧ base + (2 * cap0 + 8) ≤ ((1 + r : Nat) : Int))) :
    Calls Try.prog 4 #[.int .i64 words, .int .i64 base, .int .i64 cap0] w fun e w' => e = .returned (.bool true) ∧ Below w.heap.size w w' := by
  have Hbad : Hid _ := hbad
  clear hbad
  go_enter Try.func4, Try.ntmps4
  go_wp2_with (first
    | (go_at_call 13; refine (awake_any _).mono ?_; rintro e w0 ⟨rfl, hb0⟩)
    | (go_at_call 14; refine (new_at _ _ (1 + r) 1 _ (by omega) rfl (by omega) (by omega) (by omega) (by omega)).mono ?_; rintro e w1 ⟨b, bw, bs, rfl, hA1, hb1', l0, l1, l2⟩; have hb1 := hb0.trans (hb1'.mono hb0.size)))
  go_loopw [10] (fun v10 wr => ∃ (i : Nat) (ws cs : Nat → Int), i ≤ 1 + r ∧ v10 = .int .i64 i ∧ Ar wr b bw bs (1 + r) 1 ws cs ∧ Below w.heap.size w wr) (fun v10 _ => 1 + r - (intOf v10).toNat)
  case atStart => exact ⟨0, _, _, by omega, rfl, hA1, hb1⟩
  case round =>
    obtain ⟨i, ws, cs, hi, rfl, hA, hb⟩ := hrel
    have q1 : w.heap.size ≤ bw := Nat.le_trans hb0.size l1
    have q2 : w.heap.size ≤ bs := Nat.le_trans hb0.size l2
    clear hA1 hb1 hb1' l0 l1 l2 hb0
    by_cases hlt : i < 1 + r
    · have hst := store_at hA 0 i (1000 + (i : Int)) 0 i rfl rfl (by omega) hlt
      go_wp2_with (go_at_call 15; refine hst.mono ?_; rintro e w2 ⟨rfl, hA2, hB2⟩)
      go_roundw
      case rel => exact ⟨i + 1, _, _, by omega, by go_num, hA2, But.under hb hb.size q1 q2 hB2⟩
      case measure => simp [intOf]; omega
    · have hno := snew_no hA base cap0 (by omega) Hbad.out
      by_cases a1 : cap0 < 1
      · go_wp2_with (first | (go_at_call 16; refine hno.mono ?_; rintro e w3 ⟨rfl, rfl⟩) | (go_at_call 17; refine (num_any _ _).mono ?_; rintro e w4 ⟨rfl, rfl⟩))
        go_ret
        exact ⟨rfl, hb⟩
      · have b1 : decide (cap0 < 1) = false := by simp; omega
        by_cases a2 : 1000 < cap0
        · go_wp2_with (first | (go_at_call 16; refine hno.mono ?_; rintro e w3 ⟨rfl, rfl⟩) | (go_at_call 17; refine (num_any _ _).mono ?_; rintro e w4 ⟨rfl, rfl⟩))
          go_ret
          exact ⟨rfl, hb⟩
        · have b2 : decide (1000 < cap0) = false := by simp; omega
          by_cases a3 : base < 0
          · go_wp2_with (first | (go_at_call 16; refine hno.mono ?_; rintro e w3 ⟨rfl, rfl⟩) | (go_at_call 17; refine (num_any _ _).mono ?_; rintro e w4 ⟨rfl, rfl⟩))
            go_ret
            exact ⟨rfl, hb⟩
          · have b3 : decide (base < 0) = false := by simp; omega
            by_cases a4 : 1 + (r : Int) < base
            · go_wp2_with (first | (go_at_call 16; refine hno.mono ?_; rintro e w3 ⟨rfl, rfl⟩) | (go_at_call 17; refine (num_any _ _).mono ?_; rintro e w4 ⟨rfl, rfl⟩))
              go_ret
              exact ⟨rfl, hb⟩
            · have b4 : decide (1 + (r : Int) < base) = false := by simp; omega
              have b5 : 1 + (r : Int) - base < 2 * cap0 + 8 := by
                have hq : ¬ (1 ≤ cap0 ∧ cap0 ≤ 1000 ∧ 0 ≤ base ∧ base + (2 * cap0 + 8) ≤ ((1 + r : Nat) : Int)) := Hbad.out
                omega
              have c1 : 1 ≤ cap0 := by omega
              have c2 : cap0 ≤ 1000 := by omega
              have c3 : 0 ≤ base := by omega
              have c4 : base ≤ 1 + (r : Int) := by omega
              clear a1 a2 a3 a4
              go_wp2_with (first | (go_at_call 16; refine hno.mono ?_; rintro e w3 ⟨rfl, rfl⟩) | (go_at_call 17; refine (num_any _ _).mono ?_; rintro e w4 ⟨rfl, rfl⟩))
              go_ret
              exact ⟨rfl, hb⟩
set_option maxRecDepth 20000 in
set_option maxHeartbeats 8000000 in
theorem forms_yes (words : Int) (base cap0 : Nat) (w : World) (r : Nat) (hr : bits BinOp.and .i64 words 1023 = (r : Int)) (hr16 : r < 1024) (c1 : 1 ≤ cap0) (c2 : cap0 ≤ 1000) (c3 : base + (2 * cap0 + 8) ≤ 1 + r) :
    Calls Try.prog 4 #[.int .i64 words, .int .i64 base, .int .i64 cap0] w fun e w' => e = .returned (.bool true) ∧ Below w.heap.size w w' := by
  go_enter Try.func4, Try.ntmps4
  go_wp2_with (first
    | (go_at_call 13; refine (awake_any _).mono ?_; rintro e w0 ⟨rfl, hb0⟩)
    | (go_at_call 14; refine (new_at _ _ (1 + r) 1 _ (by omega) rfl (by omega) (by omega) (by omega) (by omega)).mono ?_; rintro e w1 ⟨b, bw, bs, rfl, hA1, hb1', l0, l1, l2⟩; have hb1 := hb0.trans (hb1'.mono hb0.size)))
  go_loopw [10] (fun v10 wr => ∃ (i : Nat) (ws cs : Nat → Int), i ≤ 1 + r ∧ v10 = .int .i64 i ∧ Ar wr b bw bs (1 + r) 1 ws cs ∧ Below w.heap.size w wr ∧ Hid (∀ j, j < i → ws j = 1000 + (j : Int))) (fun v10 _ => 1 + r - (intOf v10).toNat)
  case atStart => exact ⟨0, _, _, by omega, rfl, hA1, hb1, fun j hj => absurd hj (by omega)⟩
  case round =>
    obtain ⟨i, ws, cs, hi, rfl, hA, hb, hws⟩ := hrel
    have q0 : w.heap.size ≤ b := Nat.le_trans hb0.size l0
    have q1 : w.heap.size ≤ bw := Nat.le_trans hb0.size l1
    have q2 : w.heap.size ≤ bs := Nat.le_trans hb0.size l2
    clear hA1 hb1 hb1' l0 l1 l2 hb0
    by_cases hlt : i < 1 + r
    · have hst := store_at hA 0 i (1000 + (i : Int)) 0 i rfl rfl (by omega) hlt
      go_wp2_with (go_at_call 15; refine hst.mono ?_; rintro e w2 ⟨rfl, hA2, hB2⟩)
      go_roundw
      case rel => exact ⟨i + 1, _, _, by omega, by go_num, hA2, But.under hb hb.size q1 q2 hB2, fun j hj => (by
        by_cases e : j = i
        · subst e; exact upd_at _ _ _
        · rw [upd_else _ _ e]; exact hws.out j (by omega))⟩
      case measure => simp [intOf]; omega
    · have Hi : Hid (i = 1 + r) := (show i = 1 + r by omega)
      have hnew := snew_ok hA base cap0 c1 c2 c3 (by omega) (by omega)
      have hnew' : Calls Try.prog 16 #[.pointer (some ⟨b, 0, none⟩), .int .i64 base, .int .i64 cap0] wr fun e w' => ∃ (s : Nat) (P : Nat → Prop) (cs' : Nat → Int), e = .returned (.tuple #[.pointer (some ⟨s, 0, none⟩), .int .i64 0]) ∧ Good w' P s ⟨b, 1 + r, base, ws⟩ 1 cap0 cs' (fun _ => .idle) 0 [] ∧ Below w.heap.size w w' ∧ (∀ j, P j → w.heap.size ≤ j) := by
        refine hnew.mono ?_
        rintro e w' ⟨s, bt, bu, bl, rfl, hS, hB⟩
        have hI : Inv base cap0 (upd ws base 0) (fun _ => .idle) 0 [] := ⟨by omega, by rw [upd_at]; simp [hd], trivial, by simp, by simp, fun _ => trivial, fun _ _ _ q => absurd q (by simp [Op.link])⟩
        refine ⟨s, _, _, rfl, ⟨_, _, _, _, _, _, _, hS, hI, fun a ha => ?_⟩, Bt.under hb hb.size (fun j hj => by rcases hj with rfl | rfl <;> omega) hB, ?_⟩
        · simp only at ha
          exact upd_else _ _ (by omega)
        · have := hb.size
          rintro j (rfl | rfl | rfl | hj) <;> omega
      clear hnew hA hb
      have d1 : decide ((cap0 : Int) < 1) = false := by simp; omega
      have d2 : decide (1000 < (cap0 : Int)) = false := by simp; omega
      have d3 : decide ((base : Int) < 0) = false := by simp
      have d4 : decide (1 + (r : Int) < (base : Int)) = false := by simp; omega
      have d5 : decide (1 + (r : Int) - (base : Int) < 2 * (cap0 : Int) + 8) = false := by simp; omega
      go_wp2_with (first | (go_at_call 16; refine hnew'.mono ?_; rintro e w2 ⟨s, P, cs2, rfl, hG2, hb2, hP2⟩) | (go_at_call 17; refine (num_any _ _).mono ?_; rintro e w3 ⟨rfl, rfl⟩))
      clear hnew' hlt hi d1 d2 d3 d4 d5
      go_loopw [13] (fun v13 wr => ∃ (i : Nat) (P' : Nat → Prop) (cs : Nat → Int) (T : Int), i ≤ cap0 ∧ i ≤ 40 ∧ v13 = .int .i64 i ∧ Good wr P' s ⟨b, 1 + r, base, ws⟩ 1 cap0 cs (fun _ => .idle) T (dn i) ∧ T ≤ i ∧ Below w.heap.size w wr ∧ (∀ j, P' j → w.heap.size ≤ j)) (fun v13 _ => 40 - (intOf v13).toNat)
      case atStart => exact ⟨0, P, _, 0, by omega, by omega, rfl, hG2, by omega, hb2, hP2⟩
      case round =>
        clear hG2 hb2 hP2
        obtain ⟨k, P', cs3, T, hk, hk40, rfl, hG, hT, hb, hP⟩ := hrel
        by_cases hkc : k < cap0 ∧ k < 40
        · obtain ⟨k1, k2⟩ := hkc
          have hal := alone_push hG (by omega) 0 k 0 rfl (by omega) rfl (may_dn k1)
          go_wp2_with (go_at_call 18; refine hal.mono ?_; rintro e w4 ⟨i4, rfl, P4, cs4, T4, hG4, hB4, hW4, hT4⟩)
          go_roundw
          case rel => exact ⟨k + 1, P4, cs4, T4, by omega, by omega, by go_num, hG4, by omega, Bt.under hb hb.size hP hB4, hW4.from_ hP hb.size⟩
          case measure => simp [intOf]; omega
        · have Hk : Hid (k = min cap0 40) := (show k = min cap0 40 by omega)
          have hguard : (k : Int) < (cap0 : Int) → ¬ (k : Int) < 40 := by omega
          by_cases k1 : k < cap0
          · have k2 : decide ((k : Int) < 40) = false := by simp; omega
            clear hkc hguard
            go_wp2
            clear k1 k2 hk hk40
            go_loopw [18] (fun v18 wr => ∃ (j : Nat) (cs5 : Nat → Int), j ≤ 1 + r ∧ v18 = .int .i64 j ∧ Good wr P' s ⟨b, 1 + r, base, ws⟩ 1 cap0 cs5 (fun _ => .idle) T (dn k) ∧ Below w.heap.size w wr) (fun v18 _ => 1 + r - (intOf v18).toNat)
            case atStart => exact ⟨0, cs3, by omega, rfl, hG, hb⟩
            case round =>
              clear hG hb
              obtain ⟨j, cs5, hj, rfl, hG, hb⟩ := hrel
              by_cases hjr : j < 1 + r
              · have hld := g_load hG 0 j j 0 rfl rfl (by omega) hjr
                have hold := hws.out j (by have := Hi.out; omega)
                by_cases o1 : j < base
                · have hld' : Calls Try.prog 19 #[.pointer (some ⟨b, 0, none⟩), .int .i64 0, .int .i64 j] wr fun e w' => e = .returned (.tuple #[.int .i64 (1000 + (j : Int)), .int .i64 0]) ∧ (∃ cs', Good w' P' s ⟨b, 1 + r, base, ws⟩ 1 cap0 cs' (fun _ => .idle) T (dn k)) ∧ Bt P' wr w' := by
                    refine hld.mono ?_
                    rintro e w' ⟨v, rfl, hv, hG', hB'⟩
                    exact ⟨by rw [hv (.inl o1), ← hold], hG', hB'⟩
                  have hxx : (1000 + (j : Int) != 1000 + (j : Int)) = false := by simp
                  clear hld hold
                  go_wp2_with (go_at_call 19; refine hld'.mono ?_; rintro e w6 ⟨rfl, ⟨cs6, hG6⟩, hB6⟩)
                  go_roundw
                  case rel => exact ⟨j + 1, cs6, by omega, by go_num, hG6, Bt.under hb hb.size hP hB6⟩
                  case measure => simp [intOf]; omega
                · have o1' : decide ((j : Int) < (base : Int)) = false := by simp; omega
                  by_cases o2 : base + 2 * cap0 + 8 ≤ j
                  · have hld' : Calls Try.prog 19 #[.pointer (some ⟨b, 0, none⟩), .int .i64 0, .int .i64 j] wr fun e w' => e = .returned (.tuple #[.int .i64 (1000 + (j : Int)), .int .i64 0]) ∧ (∃ cs', Good w' P' s ⟨b, 1 + r, base, ws⟩ 1 cap0 cs' (fun _ => .idle) T (dn k)) ∧ Bt P' wr w' := by
                      refine hld.mono ?_
                      rintro e w' ⟨v, rfl, hv, hG', hB'⟩
                      exact ⟨by rw [hv (.inr (by show base + cap0 < j; omega)), ← hold], hG', hB'⟩
                    have hxx : (1000 + (j : Int) != 1000 + (j : Int)) = false := by simp
                    have o3 : (base : Int) + 2 * (cap0 : Int) + 8 ≤ (j : Int) := by omega
                    clear hld hold o1
                    go_wp2_with (go_at_call 19; refine hld'.mono ?_; rintro e w6 ⟨rfl, ⟨cs6, hG6⟩, hB6⟩)
                    go_roundw
                    case rel => exact ⟨j + 1, cs6, by omega, by go_num, hG6, Bt.under hb hb.size hP hB6⟩
                    case measure => simp [intOf]; omega
                  · have o3 : (j : Int) < (base : Int) + 2 * (cap0 : Int) + 8 := by omega
                    have o4 : (base : Int) ≤ (j : Int) := by omega
                    clear hold o1 o1' o2
                    go_wp2_with (go_at_call 19; refine hld.mono ?_; rintro e w6 ⟨v6, rfl, _, ⟨cs6, hG6⟩, hB6⟩)
                    go_roundw
                    case rel => exact ⟨j + 1, cs6, by omega, by go_num, hG6, Bt.under hb hb.size hP hB6⟩
                    case measure => simp [intOf]; omega
              · have hit := g_its hG (by have := Hk.out; omega)
                have hdl := dn_length k
                rw [hdl] at hit
                go_wp2_with (go_at_call 11; refine hit.mono ?_; rintro e w7 ⟨ao7, c7, rfl, hb7, _⟩)
                all_goals
                  go_ret
                  refine ⟨?_, hb.trans (hb7.mono hb.size)⟩
                  have hq := Hk.out
                  first
                    | (have e : (k : Int) = (cap0 : Int) := by omega
                       show Ending.returned (Value.bool ((k : Int) == (cap0 : Int))) = _
                       simp [e])
                    | (have e : (k : Int) = 40 := by omega
                       show Ending.returned (Value.bool ((k : Int) == 40)) = _
                       simp [e])
          · have k2 : decide ((k : Int) < (cap0 : Int)) = false := by simp; omega
            clear hkc hguard
            go_wp2
            clear k1 k2 hk hk40
            go_loopw [18] (fun v18 wr => ∃ (j : Nat) (cs5 : Nat → Int), j ≤ 1 + r ∧ v18 = .int .i64 j ∧ Good wr P' s ⟨b, 1 + r, base, ws⟩ 1 cap0 cs5 (fun _ => .idle) T (dn k) ∧ Below w.heap.size w wr) (fun v18 _ => 1 + r - (intOf v18).toNat)
            case atStart => exact ⟨0, cs3, by omega, rfl, hG, hb⟩
            case round =>
              clear hG hb
              obtain ⟨j, cs5, hj, rfl, hG, hb⟩ := hrel
              by_cases hjr : j < 1 + r
              · have hld := g_load hG 0 j j 0 rfl rfl (by omega) hjr
                have hold := hws.out j (by have := Hi.out; omega)
                by_cases o1 : j < base
                · have hld' : Calls Try.prog 19 #[.pointer (some ⟨b, 0, none⟩), .int .i64 0, .int .i64 j] wr fun e w' => e = .returned (.tuple #[.int .i64 (1000 + (j : Int)), .int .i64 0]) ∧ (∃ cs', Good w' P' s ⟨b, 1 + r, base, ws⟩ 1 cap0 cs' (fun _ => .idle) T (dn k)) ∧ Bt P' wr w' := by
                    refine hld.mono ?_
                    rintro e w' ⟨v, rfl, hv, hG', hB'⟩
                    exact ⟨by rw [hv (.inl o1), ← hold], hG', hB'⟩
                  have hxx : (1000 + (j : Int) != 1000 + (j : Int)) = false := by simp
                  clear hld hold
                  go_wp2_with (go_at_call 19; refine hld'.mono ?_; rintro e w6 ⟨rfl, ⟨cs6, hG6⟩, hB6⟩)
                  go_roundw
                  case rel => exact ⟨j + 1, cs6, by omega, by go_num, hG6, Bt.under hb hb.size hP hB6⟩
                  case measure => simp [intOf]; omega
                · have o1' : decide ((j : Int) < (base : Int)) = false := by simp; omega
                  by_cases o2 : base + 2 * cap0 + 8 ≤ j
                  · have hld' : Calls Try.prog 19 #[.pointer (some ⟨b, 0, none⟩), .int .i64 0, .int .i64 j] wr fun e w' => e = .returned (.tuple #[.int .i64 (1000 + (j : Int)), .int .i64 0]) ∧ (∃ cs', Good w' P' s ⟨b, 1 + r, base, ws⟩ 1 cap0 cs' (fun _ => .idle) T (dn k)) ∧ Bt P' wr w' := by
                      refine hld.mono ?_
                      rintro e w' ⟨v, rfl, hv, hG', hB'⟩
                      exact ⟨by rw [hv (.inr (by show base + cap0 < j; omega)), ← hold], hG', hB'⟩
                    have hxx : (1000 + (j : Int) != 1000 + (j : Int)) = false := by simp
                    have o3 : (base : Int) + 2 * (cap0 : Int) + 8 ≤ (j : Int) := by omega
                    clear hld hold o1
                    go_wp2_with (go_at_call 19; refine hld'.mono ?_; rintro e w6 ⟨rfl, ⟨cs6, hG6⟩, hB6⟩)
                    go_roundw
                    case rel => exact ⟨j + 1, cs6, by omega, by go_num, hG6, Bt.under hb hb.size hP hB6⟩
                    case measure => simp [intOf]; omega
                  · have o3 : (j : Int) < (base : Int) + 2 * (cap0 : Int) + 8 := by omega
                    have o4 : (base : Int) ≤ (j : Int) := by omega
                    clear hold o1 o1' o2
                    go_wp2_with (go_at_call 19; refine hld.mono ?_; rintro e w6 ⟨v6, rfl, _, ⟨cs6, hG6⟩, hB6⟩)
                    go_roundw
                    case rel => exact ⟨j + 1, cs6, by omega, by go_num, hG6, Bt.under hb hb.size hP hB6⟩
                    case measure => simp [intOf]; omega
              · have hit := g_its hG (by have := Hk.out; omega)
                have hdl := dn_length k
                rw [hdl] at hit
                go_wp2_with (go_at_call 11; refine hit.mono ?_; rintro e w7 ⟨ao7, c7, rfl, hb7, _⟩)
                all_goals
                  go_ret
                  refine ⟨?_, hb.trans (hb7.mono hb.size)⟩
                  have hq := Hk.out
                  first
                    | (have e : (k : Int) = (cap0 : Int) := by omega
                       show Ending.returned (Value.bool ((k : Int) == (cap0 : Int))) = _
                       simp [e])
                    | (have e : (k : Int) = 40 := by omega
                       show Ending.returned (Value.bool ((k : Int) == 40)) = _
                       simp [e])
theorem forms_walk (words base cap0 : Int) (w : World) :
    Calls Try.prog 4 #[.int .i64 words, .int .i64 base, .int .i64 cap0] w fun e w' => e = .returned (.bool true) ∧ Below w.heap.size w w' := by
  obtain ⟨r, hr, hr16⟩ := masked1023 words
  by_cases hg : 1 ≤ cap0 ∧ cap0 ≤ 1000 ∧ 0 ≤ base ∧ base + (2 * cap0 + 8) ≤ ((1 + r : Nat) : Int)
  · obtain ⟨bn, rfl⟩ := Int.eq_ofNat_of_zero_le hg.2.2.1
    obtain ⟨cn, rfl⟩ := Int.eq_ofNat_of_zero_le (show 0 ≤ cap0 by omega)
    exact forms_yes words bn cn w r hr hr16 (by omega) (by omega) (by omega)
  · exact forms_no words base cap0 w r hr hr16 hg
end Go.Proofs.Ytpajdopdbdflnaa
