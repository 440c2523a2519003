/- Monitors: as deep as entered, as deep brought back: the walk of MonitorDeep. -/
import Derived.Test.YtdkbdmlodngneaaMNAwk
import Derived.Test.YtdkbdmlodngneaaMS5
namespace Go.Proofs.Ytdkbdmlodngneaa
open Go.RowKit

theorem ok5 : okI 5 := ⟨by omega, by omega⟩
/-- Two threads, of which none waits or comes back; who owns 5. -/
structure DpI (M : Mt) (o : Option (Int × Int)) : Prop where
  N : M.N = 2
  s0 : M.st 0 = 0
  s1 : M.st 1 = 0
  ow : M.ow 5 = o
  b0 : M.bk (0, 5) = none
  b1 : M.bk (1, 5) = none
  wt : M.wt = []
def DpS (B : Nat) (w : World) (s : Nat) (o : Option (Int × Int)) (L : Nat) (wr : World) : Prop := ∃ M, Mn B wr s M L ∧ DpI M o ∧ Below B w wr
/-- A call that leaves such a table. -/
def DpP (B : Nat) (w : World) (s : Nat) (o : Option (Int × Int)) (L : Nat) (v : Value) (e : Ending) (w' : World) : Prop := e = .returned v ∧ DpS B w s o L w'
section
variable {B : Nat} {w u : World} {s L : Nat}
theorem dp_enter0 (h : DpS B w s none L u) (hL : L < 1000000) : Calls Try.prog 7 #[.pointer (some ⟨s, 0, none⟩), .int .i64 0, .int .i64 5] u (DpP B w s (some (0, 1)) (L + 1) (.tuple #[.bool true, .int .i64 0])) := by
  obtain ⟨M, hM, hD, hB⟩ := h
  refine (nenter_free hM (t := 0) (by rw [hD.N]; omega) (by rw [hD.s0]; omega) ok5 hD.ow hL).mono ?_
  rintro e w' ⟨rfl, h1, h2⟩
  refine ⟨rfl, _, h1, ⟨hD.N, rfl, ?_, ?_, ?_, ?_, hD.wt⟩, hB.trans h2⟩
  · exact hD.s1
  · show (if (5 : Int) = 5 then some (((0 : Nat) : Int), (M.bk (((0 : Nat) : Int), 5)).getD 1) else M.ow 5) = _
    rw [if_pos rfl, show M.bk (((0 : Nat) : Int), 5) = none from hD.b0]; rfl
  · show (if ((0 : Int), (5 : Int)) = (((0 : Nat) : Int), 5) then none else M.bk (0, 5)) = none
    rw [if_pos (by simp)]
  · show (if ((1 : Int), (5 : Int)) = (((0 : Nat) : Int), 5) then none else M.bk (1, 5)) = none
    rw [if_neg (by decide)]; exact hD.b1
theorem dp_enter1 {d : Int} (h : DpS B w s (some (0, d)) L u) (hd : 0 ≤ d ∧ d < 1000) (hL : L < 1000000) : Calls Try.prog 7 #[.pointer (some ⟨s, 0, none⟩), .int .i64 0, .int .i64 5] u (DpP B w s (some (0, d + 1)) (L + 1) (.tuple #[.bool true, .int .i64 0])) := by
  obtain ⟨M, hM, hD, hB⟩ := h
  refine (nenter_own hM (t := 0) (by rw [hD.N]; omega) (by rw [hD.s0]; omega) ok5 hD.ow hd hL).mono ?_
  rintro e w' ⟨rfl, h1, h2⟩
  refine ⟨rfl, _, h1, ⟨hD.N, rfl, ?_, ?_, ?_, ?_, hD.wt⟩, hB.trans h2⟩
  · exact hD.s1
  · show (if (5 : Int) = 5 then some (((0 : Nat) : Int), (M.bk (((0 : Nat) : Int), 5)).getD (d + 1)) else M.ow 5) = _
    rw [if_pos rfl, show M.bk (((0 : Nat) : Int), 5) = none from hD.b0]; rfl
  · show (if ((0 : Int), (5 : Int)) = (((0 : Nat) : Int), 5) then none else M.bk (0, 5)) = none
    rw [if_pos (by simp)]
  · show (if ((1 : Int), (5 : Int)) = (((0 : Nat) : Int), 5) then none else M.bk (1, 5)) = none
    rw [if_neg (by decide)]; exact hD.b1
theorem dp_leave {d : Int} (h : DpS B w s (some (0, d)) L u) (hd : 1 ≤ d ∧ d ≤ 1000) (hL : L < 1000000) : Calls Try.prog 11 #[.pointer (some ⟨s, 0, none⟩), .int .i64 0, .int .i64 5] u (DpP B w s (if d = 1 then none else some (0, d - 1)) (L + 1) (.int .i64 0)) := by
  obtain ⟨M, hM, hD, hB⟩ := h
  by_cases e : d = 1
  · subst e
    refine (nleave_last hM (t := 0) (by rw [hD.N]; omega) (by rw [hD.s0]; omega) ok5 hD.ow).mono ?_
    rintro e w' ⟨rfl, h1, h2⟩
    exact ⟨rfl, _, h1.mono (Nat.le_succ L) (by omega), ⟨hD.N, hD.s0, hD.s1, rfl, hD.b0, hD.b1, hD.wt⟩, hB.trans h2⟩
  · rw [if_neg e]
    refine (nleave_more hM (t := 0) (by rw [hD.N]; omega) (by rw [hD.s0]; omega) ok5 hD.ow (by omega) hL).mono ?_
    rintro e w' ⟨rfl, h1, h2⟩
    exact ⟨rfl, _, h1, ⟨hD.N, hD.s0, hD.s1, rfl, hD.b0, hD.b1, hD.wt⟩, hB.trans h2⟩
theorem dp_leave_no (h : DpS B w s none L u) : Calls Try.prog 11 #[.pointer (some ⟨s, 0, none⟩), .int .i64 0, .int .i64 5] u (DpP B w s none L (.int .i64 2001)) := by
  obtain ⟨M, hM, hD, hB⟩ := h
  refine (nleave_no hM (t := 0) (by rw [hD.N]; omega) (by rw [hD.s0]; omega) ok5 (by unfold ownA; rw [hD.ow])).mono ?_
  rintro e w' ⟨rfl, h1, h2⟩
  exact ⟨rfl, _, h1, hD, hB.trans h2⟩
theorem dp_owner {o : Option (Int × Int)} (h : DpS B w s o L u) : Calls Try.prog 12 #[.pointer (some ⟨s, 0, none⟩), .int .i64 5] u (DpP B w s o L (.tuple #[.int .i64 (o.getD (-1, 0)).1, .int .i64 (o.getD (-1, 0)).2])) := by
  obtain ⟨M, hM, hD, hB⟩ := h
  have := nowner_ok hM ok5
  rw [hD.ow] at this
  refine this.mono ?_
  rintro e w' ⟨rfl, h1, h2⟩
  exact ⟨rfl, _, h1, hD, hB.trans h2⟩
/-- Between the five calls of a wait. -/
structure DpW (M : Mt) (d : Int) (o : Option (Int × Int)) (W : List (Int × Int)) (z : Bool) : Prop where
  N : M.N = 2
  s0 : z = true → M.st 0 ≠ 2
  s1 : M.st 1 = 0
  ow : M.ow 5 = o
  b0 : M.bk (0, 5) = some d
  b1 : M.bk (1, 5) = none
  wt : M.wt = W
def DpV (B : Nat) (w : World) (s : Nat) (d : Int) (o : Option (Int × Int)) (W : List (Int × Int)) (z : Bool) (L : Nat) (wr : World) : Prop := ∃ M, Mn B wr s M L ∧ DpW M d o W z ∧ Below B w wr
theorem dp_w1 {d : Int} (h : DpS B w s (some (0, d)) L u) (hL : L + 2 ≤ 1000000) : Calls Try.prog 9 #[.pointer (some ⟨s, 0, none⟩), .int .i64 0, .int .i64 5] u fun e w' => e = .returned (.int .i64 0) ∧ DpV B w s d none [(0, 5)] false (L + 2) w' := by
  obtain ⟨M, hM, hD, hB⟩ := h
  refine (nwait_ok hM (t := 0) (d := d) (by rw [hD.N]; omega) (by rw [hD.s0]; omega) ok5 hD.ow hL).mono ?_
  rintro e w' ⟨rfl, h1, h2⟩
  refine ⟨rfl, _, h1, ⟨hD.N, (by intro q; cases q), hD.s1, rfl, ?_, ?_, ?_⟩, hB.trans h2⟩
  · show (if ((0 : Int), (5 : Int)) = (((0 : Nat) : Int), 5) then some d else M.bk (0, 5)) = some d
    rw [if_pos (by simp)]
  · show (if ((1 : Int), (5 : Int)) = (((0 : Nat) : Int), 5) then some d else M.bk (1, 5)) = none
    rw [if_neg (by decide)]; exact hD.b1
  · show M.wt ++ [(((0 : Nat) : Int), 5)] = _
    rw [hD.wt]; rfl
theorem dp_w2 {d : Int} (h : DpV B w s d none [(0, 5)] false L u) (hL : L < 1000000) : Calls Try.prog 7 #[.pointer (some ⟨s, 0, none⟩), .int .i64 1, .int .i64 5] u fun e w' => e = .returned (.tuple #[.bool true, .int .i64 0]) ∧ DpV B w s d (some (1, 1)) [(0, 5)] false (L + 1) w' := by
  obtain ⟨M, hM, hD, hB⟩ := h
  refine (nenter_free hM (t := 1) (by rw [hD.N]; omega) (by rw [hD.s1]; omega) ok5 hD.ow hL).mono ?_
  rintro e w' ⟨rfl, h1, h2⟩
  refine ⟨rfl, _, h1, ⟨hD.N, (by intro q; cases q), rfl, ?_, ?_, ?_, hD.wt⟩, hB.trans h2⟩
  · show (if (5 : Int) = 5 then some (((1 : Nat) : Int), (M.bk (((1 : Nat) : Int), 5)).getD 1) else M.ow 5) = _
    rw [if_pos rfl, show M.bk (((1 : Nat) : Int), 5) = none from hD.b1]; rfl
  · show (if ((0 : Int), (5 : Int)) = (((1 : Nat) : Int), 5) then none else M.bk (0, 5)) = some d
    rw [if_neg (by decide)]; exact hD.b0
  · show (if ((1 : Int), (5 : Int)) = (((1 : Nat) : Int), 5) then none else M.bk (1, 5)) = none
    rw [if_pos (by simp)]
theorem dp_w3 {d : Int} (h : DpV B w s d (some (1, 1)) [(0, 5)] false L u) (al : Bool) : Calls Try.prog 10 #[.pointer (some ⟨s, 0, none⟩), .int .i64 1, .int .i64 5, .bool al] u fun e w' => e = .returned (.tuple #[.int .i64 1, .int .i64 0]) ∧ DpV B w s d (some (1, 1)) [] true L w' := by
  obtain ⟨M, hM, hD, hB⟩ := h
  have hw := hD.wt
  have hN := hD.N
  have h1 : ntN 5 1 M = (1, M.noted 0) := by unfold ntN; rw [hw]; rfl
  have := nnot_ok hM (t := 1) (d := 1) (by rw [hD.N]; omega) (by rw [hD.s1]; omega) ok5 hD.ow (fun x hx => by
    rw [hw] at hx
    obtain rfl : x = (0, 5) := by simpa using hx
    exact ⟨0, rfl, by omega⟩) al (F := 1) (by rw [hw]; cases al <;> rfl)
  rw [h1] at this
  refine this.mono ?_
  rintro e w' ⟨rfl, k1, k2⟩
  refine ⟨rfl, _, k1, ⟨hD.N, fun _ => ?_, ?_, hD.ow, hD.b0, hD.b1, ?_⟩, hB.trans k2⟩
  · show (if 0 = (M.wt.getD 0 (0, 0)).1.toNat then 1 else M.st 0) ≠ 2
    rw [hw, if_pos (by decide)]; decide
  · show (if 1 = (M.wt.getD 0 (0, 0)).1.toNat then 1 else M.st 1) = 0
    rw [hw, if_neg (by decide)]; exact hD.s1
  · show M.wt.eraseIdx 0 = []
    rw [hw]; rfl
theorem dp_w4 {d : Int} (h : DpV B w s d (some (1, 1)) [] true L u) : Calls Try.prog 11 #[.pointer (some ⟨s, 0, none⟩), .int .i64 1, .int .i64 5] u fun e w' => e = .returned (.int .i64 0) ∧ DpV B w s d none [] true L w' := by
  obtain ⟨M, hM, hD, hB⟩ := h
  refine (nleave_last hM (t := 1) (by rw [hD.N]; omega) (by rw [hD.s1]; omega) ok5 hD.ow).mono ?_
  rintro e w' ⟨rfl, h1, h2⟩
  exact ⟨rfl, _, h1, ⟨hD.N, hD.s0, hD.s1, rfl, hD.b0, hD.b1, hD.wt⟩, hB.trans h2⟩
theorem dp_w5 {d : Int} (h : DpV B w s d none [] true L u) (hL : L < 1000000) : Calls Try.prog 7 #[.pointer (some ⟨s, 0, none⟩), .int .i64 0, .int .i64 5] u (DpP B w s (some (0, d)) (L + 1) (.tuple #[.bool true, .int .i64 0])) := by
  obtain ⟨M, hM, hD, hB⟩ := h
  refine (nenter_free hM (t := 0) (by rw [hD.N]; omega) (hD.s0 rfl) ok5 hD.ow hL).mono ?_
  rintro e w' ⟨rfl, h1, h2⟩
  refine ⟨rfl, _, h1, ⟨hD.N, rfl, hD.s1, ?_, ?_, ?_, hD.wt⟩, hB.trans h2⟩
  · show (if (5 : Int) = 5 then some (((0 : Nat) : Int), (M.bk (((0 : Nat) : Int), 5)).getD 1) else M.ow 5) = _
    rw [if_pos rfl, show M.bk (((0 : Nat) : Int), 5) = some d from hD.b0]; rfl
  · show (if ((0 : Int), (5 : Int)) = (((0 : Nat) : Int), 5) then none else M.bk (0, 5)) = none
    rw [if_pos (by simp)]
  · show (if ((1 : Int), (5 : Int)) = (((0 : Nat) : Int), 5) then none else M.bk (1, 5)) = none
    rw [if_neg (by decide)]; exact hD.b1
theorem dp_new (N : World) (h : Mn B N s (mt0 2) 0) (hB : Below B w N) : DpS B w s none 0 N := ⟨_, h, ⟨rfl, rfl, rfl, rfl, rfl, rfl, rfl⟩, hB⟩
theorem DpS.mono {o : Option (Int × Int)} (h : DpS B w s o L u) {L' : Nat} (h1 : L ≤ L') (h2 : L' ≤ 1000000) : DpS B w s o L' u := let ⟨M, a, b, c⟩ := h; ⟨M, a.mono h1 h2, b, c⟩
end
set_option maxRecDepth 20000 in
set_option maxHeartbeats 4000000 in
theorem deep_walk (deep waits : Int) (w : World) : Calls Try.prog 3 #[.int .i64 deep, .int .i64 waits] w fun e w' => e = .returned (.bool true) ∧ Below w.heap.size w w' := by
  obtain ⟨r, hr, hr64⟩ := masked63 deep
  obtain ⟨m, hm, hm4⟩ := masked3 waits
  have hA := awake20 w
  have hN : ∀ u, Calls Try.prog 6 #[.int .i64 2] u _ := fun u => nnew_ok 2 (by omega) (by omega) u
  go_enter Try.func3, Try.ntmps3
  go_wp2_with (first
    | (go_at_call 5; refine hA.mono ?_; rintro e w0 ⟨rfl, hb⟩; have HB0 : Hid _ := hb; clear hb hA)
    | (go_at_call 6; refine (hN w0).mono ?_; rintro e w1 ⟨s, rfl, hM, hb⟩; have HD0 : Hid (DpS w0.heap.size w0 s none 0 w1) := dp_new _ hM hb; clear hM hb hN))
  go_loopg [8] (r + 2) (fun kx v8 wr => ∃ i : Nat, v8 = .int .i64 i ∧ i ≤ r + 1 ∧ r + 1 - i ≤ kx ∧ Hid (DpS w0.heap.size w0 s (if i = 0 then none else some (0, (i : Int))) i wr))
  case atStart => exact ⟨0, rfl, by omega, by omega, HD0⟩
  case round =>
    clear HD0
    obtain ⟨i, rfl, hi, hk, HS⟩ := hrel
    by_cases hlt : i < r + 1
    · have hl : (i : Int) < 1 + (r : Int) := by omega
      have hE : Calls Try.prog 7 #[.pointer (some ⟨s, 0, none⟩), .int .i64 0, .int .i64 5] wr (DpP w0.heap.size w0 s (some (0, ((i + 1 : Nat) : Int))) (i + 1) (.tuple #[.bool true, .int .i64 0])) := by
        have h := HS.out
        rcases Nat.eq_zero_or_pos i with e | e
        · subst e; exact dp_enter0 h (by omega)
        · rw [if_neg (by omega)] at h
          have := dp_enter1 h (by omega) (by omega)
          rw [show ((i + 1 : Nat) : Int) = (i : Int) + 1 by omega]
          exact this
      clear HS
      go_wp2_with (first
        | (go_at_call 8; refine (num_any _ _).mono ?_; rintro e w9 ⟨rfl, hw9⟩; replace hw9 := hw9.symm; subst hw9)
        | (go_at_call 7; refine hE.mono ?_; rintro e w2 ⟨rfl, h2⟩; have HD : Hid _ := h2; clear h2 hE))
      go_roundg (r + 1 - (i + 1))
      case rel => exact ⟨i + 1, by go_num, by omega, Nat.le_refl _, HD.out⟩
      case measure => omega
    · obtain rfl : i = r + 1 := by omega
      have hl : ¬ (((r + 1 : Nat) : Int) < 1 + (r : Int)) := by omega
      have HD1 : Hid (DpS w0.heap.size w0 s (some (0, 1 + (r : Int))) 100 wr) := by
        have h := HS.out
        rw [if_neg (by omega), show ((r + 1 : Nat) : Int) = 1 + (r : Int) by omega] at h
        exact h.mono (by omega) (by omega)
      clear HS hk hi
      go_wp2
      go_loopg [11] (m + 1) (fun kx v11 wr => ∃ i : Nat, v11 = .int .i64 i ∧ i ≤ m ∧ m - i ≤ kx ∧ Hid (DpS w0.heap.size w0 s (some (0, 1 + (r : Int))) (100 + 10 * i) wr))
      case atStart => exact ⟨0, rfl, by omega, by omega, HD1⟩
      case round =>
        clear HD1 hl
        obtain ⟨i, rfl, hi, hk, HS⟩ := hrel
        by_cases hlt : i < m
        · have hl : (i : Int) < (m : Int) := by omega
          have E1 := dp_w1 HS.out (by omega)
          have E2 : Hid (∀ u, DpV w0.heap.size w0 s (1 + (r : Int)) none [(0, 5)] false (100 + 10 * i + 2) u → _) := fun u h => dp_w2 h (by omega)
          have E3 : Hid (∀ al u, DpV w0.heap.size w0 s (1 + (r : Int)) (some (1, 1)) [(0, 5)] false (100 + 10 * i + 2 + 1) u → _) := fun al u h => dp_w3 h al
          have E4 : Hid (∀ u, DpV w0.heap.size w0 s (1 + (r : Int)) (some (1, 1)) [] true (100 + 10 * i + 2 + 1) u → _) := fun u h => dp_w4 h
          have E5 : Hid (∀ u, DpV w0.heap.size w0 s (1 + (r : Int)) none [] true (100 + 10 * i + 2 + 1) u → _) := fun u h => dp_w5 h (by omega)
          have E6 : Hid (∀ u, DpS w0.heap.size w0 s (some (0, 1 + (r : Int))) (100 + 10 * i + 2 + 1 + 1) u → Calls Try.prog 12 #[.pointer (some ⟨s, 0, none⟩), .int .i64 5] u (DpP w0.heap.size w0 s (some (0, 1 + (r : Int))) (100 + 10 * i + 2 + 1 + 1) (.tuple #[.int .i64 0, .int .i64 (1 + (r : Int))]))) := fun u h => dp_owner h
          clear HS
          go_wp2_with (first
            | (go_at_call 8; refine (num_any _ _).mono ?_; rintro e w9 ⟨rfl, hw9⟩; replace hw9 := hw9.symm; subst hw9)
            | (go_at_call 9; refine E1.mono ?_; rintro e u1 ⟨rfl, h1⟩; have H1 : Hid _ := h1; clear h1 E1)
            | (go_at_call 7; first
                | (refine (E5.out _ H4.out).mono ?_; rintro e u5 ⟨rfl, h5⟩; have H5 : Hid _ := h5; clear h5 H4)
                | (refine (E2.out _ H1.out).mono ?_; rintro e u2 ⟨rfl, h2⟩; have H2 : Hid _ := h2; clear h2 H1))
            | (go_at_call 10; refine (E3.out _ _ H2.out).mono ?_; rintro e u3 ⟨rfl, h3⟩; have H3 : Hid _ := h3; clear h3 H2)
            | (go_at_call 11; refine (E4.out _ H3.out).mono ?_; rintro e u4 ⟨rfl, h4⟩; have H4 : Hid _ := h4; clear h4 H3)
            | (go_at_call 12; refine (E6.out _ H5.out).mono ?_; rintro e u6 ⟨rfl, h6⟩; have H6 : Hid _ := h6; clear h6 H5))
          go_roundg (m - (i + 1))
          case rel => exact ⟨i + 1, by go_num, by omega, Nat.le_refl _, DpS.mono H6.out (by omega) (by omega)⟩
          case measure => omega
        · have hl : ¬ (i : Int) < (m : Int) := by omega
          have HD2 : Hid (DpS w0.heap.size w0 s (some (0, 1 + (r : Int))) 200 wr) := HS.out.mono (by omega) (by omega)
          clear HS hk hi
          go_wp2
          go_loopg [22] (r + 2) (fun kx v22 wr => ∃ i : Nat, v22 = .int .i64 i ∧ i ≤ r + 1 ∧ r + 1 - i ≤ kx ∧ Hid (DpS w0.heap.size w0 s (if i = r + 1 then none else some (0, 1 + (r : Int) - i)) (200 + i) wr))
          case atStart => exact ⟨0, rfl, by omega, by omega, by have := HD2.out; rw [if_neg (by omega), show 1 + (r : Int) - ((0 : Nat) : Int) = 1 + (r : Int) by omega]; exact this⟩
          case round =>
            clear HD2 hl
            obtain ⟨i, rfl, hi, hk, HS⟩ := hrel
            by_cases hlt : i < r + 1
            · have hl : (i : Int) < 1 + (r : Int) := by omega
              have hE : Calls Try.prog 11 #[.pointer (some ⟨s, 0, none⟩), .int .i64 0, .int .i64 5] wr (DpP w0.heap.size w0 s (if i + 1 = r + 1 then none else some (0, 1 + (r : Int) - ((i + 1 : Nat) : Int))) (200 + (i + 1)) (.int .i64 0)) := by
                have h := HS.out
                rw [if_neg (by omega)] at h
                have := dp_leave h (by omega) (by omega)
                refine this.mono ?_
                rintro e w' ⟨h1, h2⟩
                refine ⟨h1, ?_⟩
                rw [show 200 + (i + 1) = 200 + i + 1 by omega]
                by_cases e1 : i + 1 = r + 1
                · rw [if_pos e1]; rw [if_pos (by omega)] at h2; exact h2
                · rw [if_neg e1]; rw [if_neg (by omega)] at h2
                  rw [show 1 + (r : Int) - ((i + 1 : Nat) : Int) = 1 + (r : Int) - i - 1 by omega]; exact h2
              clear HS
              go_wp2_with (first
                | (go_at_call 8; refine (num_any _ _).mono ?_; rintro e w9 ⟨rfl, hw9⟩; replace hw9 := hw9.symm; subst hw9)
                | (go_at_call 11; refine hE.mono ?_; rintro e w2 ⟨rfl, h2⟩; have HD : Hid _ := h2; clear h2 hE))
              go_roundg (r + 1 - (i + 1))
              case rel => exact ⟨i + 1, by go_num, by omega, Nat.le_refl _, HD.out⟩
              case measure => omega
            · obtain rfl : i = r + 1 := by omega
              have hl : ¬ (((r + 1 : Nat) : Int) < 1 + (r : Int)) := by omega
              have h := HS.out
              rw [if_pos rfl] at h
              have hE := dp_leave_no h
              have E6 : Hid (∀ u, DpS w0.heap.size w0 s none (200 + (r + 1)) u → Calls Try.prog 12 #[.pointer (some ⟨s, 0, none⟩), .int .i64 5] u (DpP w0.heap.size w0 s none (200 + (r + 1)) (.tuple #[.int .i64 (-1), .int .i64 0]))) := fun u h => dp_owner h
              clear HS h hk hi
              go_wp2_with (first
                | (go_at_call 8; refine (num_any _ _).mono ?_; rintro e w9 ⟨rfl, hw9⟩; replace hw9 := hw9.symm; subst hw9)
                | (go_at_call 11; refine hE.mono ?_; rintro e w2 ⟨rfl, h2⟩; have HD : Hid _ := h2; clear h2 hE)
                | (go_at_call 12; refine (E6.out _ HD.out).mono ?_; rintro e u6 ⟨rfl, h6⟩; have H6 : Hid _ := h6; clear h6))
              go_ret
              obtain ⟨_, _, _, hb⟩ := H6.out
              exact ⟨rfl, HB0.out.trans (hb.mono HB0.out.size)⟩
end Go.Proofs.Ytdkbdmlodngneaa
