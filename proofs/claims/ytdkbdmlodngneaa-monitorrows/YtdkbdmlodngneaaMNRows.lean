/- Monitors: those that wait are notified in their row: the walk of MonitorRows. -/
import Derived.Test.YtdkbdmlodngneaaMNAwk
import Derived.Test.YtdkbdmlodngneaaMS5
namespace Go.Proofs.Ytdkbdmlodngneaa
open Go.RowKit

theorem ok3 : okI 3 := ⟨by omega, by omega⟩
def vis3 (j : Nat) : Int × Int := ((j : Int), 3)
/-- i of k threads wait, nobody owns 3. -/
structure RwI (k i : Nat) (M : Mt) : Prop where
  N : M.N = k + 1
  st1 : ∀ j, j < i → M.st j = 2
  st0 : ∀ j, i ≤ j → M.st j = 0
  ow : M.ow 3 = none
  bk : ∀ j : Nat, i ≤ j → M.bk (vis3 j) = none
  wt : M.wt = (List.range i).map vis3
theorem RwI.next {k i : Nat} {M : Mt} (h : RwI k i M) : RwI k (i + 1) ((M.taken i 3 1).waits i 3 1) where
  N := h.N
  st1 j hj := by
    show (if j = i then 2 else if j = i then 0 else M.st j) = 2
    by_cases e : j = i
    · rw [if_pos e]
    · rw [if_neg e, if_neg e]; exact h.st1 j (by omega)
  st0 j hj := by
    show (if j = i then 2 else if j = i then 0 else M.st j) = 0
    rw [if_neg (by omega), if_neg (by omega)]; exact h.st0 j (by omega)
  ow := by show (if (3 : Int) = 3 then none else (M.taken i 3 1).ow 3) = none; rw [if_pos rfl]
  bk j hj := by
    show (if vis3 j = ((i : Int), 3) then some 1 else if vis3 j = ((i : Int), 3) then none else M.bk (vis3 j)) = none
    have e : vis3 j ≠ ((i : Int), 3) := fun q => by have := congrArg Prod.fst q; simp [vis3] at this; omega
    rw [if_neg e, if_neg e]; exact h.bk j (by omega)
  wt := by
    show M.wt ++ [((i : Int), 3)] = _
    rw [h.wt, List.range_succ, List.map_append]; rfl
/-- Thread k owns 3, of the others the first i have been notified. -/
structure RwJ (k i : Nat) (M : Mt) : Prop where
  N : M.N = k + 1
  st1 : ∀ j, j < i → M.st j = 1
  st2 : ∀ j, i ≤ j → j < k → M.st j = 2
  stk : M.st k = 0
  ow : M.ow 3 = some ((k : Int), 1)
  wt : M.wt = ((List.range k).drop i).map vis3
theorem RwI.own {k : Nat} {M : Mt} (h : RwI k k M) : RwJ k 0 (M.taken k 3 1) where
  N := h.N
  st1 j hj := absurd hj (by omega)
  st2 j _ hj := by
    show (if j = k then 0 else M.st j) = 2
    rw [if_neg (by omega)]; exact h.st1 j hj
  stk := by show (if k = k then 0 else M.st k) = 0; rw [if_pos rfl]
  ow := by
    show (if (3 : Int) = 3 then some ((k : Int), (M.bk ((k : Int), 3)).getD 1) else M.ow 3) = _
    rw [if_pos rfl, show M.bk ((k : Int), 3) = none from h.bk k (Nat.le_refl k)]; rfl
  wt := by show M.wt = _; rw [h.wt]; rfl
theorem RwJ.head {k i : Nat} {M : Mt} (h : RwJ k i M) (hi : i < k) : M.wt = vis3 i :: ((List.range k).drop (i + 1)).map vis3 := by
  rw [h.wt, List.drop_eq_getElem_cons (by simpa using hi), List.map_cons, List.getElem_range]
theorem RwJ.pl {k i : Nat} {M : Mt} (h : RwJ k i M) (hi : i < k) : plW M.wt 3 = some 0 := by rw [h.head hi]; rfl
theorem RwJ.pl_no {k : Nat} {M : Mt} (h : RwJ k k M) : plW M.wt 3 = none := by
  rw [h.wt, List.drop_of_length_le (by simp)]; rfl
theorem RwJ.next {k i : Nat} {M : Mt} (h : RwJ k i M) (hi : i < k) : RwJ k (i + 1) (M.noted 0) := by
  have hx : (M.wt.getD 0 (0, 0)).1.toNat = i := by rw [h.head hi]; rfl
  refine ⟨h.N, fun j hj => ?_, fun j h1 h2 => ?_, ?_, h.ow, ?_⟩
  · show (if j = (M.wt.getD 0 (0, 0)).1.toNat then 1 else M.st j) = 1
    rw [hx]
    by_cases e : j = i
    · rw [if_pos e]
    · rw [if_neg e]; exact h.st1 j (by omega)
  · show (if j = (M.wt.getD 0 (0, 0)).1.toNat then 1 else M.st j) = 2
    rw [hx, if_neg (by omega)]; exact h.st2 j (by omega) h2
  · show (if k = (M.wt.getD 0 (0, 0)).1.toNat then 1 else M.st k) = 0
    rw [hx, if_neg (by omega)]; exact h.stk
  · show M.wt.eraseIdx 0 = _
    rw [h.head hi]; rfl
theorem RwJ.wtok {k i : Nat} {M : Mt} (h : RwJ k i M) : WtOk M := fun x hx => by
  rw [h.wt] at hx
  obtain ⟨j, hj, rfl⟩ := List.mem_map.1 hx
  have := List.mem_range.1 (List.mem_of_mem_drop hj)
  exact ⟨j, rfl, by rw [h.N]; omega⟩
theorem RwJ.all {k : Nat} : ∀ (f i : Nat) (M : Mt), f = k - i → i ≤ k → RwJ k i M → (ntN 3 f M).1 = f ∧ RwJ k k (ntN 3 f M).2
  | 0, i, M, hf, hi, h => by
    obtain rfl : i = k := by omega
    exact ⟨rfl, h⟩
  | f + 1, i, M, hf, hi, h => by
    have ih := RwJ.all f (i + 1) (M.noted 0) (by omega) (by omega) (h.next (by omega))
    unfold ntN
    rw [h.pl (by omega)]
    exact ⟨by show (ntN 3 f (M.noted 0)).1 + 1 = f + 1; rw [ih.1], ih.2⟩
def RwS (B : Nat) (w : World) (s : Nat) (P : Mt → Prop) (L : Nat) (wr : World) : Prop := ∃ M, Mn B wr s M L ∧ P M ∧ Below B w wr
section
variable {B : Nat} {w u : World} {s L k i : Nat} {K : Int}
theorem rw_enter (h : RwS B w s (RwI k i) L u) (hi : i ≤ k) (hK : K = (i : Int)) (hL : L < 1000000) : Calls Try.prog 7 #[.pointer (some ⟨s, 0, none⟩), .int .i64 K, .int .i64 3] u fun e w' => e = .returned (.tuple #[.bool true, .int .i64 0]) ∧ RwS B w s (fun M => ∃ M0, RwI k i M0 ∧ M = M0.taken i 3 1) (L + 1) w' := by
  subst hK
  obtain ⟨M, hM, hD, hB⟩ := h
  refine (nenter_free hM (t := i) (by rw [hD.N]; omega) (by rw [hD.st0 i (Nat.le_refl i)]; omega) ok3 hD.ow hL).mono ?_
  rintro e w' ⟨rfl, h1, h2⟩
  exact ⟨rfl, _, h1, ⟨M, hD, rfl⟩, hB.trans h2⟩
theorem rw_wait (h : RwS B w s (fun M => ∃ M0, RwI k i M0 ∧ M = M0.taken i 3 1) L u) (hi : i < k) (hK : K = (i : Int)) (hL : L + 2 ≤ 1000000) : Calls Try.prog 9 #[.pointer (some ⟨s, 0, none⟩), .int .i64 K, .int .i64 3] u fun e w' => e = .returned (.int .i64 0) ∧ RwS B w s (RwI k (i + 1)) (L + 2) w' := by
  subst hK
  obtain ⟨M, hM, ⟨M0, hD, rfl⟩, hB⟩ := h
  refine (nwait_ok hM (t := i) (d := 1) (by show i < M0.N; rw [hD.N]; omega) (by show (if i = i then 0 else M0.st i) ≠ (2 : Int); rw [if_pos rfl]; decide) ok3 (by
    show (if (3 : Int) = 3 then some ((i : Int), (M0.bk ((i : Int), 3)).getD 1) else M0.ow 3) = _
    rw [if_pos rfl, show M0.bk ((i : Int), 3) = none from hD.bk i (Nat.le_refl i)]; rfl) hL).mono ?_
  rintro e w' ⟨rfl, h1, h2⟩
  exact ⟨rfl, _, h1, hD.next, hB.trans h2⟩
theorem rw_own (h : RwS B w s (fun M => ∃ M0, RwI k k M0 ∧ M = M0.taken k 3 1) L u) : RwS B w s (RwJ k 0) L u := by
  obtain ⟨M, hM, ⟨M0, hD, rfl⟩, hB⟩ := h
  exact ⟨_, hM, hD.own, hB⟩
theorem rw_all (h : RwS B w s (RwJ k 0) L u) (hK : K = (k : Int)) : Calls Try.prog 10 #[.pointer (some ⟨s, 0, none⟩), .int .i64 K, .int .i64 3, .bool true] u fun e w' => e = .returned (.tuple #[.int .i64 K, .int .i64 0]) ∧ RwS B w s (RwJ k k) L w' := by
  subst hK
  obtain ⟨M, hM, hD, hB⟩ := h
  have ha := RwJ.all k 0 M (by omega) (by omega) hD
  have := nnot_ok hM (t := k) (d := 1) (by rw [hD.N]; omega) (by rw [hD.stk]; omega) ok3 hD.ow hD.wtok true (F := k) (by rw [hD.wt]; simp)
  rw [ha.1] at this
  refine this.mono ?_
  rintro e w' ⟨rfl, h1, h2⟩
  exact ⟨rfl, _, h1, ha.2, hB.trans h2⟩
theorem rw_one (h : RwS B w s (RwJ k i) L u) (hi : i < k) (hK : K = (k : Int)) : Calls Try.prog 10 #[.pointer (some ⟨s, 0, none⟩), .int .i64 K, .int .i64 3, .bool false] u fun e w' => e = .returned (.tuple #[.int .i64 1, .int .i64 0]) ∧ RwS B w s (RwJ k (i + 1)) L w' := by
  subst hK
  obtain ⟨M, hM, hD, hB⟩ := h
  have hn : ntN 3 1 M = (1, M.noted 0) := by unfold ntN; rw [hD.pl hi]; rfl
  have := nnot_ok hM (t := k) (d := 1) (by rw [hD.N]; omega) (by rw [hD.stk]; omega) ok3 hD.ow hD.wtok false (F := 1) rfl
  rw [hn] at this
  refine this.mono ?_
  rintro e w' ⟨rfl, h1, h2⟩
  exact ⟨rfl, _, h1, hD.next hi, hB.trans h2⟩
theorem rw_none (h : RwS B w s (RwJ k k) L u) (hK : K = (k : Int)) : Calls Try.prog 10 #[.pointer (some ⟨s, 0, none⟩), .int .i64 K, .int .i64 3, .bool false] u fun e w' => e = .returned (.tuple #[.int .i64 0, .int .i64 0]) ∧ RwS B w s (RwJ k k) L w' := by
  subst hK
  obtain ⟨M, hM, hD, hB⟩ := h
  have hn : ntN 3 1 M = (0, M) := ntN_none hD.pl_no 1
  have := nnot_ok hM (t := k) (d := 1) (by rw [hD.N]; omega) (by rw [hD.stk]; omega) ok3 hD.ow hD.wtok false (F := 1) rfl
  rw [hn] at this
  refine this.mono ?_
  rintro e w' ⟨rfl, h1, h2⟩
  exact ⟨rfl, _, h1, hD, hB.trans h2⟩
theorem rw_st1 (h : RwS B w s (RwJ k i) L u) {j : Nat} (hj : j < i) (hk : j < k) (hK : K = (j : Int)) : Calls Try.prog 13 #[.pointer (some ⟨s, 0, none⟩), .int .i64 K] u fun e w' => e = .returned (.int .i64 1) ∧ w' = u := by
  subst hK
  obtain ⟨M, hM, hD, hB⟩ := h
  have := nstate_ok hM (t := j) (by rw [hD.N]; omega)
  rw [hD.st1 j hj] at this
  exact this
theorem rw_st2 (h : RwS B w s (RwJ k i) L u) {j : Nat} (hj : i ≤ j) (hk : j < k) (hK : K = (j : Int)) : Calls Try.prog 13 #[.pointer (some ⟨s, 0, none⟩), .int .i64 K] u fun e w' => e = .returned (.int .i64 2) ∧ w' = u := by
  subst hK
  obtain ⟨M, hM, hD, hB⟩ := h
  have := nstate_ok hM (t := j) (by rw [hD.N]; omega)
  rw [hD.st2 j hj hk] at this
  exact this
theorem rw_new (h : Mn B u s (mt0 (k + 1)) 0) (hB : Below B w u) : RwS B w s (RwI k 0) 0 u := ⟨_, h, ⟨rfl, fun j hj => absurd hj (by omega), fun _ _ => rfl, rfl, fun _ _ => rfl, rfl⟩, hB⟩
theorem RwS.mono {P : Mt → Prop} (h : RwS B w s P L u) {L' : Nat} (h1 : L ≤ L') (h2 : L' ≤ 1000000) : RwS B w s P L' u := let ⟨M, a, b, c⟩ := h; ⟨M, a.mono h1 h2, b, c⟩
end
set_option maxRecDepth 20000 in
set_option maxHeartbeats 4000000 in
theorem rows20_walk (threads : Int) (al : Bool) (w : World) : Calls Try.prog 4 #[.int .i64 threads, .bool al] w fun e w' => e = .returned (.bool true) ∧ Below w.heap.size w w' := by
  obtain ⟨r, hr, hr4⟩ := masked3 threads
  have hA := awake20 w
  have hN : ∀ u K, K = ((2 + r + 1 : Nat) : Int) → Calls Try.prog 6 #[.int .i64 K] u _ := fun u K hK => by subst hK; exact nnew_ok (2 + r + 1) (by omega) (by omega) u
  rcases al with _ | _
  · go_enter Try.func4, Try.ntmps4
    go_wp2_with (first
      | (go_at_call 5; refine hA.mono ?_; rintro e w0 ⟨rfl, hb⟩; have HB0 : Hid _ := hb; clear hb hA)
      | (go_at_call 6; refine (hN w0 _ (by omega)).mono ?_; rintro e w1 ⟨s, rfl, hM, hb⟩; have HD0 : Hid (RwS w0.heap.size w0 s (RwI (2 + r) 0) 0 w1) := rw_new hM hb; clear hM hb hN))
    go_loopg [8] (r + 3) (fun kx v8 wr => ∃ i : Nat, v8 = .int .i64 i ∧ i ≤ 2 + r ∧ 2 + r - i ≤ kx ∧ Hid (RwS w0.heap.size w0 s (RwI (2 + r) i) (3 * i) wr))
    case atStart => exact ⟨0, rfl, by omega, by omega, HD0⟩
    case round =>
      clear HD0
      obtain ⟨i, rfl, hi, hk, HS⟩ := hrel
      by_cases hlt : i < 2 + r
      · have hl : (i : Int) < 2 + (r : Int) := by omega
        have E1 := rw_enter (K := (i : Int)) HS.out (by omega) rfl (by omega)
        have E2 : Hid (∀ u, RwS w0.heap.size w0 s (fun M => ∃ M0, RwI (2 + r) i M0 ∧ M = M0.taken i 3 1) (3 * i + 1) u → _) := fun u h => rw_wait (K := (i : Int)) h hlt rfl (by omega)
        clear HS
        go_wp2_with (first
          | (go_at_call 8; refine (num_any _ _).mono ?_; rintro e w9 ⟨rfl, hw9⟩; replace hw9 := hw9.symm; subst hw9)
          | (go_at_call 7; refine E1.mono ?_; rintro e u1 ⟨rfl, h1⟩; have H1 : Hid _ := h1; clear h1 E1)
          | (go_at_call 9; refine (E2.out _ H1.out).mono ?_; rintro e u2 ⟨rfl, h2⟩; have H2 : Hid _ := h2; clear h2 H1))
        go_roundg (2 + r - (i + 1))
        case rel => exact ⟨i + 1, by go_num, by omega, Nat.le_refl _, H2.out⟩
        case measure => omega
      · obtain rfl : i = 2 + r := by omega
        have hl : ¬ (((2 + r : Nat) : Int) < 2 + (r : Int)) := by omega
        have E1 := rw_enter (K := 2 + (r : Int)) HS.out (by omega) (by omega) (by omega)
        clear HS hk hi
        go_wp2_with (go_at_call 7; refine E1.mono ?_; rintro e u1 ⟨rfl, h1⟩; have H1 : Hid (RwS w0.heap.size w0 s (RwJ (2 + r) 0) 100 u1) := RwS.mono (rw_own h1) (by omega) (by omega); clear h1 E1)
        go_loopg [15] (r + 3) (fun kx v15 wr => ∃ i : Nat, v15 = .int .i64 i ∧ i ≤ 2 + r ∧ 2 + r - i ≤ kx ∧ Hid (RwS w0.heap.size w0 s (RwJ (2 + r) i) 100 wr))
        case atStart => exact ⟨0, rfl, by omega, by omega, H1⟩
        case round =>
          clear H1
          obtain ⟨i, rfl, hi, hk, HS⟩ := hrel
          by_cases hlt2 : i < 2 + r
          · have hl2 : (i : Int) < 2 + (r : Int) := by omega
            have E2 := rw_one (K := 2 + (r : Int)) HS.out hlt2 (by omega)
            have E3 : Hid (∀ u, RwS w0.heap.size w0 s (RwJ (2 + r) (i + 1)) 100 u → _) := fun u h => rw_st1 (K := (i : Int)) h (j := i) (by omega) hlt2 rfl
            clear HS
            by_cases hlt3 : i + 1 < 2 + r
            · have hl3 : (i : Int) + 1 < 2 + (r : Int) := by omega
              have E4 : Hid (∀ u, RwS w0.heap.size w0 s (RwJ (2 + r) (i + 1)) 100 u → _) := fun u h => rw_st2 (K := (i : Int) + 1) h (j := i + 1) (Nat.le_refl _) hlt3 (by omega)
              go_wp2_with (first
                | (go_at_call 8; refine (num_any _ _).mono ?_; rintro e w9 ⟨rfl, hw9⟩; replace hw9 := hw9.symm; subst hw9)
                | (go_at_call 10; refine E2.mono ?_; rintro e u2 ⟨rfl, h2⟩; have H2 : Hid _ := h2; clear h2 E2)
                | (go_at_call 13; first
                    | (refine (E3.out _ H2.out).mono ?_; clear E3; rintro e w9 ⟨rfl, hw9⟩; replace hw9 := hw9.symm; subst hw9)
                    | (refine (E4.out _ H2.out).mono ?_; rintro e w9 ⟨rfl, hw9⟩; replace hw9 := hw9.symm; subst hw9)))
              go_roundg (2 + r - (i + 1))
              case rel => exact ⟨i + 1, by go_num, by omega, Nat.le_refl _, H2.out⟩
              case measure => omega
            · have hl3 : ¬ (i : Int) + 1 < 2 + (r : Int) := by omega
              go_wp2_with (first
                | (go_at_call 8; refine (num_any _ _).mono ?_; rintro e w9 ⟨rfl, hw9⟩; replace hw9 := hw9.symm; subst hw9)
                | (go_at_call 10; refine E2.mono ?_; rintro e u2 ⟨rfl, h2⟩; have H2 : Hid _ := h2; clear h2 E2)
                | (go_at_call 13; refine (E3.out _ H2.out).mono ?_; rintro e w9 ⟨rfl, hw9⟩; replace hw9 := hw9.symm; subst hw9))
              go_roundg (2 + r - (i + 1))
              case rel => exact ⟨i + 1, by go_num, by omega, Nat.le_refl _, H2.out⟩
              case measure => omega
          · obtain rfl : i = 2 + r := by omega
            have hl2 : ¬ (((2 + r : Nat) : Int) < 2 + (r : Int)) := by omega
            have E2 := rw_none (K := 2 + (r : Int)) HS.out (by omega)
            clear HS
            go_wp2_with (first
              | (go_at_call 8; refine (num_any _ _).mono ?_; rintro e w9 ⟨rfl, hw9⟩; replace hw9 := hw9.symm; subst hw9)
              | (go_at_call 10; refine E2.mono ?_; rintro e u2 ⟨rfl, h2⟩; have H2 : Hid _ := h2; clear h2 E2))
            go_ret
            obtain ⟨_, _, _, hb⟩ := H2.out
            exact ⟨rfl, HB0.out.trans (hb.mono HB0.out.size)⟩
  · go_enter Try.func4, Try.ntmps4
    go_wp2_with (first
      | (go_at_call 5; refine hA.mono ?_; rintro e w0 ⟨rfl, hb⟩; have HB0 : Hid _ := hb; clear hb hA)
      | (go_at_call 6; refine (hN w0 _ (by omega)).mono ?_; rintro e w1 ⟨s, rfl, hM, hb⟩; have HD0 : Hid (RwS w0.heap.size w0 s (RwI (2 + r) 0) 0 w1) := rw_new hM hb; clear hM hb hN))
    go_loopg [8] (r + 3) (fun kx v8 wr => ∃ i : Nat, v8 = .int .i64 i ∧ i ≤ 2 + r ∧ 2 + r - i ≤ kx ∧ Hid (RwS w0.heap.size w0 s (RwI (2 + r) i) (3 * i) wr))
    case atStart => exact ⟨0, rfl, by omega, by omega, HD0⟩
    case round =>
      clear HD0
      obtain ⟨i, rfl, hi, hk, HS⟩ := hrel
      by_cases hlt : i < 2 + r
      · have hl : (i : Int) < 2 + (r : Int) := by omega
        have E1 := rw_enter (K := (i : Int)) HS.out (by omega) rfl (by omega)
        have E2 : Hid (∀ u, RwS w0.heap.size w0 s (fun M => ∃ M0, RwI (2 + r) i M0 ∧ M = M0.taken i 3 1) (3 * i + 1) u → _) := fun u h => rw_wait (K := (i : Int)) h hlt rfl (by omega)
        clear HS
        go_wp2_with (first
          | (go_at_call 8; refine (num_any _ _).mono ?_; rintro e w9 ⟨rfl, hw9⟩; replace hw9 := hw9.symm; subst hw9)
          | (go_at_call 7; refine E1.mono ?_; rintro e u1 ⟨rfl, h1⟩; have H1 : Hid _ := h1; clear h1 E1)
          | (go_at_call 9; refine (E2.out _ H1.out).mono ?_; rintro e u2 ⟨rfl, h2⟩; have H2 : Hid _ := h2; clear h2 H1))
        go_roundg (2 + r - (i + 1))
        case rel => exact ⟨i + 1, by go_num, by omega, Nat.le_refl _, H2.out⟩
        case measure => omega
      · obtain rfl : i = 2 + r := by omega
        have hl : ¬ (((2 + r : Nat) : Int) < 2 + (r : Int)) := by omega
        have E1 := rw_enter (K := 2 + (r : Int)) HS.out (by omega) (by omega) (by omega)
        clear HS hk hi
        go_wp2_with (first
          | (go_at_call 7; refine E1.mono ?_; rintro e u1 ⟨rfl, h1⟩; have H1 : Hid (RwS w0.heap.size w0 s (RwJ (2 + r) 0) 100 u1) := RwS.mono (rw_own h1) (by omega) (by omega); clear h1 E1)
          | (go_at_call 10; refine (rw_all (K := 2 + (r : Int)) H1.out (by omega)).mono ?_; rintro e u2 ⟨rfl, h2⟩; have H2 : Hid _ := h2; clear h2 H1))
        go_loopg [14] (r + 3) (fun kx v14 wr => wr = u2 ∧ ∃ i : Nat, v14 = .int .i64 i ∧ i ≤ 2 + r ∧ 2 + r - i ≤ kx)
        case atStart => exact ⟨rfl, 0, rfl, by omega, by omega⟩
        case round =>
          obtain ⟨rfl, i, rfl, hi, hk⟩ := hrel
          by_cases hlt2 : i < 2 + r
          · have hl2 : (i : Int) < 2 + (r : Int) := by omega
            have hS := rw_st1 (K := (i : Int)) H2.out (j := i) hlt2 hlt2 rfl
            go_wp2_with (go_at_call 13; refine hS.mono ?_; rintro e w9 ⟨rfl, hw9⟩; replace hw9 := hw9.symm; subst hw9)
            go_roundg (2 + r - (i + 1))
            case rel => exact ⟨rfl, i + 1, by go_num, by omega, Nat.le_refl _⟩
            case measure => omega
          · have hl2 : ¬ (i : Int) < 2 + (r : Int) := by omega
            go_wp2_with (go_at_call 8; refine (num_any _ _).mono ?_; rintro e w9 ⟨rfl, hw9⟩; replace hw9 := hw9.symm; subst hw9)
            go_ret
            obtain ⟨_, _, _, hb⟩ := H2.out
            exact ⟨rfl, HB0.out.trans (hb.mono HB0.out.size)⟩
end Go.Proofs.Ytdkbdmlodngneaa
