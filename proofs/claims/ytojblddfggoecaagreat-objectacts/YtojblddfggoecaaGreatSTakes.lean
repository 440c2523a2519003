/- takes: may a number be pushed? -/
import Derived.Test.YtojblddfggoecaaGreatSItems
import Derived.Deep.MidRow
namespace Go.Proofs.YtojblddfggoecaaGreat
open Go.RowKit Go.Shelf
attribute [local go_sem] Oper.semAt_some

theorem res_takes (tmps : Array Value) (w : World) (g : Nat) (v : Value) (hp : tmps.getD 4 undef = .pointer (some ⟨g, 0, none⟩)) (hg : w.cell? ⟨g, 0, none⟩ = some v) :
    (results Tryz.f113 tmps).run Tryz.prog w = .ok v w := by
  have hp' : tmps[4]?.getD undef = .pointer (some ⟨g, 0, none⟩) := by simpa using hp
  simp [results, Tryz.f113, go_sem, hp', hg]
/-- The load of the whole row of tasks, and a look at one, by names that the walk does not open. -/
def ldS (a : Value) : Sem Value := Instr.loadAt 129 a
theorem ld_S (a : Value) : Instr.loadAt 129 a = ldS a := rfl
def ixS (x i : Value) : Sem Value := Instr.index 129 x i
theorem ix_S (x i : Value) : Instr.index 129 x i = ixS x i := rfl
attribute [local go_sem ↓] ld_S ix_S
theorem info84 : (Tryz.prog.info? 129).map (·.size) = some 24 := by kernel_rfl
theorem one_set {w : World} {b ty : Nat} {v u : Value} (h : w.heap[b]? = some (.cells #[v] ty (0, 0))) : (w.setCell ⟨b, 0, none⟩ u).heap[b]? = some (.cells #[u] ty (0, 0)) := set_blk h 0 u
def tasks (ops : Nat → Op) (ob : Nat → Nat) : List Value := [(ops 0).val (ob 0), .int .i64 (ops 0).link, (ops 1).val (ob 1), .int .i64 (ops 1).link, (ops 2).val (ob 2), .int .i64 (ops 2).link, (ops 3).val (ob 3), .int .i64 (ops 3).link, (ops 4).val (ob 4), .int .i64 (ops 4).link, (ops 5).val (ob 5), .int .i64 (ops 5).link, (ops 6).val (ob 6), .int .i64 (ops 6).link, (ops 7).val (ob 7), .int .i64 (ops 7).link, (ops 8).val (ob 8), .int .i64 (ops 8).link, (ops 9).val (ob 9), .int .i64 (ops 9).link, (ops 10).val (ob 10), .int .i64 (ops 10).link, (ops 11).val (ob 11), .int .i64 (ops 11).link]
theorem tasks_ix (ops : Nat → Op) (ob : Nat → Nat) (m : Nat) (hm : m < 12) (u : World) : (ixS (.agg (tasks ops ob).toArray) (.int .i64 m)).run Tryz.prog u = .ok (.agg #[(ops m).val (ob m), .int .i64 (ops m).link]) u := by
  obtain rfl | rfl | rfl | rfl | rfl | rfl | rfl | rfl | rfl | rfl | rfl | rfl : m = 0 ∨ m = 1 ∨ m = 2 ∨ m = 3 ∨ m = 4 ∨ m = 5 ∨ m = 6 ∨ m = 7 ∨ m = 8 ∨ m = 9 ∨ m = 10 ∨ m = 11 := by omega
  all_goals kernel_rfl
theorem val_shape (op : Op) (o : Nat) : op.val o = .nilIface ∨ ∃ t a, op.val o = .iface t (.pointer (some a)) := by
  cases op with
  | idle => exact .inl rfl
  | push _ _ _ _ => exact .inr ⟨_, _, rfl⟩
  | pop _ _ _ _ => exact .inr ⟨_, _, rfl⟩
section
variable {w : World} {P : Nat → Prop} {s b bw bs bt bu bl W G base cap : Nat} {ws cs : Nat → Int} {ops : Nat → Op} {ob : Nat → Nat} {T : Int} {xs : List Int}
theorem below2 (w : World) (o p : Obj) (n i : Nat) (v : Value) : Below w.heap.size w ((((w.alloc o).alloc p).drewN n).setCell ⟨w.heap.size + 1, i, none⟩ v) :=
  ((((Below.refl w.heap.size w).alloc (Nat.le_refl _) o).alloc (by simp) p).trans (below_drewN _ _ _)).setCell (p := ⟨w.heap.size + 1, i, none⟩) (by simp) v
theorem tasks_ld (h : Stk w P s b bw bs bt bu bl W G base cap ws cs ops ob) : (ldS (.pointer (some ⟨s, 9, none⟩))).run Tryz.prog w = .ok (.agg (tasks ops ob).toArray) w := by
  refine run_loadAt_mid w s 9 129 (tasks ops ob) _ ?_ Tryz.underlying129 rfl info84
  intro j v hj
  have hj24 : j < 24 := by have := (List.getElem?_eq_some_iff.1 hj).1; simpa [tasks] using this
  rw [h.here.cell (i := 9 + j) (by omega), ← hj]
  match j, hj24 with
  | 0, _ => rfl
  | 1, _ => rfl
  | 2, _ => rfl
  | 3, _ => rfl
  | 4, _ => rfl
  | 5, _ => rfl
  | 6, _ => rfl
  | 7, _ => rfl
  | 8, _ => rfl
  | 9, _ => rfl
  | 10, _ => rfl
  | 11, _ => rfl
  | 12, _ => rfl
  | 13, _ => rfl
  | 14, _ => rfl
  | 15, _ => rfl
  | 16, _ => rfl
  | 17, _ => rfl
  | 18, _ => rfl
  | 19, _ => rfl
  | 20, _ => rfl
  | 21, _ => rfl
  | 22, _ => rfl
  | 23, _ => rfl
  | n + 24, hm => omega
set_option maxRecDepth 100000 in
set_option maxHeartbeats 4000000 in
theorem takes_out (h : Stk w P s b bw bs bt bu bl W G base cap ws cs ops ob) (v : Int) (hv : ¬ (0 ≤ v ∧ v < cap)) :
    Calls Tryz.prog 113 #[.pointer (some ⟨s, 0, none⟩), .int .i64 v] w fun e w' => e = .returned (.bool false) ∧ Below w.heap.size w w' := by
  have hs2 : ∀ o p, ((w.alloc o).alloc p).cell? ⟨s, 8, none⟩ = some (.int .i64 cap) := fun o p => ((h.alloc o).alloc p).cw.2.2.2.2.2.2.2
  have n1 := h.here.lt
  refine (callsIn_wide (n := 5)).1 ?_
  refine callsIn_of_wp_marks Tryz.func113 rfl trivial ?_ rfl
  simp only [Tryz.ntmps113, List.size_toArray, List.length_cons, List.length_nil, Nat.reduceAdd, Nat.reduceSub, Array.replicate_succ, Array.replicate_zero, List.push_toArray, List.append_toArray, List.nil_append, List.cons_append]
  refine wpIn_wide.2 ?_
  by_cases h0 : v < 0
  · clear hv
    go_wp2
    go_quiet (fail)
    go_wp2
    exact ⟨_, res_takes _ _ (w.heap.size + 1) (.bool false) rfl (box_cell (one_set (new2 _ _))), rfl, below2 _ _ _ _ _ _⟩
  · have h1 : (cap : Int) ≤ v := by omega
    clear hv
    go_wp2
    go_quiet (fail)
    go_wp2
    exact ⟨_, res_takes _ _ (w.heap.size + 1) (.bool false) rfl (box_cell (one_set (new2 _ _))), rfl, below2 _ _ _ _ _ _⟩
set_option maxRecDepth 100000 in
set_option maxHeartbeats 4000000 in
theorem takes_in (h : Stk w P s b bw bs bt bu bl W G base cap ws cs ops ob) (hI : Inv base cap ws ops T xs) (hT : T ≤ 1000000000) (v : Int) (hv0 : 0 ≤ v) (hv1 : v < cap) :
    Calls Tryz.prog 113 #[.pointer (some ⟨s, 0, none⟩), .int .i64 v] w fun e w' => e = .returned (.bool (decide ((∀ j, j < 12 → (ops j).link ≠ v + 1) ∧ v + 1 ∉ xs))) ∧ Below w.heap.size w w' := by
  generalize hR : decide ((∀ j, j < 12 → (ops j).link ≠ v + 1) ∧ v + 1 ∉ xs) = R
  have HR : Hid (decide ((∀ j, j < 12 → (ops j).link ≠ v + 1) ∧ v + 1 ∉ xs) = R) := hR
  clear hR
  have hs2 : ∀ o p, ((w.alloc o).alloc p).cell? ⟨s, 8, none⟩ = some (.int .i64 cap) := fun o p => ((h.alloc o).alloc p).cw.2.2.2.2.2.2.2
  have hB2 : ∀ o p n, Below w.heap.size w (((w.alloc o).alloc p).drewN n) := fun o p n => (((Below.refl w.heap.size w).alloc (Nat.le_refl _) o).alloc (by simp) p).trans (below_drewN _ _ _)
  have hld := fun o p n => tasks_ld (h.below (hB2 o p n))
  have hix := tasks_ix ops ob
  have hcap := h.cap2
  have n1 := h.here.lt
  have hv2 : decide ((cap : Int) ≤ v) = false := by simp; omega
  generalize (tasks ops ob).toArray = A at hld hix
  refine (callsIn_wide (n := 5)).1 ?_
  refine callsIn_of_wp_marks Tryz.func113 rfl trivial ?_ rfl
  simp only [Tryz.ntmps113, List.size_toArray, List.length_cons, List.length_nil, Nat.reduceAdd, Nat.reduceSub, Array.replicate_succ, Array.replicate_zero, List.push_toArray, List.append_toArray, List.nil_append, List.cons_append]
  refine wpIn_wide.2 ?_
  go_wp2
  go_quiet (fail)
  go_wp2
  go_loopw [23] (fun k wr => ∃ m : Nat, m ≤ 12 ∧ k = .int .i64 m ∧ Below w.heap.size w wr ∧ wr.heap[w.heap.size]? = some (.cells #[.int .i64 v] 3 (0, 0)) ∧ wr.heap[w.heap.size + 1]? = some (.cells #[.bool false] 4 (0, 0)) ∧ Hid (∀ j, j < m → (ops j).link ≠ v + 1)) (fun k _ => 12 - (intOf k).toNat)
  case atStart => exact ⟨0, by omega, rfl, hB2 _ _ _, old2 _ _, new2 _ _, fun j hj => absurd hj (by omega)⟩
  case round =>
    obtain ⟨m, hm, rfl, hbr, hb0, hb1, hno⟩ := hrel
    clear hld hs2 hB2
    by_cases hlt : m < 12
    · have hixm := hix m hlt
      have e0 := fun o n => box_cell (w := (wr.alloc o).drewN n) (box_alloc hb0 o)
      have q0 := fun o => box_cell (box_alloc hb0 o)
      clear hix
      by_cases hl : (ops m).link = v + 1
      · have z1 := fun o => frz (box_alloc hb1 o)
        have c1 := fun o => box_cell (box_alloc hb1 o)
        rw [hl] at hixm
        have hres : Hid (R = false) := by rw [← HR.out]; exact decide_eq_false (fun q => q.1 m hlt hl)
        clear hl
        have hbe : w.heap.size ≠ wr.heap.size := by have := box_lt hb0; omega
        have hbf : w.heap.size + 1 ≠ wr.heap.size := by have := box_lt hb1; omega
        rcases val_shape (ops m) (ob m) with hq | ⟨ty, ad, hq⟩
        all_goals
          rw [hq] at hixm
          clear hq
          go_wp2
          go_quiet ((go_at_call 105; exact Calls.quiet_of_same (linkTo_any v _ hv0 (by omega))))
          go_wp2
          exact ⟨_, res_takes _ _ (w.heap.size + 1) (.bool false) rfl (box_cell (one_set (box_alloc hb1 _))), by rw [hres.out], ((hbr.alloc hbr.size _).trans (below_drewN _ _ _)).setCell (p := ⟨w.heap.size + 1, 0, none⟩) (by simp) _⟩
      · have hl' : ((ops m).link == v + 1) = false := by simp [hl]
        rcases val_shape (ops m) (ob m) with hq | ⟨ty, ad, hq⟩
        all_goals
          rw [hq] at hixm
          clear hq
          go_wp2
          go_quiet ((go_at_call 105; exact Calls.quiet_of_same (linkTo_any v _ hv0 (by omega))))
          go_wp2
          go_roundw
          case rel => exact ⟨m + 1, by omega, by go_num, (hbr.alloc hbr.size _).trans (below_drewN _ _ _), box_alloc hb0 _, box_alloc hb1 _, fun j hj => (by
            by_cases q : j = m
            · subst q; exact hl
            · exact hno.out j (by omega))⟩
          case measure => simp [intOf]; omega
    · obtain rfl : m = 12 := by omega
      go_wp2_with (go_at_call 97; refine (downward_ok s _).mono ?_; rintro e w' ⟨rfl, rfl⟩)
      have hno' := hno.out
      clear hno hix
      have bV : Boxed (wr.alloc (.cells #[.pointer (some ⟨s, 0, none⟩)] 99)) w.heap.size 3 (.int .i64 v) := box_alloc hb0 _
      have bR : Boxed (wr.alloc (.cells #[.pointer (some ⟨s, 0, none⟩)] 99)) (w.heap.size + 1) 4 (.bool false) := box_alloc hb1 _
      have bN : Boxed (wr.alloc (.cells #[.pointer (some ⟨s, 0, none⟩)] 99)) wr.heap.size 99 (.pointer (some ⟨s, 0, none⟩)) := heap_alloc_new _ _
      have hB0 := hbr.alloc hbr.size (.cells #[.pointer (some ⟨s, 0, none⟩)] 99)
      have lV := box_lt hb0
      have lR := box_lt hb1
      refine (wpIn_wide (n := 5)).1 ?_
      refine wpIn_rangeFunc_ownF (F := Fence.wide) (n := 5) rfl (by decide) (gf := 116) (lb := #[.pointer (some ⟨wr.heap.size, 0, none⟩)]) rfl trivial (enters_of Tryz.func116 (by kernel_rfl) rfl)
        (down_stops 4 (by decide) wr.heap.size h hI hT hB0 bN) kp_t (kp_b (by simp; omega) (by simp)) (Below.refl _ _) (fun _ => rfl)
        (fun pre W => (((∀ y ∈ pre, y ≠ v + 1) ∧ Boxed W w.heap.size 3 (.int .i64 v) ∧ Boxed W (w.heap.size + 1) 4 (.bool false)) ∧ Below w.heap.size w W) ∧ Boxed W wr.heap.size 99 (.pointer (some ⟨s, 0, none⟩)))
        (fun c pre W => (c = .ret ∧ v + 1 ∈ pre ∧ Boxed W (w.heap.size + 1) 4 (.bool false)) ∧ Below w.heap.size w W)
        (OwnFrom.and (OwnFrom.and (OwnFrom.and (ownFrom_pure _ _) (OwnFrom.and (Own.from (boxed_own _ _ _) _) (Own.from (boxed_own _ _ _) _))) (ownFrom_below (Nat.le_refl _) (by simp; omega))) (Own.from (boxed_own _ _ _) _))
        (fun c => OwnFrom.and (OwnFrom.and (ownFrom_pure _ _) (OwnFrom.and (ownFrom_pure _ _) (Own.from (boxed_own _ _ _) _))) (ownFrom_below (Nat.le_refl _) (by simp; omega)))
        ⟨⟨⟨by simp, bV, bR⟩, hB0⟩, bN⟩
        (fun x => { tmps := #[.pointer (some ⟨s, 0, none⟩), .int .i64 v, undef, .pointer (some ⟨w.heap.size, 0, none⟩), .pointer (some ⟨w.heap.size + 1, 0, none⟩), undef, u6, .int .i64 x, .int .i64 v, .bool (decide (v < 0)), .bool (decide (v < 0)), .int .i64 v, .pointer (some ⟨s, 0, none⟩), .pointer (some ⟨s, 0, none⟩), .pointer (some ⟨s, 1, none⟩), .pointer (some ⟨s, 8, none⟩), .int .i64 cap, .bool false, .bool (decide (v < 0)), .pointer (some ⟨s, 0, none⟩), .pointer (some ⟨s, 0, none⟩), .pointer (some ⟨s, 9, none⟩), .agg A, .int .i64 12, .bool false, u25, u26, u27, u28, u29, u30, u31, .pointer (some ⟨s, 0, none⟩), .func (.func 116) #[] #[.pointer (some ⟨wr.heap.size, 0, none⟩)], .int .i64 x, undef, undef, undef, undef], defers := [] }) ?assign ?body ?done ?stop
      case assign =>
        intro l x W K hK
        gi_wp2
        exact hK
      case body =>
        rintro l pre x W ⟨⟨⟨hp, hV, hR⟩, hB⟩, hN⟩ _
        have cV := hV.cell
        have cR := hR.cell
        have fR := hR.frozen
        by_cases hx : x = v + 1
        · have hx' : (x == v + 1) = true := by simp [hx]
          gi_wp2_with (refine ⟨trivial, ?_⟩; gi_at_call 105; refine (CallsIn.inRound l (callsIn_wide.2 (linkTo_any v _ hv0 (by omega)))).mono ?_; rintro e w5 ⟨rfl, rfl⟩)
          exact ⟨KeepsOthers.setCell _ _ _, ⟨rfl, List.mem_append.2 (.inr (by simp [hx])), hR.set _⟩, hB.setCell (p := ⟨w.heap.size + 1, 0, none⟩) (by simp) _⟩
        · have hx' : (x == v + 1) = false := by simp [hx]
          gi_wp2_with (refine ⟨trivial, ?_⟩; gi_at_call 105; refine (CallsIn.inRound l (callsIn_wide.2 (linkTo_any v _ hv0 (by omega)))).mono ?_; rintro e w5 ⟨rfl, rfl⟩)
          exact ⟨KeepsOthers.refl _, ⟨Below.refl _ _, rfl⟩, ⟨⟨fun y hy => (List.mem_append.1 hy).elim (hp y) (fun e => by simp at e; subst e; exact hx), hV, hR⟩, hB⟩, hN⟩
      case done =>
        rintro D ys W hD rfl ⟨⟨⟨hne, hV, hR⟩, hB⟩, hN⟩ hK
        have cR := hR.cell
        have fR := hR.frozen
        have hres : Hid (R = true) := by rw [← HR.out]; exact decide_eq_true ⟨hno', fun q => hne _ q rfl⟩
        clear hne hno'
        go_wp2
        have hK' := (KeepsOthers.setCell W ⟨w.heap.size + 1, 0, none⟩ (.bool true)).same D _ hK rfl
        refine ⟨by simp, .inl ⟨_, _, rfl, run_takeDeferred hK', ?_⟩⟩
        have hc5 := cell_kept (hR.set (.bool true)).cell (grownBy_putObj' _ D (.deferred none)) (fun r e => by cases e; exact ⟨_, hK', rfl⟩)
        exact ⟨_, res_takes _ _ (w.heap.size + 1) (.bool true) rfl hc5, by rw [hres.out], (hB.setCell (p := ⟨w.heap.size + 1, 0, none⟩) (by simp) _).trans (belowK_b (w := w) (Nat.le_refl _) _ D _ _ (by have := hB0.size; simp at this hD; omega) hK' rfl rfl)⟩
      case stop =>
        rintro D c pre W hD hpre ⟨⟨rfl, hin, hR⟩, hB⟩ hK
        have hres : Hid (R = false) := by rw [← HR.out]; exact decide_eq_false (fun q => q.2 (hpre.subset hin))
        gi_wp2
        refine ⟨by simp, .inl ⟨_, _, rfl, run_takeDeferred hK, ?_⟩⟩
        have hc5 := cell_kept hR.cell (grownBy_putObj' _ D (.deferred none)) (fun r e => by cases e; exact ⟨_, hK, rfl⟩)
        exact ⟨_, res_takes _ _ (w.heap.size + 1) (.bool false) rfl hc5, by rw [hres.out], hB.trans (belowK_b (w := w) (Nat.le_refl _) W D _ _ (by have := hB0.size; simp at this hD; omega) hK rfl rfl)⟩
/-- Whether it may be pushed. -/
def May (cap : Nat) (ops : Nat → Op) (xs : List Int) (v : Int) : Prop := 0 ≤ v ∧ v < cap ∧ (∀ j, (ops j).link ≠ v + 1) ∧ v + 1 ∉ xs
theorem takes_yes (h : Stk w P s b bw bs bt bu bl W G base cap ws cs ops ob) (hI : Inv base cap ws ops T xs) (hT : T ≤ 1000000000) (v : Int) (hm : May cap ops xs v) :
    Calls Tryz.prog 113 #[.pointer (some ⟨s, 0, none⟩), .int .i64 v] w fun e w' => e = .returned (.bool true) ∧ Below w.heap.size w w' := by
  refine (takes_in h hI hT v hm.1 hm.2.1).mono ?_
  rintro e w' ⟨rfl, hb⟩
  exact ⟨by rw [decide_eq_true ⟨fun j _ => hm.2.2.1 j, hm.2.2.2⟩], hb⟩
theorem takes_no (h : Stk w P s b bw bs bt bu bl W G base cap ws cs ops ob) (hI : Inv base cap ws ops T xs) (hT : T ≤ 1000000000) (v : Int) (hm : ¬ May cap ops xs v) :
    Calls Tryz.prog 113 #[.pointer (some ⟨s, 0, none⟩), .int .i64 v] w fun e w' => e = .returned (.bool false) ∧ Below w.heap.size w w' := by
  by_cases hr : 0 ≤ v ∧ v < cap
  · refine (takes_in h hI hT v hr.1 hr.2).mono ?_
    rintro e w' ⟨rfl, hb⟩
    have hf : ¬ ((∀ j, j < 12 → (ops j).link ≠ v + 1) ∧ v + 1 ∉ xs) := by
      intro q
      refine hm ⟨hr.1, hr.2, fun j => ?_, q.2⟩
      by_cases hj : j < 12
      · exact q.1 j hj
      · rw [h.rest j (by have := h.few; omega)]; simp only [Op.link]; omega
    exact ⟨by rw [decide_eq_false hf], hb⟩
  · exact takes_out h v hr
end
end Go.Proofs.YtojblddfggoecaaGreat
