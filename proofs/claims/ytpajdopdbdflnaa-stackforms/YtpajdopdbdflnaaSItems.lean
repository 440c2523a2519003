/- Items: what stands in the stack, from the top down, in a new slice. -/
import Derived.Test.YtpajdopdbdflnaaSSeq
namespace Go.Proofs.Ytpajdopdbdflnaa
open Go.RowKit Go.Shelf
attribute [local go_sem] Oper.semAt_some

def vals (xs : List Int) : List Value := xs.map fun x => Value.int .i64 (wrap64 (x - 1))
theorem number_wrap (x : Int) (w : World) : Calls Try.prog 26 #[.int .i64 x] w fun e w' => e = .returned (.int .i64 (wrap64 (x - 1))) ∧ w' = w := by
  go_enter Try.func26, Try.ntmps26
  go_wp2
  go_ret
  exact ⟨rfl, rfl⟩
theorem vals_snoc (pre : List Int) (x : Int) : vals (pre ++ [x]) = vals pre ++ [.int .i64 (wrap64 (x - 1))] := by simp [vals]
theorem vals_len (pre : List Int) : (vals pre).length = pre.length := by simp [vals]

/-- An append, by a name that the walk does not open. -/
def appS (ats : Array TypeId) (ty : TypeId) (args : Array Value) : Sem Value := Builtin.append_ ats ty args
theorem app_S (ats : Array TypeId) (ty : TypeId) (args : Array Value) : Builtin.append_ ats ty args = appS ats ty args := rfl
attribute [local go_sem ↓] app_S

set_option maxRecDepth 100000 in
set_option maxHeartbeats 4000000 in
theorem items_ok {w : World} {P : Nat → Prop} {s b bw bs bt bu bl W G base cap : Nat} {ws cs : Nat → Int} {ops : Nat → Op} {ob : Nat → Nat} {T : Int} {xs : List Int} (h : Stk w P s b bw bs bt bu bl W G base cap ws cs ops ob) (hI : Inv base cap ws ops T xs) (hT : T ≤ 1000000000) :
    Calls Try.prog 11 #[.pointer (some ⟨s, 0, none⟩)] w fun e W' => ∃ v, e = .returned v ∧ W'.ownsRow w.heap.size 3 1 v xs.length (vals xs) ∧ (v = .slice none 0 0 ↔ xs = []) ∧ Below w.heap.size w W' := by
  obtain ⟨i0, hi, hz0, hz1, hz2⟩ := info_parts info3
  have hfo : Try.prog.follows .mixedOrders = true := by kernel_rfl
  have hcap := h.cap2
  have hlen := length_le hI.range hI.nodup
  refine (callsIn_wide (n := 5)).1 ?_
  refine callsIn_of_wp_marks Try.func11 rfl trivial ?_ rfl
  simp only [Try.ntmps11, List.size_toArray, List.length_cons, List.length_nil, Nat.reduceAdd, Nat.reduceSub, Array.replicate_succ, Array.replicate_zero, List.push_toArray, List.append_toArray, List.nil_append, List.cons_append]
  gi_wp2_with (refine ⟨trivial, ?_⟩; gi_at_call 25; refine (callsIn_wide.2 (downward_ok s _)).mono ?_; rintro e w' ⟨rfl, rfl⟩)
  have bO := Boxed.new w 28 (.slice none 0 0)
  have bN := Boxed.new (w.alloc (.cells #[.slice none 0 0] 28)) 23 (.pointer (some ⟨s, 0, none⟩))
  rw [World.size_alloc] at bN
  have hB0 : Below w.heap.size w ((w.alloc (.cells #[.slice none 0 0] 28)).alloc (.cells #[.pointer (some ⟨s, 0, none⟩)] 23)) := ((Below.refl _ w).alloc (Nat.le_refl _) _).alloc (by simp) _
  refine wpIn_rangeFunc_ownG (F := Fence.wide) rfl (by decide) (gf := 41) (lb := #[.pointer (some ⟨w.heap.size + 1, 0, none⟩)]) rfl trivial (enters_of Try.func41 (by kernel_rfl) rfl)
    (down_stops 4 (by decide) (w.heap.size + 1) h hI hT hB0 bN) kp_t (kp_b (by simp; omega) (by simp)) (Below.refl _ _) (fun _ => rfl)
    (fun pre W => ((∃ v, Boxed W w.heap.size 28 v ∧ W.ownsRow w.heap.size 3 1 v pre.length (vals pre) ∧ (v = .slice none 0 0 ↔ pre = [])) ∧ Below w.heap.size w W) ∧ Boxed W (w.heap.size + 1) 23 (.pointer (some ⟨s, 0, none⟩)))
    (fun _ _ _ => False)
    (OwnFrom.and (OwnFrom.and (Own.from (holdsRow_own w.heap.size w.heap.size 28 3 1 (fun pre => pre.length) (fun pre => vals pre) (fun pre v => v = .slice none 0 0 ↔ pre = [])) _) (ownFrom_below (Nat.le_refl _) (by simp; omega))) (Own.from (boxed_own _ _ _) _))
    (fun _ _ _ _ _ hs _ _ => hs)
    ⟨⟨⟨_, bO.alloc _, World.ownsRow_nil _ _ _ _, by simp⟩, hB0⟩, bN⟩
    (fun x => { tmps := #[.pointer (some ⟨s, 0, none⟩), undef, .slice none 0 0, .pointer (some ⟨w.heap.size, 0, none⟩), .int .i64 x, .pointer (some ⟨s, 0, none⟩), .bool false, .pointer (some ⟨s, 0, none⟩), .func (.func 41) #[] #[.pointer (some ⟨w.heap.size + 1, 0, none⟩)], .int .i64 x, undef, undef, undef, undef, undef, undef], defers := [] }) ?assign ?body ?done ?stop
  case assign =>
    intro l x W K hK
    gi_wp2
    exact hK
  case body =>
    rintro l pre x W ⟨⟨⟨v, hv, hrow, hnil⟩, hB⟩, hb⟩ hlt
    have hc := hv.cell
    have hle : pre.length + 1 ≤ 1000 := by omega
    have hBs := hB.size
    obtain ⟨v', w', hrun, hown', hgrow, hn'⟩ := run_append_own (P := Try.prog) (w := (W.alloc (.cells #[.int .i64 (wrap64 (x - 1))] 3)).drew) w.heap.size 28 28 3 i0 (.int .i64 0) 1 8 Try.underlying28 hi hz0 hz1 hz2 rfl (by decide) v pre.length (vals pre) (World.ownsRow.alloc (w := W) hrow _) ⟨W.heap.size, 0, none⟩ 1 1 [.int .i64 (wrap64 (x - 1))] rfl (cell_one_new _ _ _) (by simp [Value.oneCell']) (by unfold maxLen; omega) (by omega) (by simp; omega)
    obtain ⟨g', cap', rfl⟩ := ownsRow_succ hown'
    obtain ⟨hv1, hv2, hr2, hk2, hb2⟩ := Boxed.appended (W := W) (tmp := .cells #[.int .i64 (wrap64 (x - 1))] 3) hv (by decide) hrow hBs (Nat.le_refl _) hown' ⟨hgrow.os, hgrow.tape, hgrow.output, hgrow.size, hgrow.block⟩
    rw [app_S] at hrun
    have hc1 := hv1.cell
    have hf1 := hv1.frozen
    have hc2 := fun o => (hv.alloc o).cell
    gi_wp2
    gi_region_with_o (refine ⟨trivial, ?_⟩; gi_at_call 26; refine (CallsIn.inRound l (callsIn_wide.2 (number_wrap x _))).mono ?_; rintro e w5 ⟨rfl, rfl⟩)
    all_goals gi_wp2
    all_goals
      have hb1 : Boxed w' (w.heap.size + 1) 23 (.pointer (some ⟨s, 0, none⟩)) := (hb.alloc _).kept ⟨hgrow.os, hgrow.tape, hgrow.output, hgrow.size, hgrow.block⟩ (hb.not_row (by decide) hrow)
      have hb2' := hb1.other (B' := w.heap.size) (by omega) (.slice (some ⟨g', 0, none⟩) (pre.length + 1) cap')
      exact ⟨hk2.from _, ⟨hb2, (show _ = _ from hb2').trans (show _ = _ from hb).symm⟩, ⟨⟨_, hv2, by rw [vals_snoc]; simpa using hr2, by simp⟩, hB.trans hb2⟩, hb2'⟩
  case done =>
    rintro D ys W hD rfl ⟨⟨⟨v, hv, hrow, hnil⟩, hB⟩, hb⟩ hK
    have hc := hv.cell
    gi_wp2
    refine ⟨by simp, .inl ⟨_, _, rfl, run_takeDeferred hK, ?_⟩⟩
    exact ⟨_, results_tmp rfl _ _ _, v, rfl, ownsRow_putObj hrow _ hK rfl, hnil, hB.trans (belowK_b (w := w) (Nat.le_refl _) W D _ _ (by simp at hD; omega) hK rfl rfl)⟩
  case stop =>
    rintro D c pre W _ _ h _
    exact h.elim
theorem vals_eq {cap : Nat} {xs : List Int} (hr : ∀ x, x ∈ xs → 1 ≤ x ∧ x ≤ cap) (hc : cap ≤ 1000) : vals xs = xs.map fun x => Value.int .i64 (x - 1) :=
  List.map_congr_left fun x hx => by have := hr x hx; rw [IntWalk.wrap64_in _ (by omega)]
end Go.Proofs.Ytpajdopdbdflnaa
