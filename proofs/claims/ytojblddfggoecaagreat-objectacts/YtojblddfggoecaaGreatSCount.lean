/- Count: how many stand in the stack, at most so many. -/
import Derived.Test.YtojblddfggoecaaGreatSTakes
namespace Go.Proofs.YtojblddfggoecaaGreat
open Go.RowKit Go.Shelf
attribute [local go_sem] Oper.semAt_some

theorem count_zero (s : Nat) (m : Int) (hm : m ≤ 0) (w : World) :
    Calls Tryz.prog 76 #[.pointer (some ⟨s, 0, none⟩), .int .i64 m] w fun e w' => e = .returned (.int .i64 0) ∧ Below w.heap.size w w' := by
  refine (callsIn_wide (n := 5)).1 ?_
  refine callsIn_of_wp_marks Tryz.func76 rfl trivial ?_ rfl
  simp only [Tryz.ntmps76, List.size_toArray, List.length_cons, List.length_nil, Nat.reduceAdd, Nat.reduceSub, Array.replicate_succ, Array.replicate_zero, List.push_toArray, List.append_toArray, List.nil_append, List.cons_append]
  refine wpIn_wide.2 ?_
  go_wp2
  exact ⟨_, results_tmp rfl _ _ _, rfl, ((Below.refl _ w).alloc (Nat.le_refl _) _).alloc (by simp) _⟩
set_option maxRecDepth 100000 in
set_option maxHeartbeats 4000000 in
theorem count_pos {w : World} {P : Nat → Prop} {s b bw bs bt bu bl W G base cap : Nat} {ws cs : Nat → Int} {ops : Nat → Op} {ob : Nat → Nat} {T : Int} {xs : List Int} (h : Stk w P s b bw bs bt bu bl W G base cap ws cs ops ob) (hI : Inv base cap ws ops T xs) (hT : T ≤ 1000000000) (m R : Nat) (hm : 0 < m) (hm2 : m ≤ 100000) (hR : R = min m xs.length) :
    Calls Tryz.prog 76 #[.pointer (some ⟨s, 0, none⟩), .int .i64 m] w fun e w' => e = .returned (.int .i64 R) ∧ Below w.heap.size w w' := by
  have HR : Hid (R = min m xs.length) := hR
  clear hR
  have n1 := h.here.lt
  have hm0 : decide ((m : Int) ≤ 0) = false := by simp; omega
  refine (callsIn_wide (n := 5)).1 ?_
  refine callsIn_of_wp_marks Tryz.func76 rfl trivial ?_ rfl
  simp only [Tryz.ntmps76, List.size_toArray, List.length_cons, List.length_nil, Nat.reduceAdd, Nat.reduceSub, Array.replicate_succ, Array.replicate_zero, List.push_toArray, List.append_toArray, List.nil_append, List.cons_append]
  gi_wp2_with (refine ⟨trivial, ?_⟩; gi_at_call 97; refine (callsIn_wide.2 (downward_ok s _)).mono ?_; rintro e w' ⟨rfl, rfl⟩)
  have bM : Boxed (((w.alloc (.cells #[.int .i64 m] 3)).alloc (.cells #[.int .i64 0] 3)).alloc (.cells #[.pointer (some ⟨s, 0, none⟩)] 99)) w.heap.size 3 (.int .i64 m) := ((Boxed.new w 3 (.int .i64 m)).alloc _).alloc _
  have bC := (Boxed.new (w.alloc (.cells #[.int .i64 m] 3)) 3 (.int .i64 0)).alloc (.cells #[.pointer (some ⟨s, 0, none⟩)] 99)
  have bN := Boxed.new ((w.alloc (.cells #[.int .i64 m] 3)).alloc (.cells #[.int .i64 0] 3)) 99 (.pointer (some ⟨s, 0, none⟩))
  simp only [World.size_alloc] at bC bN
  have hB0 : Below w.heap.size w (((w.alloc (.cells #[.int .i64 m] 3)).alloc (.cells #[.int .i64 0] 3)).alloc (.cells #[.pointer (some ⟨s, 0, none⟩)] 99)) := (((Below.refl _ w).alloc (Nat.le_refl _) _).alloc (by simp) _).alloc (by simp; omega) _
  refine wpIn_rangeFunc_ownF (F := Fence.wide) (n := 5) rfl (by decide) (gf := 116) (lb := #[.pointer (some ⟨w.heap.size + 2, 0, none⟩)]) rfl trivial (enters_of Tryz.func116 (by kernel_rfl) rfl)
    (down_stops 4 (by decide) (w.heap.size + 2) h hI hT hB0 bN) kp_t (kp_b (by simp; omega) (by simp)) (Below.refl _ _) (fun _ => rfl)
    (fun pre W => ((pre.length < m ∧ Boxed W w.heap.size 3 (.int .i64 m) ∧ Boxed W (w.heap.size + 1) 3 (.int .i64 (pre.length : Nat))) ∧ Below w.heap.size w W) ∧ Boxed W (w.heap.size + 2) 99 (.pointer (some ⟨s, 0, none⟩)))
    (fun c pre W => (c = .exit 0 ∧ pre.length = m ∧ Boxed W (w.heap.size + 1) 3 (.int .i64 (m : Nat))) ∧ Below w.heap.size w W)
    (OwnFrom.and (OwnFrom.and (OwnFrom.and (ownFrom_pure _ _) (OwnFrom.and (Own.from (boxed_own _ _ _) _) (Own.from (boxed_own _ _ (fun pre : List Int => Value.int .i64 (pre.length : Nat))) _))) (ownFrom_below (Nat.le_refl _) (by simp; omega))) (Own.from (boxed_own _ _ _) _))
    (fun c => OwnFrom.and (OwnFrom.and (ownFrom_pure _ _) (OwnFrom.and (ownFrom_pure _ _) (Own.from (boxed_own _ _ _) _))) (ownFrom_below (Nat.le_refl _) (by simp; omega)))
    ⟨⟨⟨hm, bM, bC⟩, hB0⟩, bN⟩
    (fun x => { tmps := #[.pointer (some ⟨s, 0, none⟩), .int .i64 m, undef, .pointer (some ⟨w.heap.size, 0, none⟩), .int .i64 0, .pointer (some ⟨w.heap.size + 1, 0, none⟩), .pointer (some ⟨s, 0, none⟩), .bool false, .bool false, .int .i64 m, .bool false, .bool false, undef, .pointer (some ⟨s, 0, none⟩), .func (.func 116) #[] #[.pointer (some ⟨w.heap.size + 2, 0, none⟩)], .int .i64 x, undef, undef, undef, undef, undef, undef], defers := [] }) ?assign ?body ?done ?stop
  case assign =>
    intro l x W K hK
    gi_wp2
    simpa using hK
  case body =>
    rintro l pre x W ⟨⟨⟨hlt, hM, hC⟩, hB⟩, hN⟩ _
    have cM := hM.cell
    have cC := hC.cell
    have fC := hC.frozen
    have hC2 := hC.set (.int .i64 ((pre.length + 1 : Nat) : Int))
    have hM2 := hM.other (B' := w.heap.size + 1) (by omega) (.int .i64 ((pre.length + 1 : Nat) : Int))
    have hN2 := hN.other (B' := w.heap.size + 1) (by omega) (.int .i64 ((pre.length + 1 : Nat) : Int))
    have cM2 := hM2.cell
    have cC2 := hC2.cell
    have hlen : (pre ++ [x]).length = pre.length + 1 := by simp
    generalize hk : pre.length = k at *
    by_cases hx : k + 1 = m
    · have hx' : ((k : Int) + 1 == (m : Int)) = true := by simp; omega
      have hx2 : (((k + 1 : Nat) : Int) == (m : Int)) = true := by simp; omega
      gi_wp2
      refine ⟨KeepsOthers.setCell _ _ _, ⟨rfl, by rw [hlen]; exact hx, ?_⟩, hB.setCell (p := ⟨w.heap.size + 1, 0, none⟩) (by simp) _⟩
      rw [← hx]; exact hC2
    · have hx' : ((k : Int) + 1 == (m : Int)) = false := by simp; omega
      have hx2 : (((k + 1 : Nat) : Int) == (m : Int)) = false := by simp; omega
      gi_wp2
      exact ⟨KeepsOthers.setCell _ _ _, ⟨(Below.refl _ _).setCell (p := ⟨w.heap.size + 1, 0, none⟩) (by simp) _, hN2.trans hN.symm⟩, ⟨⟨by rw [hlen]; omega, hM2, by rw [hlen]; exact hC2⟩, hB.setCell (p := ⟨w.heap.size + 1, 0, none⟩) (by simp) _⟩, hN2⟩
  case done =>
    rintro D ys W hD rfl ⟨⟨⟨hlt, hM, hC⟩, hB⟩, hN⟩ hK
    have cC := hC.cell
    have hres : Hid (R = ys.length) := by rw [HR.out]; exact Nat.min_eq_right (by omega)
    gi_wp2
    refine ⟨by simp, .inl ⟨_, _, rfl, run_takeDeferred hK, ?_⟩⟩
    exact ⟨_, results_tmp rfl _ _ _, by rw [hres.out]; rfl, hB.trans (belowK_b (w := w) (Nat.le_refl _) W D _ _ (by have := hB0.size; simp at this hD; omega) hK rfl rfl)⟩
  case stop =>
    rintro D c pre W hD hpre ⟨⟨rfl, hlen, hC⟩, hB⟩ hK
    have cC := hC.cell
    have hres : Hid (R = m) := by rw [HR.out]; exact Nat.min_eq_left (by rw [← hlen]; exact hpre.length_le)
    gi_wp2
    refine ⟨by simp, .inl ⟨_, _, rfl, run_takeDeferred hK, ?_⟩⟩
    exact ⟨_, results_tmp rfl _ _ _, by rw [hres.out]; rfl, hB.trans (belowK_b (w := w) (Nat.le_refl _) W D _ _ (by have := hB0.size; simp at this hD; omega) hK rfl rfl)⟩
end Go.Proofs.YtojblddfggoecaaGreat
