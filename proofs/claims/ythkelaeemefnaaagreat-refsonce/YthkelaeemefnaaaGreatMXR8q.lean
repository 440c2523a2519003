/- RefsOnce's calls. -/
import Derived.Test.YthkelaeemefnaaaGreatMXR7q
import Derived.Test.YthkelaeemefnaaaGreatMXR4q
namespace Go.Proofs.YthkelaeemefnaaaGreat
open Go.RowKit
/-- Until the first cycle: n cells, the first k of them objects, the first m roots, the first f finalizable; v a row of the law's own. -/
def OnA (B : Nat) (w0 : World) (rh hb k n m f c : Nat) (v : Value) (U : List Int) (w : World) : Prop := ∃ X, RS B w0 rh hb X (seg 0 f) [] (fun j => v.ownBlock = some j) w ∧ (Fs 1 8192 k X ∧ Bd n X ∧ X.rt 0 = seg 0 m) ∧ (X.m + 500 * cntS X.S ≤ c ∧ X.cy * 1000 ≤ (c : Int)) ∧ Ri w B v U
/-- Behind it: k objects, the queue from the q-th on, the first m roots; v what was queued. -/
def OnB (B : Nat) (w0 : World) (rh hb k q m c : Nat) (v : Value) (w : World) : Prop := ∃ X, RS B w0 rh hb X [] ((seg 0 k).drop q) (fun j => v.ownBlock = some j) w ∧ (Fs 1 8192 k X ∧ nums 0 X.S = seg 0 k ∧ X.rt 0 = seg 0 m) ∧ (X.m + 500 * cntS X.S ≤ c ∧ X.cy * 1000 ≤ (c : Int)) ∧ Ri w B v (seg 0 k)
section
variable {B : Nat} {w0 w w' : World} {rh hb k n m f c q : Nat} {v : Value} {U : List Int} {X : Cm} {Z : Cx}
theorem OnA.new (H : Rv B w0 w rh hb (cm0 8192 1) Z (.slice none 0 0) (.slice none 0 0) [] []) (k : Nat) : OnA B w0 rh hb k 0 0 0 0 (.slice none 0 0) [] w :=
  ⟨_, (RS.new 8192 1 H).less (fun j hj => by simp [Value.ownBlock] at hj), ⟨⟨rfl, rfl, fun r j hj => by obtain ⟨_, c, hc, _⟩ := rfs_kind hj; have : celOf [] r = some c := hc; unfold celOf at this; split at this <;> simp at this, fun r cl hc => by have : celOf [] r = some cl := hc; unfold celOf at this; split at this <;> simp at this, Int.le_refl _⟩, Bd.nil _ _, rfl⟩, ⟨Nat.le_refl _, by show (0 : Int) * 1000 ≤ _; omega⟩, Ri.nil _ _⟩
theorem OnA.most {c' : Nat} (h : OnA B w0 rh hb k n m f c v U w) (hc : c ≤ c') : OnA B w0 rh hb k n m f c' v U w := by
  obtain ⟨X, h1, h2, h3, h4⟩ := h
  exact ⟨X, h1, h2, by omega, h4⟩
theorem OnB.most {c' : Nat} (h : OnB B w0 rh hb k q m c v w) (hc : c ≤ c') : OnB B w0 rh hb k q m c' v w := by
  obtain ⟨X, h1, h2, h3, h4⟩ := h
  exact ⟨X, h1, h2, by omega, h4⟩
/-- Another row, empty. -/
theorem OnA.drop (h : OnA B w0 rh hb k n m f c v U w) : OnA B w0 rh hb k n m f c (.slice none 0 0) [] w := by
  obtain ⟨X, h1, h2, h3, _⟩ := h
  exact ⟨X, h1.less (fun j hj => by simp [Value.ownBlock] at hj), h2, h3, Ri.nil _ _⟩
theorem on_make (h : OnA B w0 rh hb k n n n c v U w) (hn : n < 20) (hc : c ≤ 100000) : Calls Tryz.prog 13 #[.pointer (some ⟨rh, 0, none⟩), .int .i64 0, .int .i64 1, .int .i64 0, .int .i64 1, .bool true] w fun e w' => e = .returned (.tuple #[.int .i64 ((n : Int) + 1), .int .i64 0]) ∧ OnA B w0 rh hb k (n + 1) (n + 1) (n + 1) (c + 1000) v U w' := by
  obtain ⟨X, hS, ⟨hF, hB, hr⟩, hm, hV⟩ := h
  refine (rs_make hS (by omega) (by rw [seg_len]; omega) 0 1 0 1 (by rw [hF.T]; omega) (fits_obj (by omega) (by omega)) (by rw [hr, seg_len]; omega) (by rw [hB.sum, hF.W]; omega) true 0 rfl).mono ?_
  rintro e w' ⟨rfl, a, c', hT⟩
  rw [if_pos rfl, hB.len] at hT
  have es : seg 0 n ++ [(n : Int) + 1] = seg 0 (n + 1) := by
    show _ = seg 0 n ++ [((0 : Nat) : Int) + n + 1]
    rw [show ((0 : Nat) : Int) + (n : Int) + 1 = (n : Int) + 1 by omega]
  rw [es] at hT
  refine ⟨by rw [hB.len], _, hT.1, ⟨hF.made 0 0 1 a c', hB.more rfl rfl, ?_⟩, ⟨?_, ?_⟩, hV.of_block (fun j hj => hT.2.1 j hj)⟩
  · show setL X.rt 0 (X.rt 0 ++ [(X.S.length : Int) + 1]) 0 = _
    rw [hr, hB.len]
    simp [setL, es]
  · show X.m + 500 + 500 * cntS (X.S ++ [some ⟨1, 0, 1, a⟩]) ≤ _
    rw [(sumS_more _ _).2]; omega
  · show X.cy * 1000 ≤ _
    omega
theorem on_app {ao : Option Addr} {cap l : Nat} (h : OnA B w0 rh hb k n m f c (.slice ao l cap) U w) (hU : U.length = l) (hl : l ≤ 1000) (x : Int) : ∃ ao' cap' w3, (appC #[32, 32] 32 #[.slice ao l cap, .slice (some ⟨w.heap.size, 0, none⟩) 1 1]).run Tryz.prog (w.alloc (.cells #[.int .i64 x] 3)) = .ok (.slice ao' (l + 1) cap') w3 ∧ OnA B w0 rh hb k n m f c (.slice ao' (l + 1) cap') (U ++ [x]) w3 := by
  subst hU
  obtain ⟨X, hS, hF, hm, hV⟩ := h
  obtain ⟨ao1, cap1, ao', cap', w3, q0, hrun, hU3, hS3, _, _⟩ := hS.app hV (fun k hk => hk) (by omega) x
  simp at q0
  obtain ⟨rfl, rfl⟩ := q0
  exact ⟨ao', cap', w3, hrun, X, hS3.less (fun k hk => .inr hk), hF, hm, hU3⟩
theorem on_weak (h : OnA B w0 rh hb k n n f c v U w) (hn : n < 20) (hk : k ≤ n) (hc : c ≤ 100000) {i : Nat} (hi : i < k) (r : Int) (hr : r = (i : Int) + 1) : Calls Tryz.prog 14 #[.pointer (some ⟨rh, 0, none⟩), .int .i64 0, .int .i64 r] w fun e w' => (∃ x : Int, e = .returned (.tuple #[.int .i64 x, .int .i64 0])) ∧ OnA B w0 rh hb k (n + 1) (n + 1) f (c + 1100) v U w' := by
  obtain ⟨X, hS, ⟨hF, hB, hrt⟩, hm, hV⟩ := h
  obtain ⟨cl, hcl⟩ := nums_cel.1 (show r ∈ nums 0 X.S by rw [hB.ns, seg_mem]; omega)
  obtain ⟨i', e', hi'⟩ := celOf_some hcl
  refine (rs_weak hS (by omega) 0 r (by rw [hF.T]; omega) hi' e' (by rw [hrt, seg_len]; omega) (by rw [hB.sum, hF.W]; omega) 0 rfl).mono ?_
  rintro e w' ⟨rfl, a, c', hT⟩
  refine ⟨⟨_, rfl⟩, _, hT.1, ⟨hF.weaked (by rw [hB.len]; exact hk) 0 r a c', hB.more rfl rfl, ?_⟩, ⟨?_, ?_⟩, hV.of_block (fun j hj => hT.2.1 j hj)⟩
  · show setL X.rt 0 (X.rt 0 ++ [(X.S.length : Int) + 1]) 0 = _
    rw [hrt, hB.len, seg_up]
    simp [setL]
  · show X.m + 501 + 500 * cntS (X.S ++ [some ⟨4, 10, 1, a⟩]) ≤ _
    rw [(sumS_more _ _).2]; omega
  · show X.cy * 1000 ≤ _
    omega
theorem on_popA (h : OnA B w0 rh hb k n (m + 1) f c v U w) : Calls Tryz.prog 15 #[.pointer (some ⟨rh, 0, none⟩), .int .i64 0] w fun e w' => (∃ x : Int, e = .returned (.tuple #[.int .i64 x, .int .i64 0])) ∧ OnA B w0 rh hb k n m f c v U w' := by
  obtain ⟨X, hS, ⟨hF, hB, hrt⟩, hm, hV⟩ := h
  refine (rs_pop hS 0 (by rw [hF.T]; omega) (U := seg 0 m) (r := ((0 : Nat) : Int) + m + 1) hrt 0 rfl).mono ?_
  rintro e w' ⟨rfl, hT⟩
  refine ⟨⟨_, rfl⟩, _, hT.1, ⟨hF.rooted 0 _, ⟨hB.len, hB.sum, hB.cnt, hB.ns⟩, ?_⟩, hm, hV.of_block (fun j hj => hT.2.1 j hj)⟩
  show setL X.rt 0 (seg 0 m) 0 = _
  simp [setL]
theorem on_popB (h : OnB B w0 rh hb k q (m + 1) c v w) : Calls Tryz.prog 15 #[.pointer (some ⟨rh, 0, none⟩), .int .i64 0] w fun e w' => (∃ x : Int, e = .returned (.tuple #[.int .i64 x, .int .i64 0])) ∧ OnB B w0 rh hb k q m c v w' := by
  obtain ⟨X, hS, ⟨hF, hB, hrt⟩, hm, hV⟩ := h
  refine (rs_pop hS 0 (by rw [hF.T]; omega) (U := seg 0 m) (r := ((0 : Nat) : Int) + m + 1) hrt 0 rfl).mono ?_
  rintro e w' ⟨rfl, hT⟩
  refine ⟨⟨_, rfl⟩, _, hT.1, ⟨hF.rooted 0 _, hB, ?_⟩, hm, hV.of_block (fun j hj => hT.2.1 j hj)⟩
  show setL X.rt 0 (seg 0 m) 0 = _
  simp [setL]
/-- The first cycle: all objects are queued. -/
theorem on_first (h : OnA B w0 rh hb k n 0 k c v U w) (hk : k ≤ n) (hn : n ≤ 20) (hc : c ≤ 100000) : Calls Tryz.prog 16 #[.pointer (some ⟨rh, 0, none⟩)] w fun e w' => ∃ a1 n1 c1 a2 c2, e = .returned (.tuple #[.slice a1 n1 c1, .slice a2 k c2, .int .i64 0]) ∧ OnB B w0 rh hb k 0 0 (c + 2000) (.slice a2 k c2) w' := by
  obtain ⟨X, hS, ⟨hF, hB, hrt⟩, hm, hV⟩ := h
  have hsum := hB.sum
  have hcnt := hB.cnt
  refine (rs_cycle hS (by omega) ⟨hF.cy, by omega⟩ (by rw [seg_len]; simp; omega)).mono ?_
  rintro e w' ⟨X', u1, u2, vc, vd, rfl, hcd, hS', hvc, hvd, _, _, _⟩
  have hre : ∀ V r, RchQ X V r ↔ r ∈ V ∧ r ≠ 0 := fun V r => by
    rw [hF.flat.reach]
    constructor
    · rintro ⟨⟨t, ht, q⟩ | q, h0⟩
      · rw [hF.T] at ht
        obtain rfl : t = 0 := by omega
        rw [hrt] at q
        simp [seg] at q
      · exact ⟨q, h0⟩
    · rintro ⟨q, h0⟩
      exact ⟨.inr q, h0⟩
  have hu : ∀ r ∈ seg 0 k, u1 r = true := fun r hr => by
    refine (hcd.h1 r).2 ⟨by rw [hB.ns]; rw [seg_mem] at hr ⊢; omega, fun z => ?_⟩
    have := ((hre [] r).1 z).1
    simp at this
  have hf1 : (seg 0 k).filter u1 = seg 0 k := List.filter_eq_self.2 hu
  have hf2 : ((seg 0 k).filter fun r => !u1 r) = [] := by
    rw [List.filter_eq_nil_iff]
    intro r hr
    simp [hu r hr]
  rw [hf1] at hS' hvd
  rw [hf2, List.nil_append] at hS'
  obtain ⟨a1, c1, rfl⟩ := hvc.form
  obtain ⟨a2, c2, rfl⟩ := hvd.form
  have hns : nums 0 X'.S = seg 0 k := by
    rw [hcd.ns, hB.ns]
    refine seg_filter k n hk u2 (fun r hr => ?_)
    rw [hcd.h2 r (by rw [hB.ns]; exact hr), hre, hf1]
    have := (seg_mem 0 n r).1 hr
    simp only [List.nil_append]
    rw [seg_mem]
    omega
  have hcost := hcd.cost
  have hcy := hcd.cy
  rw [seg_len] at hS' hvd ⊢
  refine ⟨a1, _, c1, a2, c2, rfl, X', hS'.less (fun j hj => .inr (.inr hj)), ⟨hF.cyc hcd, hns, by rw [hcd.rt]; exact hrt⟩, ⟨by omega, by omega⟩, hvd⟩
theorem on_next (h : OnB B w0 rh hb k q q c v w) (hq : q < k) (hk : k ≤ 20) : Calls Tryz.prog 17 #[.pointer (some ⟨rh, 0, none⟩)] w fun e w' => e = .returned (.tuple #[.int .i64 ((q : Int) + 1), .bool true]) ∧ OnB B w0 rh hb k (q + 1) (q + 1) c v w' := by
  obtain ⟨X, hS, ⟨hF, hB, hrt⟩, hm, hV⟩ := h
  have hd : (seg 0 k).drop q = ((q : Int) + 1) :: (seg 0 k).drop (q + 1) := by
    rw [List.drop_eq_getElem_cons (by rw [seg_len]; exact hq)]
    congr 1
    have := seg_get 0 hq
    rw [List.getElem?_eq_getElem (by rw [seg_len]; exact hq)] at this
    simp at this
    rw [this]
  rw [hd] at hS
  refine (rs_next hS (by rw [hF.T]; omega) (by rw [hrt, seg_len]; omega)).mono ?_
  rintro e w' ⟨rfl, hT⟩
  refine ⟨rfl, _, hT.1, ⟨hF.rooted 0 _, hB, ?_⟩, hm, hV.of_block (fun j hj => hT.2.1 j hj)⟩
  show setL X.rt 0 (X.rt 0 ++ [(q : Int) + 1]) 0 = _
  rw [hrt, seg_up]
  simp [setL]
theorem on_refs (h : OnB B w0 rh hb k q m c v w) (hc : c ≤ 100000) : Calls Tryz.prog 18 #[.pointer (some ⟨rh, 0, none⟩)] w fun e w' => ∃ a1 c1, e = .returned (.slice a1 k c1) ∧ OnB B w0 rh hb k q m c v w' := by
  obtain ⟨X, hS, ⟨hF, hB, hrt⟩, hm, hV⟩ := h
  refine (rs_refs hS (by omega)).mono ?_
  rintro e w' ⟨vr, rfl, hr, _, hT⟩
  rw [hB] at hr
  obtain ⟨a1, c1, rfl⟩ := hr.form
  rw [seg_len]
  exact ⟨a1, c1, rfl, X, hT.1, ⟨hF, hB, hrt⟩, hm, hV.of_block (fun j hj => hT.2.1 j hj)⟩
/-- While all are held a cycle does nothing. -/
theorem on_held (h : OnB B w0 rh hb k k k c v w) (hc : c ≤ 100000) : Calls Tryz.prog 16 #[.pointer (some ⟨rh, 0, none⟩)] w fun e w' => ∃ a1 c1 a2 c2, e = .returned (.tuple #[.slice a1 0 c1, .slice a2 0 c2, .int .i64 0]) ∧ OnB B w0 rh hb k k k (c + 7000) v w' := by
  obtain ⟨X, hS, ⟨hF, hB, hrt⟩, hm, hV⟩ := h
  have hfit := hS.fit
  rw [hF.W] at hfit
  rw [List.drop_eq_nil_of_le (by rw [seg_len]; omega)] at hS
  refine (rs_cycle hS (by omega) ⟨hF.cy, by omega⟩ (by simp)).mono ?_
  rintro e w' ⟨X', u1, u2, vc, vd, rfl, hcd, hS', hvc, hvd, hst, _, _⟩
  obtain ⟨_, q1, q2, q3, q4⟩ := cyd_held hcd (fun r hr => (hF.flat.reach r).2 ⟨.inl ⟨0, by rw [hF.T]; omega, by rw [hrt, ← hB]; exact hr⟩, nums_pos hr⟩)
  rw [q1] at hvc
  rw [q2] at hvd hS'
  rw [q3] at hS'
  obtain ⟨a1, c1, rfl⟩ := hvc.form
  obtain ⟨a2, c2, rfl⟩ := hvd.form
  have hcost := hcd.cost
  have hcy := hcd.cy
  refine ⟨a1, c1, a2, c2, rfl, X', ?_, ⟨hF.cyc hcd, q4.trans hB, by rw [hcd.rt]; exact hrt⟩, ⟨by omega, by omega⟩, hV.of_block (fun j hj => hst j hj)⟩
  rw [List.drop_eq_nil_of_le (by rw [seg_len]; omega)]
  exact hS'.less (fun j hj => .inl hj)
/-- The last: all go, none is queued or cleared. -/
theorem on_last (h : OnB B w0 rh hb k k 0 c v w) (hc : c ≤ 100000) : Calls Tryz.prog 16 #[.pointer (some ⟨rh, 0, none⟩)] w fun e w' => ∃ a1 c1 a2 c2, e = .returned (.tuple #[.slice a1 0 c1, .slice a2 0 c2, .int .i64 0]) ∧ Calls Tryz.prog 18 #[.pointer (some ⟨rh, 0, none⟩)] w' fun e w' => ∃ a1 c1, e = .returned (.slice a1 0 c1) ∧ Below B w0 w' := by
  obtain ⟨X, hS, ⟨hF, hB, hrt⟩, hm, hV⟩ := h
  have hfit := hS.fit
  rw [hF.W] at hfit
  rw [List.drop_eq_nil_of_le (by rw [seg_len]; omega)] at hS
  refine (rs_cycle hS (by omega) ⟨hF.cy, by omega⟩ (by simp)).mono ?_
  rintro e w' ⟨X', u1, u2, vc, vd, rfl, hcd, hS', hvc, hvd, hst, _, _⟩
  have hno : ∀ r, ¬ RchQ X [] r := fun r hr => by
    rcases (hF.flat.reach r).1 hr with ⟨⟨t, ht, q⟩ | q, h0⟩
    · rw [hF.T] at ht
      obtain rfl : t = 0 := by omega
      rw [hrt] at q
      simp [seg] at q
    · simp at q
  have hcl : clrd X u1 (nums 0 X.S) = [] := by
    unfold clrd
    rw [List.filter_eq_nil_iff]
    intro r hr
    obtain ⟨cl, hc1⟩ := nums_cel.1 hr
    have hk1 := hF.obj r cl hc1 (by rw [hB, seg_mem] at hr; omega)
    have : isw X r = false := by unfold isw; rw [hc1]; simp [hk1]
    simp [this]
  have hns : nums 0 X'.S = [] := by
    rw [hcd.ns, List.filter_eq_nil_iff]
    intro r hr z
    have := (hcd.h2 r hr).1 z
    exact hno r this
  rw [hcl] at hvc
  obtain ⟨a1, c1, rfl⟩ := hvc.form
  obtain ⟨a2, c2, rfl⟩ := hvd.form
  have hcost := hcd.cost
  refine ⟨a1, c1, a2, c2, rfl, (rs_refs hS' (by omega)).mono ?_⟩
  rintro e w2 ⟨vr, rfl, hr, _, hT⟩
  rw [hns] at hr
  obtain ⟨a3, c3, rfl⟩ := hr.form
  exact ⟨a3, c3, rfl, hT.1.bel⟩
theorem on_readA {ao : Option Addr} {cap l q : Nat} (h : OnA B w0 rh hb k n m f c (.slice ao q cap) U w) {x : Int} (hl : U[l]? = some x) : ∃ p, ao = some ⟨p, 0, none⟩ ∧ w.cell? ⟨p, l, none⟩ = some (.int .i64 x) ∧ p < w.heap.size := by
  obtain ⟨X, hS, _, _, hV⟩ := h
  obtain ⟨p, e, hp, _, _, hc⟩ := hV.cells (by cases U with | nil => simp at hl | cons a r => simp)
  exact ⟨p, e, hc l _ hl, hp.2⟩
theorem on_readB {ao : Option Addr} {cap l : Nat} (h : OnB B w0 rh hb k q m c (.slice ao k cap) w) (hl : l < k) : ∃ p, ao = some ⟨p, 0, none⟩ ∧ w.cell? ⟨p, l, none⟩ = some (.int .i64 ((l : Int) + 1)) ∧ p < w.heap.size := by
  obtain ⟨X, hS, _, _, hV⟩ := h
  obtain ⟨p, e, hp, _, _, hc⟩ := hV.cells (by rw [seg_len]; omega)
  refine ⟨p, e, ?_, hp.2⟩
  rw [hc l _ (seg_get 0 hl), show ((0 : Nat) : Int) + l + 1 = (l : Int) + 1 by omega]
end
end Go.Proofs.YthkelaeemefnaaaGreat
/- The walk of RefsOnce. -/
namespace Go.Proofs.YthkelaeemefnaaaGreat
open Go.RowKit
attribute [local go_sem ↓] app_C
theorem mask7o (n : Int) : ∃ s : Nat, bits BinOp.and .i64 n 7 = (s : Int) ∧ s < 8 := by
  have e : (BitVec.ofInt 64 n &&& BitVec.ofInt 64 7).toNat = (n % 18446744073709551616).toNat % 8 := by
    rw [BitVec.toNat_and, BitVec.toNat_ofInt, show (BitVec.ofInt 64 7).toNat = 2 ^ 3 - 1 from by decide, Nat.and_two_pow_sub_one_eq_mod]; rfl
  refine ⟨(n % 18446744073709551616).toNat % 8, ?_, by omega⟩
  show IntKind.i64.wrap ((BitVec.ofInt 64 n &&& BitVec.ofInt 64 7).toNat : Nat) = _
  rw [e, IntKind.wrap_i64]; omega
theorem mask3o (n : Int) : ∃ s : Nat, bits BinOp.and .i64 n 3 = (s : Int) ∧ s < 4 := by
  have e : (BitVec.ofInt 64 n &&& BitVec.ofInt 64 3).toNat = (n % 18446744073709551616).toNat % 4 := by
    rw [BitVec.toNat_and, BitVec.toNat_ofInt, show (BitVec.ofInt 64 3).toNat = 2 ^ 2 - 1 from by decide, Nat.and_two_pow_sub_one_eq_mod]; rfl
  refine ⟨(n % 18446744073709551616).toNat % 4, ?_, by omega⟩
  show IntKind.i64.wrap ((BitVec.ofInt 64 n &&& BitVec.ofInt 64 3).toNat : Nat) = _
  rw [e, IntKind.wrap_i64]; omega
theorem seg0_up (i : Nat) : seg 0 i ++ [(i : Int) + 1] = seg 0 (i + 1) := by
  show _ = seg 0 i ++ [((0 : Nat) : Int) + i + 1]
  rw [show ((0 : Nat) : Int) + (i : Int) + 1 = (i : Int) + 1 by omega]
set_option maxRecDepth 20000 in
set_option maxHeartbeats 4000000 in
theorem once_walk (x y : Int) (w : World) : Calls Tryz.prog 4 #[.int .i64 x, .int .i64 y] w fun e w' => e = .returned (.bool true) ∧ Below w.heap.size w w' := by
  obtain ⟨s, hs, hs8⟩ := mask7o x
  obtain ⟨q, hq, hq4⟩ := mask3o y
  obtain ⟨k, hk⟩ : ∃ k : Nat, k = 1 + s := ⟨_, rfl⟩
  have hki : (1 : Int) + (s : Int) = (k : Int) := by omega
  have hkb : 1 ≤ k ∧ k ≤ 8 := by omega
  clear hk hs8
  have hA := awake13 w
  go_enter Tryz.func4, Tryz.ntmps4
  go_wp2_with (first
    | (go_at_call 12; refine hA.mono ?_; rintro e w1 ⟨rfl, hb1⟩; clear hA; have hN := rnew_ok 8192 1 8192 1 w1 rfl rfl (by omega) (by omega))
    | (go_at_call 8; refine hN.mono ?_; rintro e w2 ⟨rh, hb, Z2, rfl, H2⟩; clear hN; have HS : Hid (OnA w1.heap.size w1 rh hb k 0 0 0 0 (.slice none 0 0) (seg 0 0) w2) := OnA.new H2 k; clear H2))
  go_loopg [8, 10, 11, 12] 20 (fun kx s8 s10 s11 s12 wr => ∃ (i : Nat) (ao : Option Addr) (cap : Nat), s8 = .slice ao i cap ∧ s10 = .int .i64 i ∧ i ≤ k ∧ k - i ≤ kx ∧ Hid (OnA w1.heap.size w1 rh hb k i i i (1000 * i) (.slice ao i cap) (seg 0 i) wr))
  case atStart => exact ⟨0, none, 0, rfl, rfl, by omega, by omega, HS⟩
  case round =>
    clear HS
    obtain ⟨i, ao, cap, rfl, rfl, hi, hkx, HI⟩ := hrel
    by_cases hik : i < k
    · have hl : (i : Int) < (k : Int) := by omega
      have hM := on_make HI.out (by omega) (by omega)
      clear HI
      go_wp2_with (first
        | (go_at_call 13; refine hM.mono ?_; rintro e w4 ⟨rfl, h4⟩; obtain ⟨ao', cap', w5, hrun, h5⟩ := on_app h4 (seg_len 0 i) (by omega) ((i : Int) + 1); have H5 : Hid (OnA w1.heap.size w1 rh hb k (i + 1) (i + 1) (i + 1) (1000 * i + 1000) (.slice ao' (i + 1) cap') (seg 0 i ++ [(i : Int) + 1]) w5) := h5; clear hM h4 h5)
        | (go_at_call 9; refine (num_any _ _).mono ?_; rintro e w9 ⟨rfl, hw9⟩; replace hw9 := hw9.symm; subst hw9))
      go_roundg (k - (i + 1))
      case measure => omega
      case rel => exact ⟨i + 1, ao', cap', rfl, by go_num, by omega, by omega, (seg0_up i) ▸ H5.out⟩
    · obtain rfl : i = k := by omega
      have hl : ¬ (i : Int) < (i : Int) := by omega
      have H1 : Hid (OnA w1.heap.size w1 rh hb i (i + 0) (i + 0) i 8000 (.slice ao i cap) (seg 0 i) wr) := HI.out.most (by omega)
      clear HI
      go_wp2_with fail
      go_loopg [13] 20 (fun kx s13 wx => ∃ j : Nat, s13 = .int .i64 j ∧ j ≤ i ∧ i - j ≤ kx ∧ Hid (OnA w1.heap.size w1 rh hb i (i + j) (i + j) i (8000 + 1100 * j) (.slice ao i cap) (seg 0 i) wx))
      case atStart => exact ⟨0, rfl, by omega, by omega, H1⟩
      case round =>
        clear H1
        obtain ⟨j, rfl, hj, hjx, HJ⟩ := hrel
        by_cases hji : j < i
        · have hl2 : (j : Int) < (i : Int) := by omega
          obtain ⟨p, hp, hcp, hpl⟩ := on_readA HJ.out (seg_get 0 hji)
          have hW := on_weak HJ.out (by omega) (by omega) (by omega) hji (((0 : Nat) : Int) + j + 1) (by omega)
          subst hp
          clear HJ
          generalize ((0 : Nat) : Int) + (j : Int) + 1 = rj at *
          go_wp2_with (go_at_call 14; refine hW.mono ?_; rintro e w4 ⟨⟨x4, rfl⟩, h4⟩; have H4 : Hid (OnA w1.heap.size w1 rh hb i (i + j + 1) (i + j + 1) i (8000 + 1100 * j + 1100) (.slice (some ⟨p, 0, none⟩) i cap) (seg 0 i) w4) := h4; clear hW h4)
          go_roundg (i - (j + 1))
          case measure => omega
          case rel => exact ⟨j + 1, by go_num, by omega, by omega, H4.out.most (by omega)⟩
        · obtain rfl : j = i := by omega
          have hl2 : ¬ (j : Int) < (j : Int) := by omega
          have H2 : Hid (OnA w1.heap.size w1 rh hb j (j + j) (j + j) j 20000 (.slice none 0 0) [] wr) := (HJ.out.most (by omega)).drop
          clear HJ
          go_wp2_with fail
          go_loopg [9, 14, 15, 16] 20 (fun kx s9 s14 s15 s16 wx => ∃ (l m : Nat) (U : List Int) (a9 : Option Addr) (c9 : Nat), s9 = .slice a9 l c9 ∧ s14 = .int .i64 l ∧ U.length = l ∧ l + m = j ∧ m ≤ kx ∧ Hid (OnA w1.heap.size w1 rh hb j (j + j) (j + m) j 20000 (.slice a9 l c9) U wx))
          case atStart => exact ⟨0, j, [], none, 0, rfl, rfl, rfl, by omega, by omega, H2⟩
          case round =>
            clear H2
            obtain ⟨l, m, U, a9, c9, rfl, rfl, hU, hlm, hmx, HL⟩ := hrel
            cases m with
            | succ m =>
              have hl3 : (l : Int) < (j : Int) := by omega
              have hP : Calls _ _ _ _ _ := on_popA (m := j + m) HL.out
              have HU : Hid (U.length = l) := hU
              clear HL hU
              go_wp2_with (go_at_call 15; refine hP.mono ?_; rintro e w4 ⟨⟨x4, rfl⟩, h4⟩; obtain ⟨ao', cap', w5, hrun, h5⟩ := on_app h4 HU.out (by omega) x4; have H5 : Hid (OnA w1.heap.size w1 rh hb j (j + j) (j + m) j 20000 (.slice ao' (l + 1) cap') (U ++ [x4]) w5) := h5; clear hP h4 h5)
              go_roundg m
              case measure => omega
              case rel => exact ⟨l + 1, m, U ++ [x4], ao', cap', rfl, by go_num, by rw [List.length_append, HU.out]; rfl, by omega, by omega, H5⟩
            | zero =>
              obtain rfl : l = j := by omega
              have hl3 : ¬ (l : Int) < (l : Int) := by omega
              have H3 : Hid (OnA w1.heap.size w1 rh hb l (l + l) l l 20000 (.slice none 0 0) [] wr) := HL.out.drop
              clear HL hU
              go_wp2_with fail
              go_loopg [17] 20 (fun kx s17 wx => ∃ l2 m : Nat, s17 = .int .i64 l2 ∧ l2 + m = l ∧ m ≤ kx ∧ Hid (OnA w1.heap.size w1 rh hb l (l + l) m l 20000 (.slice none 0 0) [] wx))
              case atStart => exact ⟨0, l, rfl, by omega, by omega, H3⟩
              case round =>
                clear H3
                obtain ⟨l2, m, rfl, hlm2, hmx2, HL⟩ := hrel
                cases m with
                | succ m =>
                  have hl4 : (l2 : Int) < (l : Int) := by omega
                  have hP : Calls _ _ _ _ _ := on_popA (m := m) HL.out
                  clear HL
                  go_wp2_with (go_at_call 15; refine hP.mono ?_; rintro e w4 ⟨⟨x4, rfl⟩, h4⟩; have H4 : Hid (OnA w1.heap.size w1 rh hb l (l + l) m l 20000 (.slice none 0 0) [] w4) := h4; clear hP h4)
                  go_roundg m
                  case measure => omega
                  case rel => exact ⟨l2 + 1, m, by go_num, by omega, by omega, H4⟩
                | zero =>
                  obtain rfl : l2 = l := by omega
                  have hl4 : ¬ (l2 : Int) < (l2 : Int) := by omega
                  have hC := on_first HL.out (by omega) (by omega) (by omega)
                  clear HL
                  go_wp2_with (first
                    | (go_at_call 16; refine hC.mono ?_; rintro e w4 ⟨a1, n1, c1, a2, c2, rfl, h4⟩; have H4 : Hid (OnB w1.heap.size w1 rh hb l2 0 0 22000 (.slice a2 l2 c2) w4) := h4; clear hC h4)
                    | (go_at_call 9; refine (num_any _ _).mono ?_; rintro e w9 ⟨rfl, hw9⟩; replace hw9 := hw9.symm; subst hw9))
                  go_loopg [21, 22, 23] 20 (fun kx s21 s22 s23 wx => ∃ z : Nat, s21 = .int .i64 z ∧ z ≤ l2 ∧ l2 - z ≤ kx ∧ Hid (OnB w1.heap.size w1 rh hb l2 z z 22000 (.slice a2 l2 c2) wx))
                  case atStart => exact ⟨0, rfl, by omega, by omega, H4⟩
                  case round =>
                    clear H4
                    obtain ⟨z, rfl, hz, hzx, HZ⟩ := hrel
                    by_cases hzl : z < l2
                    · have hl5 : (z : Int) < (l2 : Int) := by omega
                      have hX := on_next HZ.out hzl (by omega)
                      have HZ2 : Hid (∀ w', OnB w1.heap.size w1 rh hb l2 (z + 1) (z + 1) 22000 (.slice a2 l2 c2) w' → ∃ p, a2 = some ⟨p, 0, none⟩ ∧ w'.cell? ⟨p, z, none⟩ = some (.int .i64 ((z : Int) + 1)) ∧ p < w'.heap.size) := fun w' h => on_readB h hzl
                      obtain ⟨p, hp, _, _⟩ := on_readB HZ.out hzl
                      subst hp
                      clear HZ
                      go_wp2_with (go_at_call 17; refine hX.mono ?_; rintro e w5 ⟨rfl, h5⟩; obtain ⟨p5, hp5, hcp, hpl⟩ := HZ2.out w5 h5; have H5 : Hid (OnB w1.heap.size w1 rh hb l2 (z + 1) (z + 1) 22000 (.slice (some ⟨p, 0, none⟩) l2 c2) w5) := h5; simp only [Option.some.injEq, Addr.mk.injEq, and_true] at hp5; subst hp5; clear hX h5 HZ2)
                      go_roundg (l2 - (z + 1))
                      case measure => omega
                      case rel => exact ⟨z + 1, by go_num, by omega, by omega, H5⟩
                    · obtain rfl : z = l2 := by omega
                      have hl5 : ¬ (z : Int) < (z : Int) := by omega
                      have H5 : Hid (OnB w1.heap.size w1 rh hb z z z 22000 (.slice a2 z c2) wr) := HZ
                      clear HZ
                      go_wp2_with fail
                      go_loopg [24, 25, 26, 27] 20 (fun kx s24 s25 s26 s27 wx => ∃ g : Nat, s24 = .int .i64 g ∧ g ≤ q ∧ q - g ≤ kx ∧ Hid (OnB w1.heap.size w1 rh hb z z z (22000 + 7000 * g) (.slice a2 z c2) wx))
                      case atStart => exact ⟨0, rfl, by omega, by omega, H5⟩
                      case round =>
                        clear H5
                        obtain ⟨g, rfl, hg, hgx, HG⟩ := hrel
                        by_cases hgq : g < q
                        · have hl6 : (g : Int) < (q : Int) := by omega
                          have hC := on_held HG.out (by omega)
                          clear HG
                          go_wp2_with (first
                            | (go_at_call 16; refine hC.mono ?_; rintro e w6 ⟨a3, c3, a4, c4, rfl, h6⟩; have hR := on_refs h6 (by omega); clear hC h6)
                            | (go_at_call 9; refine (num_any _ _).mono ?_; rintro e w9 ⟨rfl, hw9⟩; replace hw9 := hw9.symm; subst hw9)
                            | (go_at_call 18; refine hR.mono ?_; rintro e w7 ⟨a5, c5, rfl, h7⟩; have H7 : Hid (OnB w1.heap.size w1 rh hb z z z (22000 + 7000 * g + 7000) (.slice a2 z c2) w7) := h7; clear hR h7))
                          go_roundg (q - (g + 1))
                          case measure => omega
                          case rel => exact ⟨g + 1, by go_num, by omega, by omega, H7.out.most (by omega)⟩
                        · obtain rfl : g = q := by omega
                          have hl6 : ¬ (g : Int) < (g : Int) := by omega
                          have H6 : Hid (OnB w1.heap.size w1 rh hb z z z 50000 (.slice a2 z c2) wr) := HG.out.most (by omega)
                          clear HG
                          go_wp2_with fail
                          go_loopg [28] 20 (fun kx s28 wx => ∃ l3 m : Nat, s28 = .int .i64 l3 ∧ l3 + m = z ∧ m ≤ kx ∧ Hid (OnB w1.heap.size w1 rh hb z z m 50000 (.slice a2 z c2) wx))
                          case atStart => exact ⟨0, z, rfl, by omega, by omega, H6⟩
                          case round =>
                            clear H6
                            obtain ⟨l3, m, rfl, hlm3, hmx3, HL⟩ := hrel
                            cases m with
                            | succ m =>
                              have hl7 : (l3 : Int) < (z : Int) := by omega
                              have hP : Calls _ _ _ _ _ := on_popB (m := m) HL.out
                              clear HL
                              go_wp2_with (go_at_call 15; refine hP.mono ?_; rintro e w8 ⟨⟨x8, rfl⟩, h8⟩; have H8 : Hid (OnB w1.heap.size w1 rh hb z z m 50000 (.slice a2 z c2) w8) := h8; clear hP h8)
                              go_roundg m
                              case measure => omega
                              case rel => exact ⟨l3 + 1, m, by go_num, by omega, by omega, H8⟩
                            | zero =>
                              obtain rfl : l3 = z := by omega
                              have hl7 : ¬ (l3 : Int) < (l3 : Int) := by omega
                              have hC := on_last HL.out (by omega)
                              clear HL
                              go_wp2_with (first
                                | (go_at_call 16; refine hC.mono ?_; rintro e w8 ⟨a3, c3, a4, c4, rfl, hR⟩; clear hC)
                                | (go_at_call 9; refine (num_any _ _).mono ?_; rintro e w9 ⟨rfl, hw9⟩; replace hw9 := hw9.symm; subst hw9)
                                | (go_at_call 18; refine hR.mono ?_; rintro e w9 ⟨a5, c5, rfl, hb9⟩; clear hR))
                              go_ret
                              exact ⟨rfl, hb1.trans (hb9.mono hb1.size)⟩
end Go.Proofs.YthkelaeemefnaaaGreat
