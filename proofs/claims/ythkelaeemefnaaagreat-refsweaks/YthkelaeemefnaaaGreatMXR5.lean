/- RefsWeaks' heap: one cell of ints, and weak references to it. -/
import Derived.Test.YthkelaeemefnaaaGreatMXR3
import Derived.Test.YthkelaeemefnaaaGreatMC7
import Derived.Test.YthkelaeemefnaaaGreatMXR4
namespace Go.Proofs.YthkelaeemefnaaaGreat
open Go.RowKit
structure Wk13 (k : Nat) (R : List Int) (X : Cm) : Prop where
  T : X.T = 1
  W : X.W = 8192
  ph : X.ph = 0
  all : allB X.T X.A = true
  lk : ¬ X.tr.ln < X.tr.lw
  len : X.S.length = k + 1
  c0 : ∃ a, X.S[0]? = some (some ⟨2, 0, 3, a⟩)
  cw : ∀ i, 1 ≤ i → i ≤ k → ∃ a, X.S[i]? = some (some ⟨4, 10, 1, a⟩)
  fw : ∀ i, 1 ≤ i → i ≤ k → X.F i 0 = 1
  rt : X.rt 0 = R
  cy : 0 ≤ X.cy ∧ X.cy ≤ 100
  sum : sumS X.S = 19 + 17 * k
  cnt : cntS X.S = k + 1
section
variable {B : Nat} {w0 w w' : World} {rh hb k n c : Nat} {R : List Int} {X X' : Cm} {v : Value}
theorem Wk13.cel (h : Wk13 k R X) (i : Nat) (hi : i ≤ k) : ∃ cl, X.S[i]? = some (some cl) ∧ rfs X.S ((i : Int) + 1) = 0 ∧ isw X ((i : Int) + 1) = decide (1 ≤ i) ∧ (cl.kind = 4 → 1 ≤ cl.n) := by
  by_cases e : i = 0
  · subst e
    obtain ⟨a, ha⟩ := h.c0
    exact ⟨_, ha, by unfold rfs; rw [celOf_at, ha]; simp, by unfold isw; rw [celOf_at, ha]; simp, by simp⟩
  · obtain ⟨a, ha⟩ := h.cw i (by omega) hi
    exact ⟨_, ha, by unfold rfs; rw [celOf_at, ha]; simp, by unfold isw; rw [celOf_at, ha]; simp; omega, by simp⟩
theorem Wk13.mem (h : Wk13 k R X) (r : Int) : r ∈ nums 0 X.S ↔ 1 ≤ r ∧ r ≤ (k : Int) + 1 := by
  rw [nums_cel]
  constructor
  · rintro ⟨cl, hc⟩
    obtain ⟨i, rfl, hi⟩ := celOf_some hc
    have := (List.getElem?_eq_some_iff.1 hi).1
    rw [h.len] at this
    omega
  · intro hr
    obtain ⟨cl, hc, _⟩ := h.cel (r - 1).toNat (by omega)
    refine ⟨cl, ?_⟩
    have := celOf_at X.S (r - 1).toNat
    rw [hc, show (((r - 1).toNat : Nat) : Int) + 1 = r by omega] at this
    exact this
theorem Wk13.rfs0 (h : Wk13 k R X) (r : Int) : rfs X.S r = 0 := by
  cases hr : rfs X.S r with
  | zero => rfl
  | succ j =>
    obtain ⟨h1, cl, hc, _⟩ := rfs_kind (S := X.S) (r := r) (j := 0) (by omega)
    have hm := (h.mem r).1 (nums_cel.2 ⟨cl, hc⟩)
    obtain ⟨_, _, h2, _⟩ := h.cel (r - 1).toNat (by omega)
    rw [show (((r - 1).toNat : Nat) : Int) + 1 = r by omega] at h2
    omega
theorem Wk13.rq (h : Wk13 k R X) (hR : ∀ r ∈ R, r = 0 ∨ (1 ≤ r ∧ r ≤ (k : Int) + 1)) : Rq X [] [] := by
  refine ⟨h.ph, h.all, h.lk, ⟨fun t ht r hr => ?_, fun r _ j hj => by rw [h.rfs0] at hj; omega⟩, fun r hr => by simp at hr, fun r hr => by simp at hr, fun r cl hc h4 => ?_⟩
  · rw [h.T] at ht
    obtain rfl : t = 0 := by omega
    rw [h.rt] at hr
    exact (hR r hr).imp id (h.mem r).2
  · have hm := (h.mem r).1 (nums_cel.2 ⟨cl, hc⟩)
    obtain ⟨cl2, h1, _, _, h3⟩ := h.cel (r - 1).toNat (by omega)
    have := celOf_at X.S (r - 1).toNat
    rw [h1, show (((r - 1).toNat : Nat) : Int) + 1 = r by omega, hc] at this
    simp at this
    subst this
    exact h3 h4
/-- Who is reached: the roots alone. -/
theorem Wk13.reach (h : Wk13 k R X) (r : Int) : RchQ X [] r ↔ r ∈ R ∧ r ≠ 0 := by
  constructor
  · intro hr
    refine hr.least (P := fun r => r ∈ R ∧ r ≠ 0) (fun t ht x hx h0 => ?_) (fun x hx => by simp at hx) (fun x _ _ j hj => by rw [h.rfs0] at hj; omega)
    rw [h.T] at ht
    obtain rfl : t = 0 := by omega
    rw [h.rt] at hx
    exact ⟨hx, h0⟩
  · rintro ⟨h1, h2⟩
    exact RchQ.root (t := 0) (by rw [h.T]; omega) (by rw [h.rt]; exact h1) h2
/-- All are held: nothing is done. -/
theorem Wk13.held (h : Wk13 k R X) (hR : ∀ r, 1 ≤ r → r ≤ (k : Int) + 1 → r ∈ R) {u1 u2 : Int → Bool} (hc : Cyd X X' [] [] u1 u2) (hcy : X.cy ≤ 50) : clrd X u1 (nums 0 X.S) = [] ∧ Wk13 k R X' ∧ X'.m ≤ X.m + 3 * sumS X.S := by
  have hf : ∀ r, u1 r = false := fun r => by
    cases e : u1 r with
    | false => rfl
    | true =>
      obtain ⟨q1, q2⟩ := (hc.h1 r).1 e
      have := (h.mem r).1 q1
      exact absurd ((h.reach r).2 ⟨hR r this.1 this.2, by omega⟩) q2
  have hcl : clrd X u1 (nums 0 X.S) = [] := by
    unfold clrd
    rw [List.filter_eq_nil_iff]
    intro r _
    simp [hf]
  have hns : nums 0 X'.S = nums 0 X.S := by
    rw [hc.ns, List.filter_eq_self]
    intro r hr
    have := (h.mem r).1 hr
    refine (hc.h2 r hr).2 ?_
    rw [List.filter_nil, List.append_nil]
    exact (h.reach r).2 ⟨hR r this.1 this.2, by omega⟩
  have hS : X'.S = X.S := by
    refine List.ext_getElem? fun i => ?_
    by_cases hi : i ≤ k
    · obtain ⟨cl, h1, _⟩ := h.cel i hi
      have hm : ((i : Int) + 1) ∈ nums 0 X'.S := by rw [hns, h.mem]; omega
      have e := hc.cel _ hm
      rw [celOf_at, celOf_at, h1] at e
      cases q : X'.S[i]? with
      | none => rw [q] at e; simp at e
      | some o => rw [q] at e; simp at e; rw [e, h1]
    · rw [List.getElem?_eq_none (by rw [hc.len, h.len]; omega), List.getElem?_eq_none (by rw [h.len]; omega)]
  have hF : X'.F = X.F := by rw [hc.F, hcl, clrF_nil]
  have hcost := hc.cost
  rw [hS] at hcost
  refine ⟨hcl, ⟨hc.T.trans h.T, hc.W.trans h.W, hc.ph, hc.all, hc.lk, by rw [hS]; exact h.len, by rw [hS]; exact h.c0, by rw [hS]; exact h.cw, by rw [hF]; exact h.fw, by rw [hc.rt]; exact h.rt, by rw [hc.cy]; have := h.cy; omega, by rw [hS]; exact h.sum, by rw [hS]; exact h.cnt⟩, by omega⟩
/-- None is held: all are cleared, and go. -/
theorem Wk13.gone (h : Wk13 k R X) (hR : ∀ r ∈ R, r = 0) {u1 u2 : Int → Bool} (hc : Cyd X X' [] [] u1 u2) : (clrd X u1 (nums 0 X.S)).length = k ∧ nums 0 X'.S = [] := by
  have hno : ∀ r, ¬ RchQ X [] r := fun r hr => by
    obtain ⟨q1, q2⟩ := (h.reach r).1 hr
    exact q2 (hR r q1)
  have hu : ∀ r, u1 r = true ↔ 1 ≤ r ∧ r ≤ (k : Int) + 1 := fun r => by
    rw [hc.h1 r, h.mem]
    exact ⟨fun q => q.1, fun q => ⟨q, hno r⟩⟩
  constructor
  · have hnd : (clrd X u1 (nums 0 X.S)).Nodup := (rise_nodup (nums_rise 0 X.S)).filter _
    rw [← seg_len 1 k]
    refine same_len hnd (seg_nodup 1 k) fun r => ?_
    rw [seg_mem]
    unfold clrd
    rw [List.mem_filter, h.mem]
    simp only [Bool.and_eq_true]
    constructor
    · rintro ⟨q1, q2, _⟩
      obtain ⟨_, _, _, h3, _⟩ := h.cel (r - 1).toNat (by omega)
      rw [show (((r - 1).toNat : Nat) : Int) + 1 = r by omega, q2] at h3
      have : 1 ≤ (r - 1).toNat := by simpa using h3.symm
      omega
    · intro q
      obtain ⟨_, _, _, h3, _⟩ := h.cel (r - 1).toNat (by omega)
      rw [show (((r - 1).toNat : Nat) : Int) + 1 = r by omega] at h3
      refine ⟨by omega, by rw [h3]; simp; omega, ?_⟩
      have hw : wd X r 0 = 1 := h.fw (r - 1).toNat (by omega) (by omega)
      rw [hw, hu]; omega
  · rw [hc.ns, List.filter_eq_nil_iff]
    intro r hr
    intro q
    have := (hc.h2 r hr).1 q
    rw [List.filter_nil, List.append_nil] at this
    exact hno r this
end
end Go.Proofs.YthkelaeemefnaaaGreat
/- RefsWeaks' calls. -/
namespace Go.Proofs.YthkelaeemefnaaaGreat
open Go.RowKit
/-- The heap with k weak references, R the roots, and the law's own row v of n of them. -/
def WkS (B : Nat) (w0 : World) (rh hb k n : Nat) (R : List Int) (c : Nat) (v : Value) (w : World) : Prop := ∃ X Z vf vq, Sr B w0 w rh hb X Z vf vq [] [] (fun j => v.ownBlock = some j) ∧ Wk13 k R X ∧ (X.m ≤ c ∧ X.cy * 1000 ≤ (c : Int)) ∧ Ri w B v (seg 1 n)
section
variable {B : Nat} {w0 w w' : World} {rh hb k n c : Nat} {R : List Int} {X X' : Cm} {Z : Cx} {vf vq v : Value}
theorem WkS.of (hS : Sr B w0 w rh hb X Z vf vq [] [] (fun j => v.ownBlock = some j)) (hV : Ri w B v (seg 1 n)) (hT : RvT B w0 w rh hb Z vf vq X' [] [] w') (e : X'.T = X.T) (hW : Wk13 k R X') (hm : X'.m ≤ c ∧ X'.cy * 1000 ≤ (c : Int)) : WkS B w0 rh hb k n R c v w' := by
  obtain ⟨⟨Z1, vf1, vq1, k1⟩, k2⟩ := hS.call hT e
  exact ⟨X', Z1, vf1, vq1, k1, hW, hm, hV.of_block (fun j hj => k2 j hj)⟩
theorem WkS.bel (h : WkS B w0 rh hb k n R c v w) : Below B w0 w := let ⟨_, _, _, _, H, _⟩ := h; H.rv.cv.hv.bel
theorem WkS.most {c' : Nat} (h : WkS B w0 rh hb k n R c v w) (hc : c ≤ c') : WkS B w0 rh hb k n R c' v w := by
  obtain ⟨X, Z, vf, vq, h1, h2, h3, h4⟩ := h
  exact ⟨X, Z, vf, vq, h1, h2, by omega, h4⟩
theorem wk_make (H : Rv B w0 w rh hb (cm0 8192 1) Z (.slice none 0 0) (.slice none 0 0) [] []) : Calls Tryz.prog 13 #[.pointer (some ⟨rh, 0, none⟩), .int .i64 0, .int .i64 2, .int .i64 0, .int .i64 3, .bool false] w fun e w' => e = .returned (.tuple #[.int .i64 1, .int .i64 0]) ∧ WkS B w0 rh hb 0 0 [1] 500 (.slice none 0 0) w' := by
  refine (rmake_of H 0 2 0 3 false (.inl rfl) (R := fun x c w' => x = 1 ∧ c = 0 ∧ WkS B w0 rh hb 0 0 [1] 500 (.slice none 0 0) w') ?_).mono ?_
  · refine (cmake_ok H.cv (by show 0 ≤ 2000000; omega) 0 2 0 3 (show 0 < 1 by omega) ⟨by omega, ⟨by unfold kmin; split <;> omega, by unfold kmax; split <;> omega⟩, by omega⟩ (show 0 < 64 by omega) (by show 0 + (3 + 16) ≤ 8192 / 4; omega)).mono ?_
    rintro e w' ⟨i, S', a, c', rfl, hAd, hT⟩
    have hi : i = 0 := by rw [hAd.at_]; rfl
    subst hi
    have hSe : S' = [some ⟨2, 0, 3, a⟩] := by rw [hAd.eq]; rfl
    subst hSe
    refine ⟨_, _, rfl, rfl, rfl, ?_⟩
    have hT2 := H.heapT hT rfl
    have hs0 : Sr B w0 w rh hb (cm0 8192 1) Z (.slice none 0 0) (.slice none 0 0) [] [] (fun j => (Value.slice none 0 0).ownBlock = some j) := H.sr.less (fun k hk => by simp [Value.ownBlock] at hk)
    refine WkS.of (n := 0) hs0 (Ri.nil w B) hT2 rfl ⟨rfl, rfl, rfl, rfl, by show ¬ (0 : Int) < 0; omega, rfl, ⟨a, rfl⟩, fun i h1 h2 => by omega, fun i h1 h2 => by omega, rfl, ⟨by show (0 : Int) ≤ 0; omega, by show (0 : Int) ≤ 100; omega⟩, rfl, rfl⟩ ⟨Nat.le_refl _, by show (0 : Int) * 1000 ≤ _; omega⟩
  · rintro e w' ⟨x, c, rfl, rfl, rfl, h⟩
    exact ⟨rfl, h⟩
theorem wk_weak (h : WkS B w0 rh hb k n R c v w) (hk : k < 16) (hR : R.length ≤ 40) (hc : c ≤ 1000000) : Calls Tryz.prog 14 #[.pointer (some ⟨rh, 0, none⟩), .int .i64 0, .int .i64 1] w fun e w' => e = .returned (.tuple #[.int .i64 ((k : Int) + 2), .int .i64 0]) ∧ WkS B w0 rh hb (k + 1) n (R ++ [(k : Int) + 2]) (c + 501) v w' := by
  obtain ⟨X, Z, vf, vq, hS, hW, hm, hV⟩ := h
  obtain ⟨a0, ha0⟩ := hW.c0
  refine (rweak_of hS.rv 0 1 (R := fun x c1 w' => x = (k : Int) + 2 ∧ c1 = 0 ∧ WkS B w0 rh hb (k + 1) n (R ++ [(k : Int) + 2]) (c + 501) v w') ?_).mono ?_
  · refine (cweak_ok hS.rv.cv (by omega) 0 1 (by rw [hW.T]; omega) ha0 rfl (by rw [hW.rt]; omega) (by rw [hW.sum, hW.W]; omega)).mono ?_
    rintro e w' ⟨i, S', a, c', rfl, hAd, hT⟩
    have hi : i = k + 1 := by rw [hAd.at_, hW.len]
    subst hi
    refine ⟨_, _, rfl, by omega, rfl, ?_⟩
    refine WkS.of hS hV (hS.rv.heapT hT rfl) rfl ⟨hW.T, hW.W, hW.ph, hW.all, hW.lk, ?_, ?_, fun i h1 h2 => ?_, fun i h1 h2 => ?_, ?_, hW.cy, ?_, ?_⟩ ⟨by show X.m + 501 ≤ _; omega, by show X.cy * 1000 ≤ _; omega⟩
    · show S'.length = _
      rw [hAd.eq, List.length_append, hW.len]; rfl
    · show ∃ a, S'[0]? = _
      exact ⟨a0, by rw [hAd.old 0 (by omega)]; exact ha0⟩
    · show ∃ a, S'[i]? = _
      by_cases e : i = k + 1
      · subst e; exact ⟨a, hAd.new⟩
      · obtain ⟨a', h⟩ := hW.cw i h1 (by omega)
        exact ⟨a', by rw [hAd.old i e]; exact h⟩
    · show setF X.F (k + 1) (fun l => if l = 0 then 1 else 0) i 0 = 1
      by_cases e : i = k + 1
      · subst e; rw [setF_at]; rfl
      · rw [setF_else _ _ e]; exact hW.fw i h1 (by omega)
    · show setL X.rt 0 (X.rt 0 ++ [((k + 1 : Nat) : Int) + 1]) 0 = _
      rw [hW.rt]
      simp [setL]; omega
    · show sumS S' = _
      rw [hAd.eq, (sumS_more _ _).1, hW.sum]; simp only; omega
    · show cntS S' = _
      rw [hAd.eq, (sumS_more _ _).2, hW.cnt]
  · rintro e w' ⟨x, c1, rfl, rfl, rfl, h⟩
    exact ⟨rfl, h⟩
theorem wk_app {ao : Option Addr} {cap : Nat} (h : WkS B w0 rh hb k n R c (.slice ao n cap) w) (hn : n < 20) : ∃ ao' cap' w3, (appC #[32, 32] 32 #[.slice ao n cap, .slice (some ⟨w.heap.size, 0, none⟩) 1 1]).run Tryz.prog (w.alloc (.cells #[.int .i64 ((n : Int) + 2)] 3)) = .ok (.slice ao' (n + 1) cap') w3 ∧ WkS B w0 rh hb k (n + 1) R c (.slice ao' (n + 1) cap') w3 := by
  obtain ⟨X, Z, vf, vq, hS, hW, hm, hV⟩ := h
  obtain ⟨ao1, cap1, ao', cap', w3, q0, hrun, hU3, hS3, _, _⟩ := hS.app hV (fun k hk => hk) (by rw [seg_len]; omega) ((n : Int) + 2)
  rw [seg_len] at q0 hrun hU3 hS3
  simp at q0
  obtain ⟨rfl, rfl⟩ := q0
  refine ⟨ao', cap', w3, hrun, X, Z, vf, vq, hS3.less (fun k hk => .inr hk), hW, hm, ?_⟩
  have e : seg 1 (n + 1) = seg 1 n ++ [(n : Int) + 2] := by
    show seg 1 n ++ [((1 : Nat) : Int) + n + 1] = _
    rw [show ((1 : Nat) : Int) + n + 1 = (n : Int) + 2 by omega]
  rw [e]; exact hU3
theorem wk_cycle (h : WkS B w0 rh hb k n (seg 0 (k + 1)) c v w) (hk : k ≤ 16) (hc : c ≤ 50000) : Calls Tryz.prog 16 #[.pointer (some ⟨rh, 0, none⟩)] w fun e w' => ∃ a1 c1 a2 c2, e = .returned (.tuple #[.slice a1 0 c1, .slice a2 0 c2, .int .i64 0]) ∧ WkS B w0 rh hb k n (seg 0 (k + 1)) (c + 1000) v w' := by
  obtain ⟨X, Z, vf, vq, hS, hW, hm, hV⟩ := h
  have hsum := hW.sum
  have hcnt := hW.cnt
  refine (rcycle_ok hS.rv (hW.rq (fun r hr => .inr (by have := (seg_mem 0 (k + 1) r).1 hr; omega))) (by omega) ⟨hW.cy.1, by have := hW.cy.2; omega⟩ (by simp)).mono ?_
  rintro e w' ⟨X', u1, u2, vc, vd, rfl, hcd, hO, hvc, hvd, _⟩
  obtain ⟨q1, q2, q3⟩ := hW.held (fun r h1 h2 => by rw [seg_mem]; omega) hcd (by omega)
  rw [q1] at hvc
  obtain ⟨a1, c1, rfl⟩ := hvc.form
  obtain ⟨a2, c2, rfl⟩ := hvd.form
  refine ⟨a1, c1, a2, c2, rfl, ?_⟩
  exact WkS.of hS hV hO.t hcd.T q2 ⟨by omega, by have := hcd.cy; omega⟩
theorem wk_deref (h : WkS B w0 rh hb k n R c v w) {j : Nat} (hj : j < k) (hc : c ≤ 1000000) (r : Int) (hr : r = (j : Int) + 2) : Calls Tryz.prog 22 #[.pointer (some ⟨rh, 0, none⟩), .int .i64 0, .int .i64 r] w fun e w' => e = .returned (.tuple #[.int .i64 1, .int .i64 0]) ∧ WkS B w0 rh hb k n R (c + 1) v w' := by
  obtain ⟨X, Z, vf, vq, hS, hW, hm, hV⟩ := h
  obtain ⟨a, ha⟩ := hW.cw (j + 1) (by omega) (by omega)
  refine (rderef_ok hS.rv (by omega) 0 (by rw [hW.T]; omega) ha rfl (Nat.le_refl 1) r (by omega)).mono ?_
  rintro e w' ⟨rfl, c', hT⟩
  refine ⟨by rw [hW.fw (j + 1) (by omega) (by omega)], ?_⟩
  exact WkS.of hS hV hT rfl ⟨hW.T, hW.W, hW.ph, hW.all, hW.lk, hW.len, hW.c0, hW.cw, hW.fw, hW.rt, hW.cy, hW.sum, hW.cnt⟩ ⟨by show X.m + 1 ≤ _; omega, by show X.cy * 1000 ≤ _; omega⟩
theorem wk_pop {x : Int} (h : WkS B w0 rh hb k n (R ++ [x]) c v w) : Calls Tryz.prog 15 #[.pointer (some ⟨rh, 0, none⟩), .int .i64 0] w fun e w' => e = .returned (.tuple #[.int .i64 x, .int .i64 0]) ∧ WkS B w0 rh hb k n R c v w' := by
  obtain ⟨X, Z, vf, vq, hS, hW, hm, hV⟩ := h
  have et : X.popTr x = X.tr := if_neg (by rw [hW.ph]; omega)
  have hP := cpop_ok hS.rv.cv 0 (by rw [hW.T]; omega) hW.rt
  rw [et] at hP
  refine (rpop_of hS.rv 0 x 0 (X' := { X with rt := setL X.rt 0 R }) rfl hP).mono ?_
  rintro e w' ⟨rfl, hT⟩
  refine ⟨rfl, WkS.of hS hV hT rfl ⟨hW.T, hW.W, hW.ph, hW.all, hW.lk, hW.len, hW.c0, hW.cw, hW.fw, ?_, hW.cy, hW.sum, hW.cnt⟩ hm⟩
  show setL X.rt 0 R 0 = R
  simp [setL]
theorem wk_push (h : WkS B w0 rh hb k n R c v w) (hR : R.length ≤ 40) : Calls Tryz.prog 20 #[.pointer (some ⟨rh, 0, none⟩), .int .i64 0, .int .i64 0] w fun e w' => e = .returned (.int .i64 0) ∧ WkS B w0 rh hb k n (R ++ [0]) c v w' := by
  obtain ⟨X, Z, vf, vq, hS, hW, hm, hV⟩ := h
  have hP := cpush_ok hS.rv.cv 0 0 (by rw [hW.T]; omega) (by rw [hW.rt]; omega)
  refine (rpush_of hS.rv 0 0 0 (X' := { X with rt := setL X.rt 0 (X.rt 0 ++ [0]) }) rfl hP).mono ?_
  rintro e w' ⟨rfl, hT⟩
  refine ⟨rfl, WkS.of hS hV hT rfl ⟨hW.T, hW.W, hW.ph, hW.all, hW.lk, hW.len, hW.c0, hW.cw, hW.fw, ?_, hW.cy, hW.sum, hW.cnt⟩ hm⟩
  show setL X.rt 0 (X.rt 0 ++ [0]) 0 = _
  rw [hW.rt]
  simp [setL]
/-- The last cycle, and what is there behind it. -/
def WkE (B : Nat) (w0 : World) (rh : Nat) (w : World) : Prop := Below B w0 w ∧ Calls Tryz.prog 18 #[.pointer (some ⟨rh, 0, none⟩)] w fun e w' => ∃ a1 c1, e = .returned (.slice a1 0 c1) ∧ Below B w0 w'
theorem wk_last (h : WkS B w0 rh hb k n R c v w) (hk : k ≤ 16) (hc : c ≤ 1000000) (hR : ∀ r ∈ R, r = 0) : Calls Tryz.prog 16 #[.pointer (some ⟨rh, 0, none⟩)] w fun e w' => ∃ a1 c1 a2 c2, e = .returned (.tuple #[.slice a1 k c1, .slice a2 0 c2, .int .i64 0]) ∧ WkE B w0 rh w' := by
  obtain ⟨X, Z, vf, vq, hS, hW, hm, hV⟩ := h
  have hsum := hW.sum
  have hcnt := hW.cnt
  refine (rcycle_ok hS.rv (hW.rq (fun r hr => .inl (hR r hr))) (by omega) ⟨hW.cy.1, by have := hW.cy.2; omega⟩ (by simp)).mono ?_
  rintro e w' ⟨X', u1, u2, vc, vd, rfl, hcd, hO, hvc, hvd, _⟩
  obtain ⟨q1, q2⟩ := hW.gone hR hcd
  obtain ⟨a1, c1, rfl⟩ := hvc.form
  obtain ⟨a2, c2, rfl⟩ := hvd.form
  refine ⟨a1, c1, a2, c2, by rw [q1]; rfl, ?_⟩
  obtain ⟨Z1, vf1, vq1, S1, _, _, _⟩ := hO
  have hcost := hcd.cost
  have hB := S1.rv.cv.hv.bel
  refine ⟨hB, (rrefs_ok S1.rv (by omega)).mono ?_⟩
  rintro e w2 ⟨vr, rfl, hr, hb1⟩
  rw [q2] at hr
  obtain ⟨a3, c3, rfl⟩ := hr.form
  exact ⟨a3, c3, rfl, hB.trans (hb1.mono S1.rv.cv.hv.size)⟩
end
end Go.Proofs.YthkelaeemefnaaaGreat
/- The walk of RefsWeaks. -/
namespace Go.Proofs.YthkelaeemefnaaaGreat
open Go.RowKit
attribute [local go_sem ↓] app_C
theorem mask15r (n : Int) : ∃ s : Nat, bits BinOp.and .i64 n 15 = (s : Int) ∧ s < 16 := by
  have e : (BitVec.ofInt 64 n &&& BitVec.ofInt 64 15).toNat = (n % 18446744073709551616).toNat % 16 := by
    rw [BitVec.toNat_and, BitVec.toNat_ofInt, show (BitVec.ofInt 64 15).toNat = 2 ^ 4 - 1 from by decide, Nat.and_two_pow_sub_one_eq_mod]; rfl
  refine ⟨(n % 18446744073709551616).toNat % 16, ?_, by omega⟩
  show IntKind.i64.wrap ((BitVec.ofInt 64 n &&& BitVec.ofInt 64 15).toNat : Nat) = _
  rw [e, IntKind.wrap_i64]; omega
theorem mask3r (n : Int) : ∃ s : Nat, bits BinOp.and .i64 n 3 = (s : Int) ∧ s < 4 := by
  have e : (BitVec.ofInt 64 n &&& BitVec.ofInt 64 3).toNat = (n % 18446744073709551616).toNat % 4 := by
    rw [BitVec.toNat_and, BitVec.toNat_ofInt, show (BitVec.ofInt 64 3).toNat = 2 ^ 2 - 1 from by decide, Nat.and_two_pow_sub_one_eq_mod]; rfl
  refine ⟨(n % 18446744073709551616).toNat % 4, ?_, by omega⟩
  show IntKind.i64.wrap ((BitVec.ofInt 64 n &&& BitVec.ofInt 64 3).toNat : Nat) = _
  rw [e, IntKind.wrap_i64]; omega
section
variable {B : Nat} {w0 w : World} {rh hb k n c : Nat} {R : List Int}
theorem seg0_next (i : Nat) : seg 0 (i + 1) ++ [(i : Int) + 2] = seg 0 (i + 1 + 1) := by
  show _ = seg 0 (i + 1) ++ [((0 : Nat) : Int) + ((i + 1 : Nat) : Int) + 1]
  rw [show ((0 : Nat) : Int) + ((i + 1 : Nat) : Int) + 1 = (i : Int) + 2 by omega]
theorem wk_read {ao : Option Addr} {cap l : Nat} (h : WkS B w0 rh hb k n R c (.slice ao n cap) w) (hl : l < n) : ∃ p, ao = some ⟨p, 0, none⟩ ∧ w.cell? ⟨p, l, none⟩ = some (.int .i64 ((l : Int) + 2)) ∧ p < w.heap.size := by
  obtain ⟨X, Z, vf, vq, hS, hW, hm, hV⟩ := h
  obtain ⟨p, e, hp, _, _, hc⟩ := hV.cells (by rw [seg_len]; omega)
  refine ⟨p, e, ?_, hp.2⟩
  have := hc l _ (seg_get 1 hl)
  rw [this, show ((1 : Nat) : Int) + l + 1 = (l : Int) + 2 by omega]
end
set_option maxRecDepth 20000 in
set_option maxHeartbeats 4000000 in
theorem weaks_walk (x y : Int) (w : World) : Calls Tryz.prog 7 #[.int .i64 x, .int .i64 y] w fun e w' => e = .returned (.bool true) ∧ Below w.heap.size w w' := by
  obtain ⟨s, hs, hs16⟩ := mask15r x
  obtain ⟨q, hq, hq4⟩ := mask3r y
  obtain ⟨k, hk⟩ : ∃ k : Nat, k = 1 + s := ⟨_, rfl⟩
  have hki : (1 : Int) + (s : Int) = (k : Int) := by omega
  have hkb : 1 ≤ k ∧ k ≤ 16 := by omega
  clear hk hs16
  have hA := awake13 w
  go_enter Tryz.func7, Tryz.ntmps7
  go_wp2_with (first
    | (go_at_call 12; refine hA.mono ?_; rintro e w1 ⟨rfl, hb1⟩; clear hA; have hN := rnew_ok 8192 1 8192 1 w1 rfl rfl (by omega) (by omega))
    | (go_at_call 8; refine hN.mono ?_; rintro e w2 ⟨rh, hb, Z2, rfl, H2⟩; clear hN; have hM := wk_make H2; clear H2)
    | (go_at_call 13; refine hM.mono ?_; rintro e w3 ⟨rfl, hS⟩; have HS : Hid (WkS w1.heap.size w1 rh hb 0 0 [1] 500 (.slice none 0 0) w3) := hS; clear hM hS))
  go_loopg [10, 11, 12, 13] 20 (fun kx s10 s11 s12 s13 wr => ∃ (i : Nat) (ao : Option Addr) (cap : Nat), s10 = .slice ao i cap ∧ s11 = .int .i64 i ∧ i ≤ k ∧ k - i ≤ kx ∧ Hid (WkS w1.heap.size w1 rh hb i i (seg 0 (i + 1)) (500 + 501 * i) (.slice ao i cap) wr))
  case atStart => exact ⟨0, none, 0, rfl, rfl, by omega, by omega, HS.out⟩
  case round =>
    clear HS
    obtain ⟨i, ao, cap, rfl, rfl, hi, hkx, HI⟩ := hrel
    by_cases hik : i < k
    · have hl : (i : Int) < (k : Int) := by omega
      have hW := wk_weak HI.out (by omega) (by rw [seg_len]; omega) (by omega)
      rw [seg0_next] at hW
      clear HI
      go_wp2_with (first
        | (go_at_call 14; refine hW.mono ?_; rintro e w4 ⟨rfl, h4⟩; obtain ⟨ao', cap', w5, hrun, h5⟩ := wk_app h4 (by omega); have H5 : Hid (WkS w1.heap.size w1 rh hb (i + 1) (i + 1) (seg 0 (i + 1 + 1)) (500 + 501 * i + 501) (.slice ao' (i + 1) cap') w5) := h5; clear hW h4 h5)
        | (go_at_call 9; refine (num_any _ _).mono ?_; rintro e w9 ⟨rfl, hw9⟩; replace hw9 := hw9.symm; subst hw9))
      go_roundg (k - (i + 1))
      case measure => omega
      case rel => exact ⟨i + 1, ao', cap', rfl, by go_num, by omega, by omega, H5.out.most (by omega)⟩
    · obtain rfl : i = k := by omega
      have hl : ¬ (i : Int) < (i : Int) := by omega
      have H1 : Hid (WkS w1.heap.size w1 rh hb i i (seg 0 (i + 1)) 9000 (.slice ao i cap) wr) := HI.out.most (by omega)
      clear HI
      go_wp2_with fail
      go_loopg [14, 15, 16, 17, 18, 19, 20] 6 (fun kx s14 s15 s16 s17 s18 s19 s20 wx => ∃ j : Nat, s14 = .int .i64 j ∧ j ≤ q ∧ q - j ≤ kx ∧ Hid (WkS w1.heap.size w1 rh hb i i (seg 0 (i + 1)) (9000 + 1100 * j) (.slice ao i cap) wx))
      case atStart => exact ⟨0, rfl, by omega, by omega, H1⟩
      case round =>
        clear H1
        obtain ⟨j, rfl, hj, hjx, HJ⟩ := hrel
        by_cases hjq : j < q
        · have hl2 : (j : Int) < (q : Int) := by omega
          have hC := wk_cycle HJ.out (by omega) (by omega)
          clear HJ
          go_wp2_with (first
            | (go_at_call 16; refine hC.mono ?_; rintro e w6 ⟨a1, c1, a2, c2, rfl, h6⟩; have H6 : Hid (WkS w1.heap.size w1 rh hb i i (seg 0 (i + 1)) (9000 + 1100 * j + 1000) (.slice ao i cap) w6) := h6; clear hC h6)
            | (go_at_call 9; refine (num_any _ _).mono ?_; rintro e w9 ⟨rfl, hw9⟩; replace hw9 := hw9.symm; subst hw9))
          go_loopg [18, 19, 20] 20 (fun kx s18 s19 s20 wy => ∃ l : Nat, s18 = .int .i64 l ∧ l ≤ i ∧ i - l ≤ kx ∧ Hid (WkS w1.heap.size w1 rh hb i i (seg 0 (i + 1)) (9000 + 1100 * j + 1000 + l) (.slice ao i cap) wy))
          case atStart => exact ⟨0, rfl, by omega, by omega, H6.out.most (by omega)⟩
          case round =>
            clear H6
            obtain ⟨l, rfl, hl0, hlx, HL⟩ := hrel
            by_cases hli : l < i
            · have hl3 : (l : Int) < (i : Int) := by omega
              obtain ⟨p, hp, hcp, hpl⟩ := wk_read HL.out hli
              have hD := wk_deref HL.out hli (by omega) _ rfl
              subst hp
              clear HL
              go_wp2_with (first
                | (go_at_call 22; refine hD.mono ?_; rintro e w7 ⟨rfl, h7⟩; have H7 : Hid (WkS w1.heap.size w1 rh hb i i (seg 0 (i + 1)) (9000 + 1100 * j + 1000 + l + 1) (.slice (some ⟨p, 0, none⟩) i cap) w7) := h7; clear hD h7)
                | (go_at_call 9; refine (num_any _ _).mono ?_; rintro e w9 ⟨rfl, hw9⟩; replace hw9 := hw9.symm; subst hw9))
              go_roundg (i - (l + 1))
              case measure => omega
              case rel => exact ⟨l + 1, by go_num, by omega, by omega, H7.out.most (by omega)⟩
            · obtain rfl : l = i := by omega
              have hl3 : ¬ (l : Int) < (l : Int) := by omega
              have H8 : Hid (WkS w1.heap.size w1 rh hb l l (seg 0 (l + 1)) (9000 + 1100 * (j + 1)) (.slice ao l cap) wr) := HL.out.most (by omega)
              clear HL
              go_wp2_with fail
              go_roundg (q - (j + 1))
              case measure => omega
              case rel => exact ⟨j + 1, by go_num, by omega, by omega, H8⟩
        · obtain rfl : j = q := by omega
          have hl2 : ¬ (j : Int) < (j : Int) := by omega
          have H2 : Hid (WkS w1.heap.size w1 rh hb i i (seg 0 (i + 1)) 20000 (.slice ao i cap) wr) := HJ.out.most (by omega)
          clear HJ
          go_wp2_with fail
          go_loopg [21] 20 (fun kx s21 wy => ∃ l m : Nat, s21 = .int .i64 l ∧ l + m = i ∧ m ≤ kx ∧ Hid (WkS w1.heap.size w1 rh hb i i (seg 0 (m + 1)) 20000 (.slice ao i cap) wy))
          case atStart => exact ⟨0, i, rfl, by omega, by omega, H2⟩
          case round =>
            clear H2
            obtain ⟨l, m, rfl, hlm, hmx, HL⟩ := hrel
            have hP : Calls _ _ _ _ _ := wk_pop (R := seg 0 m) HL.out
            cases m with
            | zero =>
              obtain rfl : l = i := by omega
              have hl3 : ¬ (l : Int) < (l : Int) := by omega
              clear HL
              go_wp2_with (go_at_call 15; refine hP.mono ?_; rintro e w7 ⟨rfl, h7⟩; have H7 : Hid (WkS w1.heap.size w1 rh hb l l (List.replicate 0 0) 20000 (.slice ao l cap) w7) := h7; clear hP h7)
              go_loopg [22] 20 (fun kx s22 wz => ∃ z : Nat, s22 = .int .i64 z ∧ z ≤ l ∧ l - z ≤ kx ∧ Hid (WkS w1.heap.size w1 rh hb l l (List.replicate z 0) 20000 (.slice ao l cap) wz))
              case atStart => exact ⟨0, rfl, by omega, by omega, H7⟩
              case round =>
                clear H7
                obtain ⟨z, rfl, hz, hzx, HZ⟩ := hrel
                by_cases hzl : z < l
                · have hl4 : (z : Int) < (l : Int) := by omega
                  have hU := wk_push HZ.out (by rw [List.length_replicate]; omega)
                  rw [← List.replicate_succ'] at hU
                  clear HZ
                  go_wp2_with (go_at_call 20; refine hU.mono ?_; rintro e w8 ⟨rfl, h8⟩; have H8 : Hid (WkS w1.heap.size w1 rh hb l l (List.replicate (z + 1) 0) 20000 (.slice ao l cap) w8) := h8; clear hU h8)
                  go_roundg (l - (z + 1))
                  case measure => omega
                  case rel => exact ⟨z + 1, by go_num, by omega, by omega, H8⟩
                · obtain rfl : z = l := by omega
                  have hl4 : ¬ (z : Int) < (z : Int) := by omega
                  have hE := wk_last HZ.out (by omega) (by omega) (fun r hr => List.eq_of_mem_replicate hr)
                  clear HZ
                  go_wp2_with (first
                    | (go_at_call 16; refine hE.mono ?_; rintro e w8 ⟨a1, c1, a2, c2, rfl, h8, hR⟩; clear hE)
                    | (go_at_call 9; refine (num_any _ _).mono ?_; rintro e w9 ⟨rfl, hw9⟩; replace hw9 := hw9.symm; subst hw9)
                    | (go_at_call 18; refine hR.mono ?_; rintro e w9 ⟨a3, c3, rfl, hb9⟩; clear hR))
                  go_ret
                  exact ⟨rfl, hb1.trans (hb9.mono hb1.size)⟩
            | succ m =>
              have hl3 : (l : Int) < (i : Int) := by omega
              clear HL
              go_wp2_with (go_at_call 15; refine hP.mono ?_; rintro e w7 ⟨rfl, h7⟩; have H7 : Hid (WkS w1.heap.size w1 rh hb i i (seg 0 (m + 1)) 20000 (.slice ao i cap) w7) := h7; clear hP h7)
              go_roundg m
              case measure => omega
              case rel => exact ⟨l + 1, m, by go_num, by omega, by omega, H7⟩
end Go.Proofs.YthkelaeemefnaaaGreat
