/- RefsChains' heap: a chain of objects, the first finalizable, and a weak reference to the last. -/
import Derived.Test.YthkelaeemefnaaaGreatMXR3
import Derived.Test.YthkelaeemefnaaaGreatMC7
import Derived.Test.YthkelaeemefnaaaGreatMXR4
namespace Go.Proofs.YthkelaeemefnaaaGreat
open Go.RowKit
/-- Objects 1 to k + 1, each names the next; b: the weak reference k + 2 is there; R the roots. -/
structure Ch13 (k : Nat) (b : Bool) (R : List Int) (X : Cm) : Prop where
  T : X.T = 1
  W : X.W = 8192
  ph : X.ph = 0
  all : allB X.T X.A = true
  lk : ¬ X.tr.ln < X.tr.lw
  cell : ∀ i, i ≤ k → ∃ a, X.S[i]? = some (some ⟨1, 0, 1, a⟩)
  wk : b = true → (∃ a, X.S[k + 1]? = some (some ⟨4, 10, 1, a⟩)) ∧ X.F (k + 1) 0 = (k : Int) + 1
  mem : ∀ r, r ∈ nums 0 X.S ↔ 1 ≤ r ∧ r ≤ (k : Int) + 1 + (if b = true then 1 else 0)
  next : ∀ x, x < k → X.F x 0 = (x : Int) + 2
  last : X.F k 0 = 0
  rt : X.rt 0 = R
  cy : 0 ≤ X.cy ∧ X.cy ≤ 100
section
variable {k : Nat} {b : Bool} {R U : List Int} {X X' : Cm}
theorem Ch13.rfs (h : Ch13 k b R X) (i : Nat) (hi : i ≤ k) : rfs X.S ((i : Int) + 1) = 1 ∧ isw X ((i : Int) + 1) = false := by
  obtain ⟨a, ha⟩ := h.cell i hi
  exact ⟨by unfold Go.Proofs.YthkelaeemefnaaaGreat.rfs; rw [celOf_at, ha]; simp, by unfold isw; rw [celOf_at, ha]; simp⟩
theorem Ch13.rfsw (h : Ch13 k true R X) : Go.Proofs.YthkelaeemefnaaaGreat.rfs X.S (((k + 1 : Nat) : Int) + 1) = 0 ∧ isw X (((k + 1 : Nat) : Int) + 1) = true := by
  obtain ⟨⟨a, ha⟩, _⟩ := h.wk rfl
  exact ⟨by unfold Go.Proofs.YthkelaeemefnaaaGreat.rfs; rw [celOf_at, ha]; simp, by unfold isw; rw [celOf_at, ha]; simp⟩
theorem Ch13.rq (h : Ch13 k b R X) (hR : ∀ r ∈ R, r = 0 ∨ r ∈ nums 0 X.S) {fs qs : List Int} (hf : ∀ r ∈ fs, r ∈ nums 0 X.S) (hq : ∀ r ∈ qs, r ∈ nums 0 X.S) : Rq X fs qs := by
  refine ⟨h.ph, h.all, h.lk, ⟨fun t ht r hr => ?_, fun r hr j hj => ?_⟩, hf, hq, fun r cl hc h4 => ?_⟩
  · rw [h.T] at ht
    obtain rfl : t = 0 := by omega
    rw [h.rt] at hr
    exact hR r hr
  · have hm := (h.mem r).1 hr
    by_cases e : r ≤ (k : Int) + 1
    · obtain ⟨i, rfl⟩ : ∃ i : Nat, r = (i : Int) + 1 := ⟨(r - 1).toNat, by omega⟩
      rw [(h.rfs i (by omega)).1] at hj
      obtain rfl : j = 0 := by omega
      have hw : wd X ((i : Int) + 1) 0 = X.F i 0 := by unfold wd; rw [show ((i : Int) + 1 - 1).toNat = i by omega]
      rw [hw]
      by_cases e2 : i < k
      · rw [h.next i e2]
        refine .inr ((h.mem _).2 ⟨by omega, ?_⟩)
        split <;> omega
      · obtain rfl : i = k := by omega
        exact .inl h.last
    · cases b with
      | false => simp at hm; omega
      | true =>
        simp at hm
        obtain rfl : r = ((k + 1 : Nat) : Int) + 1 := by omega
        rw [h.rfsw.1] at hj
        omega
  · have hm := (h.mem r).1 (nums_cel.2 ⟨cl, hc⟩)
    by_cases e : r ≤ (k : Int) + 1
    · obtain ⟨i, rfl⟩ : ∃ i : Nat, r = (i : Int) + 1 := ⟨(r - 1).toNat, by omega⟩
      obtain ⟨a, ha⟩ := h.cell i (by omega)
      rw [celOf_at, ha] at hc
      simp at hc; subst hc; simp at h4
    · cases b with
      | false => simp at hm; omega
      | true =>
        simp at hm
        obtain rfl : r = ((k + 1 : Nat) : Int) + 1 := by omega
        obtain ⟨⟨a, ha⟩, _⟩ := h.wk rfl
        rw [celOf_at, ha] at hc
        simp at hc; subst hc; simp
/-- From the first all objects are reached. -/
theorem Ch13.from1 (h : Ch13 k b R X) (h1 : RchQ X U 1) : ∀ i : Nat, i ≤ k → RchQ X U ((i : Int) + 1)
  | 0, _ => h1
  | i + 1, hi => by
    have ih := Ch13.from1 h h1 i (by omega)
    have hw : wd X ((i : Int) + 1) 0 = (i : Int) + 2 := by
      unfold wd
      rw [show ((i : Int) + 1 - 1).toNat = i by omega]
      exact h.next i (by omega)
    have := ih.word (j := 0) (by rw [(h.rfs i (by omega)).1]; omega) (by rw [hw]; omega)
    rw [hw] at this
    rw [show ((i + 1 : Nat) : Int) + 1 = (i : Int) + 2 by omega]
    exact this
/-- What is reached, where roots and U name the first alone, or nothing. -/
theorem Ch13.only (h : Ch13 k b R X) (hR : ∀ r ∈ R, r = 0 ∨ r = 1) (hU : ∀ r ∈ U, r = 1) {r : Int} (hr : RchQ X U r) : 1 ≤ r ∧ r ≤ (k : Int) + 1 := by
  refine hr.least (P := fun r => 1 ≤ r ∧ r ≤ (k : Int) + 1) (fun t ht x hx h0 => ?_) (fun x hx _ => by rw [hU x hx]; omega) (fun x _ hx j hj h0 => ?_)
  · rw [h.T] at ht
    obtain rfl : t = 0 := by omega
    rw [h.rt] at hx
    rcases hR x hx with q | q <;> omega
  · obtain ⟨i, rfl⟩ : ∃ i : Nat, x = (i : Int) + 1 := ⟨(x - 1).toNat, by omega⟩
    rw [(h.rfs i (by omega)).1] at hj
    obtain rfl : j = 0 := by omega
    have hw : wd X ((i : Int) + 1) 0 = X.F i 0 := by unfold wd; rw [show ((i : Int) + 1 - 1).toNat = i by omega]
    rw [hw] at h0 ⊢
    by_cases e2 : i < k
    · rw [h.next i e2]; omega
    · obtain rfl : i = k := by omega
      exact absurd h.last h0
theorem Ch13.none (h : Ch13 k b R X) (hR : ∀ r ∈ R, r = 0) {r : Int} (hr : RchQ X [] r) : False :=
  hr.least (P := fun _ => False) (fun t ht x hx h0 => by
    rw [h.T] at ht
    obtain rfl : t = 0 := by omega
    rw [h.rt] at hx
    exact h0 (hR x hx)) (fun x hx => by simp at hx) (fun _ _ q => q.elim)
end
end Go.Proofs.YthkelaeemefnaaaGreat
/- RefsChains' heap: what its cycles make of it. -/
namespace Go.Proofs.YthkelaeemefnaaaGreat
open Go.RowKit
section
variable {k : Nat} {b : Bool} {R U : List Int} {X X' : Cm} {fs qs : List Int} {u1 u2 : Int → Bool}
/-- A cell that stays, by its place. -/
theorem Cyd.at_ (hc : Cyd X X' fs qs u1 u2) {i : Nat} {cl : Cel} (h1 : X.S[i]? = some (some cl)) (hm : ((i : Int) + 1) ∈ nums 0 X'.S) : X'.S[i]? = some (some cl) := by
  have e := hc.cel _ hm
  rw [celOf_at, celOf_at, h1] at e
  cases q : X'.S[i]? with
  | none => rw [q] at e; simp at e
  | some o => rw [q] at e; simp at e; rw [e]
/-- The first: the weak reference is cleared, and goes; the first object is queued; all objects stay. -/
theorem Ch13.cyc1 (h : Ch13 k true R X) (hR : ∀ r ∈ R, r = 0) (hc : Cyd X X' [1] [] u1 u2) (hcy : X.cy ≤ 50) : clrd X u1 (nums 0 X.S) = [(k : Int) + 2] ∧ [1].filter u1 = [1] ∧ ([1].filter fun r => !u1 r) = [] ∧ Ch13 k false R X' := by
  have hu : ∀ r, u1 r = true ↔ 1 ≤ r ∧ r ≤ (k : Int) + 2 := fun r => by
    rw [hc.h1 r, h.mem]
    simp only [if_true]
    exact ⟨fun q => ⟨q.1.1, by omega⟩, fun q => ⟨⟨q.1, by omega⟩, fun z => h.none hR z⟩⟩
  have h1 : u1 1 = true := (hu 1).2 (by omega)
  have hf : [1].filter u1 = [1] := by simp [h1]
  have hk2 : ∀ r ∈ nums 0 X.S, (u2 r = true ↔ 1 ≤ r ∧ r ≤ (k : Int) + 1) := fun r hr => by
    rw [hc.h2 r hr, hf, List.nil_append]
    constructor
    · exact fun z => h.only (fun r hr => .inl (hR r hr)) (fun r hr => by simpa using hr) z
    · intro z
      have := h.from1 (U := [1]) (RchQ.from (by simp) (by decide)) (r - 1).toNat (by omega)
      rw [show (((r - 1).toNat : Nat) : Int) + 1 = r by omega] at this
      exact this
  have hns : ∀ r, r ∈ nums 0 X'.S ↔ 1 ≤ r ∧ r ≤ (k : Int) + 1 := fun r => by
    rw [hc.ns, List.mem_filter]
    constructor
    · exact fun ⟨q1, q2⟩ => (hk2 r q1).1 q2
    · intro q
      have hm : r ∈ nums 0 X.S := (h.mem r).2 ⟨q.1, by simp only [if_true]; omega⟩
      exact ⟨hm, (hk2 r hm).2 q⟩
  have hcl : clrd X u1 (nums 0 X.S) = [(k : Int) + 2] := by
    have hnd : (clrd X u1 (nums 0 X.S)).Pairwise (· < ·) := (nums_rise 0 X.S).filter _
    have hmem : ∀ r, r ∈ clrd X u1 (nums 0 X.S) ↔ r = (k : Int) + 2 := fun r => by
      unfold clrd
      rw [List.mem_filter, h.mem]
      simp only [Bool.and_eq_true, if_true]
      constructor
      · rintro ⟨q1, q2, _⟩
        by_cases e : r ≤ (k : Int) + 1
        · have := (h.rfs (r - 1).toNat (by omega)).2
          rw [show (((r - 1).toNat : Nat) : Int) + 1 = r by omega, q2] at this
          simp at this
        · omega
      · rintro rfl
        have e : (k : Int) + 2 = ((k + 1 : Nat) : Int) + 1 := by omega
        refine ⟨by omega, by rw [e]; exact h.rfsw.2, ?_⟩
        have hw : wd X ((k : Int) + 2) 0 = (k : Int) + 1 := by
          unfold wd
          rw [show ((k : Int) + 2 - 1).toNat = k + 1 by omega]
          exact (h.wk rfl).2
        rw [hw, hu]; omega
    cases hL : clrd X u1 (nums 0 X.S) with
    | nil => rw [hL] at hmem; have := (hmem ((k : Int) + 2)).2 rfl; simp at this
    | cons a r =>
      rw [hL] at hmem hnd
      have ha := (hmem a).1 (by simp)
      cases r with
      | nil => rw [ha]
      | cons a2 r2 =>
        have ha2 := (hmem a2).1 (by simp)
        have := (List.pairwise_cons.1 hnd).1 a2 (by simp)
        omega
  have hF : ∀ x, x ≤ k → X'.F x 0 = X.F x 0 := fun x hx => by
    rw [hc.F, hcl]
    unfold clrF
    rw [if_neg]
    rintro ⟨q, _⟩
    simp at q; omega
  refine ⟨hcl, hf, by simp [h1], hc.T.trans h.T, hc.W.trans h.W, hc.ph, hc.all, hc.lk, fun i hi => ?_, fun q => by simp at q, fun r => by rw [hns]; simp, fun x hx => by rw [hF x (by omega)]; exact h.next x hx, by rw [hF k (Nat.le_refl _)]; exact h.last, by rw [hc.rt]; exact h.rt, by rw [hc.cy]; have := h.cy; omega⟩
  obtain ⟨a, ha⟩ := h.cell i hi
  exact ⟨a, hc.at_ ha ((hns _).2 (by omega))⟩
/-- The second: the first is held, nothing is done. -/
theorem Ch13.cyc2 (h : Ch13 k false R X) (hR : 1 ∈ R) (hc : Cyd X X' [] [] u1 u2) (hcy : X.cy ≤ 50) : clrd X u1 (nums 0 X.S) = [] ∧ Ch13 k false R X' := by
  have hre : ∀ r, 1 ≤ r → r ≤ (k : Int) + 1 → RchQ X [] r := fun r q1 q2 => by
    have := h.from1 (U := []) (RchQ.root (t := 0) (by rw [h.T]; omega) (by rw [h.rt]; exact hR) (by decide)) (r - 1).toNat (by omega)
    rw [show (((r - 1).toNat : Nat) : Int) + 1 = r by omega] at this
    exact this
  have hmem : ∀ r, r ∈ nums 0 X.S ↔ 1 ≤ r ∧ r ≤ (k : Int) + 1 := fun r => by rw [h.mem]; simp
  have hf : ∀ r, u1 r = false := fun r => by
    cases e : u1 r with
    | false => rfl
    | true =>
      obtain ⟨q1, q2⟩ := (hc.h1 r).1 e
      have := (hmem r).1 q1
      exact absurd (hre r this.1 this.2) q2
  have hcl : clrd X u1 (nums 0 X.S) = [] := by
    unfold clrd
    rw [List.filter_eq_nil_iff]
    intro r _
    simp [hf]
  have hns : nums 0 X'.S = nums 0 X.S := by
    rw [hc.ns, List.filter_eq_self]
    intro r hr
    have := (hmem r).1 hr
    refine (hc.h2 r hr).2 ?_
    rw [List.filter_nil, List.append_nil]
    exact hre r this.1 this.2
  have hF : X'.F = X.F := by rw [hc.F, hcl, clrF_nil]
  refine ⟨hcl, hc.T.trans h.T, hc.W.trans h.W, hc.ph, hc.all, hc.lk, fun i hi => ?_, fun q => by simp at q, fun r => by rw [hns]; exact h.mem r, by rw [hF]; exact h.next, by rw [hF]; exact h.last, by rw [hc.rt]; exact h.rt, by rw [hc.cy]; have := h.cy; omega⟩
  obtain ⟨a, ha⟩ := h.cell i hi
  exact ⟨a, hc.at_ ha (by rw [hns, hmem]; omega)⟩
/-- The third: nothing is held, all goes. -/
theorem Ch13.cyc3 (h : Ch13 k b R X) (hR : ∀ r ∈ R, r = 0) (hc : Cyd X X' [] [] u1 u2) : nums 0 X'.S = [] := by
  rw [hc.ns, List.filter_eq_nil_iff]
  intro r hr q
  have := (hc.h2 r hr).1 q
  rw [List.filter_nil, List.append_nil] at this
  exact h.none hR this
end
end Go.Proofs.YthkelaeemefnaaaGreat
/- RefsChains' calls, behind the building. -/
namespace Go.Proofs.YthkelaeemefnaaaGreat
open Go.RowKit
/-- The heap as it is told, with what is finalizable and what is queued. -/
def ChS (B : Nat) (w0 : World) (rh hb k : Nat) (b : Bool) (R fs qs : List Int) (c : Nat) (w : World) : Prop := ∃ X Z vf vq, Rv B w0 w rh hb X Z vf vq fs qs ∧ Ch13 k b R X ∧ X.m + 500 * cntS X.S ≤ c ∧ X.cy * 1000 ≤ (c : Int)
section
variable {B : Nat} {w0 w w' : World} {rh hb k c : Nat} {b : Bool} {R fs qs : List Int}
theorem ChS.bel (h : ChS B w0 rh hb k b R fs qs c w) : Below B w0 w := let ⟨_, _, _, _, H, _⟩ := h; H.cv.hv.bel
theorem ChS.most {c' : Nat} (h : ChS B w0 rh hb k b R fs qs c w) (hc : c ≤ c') : ChS B w0 rh hb k b R fs qs c' w := by
  obtain ⟨X, Z, vf, vq, h1, h2, h3, h4⟩ := h
  exact ⟨X, Z, vf, vq, h1, h2, by omega, by omega⟩
theorem ch_pop {x : Int} (h : ChS B w0 rh hb k b (R ++ [x]) fs qs c w) : Calls Tryz.prog 15 #[.pointer (some ⟨rh, 0, none⟩), .int .i64 0] w fun e w' => e = .returned (.tuple #[.int .i64 x, .int .i64 0]) ∧ ChS B w0 rh hb k b R fs qs c w' := by
  obtain ⟨X, Z, vf, vq, H, hW, hm, hy⟩ := h
  have et : X.popTr x = X.tr := if_neg (by rw [hW.ph]; omega)
  have hP := cpop_ok H.cv 0 (by rw [hW.T]; omega) hW.rt
  rw [et] at hP
  refine (rpop_of H 0 x 0 (X' := { X with rt := setL X.rt 0 R }) rfl hP).mono ?_
  rintro e w' ⟨rfl, Z', vf', vq', H', _, _⟩
  refine ⟨rfl, _, Z', vf', vq', H', ⟨hW.T, hW.W, hW.ph, hW.all, hW.lk, hW.cell, hW.wk, hW.mem, hW.next, hW.last, ?_, hW.cy⟩, hm, hy⟩
  show setL X.rt 0 R 0 = R
  simp [setL]
theorem ch_push (h : ChS B w0 rh hb k b R fs qs c w) (hR : R.length ≤ 40) : Calls Tryz.prog 20 #[.pointer (some ⟨rh, 0, none⟩), .int .i64 0, .int .i64 0] w fun e w' => e = .returned (.int .i64 0) ∧ ChS B w0 rh hb k b (R ++ [0]) fs qs c w' := by
  obtain ⟨X, Z, vf, vq, H, hW, hm, hy⟩ := h
  have hP := cpush_ok H.cv 0 0 (by rw [hW.T]; omega) (by rw [hW.rt]; omega)
  refine (rpush_of H 0 0 0 (X' := { X with rt := setL X.rt 0 (X.rt 0 ++ [0]) }) rfl hP).mono ?_
  rintro e w' ⟨rfl, Z', vf', vq', H', _, _⟩
  refine ⟨rfl, _, Z', vf', vq', H', ⟨hW.T, hW.W, hW.ph, hW.all, hW.lk, hW.cell, hW.wk, hW.mem, hW.next, hW.last, ?_, hW.cy⟩, hm, hy⟩
  show setL X.rt 0 (X.rt 0 ++ [0]) 0 = _
  rw [hW.rt]
  simp [setL]
theorem ch_load (h : ChS B w0 rh hb k b R fs qs c w) {j : Nat} (hj : j < k) (hc : c ≤ 100000) (r : Int) (hr : r = (j : Int) + 1) : Calls Tryz.prog 21 #[.pointer (some ⟨rh, 0, none⟩), .int .i64 0, .int .i64 r, .int .i64 0] w fun e w' => e = .returned (.tuple #[.int .i64 ((j : Int) + 2), .int .i64 0]) ∧ ChS B w0 rh hb k b R fs qs (c + 1) w' := by
  obtain ⟨X, Z, vf, vq, H, hW, hm, hy⟩ := h
  obtain ⟨a, ha⟩ := hW.cell j (by omega)
  refine (rload_ok H (by omega) 0 (by rw [hW.T]; omega) ha (by simp) 0 0 rfl (show 0 < 1 by omega) r hr).mono ?_
  rintro e w' ⟨rfl, c', Z', vf', vq', H', _, _⟩
  refine ⟨by rw [hW.next j hj], _, Z', vf', vq', H', ⟨hW.T, hW.W, hW.ph, hW.all, hW.lk, hW.cell, hW.wk, hW.mem, hW.next, hW.last, hW.rt, hW.cy⟩, by show X.m + 1 + 500 * cntS X.S ≤ _; omega, by show X.cy * 1000 ≤ _; omega⟩
theorem ch_next (h : ChS B w0 rh hb k b R fs [1] c w) (hR : R.length ≤ 40) : Calls Tryz.prog 17 #[.pointer (some ⟨rh, 0, none⟩)] w fun e w' => e = .returned (.tuple #[.int .i64 1, .bool true]) ∧ ChS B w0 rh hb k b (R ++ [1]) fs [] c w' := by
  obtain ⟨X, Z, vf, vq, H, hW, hm, hy⟩ := h
  refine (rnext_ok H (by rw [hW.T]; omega) (by rw [hW.rt]; omega)).mono ?_
  rintro e w' ⟨rfl, Z', vf', vq', H', _, _⟩
  refine ⟨rfl, _, Z', vf', vq', H', ⟨hW.T, hW.W, hW.ph, hW.all, hW.lk, hW.cell, hW.wk, hW.mem, hW.next, hW.last, ?_, hW.cy⟩, hm, hy⟩
  show setL X.rt 0 (X.rt 0 ++ [1]) 0 = _
  rw [hW.rt]
  simp [setL]
theorem ch_refs (h : ChS B w0 rh hb k false R fs qs c w) (hc : c ≤ 100000) : Calls Tryz.prog 18 #[.pointer (some ⟨rh, 0, none⟩)] w fun e w' => ∃ a1 c1, e = .returned (.slice a1 (k + 1) c1) ∧ ChS B w0 rh hb k false R fs qs c w' := by
  obtain ⟨X, Z, vf, vq, H, hW, hm, hy⟩ := h
  refine (rrefs_ok H (by omega)).mono ?_
  rintro e w' ⟨vr, rfl, hr, hb1⟩
  have hl : (nums 0 X.S).length = k + 1 := by
    rw [← seg_len 0 (k + 1)]
    refine same_len (rise_nodup (nums_rise 0 X.S)) (seg_nodup 0 (k + 1)) fun r => ?_
    rw [hW.mem, seg_mem]
    simp
  obtain ⟨a1, c1, rfl⟩ := hr.form
  exact ⟨a1, c1, by rw [hl], X, Z, vf, vq, H.below hb1, hW, hm, hy⟩
/-- The first cycle. -/
theorem ch_cyc1 (h : ChS B w0 rh hb k true R [1] [] c w) (hk : k ≤ 8) (hc : c ≤ 40000) (hR : ∀ r ∈ R, r = 0) : Calls Tryz.prog 16 #[.pointer (some ⟨rh, 0, none⟩)] w fun e w' => ∃ p1 c1 p2 c2 : Nat, e = .returned (.tuple #[.slice (some ⟨p1, 0, none⟩) 1 c1, .slice (some ⟨p2, 0, none⟩) 1 c2, .int .i64 0]) ∧ (w'.cell? ⟨p1, 0, none⟩ = some (.int .i64 ((k : Int) + 2)) ∧ w'.cell? ⟨p2, 0, none⟩ = some (.int .i64 1)) ∧ ChS B w0 rh hb k false R [] [1] (c + 20000) w' := by
  obtain ⟨X, Z, vf, vq, H, hW, hm, hy⟩ := h
  have hfit := H.cv.fit
  rw [hW.W] at hfit
  refine (rcycle_ok H (hW.rq (fun r hr => .inl (hR r hr)) (fun r hr => by simp at hr; rw [hr, hW.mem]; simp; omega) (fun r hr => by simp at hr)) (by omega) ⟨hW.cy.1, by have := hW.cy.2; omega⟩ (by simp)).mono ?_
  rintro e w' ⟨X', u1, u2, vc, vd, rfl, hcd, hO, hvc, hvd, _⟩
  obtain ⟨q1, q2, q3, hW'⟩ := hW.cyc1 hR hcd (by omega)
  rw [q1] at hvc
  rw [q2] at hvd hO
  rw [q3] at hO
  obtain ⟨p1, k1, rfl, _, g1⟩ := hvc.one
  obtain ⟨p2, k2, rfl, _, g2⟩ := hvd.one
  have hcost := hcd.cost
  obtain ⟨Z', vf', vq', H', _, _⟩ := hO.t
  exact ⟨p1, k1, p2, k2, rfl, ⟨g1, g2⟩, X', Z', vf', vq', H', hW', by omega, by have := hcd.cy; omega⟩
/-- The second. -/
theorem ch_cyc2 (h : ChS B w0 rh hb k false R [] [] c w) (hc : c ≤ 40000) (hR : 1 ∈ R) (hR2 : ∀ r ∈ R, r = 0 ∨ r = 1) : Calls Tryz.prog 16 #[.pointer (some ⟨rh, 0, none⟩)] w fun e w' => ∃ a1 c1 a2 c2, e = .returned (.tuple #[.slice a1 0 c1, .slice a2 0 c2, .int .i64 0]) ∧ ChS B w0 rh hb k false R [] [] (c + 20000) w' := by
  obtain ⟨X, Z, vf, vq, H, hW, hm, hy⟩ := h
  have hfit := H.cv.fit
  rw [hW.W] at hfit
  refine (rcycle_ok H (hW.rq (fun r hr => (hR2 r hr).imp id (fun q => by rw [q, hW.mem]; simp; omega)) (fun r hr => by simp at hr) (fun r hr => by simp at hr)) (by omega) ⟨hW.cy.1, by have := hW.cy.2; omega⟩ (by simp)).mono ?_
  rintro e w' ⟨X', u1, u2, vc, vd, rfl, hcd, hO, hvc, hvd, _⟩
  obtain ⟨q1, hW'⟩ := hW.cyc2 hR hcd (by omega)
  rw [q1] at hvc
  obtain ⟨a1, c1, rfl⟩ := hvc.form
  obtain ⟨a2, c2, rfl⟩ := hvd.form
  have hcost := hcd.cost
  obtain ⟨Z', vf', vq', H', _, _⟩ := hO.t
  exact ⟨a1, c1, a2, c2, rfl, X', Z', vf', vq', H', hW', by omega, by have := hcd.cy; omega⟩
/-- The third, and what is there behind it. -/
theorem ch_cyc3 (h : ChS B w0 rh hb k false R [] [] c w) (hc : c ≤ 90000) (hR : ∀ r ∈ R, r = 0) : Calls Tryz.prog 16 #[.pointer (some ⟨rh, 0, none⟩)] w fun e w' => ∃ a1 n1 c1 a2 n2 c2, e = .returned (.tuple #[.slice a1 n1 c1, .slice a2 n2 c2, .int .i64 0]) ∧ Calls Tryz.prog 18 #[.pointer (some ⟨rh, 0, none⟩)] w' fun e w' => ∃ a1 c1, e = .returned (.slice a1 0 c1) ∧ Below B w0 w' := by
  obtain ⟨X, Z, vf, vq, H, hW, hm, hy⟩ := h
  have hfit := H.cv.fit
  rw [hW.W] at hfit
  refine (rcycle_ok H (hW.rq (fun r hr => .inl (hR r hr)) (fun r hr => by simp at hr) (fun r hr => by simp at hr)) (by omega) ⟨hW.cy.1, by have := hW.cy.2; omega⟩ (by simp)).mono ?_
  rintro e w' ⟨X', u1, u2, vc, vd, rfl, hcd, hO, hvc, hvd, _⟩
  have q1 := hW.cyc3 hR hcd
  obtain ⟨a1, c1, rfl⟩ := hvc.form
  obtain ⟨a2, c2, rfl⟩ := hvd.form
  have hcost := hcd.cost
  obtain ⟨Z', vf', vq', H', _, _⟩ := hO.t
  refine ⟨a1, _, c1, a2, _, c2, rfl, (rrefs_ok H' (by omega)).mono ?_⟩
  rintro e w2 ⟨vr, rfl, hr, hb1⟩
  rw [q1] at hr
  obtain ⟨a3, c3, rfl⟩ := hr.form
  exact ⟨a3, c3, rfl, H'.cv.hv.bel.trans (hb1.mono H'.cv.hv.size)⟩
end
end Go.Proofs.YthkelaeemefnaaaGreat
/- RefsChains' calls that build the chain. -/
namespace Go.Proofs.YthkelaeemefnaaaGreat
open Go.RowKit
/-- While it is built: objects 1 to k + 1, all of them roots. -/
def ChB (B : Nat) (w0 : World) (rh hb k c : Nat) (w : World) : Prop := ∃ X Z vf vq, Rv B w0 w rh hb X Z vf vq [1] [] ∧ Ch13 k false (seg 0 (k + 1)) X ∧ X.S.length = k + 1 ∧ sumS X.S = 17 * (k + 1) ∧ X.m + 500 * cntS X.S ≤ c ∧ X.cy * 1000 ≤ (c : Int)
theorem seg_more (b j : Nat) : seg b (j + 1) = seg b j ++ [(b : Int) + j + 1] := rfl
section
variable {B : Nat} {w0 w w' : World} {rh hb k c : Nat} {Z : Cx}
theorem ch_first (H : Rv B w0 w rh hb (cm0 8192 1) Z (.slice none 0 0) (.slice none 0 0) [] []) : Calls Tryz.prog 13 #[.pointer (some ⟨rh, 0, none⟩), .int .i64 0, .int .i64 1, .int .i64 0, .int .i64 1, .bool true] w fun e w' => e = .returned (.tuple #[.int .i64 1, .int .i64 0]) ∧ ChB B w0 rh hb 0 1000 w' := by
  refine (rmake_fin H (by simp) 0 1 0 1 (R := fun x u => x = 1 ∧ ChB B w0 rh hb 0 1000 u) ?_).mono ?_
  · refine (cmake_ok H.cv (by show 0 ≤ 2000000; omega) 0 1 0 1 (show 0 < 1 by omega) (fits_obj (by omega) (by omega)) (show 0 < 64 by omega) (by show 0 + (1 + 16) ≤ 8192 / 4; omega)).mono ?_
    rintro e w' ⟨i, S', a, c', rfl, hAd, hT⟩
    have hi : i = 0 := by rw [hAd.at_]; rfl
    subst hi
    have hSe : S' = [some ⟨1, 0, 1, a⟩] := by rw [hAd.eq]; rfl
    subst hSe
    obtain ⟨Z', H2, _, _⟩ := H.heap hT rfl
    refine ⟨_, rfl, ⟨_, Z', H2⟩, fun u hu => ⟨rfl, ?_⟩⟩
    obtain ⟨Z3, vf3, vq3, k1, _, _⟩ := hu _ Z' H2
    refine ⟨_, Z3, vf3, vq3, k1, ⟨rfl, rfl, rfl, rfl, by show ¬ (0 : Int) < 0; omega, fun i hi => ⟨a, ?_⟩, fun q => by simp at q, fun r => ?_, fun x hx => by omega, rfl, rfl, ⟨by show (0 : Int) ≤ 0; omega, by show (0 : Int) ≤ 100; omega⟩⟩, rfl, rfl, by show 0 + 500 + 500 * 1 ≤ 1000; omega, by show (0 : Int) * 1000 ≤ _; omega⟩
    · obtain rfl : i = 0 := by omega
      rfl
    · show r ∈ [((0 : Nat) : Int) + 1] ↔ _
      simp; omega
  · rintro e w' ⟨x, rfl, rfl, h⟩
    exact ⟨rfl, h⟩
/-- One more, and the last one names it. -/
theorem ch_make (h : ChB B w0 rh hb k c w) (hk : k ≤ 8) (hc : c ≤ 100000) : Calls Tryz.prog 13 #[.pointer (some ⟨rh, 0, none⟩), .int .i64 0, .int .i64 1, .int .i64 0, .int .i64 1, .bool false] w fun e w' => e = .returned (.tuple #[.int .i64 ((k : Int) + 2), .int .i64 0]) ∧
    Calls Tryz.prog 19 #[.pointer (some ⟨rh, 0, none⟩), .int .i64 0, .int .i64 ((k : Int) + 1), .int .i64 0, .int .i64 ((k : Int) + 2)] w' fun e w' => e = .returned (.int .i64 0) ∧ ChB B w0 rh hb (k + 1) (c + 1100) w' := by
  obtain ⟨X, Z, vf, vq, H, hW, hl, hs, hm, hy⟩ := h
  refine (rmake_of H 0 1 0 1 false (.inl rfl) (R := fun x c1 w' => x = (k : Int) + 2 ∧ c1 = 0 ∧ Calls Tryz.prog 19 #[.pointer (some ⟨rh, 0, none⟩), .int .i64 0, .int .i64 ((k : Int) + 1), .int .i64 0, .int .i64 ((k : Int) + 2)] w' fun e w' => e = .returned (.int .i64 0) ∧ ChB B w0 rh hb (k + 1) (c + 1100) w') ?_).mono ?_
  · refine (cmake_ok H.cv (by omega) 0 1 0 1 (by rw [hW.T]; omega) (fits_obj (by omega) (by omega)) (by rw [hW.rt, seg_len]; omega) (by rw [hs, hW.W]; omega)).mono ?_
    rintro e w' ⟨i, S', a, c', rfl, hAd, hT⟩
    have hi : i = k + 1 := by rw [hAd.at_, hl]
    subst hi
    refine ⟨_, _, rfl, by omega, rfl, ?_⟩
    obtain ⟨Z', H2, _, _⟩ := H.heap hT rfl
    obtain ⟨a1, ha1⟩ := hW.cell k (Nat.le_refl _)
    have hk2 : S'[k]? = some (some ⟨1, 0, 1, a1⟩) := by rw [hAd.old k (by omega)]; exact ha1
    refine (rput_ok H2 (by show X.m + 500 ≤ _; omega) 0 ((k : Int) + 2) (by show (0 : Int) ≤ 0 ∧ (0 : Int) < (X.T : Int); rw [hW.T]; omega) hk2 (by show (1 : Int) ≠ 4; decide) 0 0 rfl (show 0 < 1 by omega) _ rfl).mono ?_
    rintro e w2 ⟨rfl, c2, Z3, vf3, vq3, H3, _, _⟩
    refine ⟨rfl, _, Z3, vf3, vq3, H3, ?_⟩
    have hcn := hAd.cnt
    have hsm := hAd.sum
    refine ⟨⟨hW.T, hW.W, hW.ph, hW.all, ?_, fun i hi => ?_, fun q => by simp at q, fun r => ?_, fun x hx => ?_, ?_, ?_, hW.cy⟩, ?_, ?_, ?_, ?_⟩
    · show ¬ (Cm.pw _ _ _).ln < (Cm.pw _ _ _).lw
      unfold Cm.pw
      rw [if_neg (by show X.ph ≠ 1; rw [hW.ph]; decide)]
      exact hW.lk
    · show ∃ a, S'[i]? = _
      by_cases e : i = k + 1
      · subst e; exact ⟨a, hAd.new⟩
      · obtain ⟨a', h⟩ := hW.cell i (by omega)
        exact ⟨a', by rw [hAd.old i e]; exact h⟩
    · show r ∈ nums 0 S' ↔ _
      rw [nums_cel]
      by_cases e : r = ((k + 1 : Nat) : Int) + 1
      · rw [e, celOf_made hAd]
        simp
        omega
      · rw [celOf_more hAd e, ← nums_cel, hW.mem]
        simp
        omega
    · show setF (setF X.F (k + 1) (fun _ => 0)) k (fun l => if l = 0 then (k : Int) + 2 else setF X.F (k + 1) (fun _ => 0) k l) x 0 = _
      by_cases e : x = k
      · subst e; rw [setF_at]; simp
      · rw [setF_else _ _ e, setF_else _ _ (by omega)]; exact hW.next x (by omega)
    · show setF (setF X.F (k + 1) (fun _ => 0)) k (fun l => if l = 0 then (k : Int) + 2 else setF X.F (k + 1) (fun _ => 0) k l) (k + 1) 0 = 0
      rw [setF_else _ _ (by omega), setF_at]
    · show setL X.rt 0 (X.rt 0 ++ [((k + 1 : Nat) : Int) + 1]) 0 = _
      rw [hW.rt, seg_more 0 (k + 1)]
      simp [setL]
    · show S'.length = _
      rw [hAd.eq, List.length_append, hl]; rfl
    · show sumS S' = _
      rw [hsm, hs]
      show _ + (1 + 16) = _
      omega
    · show X.m + 500 + 2 + 500 * cntS S' ≤ _
      omega
    · show X.cy * 1000 ≤ _
      omega
  · rintro e w' ⟨x, c1, rfl, rfl, rfl, h⟩
    exact ⟨rfl, h⟩
/-- The weak reference to the last. -/
theorem ch_weak (h : ChB B w0 rh hb k c w) (hk : k ≤ 8) (hc : c ≤ 100000) : Calls Tryz.prog 14 #[.pointer (some ⟨rh, 0, none⟩), .int .i64 0, .int .i64 ((k : Int) + 1)] w fun e w' => e = .returned (.tuple #[.int .i64 ((k : Int) + 2), .int .i64 0]) ∧ ChS B w0 rh hb k true (seg 0 (k + 2)) [1] [] (c + 1100) w' := by
  obtain ⟨X, Z, vf, vq, H, hW, hl, hs, hm, hy⟩ := h
  obtain ⟨a1, ha1⟩ := hW.cell k (Nat.le_refl _)
  refine (rweak_of H 0 ((k : Int) + 1) (R := fun x c1 w' => x = (k : Int) + 2 ∧ c1 = 0 ∧ ChS B w0 rh hb k true (seg 0 (k + 2)) [1] [] (c + 1100) w') ?_).mono ?_
  · refine (cweak_ok H.cv (by omega) 0 ((k : Int) + 1) (by rw [hW.T]; omega) ha1 rfl (by rw [hW.rt, seg_len]; omega) (by rw [hs, hW.W]; omega)).mono ?_
    rintro e w' ⟨i, S', a, c', rfl, hAd, hT⟩
    have hi : i = k + 1 := by rw [hAd.at_, hl]
    subst hi
    refine ⟨_, _, rfl, by omega, rfl, ?_⟩
    obtain ⟨Z', H2, _, _⟩ := H.heap hT rfl
    have hcn := hAd.cnt
    refine ⟨_, Z', vf, vq, H2, ⟨hW.T, hW.W, hW.ph, hW.all, hW.lk, fun i hi => ?_, fun _ => ⟨⟨a, hAd.new⟩, ?_⟩, fun r => ?_, fun x hx => ?_, ?_, ?_, hW.cy⟩, ?_, ?_⟩
    · show ∃ a, S'[i]? = _
      obtain ⟨a', h⟩ := hW.cell i (by omega)
      exact ⟨a', by rw [hAd.old i (by omega)]; exact h⟩
    · show setF X.F (k + 1) (fun l => if l = 0 then (k : Int) + 1 else 0) (k + 1) 0 = _
      rw [setF_at]; rfl
    · show r ∈ nums 0 S' ↔ _
      rw [nums_cel]
      by_cases e : r = ((k + 1 : Nat) : Int) + 1
      · rw [e, celOf_made hAd]
        simp
        omega
      · rw [celOf_more hAd e, ← nums_cel, hW.mem]
        simp
        omega
    · show setF X.F (k + 1) (fun l => if l = 0 then (k : Int) + 1 else 0) x 0 = _
      rw [setF_else _ _ (by omega)]; exact hW.next x hx
    · show setF X.F (k + 1) (fun l => if l = 0 then (k : Int) + 1 else 0) k 0 = _
      rw [setF_else _ _ (by omega)]; exact hW.last
    · show setL X.rt 0 (X.rt 0 ++ [((k + 1 : Nat) : Int) + 1]) 0 = _
      rw [hW.rt, seg_more 0 (k + 1)]
      simp [setL]
    · show X.m + 501 + 500 * cntS S' ≤ _
      omega
    · show X.cy * 1000 ≤ _
      omega
  · rintro e w' ⟨x, c1, rfl, rfl, rfl, h⟩
    exact ⟨rfl, h⟩
end
end Go.Proofs.YthkelaeemefnaaaGreat
/- The walk of RefsChains. -/
namespace Go.Proofs.YthkelaeemefnaaaGreat
open Go.RowKit
theorem mask7r (n : Int) : ∃ s : Nat, bits BinOp.and .i64 n 7 = (s : Int) ∧ s < 8 := by
  have e : (BitVec.ofInt 64 n &&& BitVec.ofInt 64 7).toNat = (n % 18446744073709551616).toNat % 8 := by
    rw [BitVec.toNat_and, BitVec.toNat_ofInt, show (BitVec.ofInt 64 7).toNat = 2 ^ 3 - 1 from by decide, Nat.and_two_pow_sub_one_eq_mod]; rfl
  refine ⟨(n % 18446744073709551616).toNat % 8, ?_, by omega⟩
  show IntKind.i64.wrap ((BitVec.ofInt 64 n &&& BitVec.ofInt 64 7).toNat : Nat) = _
  rw [e, IntKind.wrap_i64]; omega
theorem cell_lt {w : World} {p j : Nat} {v : Value} (h : w.cell? ⟨p, j, none⟩ = some v) : p < w.heap.size := by
  rcases Nat.lt_or_ge p w.heap.size with q | q
  · exact q
  · unfold World.cell? at h
    rw [Array.getElem?_eq_none q] at h
    simp at h
set_option maxRecDepth 20000 in
set_option maxHeartbeats 4000000 in
theorem chains_walk (x : Int) (w : World) : Calls Tryz.prog 5 #[.int .i64 x] w fun e w' => e = .returned (.bool true) ∧ Below w.heap.size w w' := by
  obtain ⟨s, hs, hs8⟩ := mask7r x
  obtain ⟨k, hk⟩ : ∃ k : Nat, k = 1 + s := ⟨_, rfl⟩
  have hki : (1 : Int) + (s : Int) = (k : Int) := by omega
  have hkb : 1 ≤ k ∧ k ≤ 8 := by omega
  clear hk hs8
  have hA := awake13 w
  go_enter Tryz.func5, Tryz.ntmps5
  go_wp2_with (first
    | (go_at_call 12; refine hA.mono ?_; rintro e w1 ⟨rfl, hb1⟩; clear hA; have hN := rnew_ok 8192 1 8192 1 w1 rfl rfl (by omega) (by omega))
    | (go_at_call 8; refine hN.mono ?_; rintro e w2 ⟨rh, hb, Z2, rfl, H2⟩; clear hN; have hM := ch_first H2; clear H2)
    | (go_at_call 13; refine hM.mono ?_; rintro e w3 ⟨rfl, hS⟩; have HS : Hid (ChB w1.heap.size w1 rh hb 0 1000 w3) := hS; clear hM hS))
  go_loopg [8, 9, 10, 11] 20 (fun kx s8 s9 s10 s11 wr => ∃ i : Nat, s8 = .int .i64 ((i : Int) + 1) ∧ s9 = .int .i64 i ∧ i ≤ k ∧ k - i ≤ kx ∧ Hid (ChB w1.heap.size w1 rh hb i (1000 + 1100 * i) wr))
  case atStart => exact ⟨0, rfl, rfl, by omega, by omega, HS.out⟩
  case round =>
    clear HS
    obtain ⟨i, rfl, rfl, hi, hkx, HI⟩ := hrel
    by_cases hik : i < k
    · have hl : (i : Int) < (k : Int) := by omega
      have hM := ch_make HI.out (by omega) (by omega)
      clear HI
      go_wp2_with (first
        | (go_at_call 13; refine hM.mono ?_; rintro e w4 ⟨rfl, hP⟩; clear hM)
        | (go_at_call 9; refine (num_any _ _).mono ?_; rintro e w9 ⟨rfl, hw9⟩; replace hw9 := hw9.symm; subst hw9)
        | (go_at_call 19; refine hP.mono ?_; rintro e w5 ⟨rfl, h5⟩; have H5 : Hid (ChB w1.heap.size w1 rh hb (i + 1) (1000 + 1100 * i + 1100) w5) := h5; clear hP h5))
      go_roundg (k - (i + 1))
      case measure => omega
      case rel => exact ⟨i + 1, by go_num, by go_num, by omega, by omega, H5.out⟩
    · obtain rfl : i = k := by omega
      have hl : ¬ (i : Int) < (i : Int) := by omega
      have hW := ch_weak HI.out (by omega) (by omega)
      clear HI
      go_wp2_with (go_at_call 14; refine hW.mono ?_; rintro e w4 ⟨rfl, h4⟩; have H4 : Hid (ChS w1.heap.size w1 rh hb i true (seg 0 (i + 2)) [1] [] (1000 + 1100 * i + 1100) w4) := h4; clear hW h4)
      go_loopg [14] 20 (fun kx s14 wy => ∃ l m : Nat, s14 = .int .i64 l ∧ l + m = i + 2 ∧ m ≤ kx ∧ Hid (ChS w1.heap.size w1 rh hb i true (seg 0 m) [1] [] (1000 + 1100 * i + 1100) wy))
      case atStart => exact ⟨0, i + 2, rfl, by omega, by omega, H4⟩
      case round =>
        clear H4
        obtain ⟨l, m, rfl, hlm, hmx, HL⟩ := hrel
        cases m with
        | succ m =>
          have hl3 : (l : Int) < (i : Int) + 2 := by omega
          have hP : Calls _ _ _ _ _ := ch_pop (R := seg 0 m) HL.out
          clear HL
          go_wp2_with (go_at_call 15; refine hP.mono ?_; rintro e w7 ⟨rfl, h7⟩; have H7 : Hid (ChS w1.heap.size w1 rh hb i true (seg 0 m) [1] [] (1000 + 1100 * i + 1100) w7) := h7; clear hP h7)
          go_roundg m
          case measure => omega
          case rel => exact ⟨l + 1, m, by go_num, by omega, by omega, H7⟩
        | zero =>
          have hl3 : ¬ (l : Int) < (i : Int) + 2 := by omega
          have hU : Calls _ _ _ _ _ := ch_push (R := []) HL.out (by simp)
          have hz0 : ∀ r ∈ ([] ++ [0] : List Int), r = 0 := fun r hr => by simpa using hr
          clear HL
          go_wp2_with (first
            | (go_at_call 20; refine hU.mono ?_; rintro e w7 ⟨rfl, h7⟩; have hC := ch_cyc1 h7 (by omega) (by omega) hz0; clear hU h7)
            | (go_at_call 16; refine hC.mono ?_; rintro e w8 ⟨p1, c1, p2, c2, rfl, ⟨g1, g2⟩, h8⟩; have gl1 : p1 < w8.heap.size := cell_lt g1; have gl2 : p2 < w8.heap.size := cell_lt g2; have hR := ch_refs h8 (by omega); clear hC h8)
            | (go_at_call 18; refine hR.mono ?_; rintro e w10 ⟨a1, c1, rfl, h10⟩; have hX := ch_next h10 (by simp); clear hR h10)
            | (go_at_call 17; refine hX.mono ?_; rintro e w11 ⟨rfl, h11⟩; have H11 : Hid (ChS w1.heap.size w1 rh hb i false ([] ++ [0] ++ [1]) [] [] (1000 + 1100 * i + 1100 + 20000) w11) := h11; clear hX h11))
          have hz1 : (1 : Int) ∈ ([] ++ [0] ++ [1] : List Int) := by simp
          have hz2 : ∀ r ∈ ([] ++ [0] ++ [1] : List Int), r = 0 ∨ r = 1 := fun r hr => by simpa using hr
          have hC := ch_cyc2 H11.out (by omega) hz1 hz2
          clear H11
          go_wp2_with (first
            | (go_at_call 16; refine hC.mono ?_; rintro e w12 ⟨a2, c2, a3, c3, rfl, h12⟩; have hR := ch_refs h12 (by omega); clear hC h12)
            | (go_at_call 18; refine hR.mono ?_; rintro e w13 ⟨a4, c4, rfl, h13⟩; have H13 : Hid (ChS w1.heap.size w1 rh hb i false ([] ++ [0] ++ [1]) [] [] (1000 + 1100 * i + 1100 + 20000 + 20000) w13) := h13; clear hR h13))
          go_loopg [23, 24, 25, 26] 20 (fun kx s23 s24 s25 s26 wy => ∃ j : Nat, s23 = .int .i64 j ∧ s24 = .int .i64 ((j : Int) + 1) ∧ j ≤ i ∧ i - j ≤ kx ∧ Hid (ChS w1.heap.size w1 rh hb i false ([] ++ [0] ++ [1]) [] [] (60000 + j) wy))
          case atStart => exact ⟨0, rfl, rfl, by omega, by omega, H13.out.most (by omega)⟩
          case round =>
            clear H13
            obtain ⟨j, rfl, rfl, hj, hjx, HJ⟩ := hrel
            by_cases hji : j < i
            · have hl4 : (j : Int) < (i : Int) := by omega
              have hL := ch_load HJ.out hji (by omega) _ rfl
              have hnz : ((j : Int) + 2 == 0) = false := by simp; omega
              clear HJ
              go_wp2_with (first
                | (go_at_call 21; refine hL.mono ?_; rintro e w14 ⟨rfl, h14⟩; have H14 : Hid (ChS w1.heap.size w1 rh hb i false ([] ++ [0] ++ [1]) [] [] (60000 + j + 1) w14) := h14; clear hL h14)
                | (go_at_call 9; refine (num_any _ _).mono ?_; rintro e w9 ⟨rfl, hw9⟩; replace hw9 := hw9.symm; subst hw9))
              go_roundg (i - (j + 1))
              case measure => omega
              case rel => exact ⟨j + 1, by go_num, by go_num, by omega, by omega, H14⟩
            · obtain rfl : j = i := by omega
              have hl4 : ¬ (j : Int) < (j : Int) := by omega
              have hP : Calls _ _ _ _ _ := ch_pop (R := [] ++ [0]) HJ.out
              clear HJ
              go_wp2_with (first
                | (go_at_call 15; refine hP.mono ?_; rintro e w14 ⟨rfl, h14⟩; have hC := ch_cyc3 h14 (by omega) hz0; clear hP h14)
                | (go_at_call 16; refine hC.mono ?_; rintro e w15 ⟨a5, n5, c5, a6, n6, c6, rfl, hR⟩; clear hC)
                | (go_at_call 9; refine (num_any _ _).mono ?_; rintro e w9 ⟨rfl, hw9⟩; replace hw9 := hw9.symm; subst hw9)
                | (go_at_call 18; refine hR.mono ?_; rintro e w16 ⟨a7, c7, rfl, hb16⟩; clear hR))
              go_ret
              exact ⟨rfl, hb1.trans (hb16.mono hb1.size)⟩
end Go.Proofs.YthkelaeemefnaaaGreat
