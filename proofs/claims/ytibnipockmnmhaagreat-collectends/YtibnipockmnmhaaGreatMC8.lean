/- CollectMoves' heap: a list whose head is moved along. -/
import Derived.Test.YtibnipockmnmhaaGreatMC6
import Derived.Test.YtibnipockmnmhaaGreatMC3
import Derived.Test.YtibnipockmnmhaaGreatMC7
namespace Go.Proofs.YtibnipockmnmhaaGreat
open Go.RowKit
def ownB (v : Value) (k : Nat) : Prop := v.ownBlock = some k
/-- i cells of one word, those below l name the next; P the first thread's roots. -/
structure MvB (i l : Nat) (P : List Int) (X : Cm) : Prop where
  T : X.T = 2
  W : X.W = 16384
  ph : X.ph = 0
  lk : ¬ X.tr.ln < X.tr.lw
  all : allB X.T X.A = true
  len : X.S.length = i
  cell : ∀ x, x < i → ∃ a, X.S[x]? = some (some ⟨1, x, 1, a⟩)
  rt0 : X.rt 0 = P
  rt1 : X.rt 1 = []
  word : ∀ x, x < i → X.F x 0 = if x < l then (x : Int) + 2 else 0
  sum : sumS X.S = 17 * i
  cy : X.cy = 0
section
variable {B : Nat} {w0 w w' : World} {hb : Nat} {v : Value}
/-- While it is built: j of the refs stand in the law's row. -/
def MvS (B : Nat) (w0 : World) (hb i j l : Nat) (P : List Int) (c : Nat) (v : Value) (w : World) : Prop := ∃ X Z, Sd B w0 w hb X Z (ownB v) ∧ Ri w B v (seg 0 j) ∧ MvB i l P X ∧ X.m ≤ c
theorem MvS.bel {i j l c : Nat} {P : List Int} (h : MvS B w0 hb i j l P c v w) : Below B w0 w := let ⟨_, _, H, _⟩ := h; H.cv.hv.bel
theorem mv_make {i c : Nat} (h : MvS B w0 hb i i 0 (seg 0 i) c v w) (hi : i < 18) (hc : c ≤ 100000) : Calls Tryz.prog 14 #[.pointer (some ⟨hb, 0, none⟩), .int .i64 0, .int .i64 1, .int .i64 i, .int .i64 1] w fun e w' => e = .returned (.tuple #[.int .i64 ((i : Int) + 1), .int .i64 0]) ∧ MvS B w0 hb (i + 1) i 0 (seg 0 (i + 1)) (c + 500) v w' := by
  obtain ⟨X, Z, H, hr, hg, hm⟩ := h
  refine (cmake_ok H.cv (by omega) 0 1 i 1 (by rw [hg.T]; omega) (fits_obj (by omega) (by omega)) (by rw [hg.rt0, seg_len]; omega) (by rw [hg.sum, hg.W]; omega)).mono ?_
  rintro e w' ⟨x, S', a, c', rfl, hAd, hT⟩
  have ex : x = i := by rw [hAd.at_, hg.len]
  subst ex
  obtain ⟨⟨Z', H'⟩, st⟩ := H.call hT rfl
  refine ⟨rfl, _, Z', H', hr.of_block st, ⟨hg.T, hg.W, hg.ph, hg.lk, hg.all, ?_, fun y hy => ?_, ?_, ?_, fun y hy => ?_, ?_, hg.cy⟩, by show X.m + 500 ≤ _; omega⟩
  · show S'.length = _
    rw [hAd.eq, List.length_append, hg.len]; rfl
  · show ∃ a, S'[y]? = _
    by_cases e : y = x
    · subst e; exact ⟨a, hAd.new⟩
    · obtain ⟨a', h⟩ := hg.cell y (by omega)
      exact ⟨a', by rw [hAd.old y e]; exact h⟩
  · show setL X.rt 0 (X.rt 0 ++ [(x : Int) + 1]) 0 = _
    rw [hg.rt0]
    simp [setL, seg]
  · show setL X.rt 0 (X.rt 0 ++ [(x : Int) + 1]) 1 = _
    simp [setL, hg.rt1]
  · show setF X.F x (fun _ => 0) y 0 = _
    by_cases e : y = x
    · subst e; rw [setF_at, if_neg (by omega)]
    · rw [setF_else _ _ e]; exact hg.word y (by omega)
  · show sumS S' = _
    rw [hAd.sum, hg.sum]
    show 17 * x + (1 + 16) = _
    omega
theorem mv_app {i c : Nat} (h : MvS B w0 hb (i + 1) i 0 (seg 0 (i + 1)) c v w) (hi : i < 18) : ∃ ao cap ao' cap' w3, v = .slice ao i cap ∧ (appC #[39, 39] 39 #[.slice ao i cap, .slice (some ⟨w.heap.size, 0, none⟩) 1 1]).run Tryz.prog (w.alloc (.cells #[.int .i64 ((i : Int) + 1)] 3)) = .ok (.slice ao' (i + 1) cap') w3 ∧ MvS B w0 hb (i + 1) (i + 1) 0 (seg 0 (i + 1)) c (.slice ao' (i + 1) cap') w3 := by
  obtain ⟨X, Z, H, hr, hg, hm⟩ := h
  obtain ⟨ao, cap, ao', cap', w3, h1, h2, h3, h4, _, _⟩ := H.app hr (fun k hk => hk) (by rw [seg_len]; omega) ((i : Int) + 1)
  rw [seg_len] at h1 h2 h3 h4
  refine ⟨ao, cap, ao', cap', w3, h1, h2, X, Z, h4.less (fun k hk => .inr hk), ?_, hg, hm⟩
  have e : seg 0 i ++ [(i : Int) + 1] = seg 0 (i + 1) := by simp [seg]
  rw [e] at h3
  exact h3
/-- What the row holds. -/
theorem MvS.row {i j l c : Nat} {P : List Int} (h : MvS B w0 hb i j l P c v w) (hj : 0 < j) : ∃ p cap, v = .slice (some ⟨p, 0, none⟩) j cap ∧ p < w.heap.size ∧ ∀ x, x < j → w.cell? ⟨p, x, none⟩ = some (.int .i64 ((x : Int) + 1)) := by
  obtain ⟨X, Z, H, hr, hg, hm⟩ := h
  obtain ⟨ao, cap, rfl⟩ := hr.form
  obtain ⟨p, rfl, hp, _, _, hc⟩ := hr.cells (by rw [seg_len]; exact hj)
  rw [seg_len]
  refine ⟨p, cap, rfl, hp.2, fun x hx => ?_⟩
  have := hc x _ (seg_get 0 hx)
  rw [show ((0 : Nat) : Int) + x + 1 = (x : Int) + 1 by omega] at this
  exact this
theorem mv_link {k l c : Nat} (h : MvS B w0 hb k k l (seg 0 k) c v w) (hl : l + 1 < k) (hc : c ≤ 100000) (r y : Int) (hr : r = (l : Int) + 1) (hy : y = (l : Int) + 2) : Calls Tryz.prog 15 #[.pointer (some ⟨hb, 0, none⟩), .int .i64 0, .int .i64 r, .int .i64 0, .int .i64 y] w fun e w' => e = .returned (.int .i64 0) ∧ MvS B w0 hb k k (l + 1) (seg 0 k) (c + 2) v w' := by
  subst hr hy
  obtain ⟨X, Z, H, hr, hg, hm⟩ := h
  obtain ⟨a, ha⟩ := hg.cell l (by omega)
  refine (cput_ok H.cv (by omega) 0 _ (by rw [hg.T]; omega) ha 0 0 rfl (show 0 < 1 by omega)).mono ?_
  rintro e w' ⟨rfl, c', _, hT⟩
  have et : X.pw ((l : Int) + 1) 0 = X.tr := if_neg (by rw [hg.ph]; omega)
  rw [et] at hT
  obtain ⟨⟨Z', H'⟩, st⟩ := H.call hT rfl
  refine ⟨rfl, _, Z', H', hr.of_block st, ⟨hg.T, hg.W, hg.ph, hg.lk, hg.all, hg.len, hg.cell, hg.rt0, hg.rt1, fun x hx => ?_, hg.sum, hg.cy⟩, by show X.m + 2 ≤ _; omega⟩
  dsimp only
  by_cases e : x = l
  · subst e; rw [setF_at, if_pos rfl, if_pos (by omega)]
  · rw [setF_else _ _ e, hg.word x hx]
    by_cases q : x < l
    · rw [if_pos q, if_pos (by omega)]
    · rw [if_neg q, if_neg (by omega)]
theorem mv_pop0 {k l j c : Nat} (h : MvS B w0 hb k k l (seg 0 (j + 1)) c v w) : Calls Tryz.prog 16 #[.pointer (some ⟨hb, 0, none⟩), .int .i64 0] w fun e w' => (∃ x y, e = .returned (.tuple #[.int .i64 x, .int .i64 y])) ∧ MvS B w0 hb k k l (seg 0 j) c v w' := by
  obtain ⟨X, Z, H, hr, hg, hm⟩ := h
  have e : X.rt 0 = seg 0 j ++ [((0 : Nat) : Int) + j + 1] := by rw [hg.rt0, seg]
  refine (cpop_ok H.cv 0 (by rw [hg.T]; omega) e).mono ?_
  rintro e' w' ⟨rfl, hT⟩
  have et : X.popTr (((0 : Nat) : Int) + j + 1) = X.tr := if_neg (by rw [hg.ph]; omega)
  rw [et] at hT
  obtain ⟨⟨Z', H'⟩, st⟩ := H.call hT rfl
  refine ⟨⟨_, _, rfl⟩, _, Z', H', hr.of_block st, ⟨hg.T, hg.W, hg.ph, hg.lk, hg.all, hg.len, hg.cell, ?_, ?_, hg.word, hg.sum, hg.cy⟩, hm⟩
  · show setL X.rt 0 (seg 0 j) 0 = seg 0 j
    simp [setL]
  · show setL X.rt 0 (seg 0 j) 1 = []
    simp [setL, hg.rt1]
end
/-- The list while its head is moved: words from b on stand, R the roots. -/
structure MvW (k b : Nat) (R : Nat → List Int) (X : Cm) : Prop where
  T : X.T = 2
  cell : ∀ x, x < k → ∃ a, X.S[x]? = some (some ⟨1, x, 1, a⟩)
  word : ∀ x, b ≤ x → x + 1 < k → X.F x 0 = (x : Int) + 2
  rt : ∀ t, t < 2 → X.rt t = R t
  cy : 0 ≤ X.cy ∧ X.cy ≤ 1
  few : X.tr.row.length ≤ 18 ∧ ∀ r, rfs X.S r ≤ 1
  cyc : ∃ K0 G R0 rf0, (∀ x, x < k → K0 ((x : Int) + 1)) ∧ ((Mt K0 G R0 rf0 [] X ∧ X.cy = 0) ∨ (X.ph = 0 ∧ allB X.T X.A = true))
theorem MvW.phs {k b : Nat} {R : Nat → List Int} {X : Cm} (h : MvW k b R X) : X.phs := by
  obtain ⟨_, _, _, _, _, q | q⟩ := h.cyc
  · exact q.1.phs.1
  · exact .inl q.1
theorem kind_at {S : List (Option Cel)} {x : Nat} {cl : Cel} (h : S[x]? = some (some cl)) : celOf S ((x : Int) + 1) = some cl := by rw [celOf_at, h]; rfl
theorem at_kind {S : List (Option Cel)} {x : Nat} {cl : Cel} (h : celOf S ((x : Int) + 1) = some cl) : S[x]? = some (some cl) := by
  obtain ⟨i, e, hi⟩ := celOf_some h
  obtain rfl : x = i := by omega
  exact hi
/-- A turn. -/
theorem MvW.turn {k b : Nat} {R : Nat → List Int} {X X1 : Cm} (h : MvW k b R X) (hnd : X.tr.q.Nodup) (hgq : ∀ p ∈ X.tr.q, X.tr.col p = 2) (hs : Stp X X1) :
    MvW k b R (ansN X1 X1.T) ∧ ((X1.ph = 0 ∧ (ansN X1 X1.T).ph = 0) ∨ (X1.ph ≠ 0 ∧ X.ph ≠ 0 ∧ allB (ansN X1 X1.T).T (ansN X1 X1.T).A = true ∧ (todo (ansN X1 X1.T) < todo X ∨ (todo (ansN X1 X1.T) = todo X ∧ allB X.T X.A = false)))) := by
  obtain ⟨b1, b2, b3, b4, b5, b6, b7, b8, b9⟩ := ansN_same X1 X1.T
  obtain ⟨K0, G, R0, rf0, hk, hc⟩ := h.cyc
  rcases hc with ⟨hM, hcy⟩ | ⟨hp, ha⟩
  · obtain ⟨g, hc⟩ := hM.stp hnd hgq hs
    have hT1 : X1.T = X.T := g.T
    have hrowl : (ansN X1 X1.T).tr.row.length = X.tr.row.length := by rw [(ansN_tr X1 X1.T).1, g.row]
    have hcell : ∀ x, x < k → ∃ a, (ansN X1 X1.T).S[x]? = some (some ⟨1, x, 1, a⟩) := fun x hx => by
      obtain ⟨a, ha⟩ := h.cell x hx
      refine ⟨a, at_kind ?_⟩
      rw [b4, g.cel _ (.inl (hk x hx))]
      exact kind_at ha
    have hrf : ∀ r, rfs (ansN X1 X1.T).S r ≤ 1 := fun r => by rw [b4]; exact Nat.le_trans (rfs_sub g.sub r) (h.few.2 r)
    have hbase : ∀ (cyb : 0 ≤ (ansN X1 X1.T).cy ∧ (ansN X1 X1.T).cy ≤ 1) (hcy2 : (Mt K0 G R0 rf0 [] (ansN X1 X1.T) ∧ (ansN X1 X1.T).cy = 0) ∨ ((ansN X1 X1.T).ph = 0 ∧ allB (ansN X1 X1.T).T (ansN X1 X1.T).A = true)), MvW k b R (ansN X1 X1.T) := fun cyb hcy2 =>
      ⟨by rw [b1, hT1]; exact h.T, hcell, fun x h1 h2 => by rw [b5, g.F]; exact h.word x h1 h2, fun t ht => by rw [b6, g.rt]; exact h.rt t ht, cyb, ⟨by rw [hrowl]; exact h.few.1, hrf⟩, K0, G, R0, rf0, hk, hcy2⟩
    rcases hc with ⟨q1, q2, q3, q4⟩ | ⟨q1, q2⟩
    · obtain ⟨hA, htd⟩ := q2.answers X1.T (Nat.le_refl _)
      refine ⟨hbase (by rw [b8, q3, hcy]; omega) (.inl ⟨hA, by rw [b8, q3, hcy]⟩), .inr ⟨q1, hM.phs.2, by rw [b1]; exact ansN_all X1, ?_⟩⟩
      rw [htd]
      rcases q4 with q4 | ⟨q4, q5⟩
      · exact .inl q4
      · exact .inr ⟨by rw [q4], q5⟩
    · have hall : allB (ansN X1 X1.T).T (ansN X1 X1.T).A = true := by rw [b1]; exact ansN_all X1
      exact ⟨hbase (by rw [b8, q2, hcy]; omega) (.inr ⟨by rw [b7]; exact q1.ph, hall⟩), .inl ⟨q1.ph, by rw [b7]; exact q1.ph⟩⟩
  · have e : X1 = X := by
      rcases hs with ⟨q, _⟩ | ⟨q, _⟩ | ⟨q, _⟩ | ⟨q, _⟩ | ⟨q, _⟩ | ⟨q, _⟩ | ⟨_, _, _, q⟩
      · omega
      · omega
      · omega
      · omega
      · omega
      · omega
      · exact q
    subst e
    rw [ans_all ha]
    exact ⟨h, .inl ⟨hp, hp⟩⟩
theorem MvW.todo {k b : Nat} {R : Nat → List Int} {X : Cm} (h : MvW k b R X) (hp : X.ph ≠ 0) : todo X ≤ 100 := by
  obtain ⟨K0, G, R0, rf0, hk, hc⟩ := h.cyc
  have hl := h.few.1
  rcases hc with ⟨hM, _⟩ | ⟨q, _⟩
  · unfold Go.Proofs.YtibnipockmnmhaaGreat.todo
    rcases hM.stage with ⟨p1, HM, _⟩ | ⟨p, _⟩
    · rw [if_pos p1]
      have h1 := musum_le (T := X.tr) h.few.2 X.tr.row.length
      unfold mu
      by_cases q : X.tr.ln < X.tr.lw
      · obtain ⟨_, h2, h3⟩ := HM.look q
        have := h.few.2 X.tr.lr
        rw [if_pos q]
        omega
      · rw [if_neg q]; omega
    · rw [if_neg (by rcases p with p | ⟨p, _⟩ <;> rw [p] <;> decide)]
      split <;> omega
  · exact absurd q hp
end Go.Proofs.YtibnipockmnmhaaGreat
/- CollectMoves' calls while the head is moved. -/
namespace Go.Proofs.YtibnipockmnmhaaGreat
open Go.RowKit
section
variable {B : Nat} {w0 w w' : World} {hb : Nat} {v : Value} {k b c : Nat} {R : Nat → List Int}
def MvM (B : Nat) (w0 : World) (hb k b : Nat) (R : Nat → List Int) (c : Nat) (v : Value) (w : World) : Prop := ∃ X Z, Sd B w0 w hb X Z (ownB v) ∧ Ri w B v (seg 0 k) ∧ MvW k b R X ∧ X.m ≤ c
theorem MvM.bel (h : MvM B w0 hb k b R c v w) : Below B w0 w := let ⟨_, _, H, _⟩ := h; H.cv.hv.bel
theorem MvM.roots {R' : Nat → List Int} (h : MvM B w0 hb k b R c v w) (e : ∀ t, t < 2 → R t = R' t) : MvM B w0 hb k b R' c v w := by
  obtain ⟨X, Z, H, hr, hg, hm⟩ := h
  exact ⟨X, Z, H, hr, ⟨hg.T, hg.cell, hg.word, fun t ht => (hg.rt t ht).trans (e t ht), hg.cy, hg.few, hg.cyc⟩, hm⟩
theorem MvM.row (h : MvM B w0 hb k b R c v w) (hj : 0 < k) : ∃ p cap, v = .slice (some ⟨p, 0, none⟩) k cap ∧ p < w.heap.size ∧ ∀ x, x < k → w.cell? ⟨p, x, none⟩ = some (.int .i64 ((x : Int) + 1)) := by
  obtain ⟨X, Z, H, hr, hg, hm⟩ := h
  obtain ⟨ao, cap, rfl⟩ := hr.form
  obtain ⟨p, rfl, hp, _, _, hc⟩ := hr.cells (by rw [seg_len]; exact hj)
  rw [seg_len]
  refine ⟨p, cap, rfl, hp.2, fun x hx => ?_⟩
  have := hc x _ (seg_get 0 hx)
  rw [show ((0 : Nat) : Int) + x + 1 = (x : Int) + 1 by omega] at this
  exact this
theorem mv_begin (h : MvS B w0 hb k k (k - 1) (seg 0 1) c v w) (hk : 3 ≤ k ∧ k ≤ 18) (hc : c ≤ 100000) : Calls Tryz.prog 18 #[.pointer (some ⟨hb, 0, none⟩)] w fun e w' => e = .returned (.int .i64 0) ∧ MvM B w0 hb k 0 (fun t => if t = 0 then [1] else []) c v w' := by
  obtain ⟨X, Z, H, hr, hg, hm⟩ := h
  refine (cbegin_idle H.cv (by omega) hg.ph hg.all).mono ?_
  rintro e w' ⟨rfl, rr, hT⟩
  have h1 : seg 0 1 = [1] := by simp [seg]
  have hin : ∀ x, x < k → (x : Int) + 1 ∈ nums 0 X.S := fun x hx => let ⟨_, ha⟩ := hg.cell x hx; nums_in ha
  have hrf : ∀ r, rfs X.S r ≤ 1 := fun r => by
    unfold rfs
    cases e : celOf X.S r with
    | none => exact Nat.zero_le _
    | some cl =>
      obtain ⟨i, _, hi⟩ := celOf_some e
      obtain ⟨a, ha⟩ := hg.cell i (by have := (List.getElem?_eq_some_iff.1 hi).1; rw [hg.len] at this; exact this)
      rw [ha] at hi
      simp only [Option.some.injEq] at hi
      subst hi
      simp
  have hrf1 : ∀ x, x < k → rfs X.S ((x : Int) + 1) = 1 := fun x hx => by
    obtain ⟨a, ha⟩ := hg.cell x hx
    unfold rfs
    rw [kind_at ha]
    simp
  have hwd : ∀ x, x < k → wd X ((x : Int) + 1) 0 = if x < k - 1 then (x : Int) + 2 else 0 := fun x hx => by
    unfold wd
    rw [show ((x : Int) + 1 - 1).toNat = x by omega]
    exact hg.word x hx
  have hclo : Clo (fun r => r ∈ nums 0 X.S) X := by
    refine ⟨fun t ht r hr => ?_, fun r hr j hj => ?_⟩
    · rw [hg.T] at ht
      rcases (show t = 0 ∨ t = 1 by omega) with rfl | rfl
      · rw [hg.rt0, h1] at hr
        right
        rw [List.mem_singleton.1 hr]
        exact hin 0 (by omega)
      · rw [hg.rt1] at hr; simp at hr
    · obtain ⟨i, _, e1, e2⟩ := nums_mem 0 X.S r hr
      have hi : i < k := by have := (List.getElem?_eq_some_iff.1 e2).1; rw [hg.len] at this; exact this
      obtain rfl : r = (i : Int) + 1 := by omega
      have := hrf ((i : Int) + 1)
      obtain rfl : j = 0 := by omega
      rw [hwd i hi]
      by_cases q : i < k - 1
      · right
        rw [if_pos q]
        have := hin (i + 1) (by omega)
        rw [show ((i + 1 : Nat) : Int) + 1 = (i : Int) + 2 by omega] at this
        exact this
      · left; rw [if_neg q]
  have hK : ∀ x, x < k → Rch X ((x : Int) + 1) := by
    intro x
    induction x with
    | zero => intro _; exact Rch.root (t := 0) (by rw [hg.T]; omega) (by rw [hg.rt0, h1]; simp) (by omega)
    | succ x ih =>
      intro hx
      have e := hwd x (by omega)
      rw [if_pos (by omega)] at e
      have := (ih (by omega)).word (j := 0) (by rw [hrf1 x (by omega)]; omega) (by rw [e]; omega)
      rw [e] at this
      rw [show ((x + 1 : Nat) : Int) + 1 = (x : Int) + 2 by omega]
      exact this
  obtain ⟨⟨Z', H'⟩, st⟩ := H.call hT rfl
  refine ⟨rfl, _, Z', H', hr.of_block st, ⟨hg.T, hg.cell, fun x _ hx => ?_, fun t ht => ?_, ?_, ⟨?_, hrf⟩, _, _, _, _, hK, .inl ⟨Mt.start hclo hg.lk 1 rr, hg.cy⟩⟩, hm⟩
  · show X.F x 0 = _
    rw [hg.word x (by omega), if_pos (by omega)]
  · show X.rt t = _
    rcases (show t = 0 ∨ t = 1 by omega) with rfl | rfl
    · rw [hg.rt0, h1]; rfl
    · rw [hg.rt1]; rfl
  · show 0 ≤ X.cy ∧ X.cy ≤ 1
    rw [hg.cy]; omega
  · show (nums 0 X.S).length ≤ 18
    have := nums_few X.S
    rw [hg.len] at this
    omega
theorem mv_turn (h : MvM B w0 hb k b R c v w) (hc : c ≤ 500000) : Calls Tryz.prog 25 #[.pointer (some ⟨hb, 0, none⟩), .int .i64 2] w fun e w' => (∃ x, e = .returned (.bool x)) ∧ MvM B w0 hb k b R (c + 500) v w' := by
  obtain ⟨X, Z, H, hr, hg, hm⟩ := h
  refine (turn_ok H.cv (by omega) hg.phs ⟨hg.cy.1, by have := hg.cy.2; omega⟩ 2 (by rw [hg.T]; rfl)).mono ?_
  rintro e w' ⟨X1, hs, rfl, hT⟩
  obtain ⟨m1, _⟩ := turn_cost hs
  obtain ⟨g1, _⟩ := hg.turn H.cv.greys.1 H.cv.greys.2 hs
  obtain ⟨⟨Z', H'⟩, st⟩ := H.call hT (by rw [g1.T, hg.T])
  exact ⟨⟨_, rfl⟩, _, Z', H', hr.of_block st, g1, by omega⟩
/-- With r turns to come at most. -/
def MvF (B : Nat) (w0 : World) (hb k b : Nat) (R : Nat → List Int) (c r : Nat) (v : Value) (w : World) : Prop := ∃ X Z, Sd B w0 w hb X Z (ownB v) ∧ Ri w B v (seg 0 k) ∧ MvW k b R X ∧ X.m + 500 * r ≤ c ∧ 1 ≤ r ∧ (X.ph ≠ 0 → todo X + (if allB X.T X.A = true then 0 else 1) + 1 ≤ r)
theorem MvM.last (h : MvM B w0 hb k b R c v w) : MvF B w0 hb k b R (c + 500 * 102) 102 v w := by
  obtain ⟨X, Z, H, hr, hg, hm⟩ := h
  refine ⟨X, Z, H, hr, hg, by omega, by omega, fun hp => ?_⟩
  have := hg.todo hp
  split <;> omega
theorem mv_last {r : Nat} (h : MvF B w0 hb k b R c r v w) (hc : c ≤ 500000) : Calls Tryz.prog 25 #[.pointer (some ⟨hb, 0, none⟩), .int .i64 2] w fun e w' => (e = .returned (.bool true) ∧ ∃ r', r' < r ∧ MvF B w0 hb k b R c r' v w') ∨ (e = .returned (.bool false) ∧ MvM B w0 hb k b R c v w') := by
  obtain ⟨X, Z, H, hr, hg, hm, hr1, htd⟩ := h
  refine (turn_ok H.cv (by omega) hg.phs ⟨hg.cy.1, by have := hg.cy.2; omega⟩ 2 (by rw [hg.T]; rfl)).mono ?_
  rintro e w' ⟨X1, hs, rfl, hT⟩
  obtain ⟨m1, _⟩ := turn_cost hs
  obtain ⟨g1, g2⟩ := hg.turn H.cv.greys.1 H.cv.greys.2 hs
  obtain ⟨⟨Z', H'⟩, st⟩ := H.call hT (by rw [g1.T, hg.T])
  rcases g2 with ⟨q1, q2⟩ | ⟨q1, q0, q2, q3⟩
  · exact .inr ⟨by rw [q1]; rfl, _, Z', H', hr.of_block st, g1, by omega⟩
  · have hh := htd q0
    refine .inl ⟨by rw [show (X1.ph != 0) = true by simpa using q1], todo (ansN X1 X1.T) + 1, ?_, _, Z', H', hr.of_block st, g1, ?_, by omega, fun _ => by rw [if_pos q2]; omega⟩
    · rcases q3 with q3 | ⟨q3, q4⟩
      · split at hh <;> omega
      · rw [q4] at hh; simp at hh; omega
    · have : todo (ansN X1 X1.T) + 1 + 1 ≤ r := by
        rcases q3 with q3 | ⟨q3, q4⟩
        · split at hh <;> omega
        · rw [q4] at hh; simp at hh; omega
      omega
theorem mv_load {a : Nat} (h : MvM B w0 hb k b R c v w) (ha : b ≤ a ∧ a + 1 < k) (hc : c ≤ 500000) (r : Int) (hr : r = (a : Int) + 1) : Calls Tryz.prog 22 #[.pointer (some ⟨hb, 0, none⟩), .int .i64 0, .int .i64 r, .int .i64 0] w fun e w' => e = .returned (.tuple #[.int .i64 ((a : Int) + 2), .int .i64 0]) ∧ MvM B w0 hb k b R (c + 1) v w' := by
  subst hr
  obtain ⟨X, Z, H, hr, hg, hm⟩ := h
  obtain ⟨x, hx⟩ := hg.cell a (by omega)
  refine (cload_ok H.cv (by omega) 0 (by rw [hg.T]; omega) hx 0 0 rfl (show 0 < 1 by omega)).mono ?_
  rintro e w' ⟨rfl, c', _, hT⟩
  obtain ⟨⟨Z', H'⟩, st⟩ := H.call hT rfl
  refine ⟨by rw [hg.word a ha.1 ha.2], _, Z', H', hr.of_block st, ⟨hg.T, hg.cell, hg.word, hg.rt, hg.cy, hg.few, ?_⟩, by show X.m + 1 ≤ _; omega⟩
  obtain ⟨K0, G, R0, rf0, h1, h2⟩ := hg.cyc
  exact ⟨K0, G, R0, rf0, h1, h2.imp (fun q => ⟨q.1.cost _ _, q.2⟩) id⟩
theorem mv_push {a : Nat} (h : MvM B w0 hb k b R c v w) (ha : a < k) (t : Nat) (ht : t < 2) (hl : (R t).length < 64) (s r : Int) (hs : s = t) (hr : r = (a : Int) + 1) : Calls Tryz.prog 26 #[.pointer (some ⟨hb, 0, none⟩), .int .i64 s, .int .i64 r] w fun e w' => e = .returned (.int .i64 0) ∧ MvM B w0 hb k b (setL R t (R t ++ [(a : Int) + 1])) c v w' := by
  subst hr hs
  obtain ⟨X, Z, H, hr, hg, hm⟩ := h
  refine (cpush_ok H.cv t _ (by rw [hg.T]; exact ht) (by rw [hg.rt t ht]; exact hl)).mono ?_
  rintro e w' ⟨rfl, hT⟩
  obtain ⟨⟨Z', H'⟩, st⟩ := H.call hT rfl
  refine ⟨rfl, _, Z', H', hr.of_block st, ⟨hg.T, hg.cell, hg.word, fun s hs => ?_, hg.cy, hg.few, ?_⟩, hm⟩
  · show setL X.rt t (X.rt t ++ [(a : Int) + 1]) s = _
    unfold setL
    split
    · rw [hg.rt t ht]
    · exact hg.rt s hs
  · obtain ⟨K0, G, R0, rf0, h1, h2⟩ := hg.cyc
    exact ⟨K0, G, R0, rf0, h1, h2.imp (fun q => ⟨q.1.push t (.inr (.inl (h1 a ha))), q.2⟩) id⟩
theorem mv_put {a : Nat} (h : MvM B w0 hb k b R c v w) (ha : b ≤ a ∧ a < k) (hc : c ≤ 500000) (r : Int) (hr : r = (a : Int) + 1) : Calls Tryz.prog 15 #[.pointer (some ⟨hb, 0, none⟩), .int .i64 1, .int .i64 r, .int .i64 0, .int .i64 0] w fun e w' => e = .returned (.int .i64 0) ∧ MvM B w0 hb k (a + 1) R (c + 2) v w' := by
  subst hr
  obtain ⟨X, Z, H, hr, hg, hm⟩ := h
  obtain ⟨x, hx⟩ := hg.cell a (by omega)
  refine (cput_ok H.cv (by omega) 1 0 (by rw [hg.T]; omega) hx 0 0 rfl (show 0 < 1 by omega)).mono ?_
  rintro e w' ⟨rfl, c', _, hT⟩
  obtain ⟨⟨Z', H'⟩, st⟩ := H.call hT rfl
  obtain ⟨K0, G, R0, rf0, h1, h2⟩ := hg.cyc
  have hrow : (X.pw ((a : Int) + 1) 0).row = X.tr.row := by
    unfold Cm.pw
    split
    · exact (mw_same X _ _).2.2.2.2
    · rfl
  refine ⟨rfl, _, Z', H', hr.of_block st, ⟨hg.T, hg.cell, fun x h1 h2 => ?_, hg.rt, hg.cy, ⟨by show (X.pw _ _).row.length ≤ 18; rw [hrow]; exact hg.few.1, hg.few.2⟩, K0, G, R0, rf0, h1, h2.imp (fun q => ⟨?_, q.2⟩) id⟩, by show X.m + 2 ≤ _; omega⟩
  · dsimp only
    rw [setF_else _ _ (by omega)]; exact hg.word x (by omega) h2
  · exact q.1.put (k := a) (j := 0) (v := 0) (fun _ => ⟨.inl (h1 a ha.2), .inl rfl⟩) _ _
theorem mv_pop {U : List Int} {x : Int} (h : MvM B w0 hb k b R c v w) (t : Nat) (ht : t < 2) (hU : R t = U ++ [x]) (s : Int) (hs : s = t) : Calls Tryz.prog 16 #[.pointer (some ⟨hb, 0, none⟩), .int .i64 s] w fun e w' => (∃ x y, e = .returned (.tuple #[.int .i64 x, .int .i64 y])) ∧ MvM B w0 hb k b (setL R t U) c v w' := by
  subst hs
  obtain ⟨X, Z, H, hr, hg, hm⟩ := h
  have e : X.rt t = U ++ [x] := by rw [hg.rt t ht, hU]
  refine (cpop_ok H.cv t (by rw [hg.T]; exact ht) e).mono ?_
  rintro e' w' ⟨rfl, hT⟩
  obtain ⟨⟨Z', H'⟩, st⟩ := H.call hT rfl
  obtain ⟨K0, G, R0, rf0, h1, h2⟩ := hg.cyc
  have hrow : (X.popTr x).row = X.tr.row := by
    unfold Cm.popTr
    split
    · exact (mark_row X.tr x).1
    · rfl
  refine ⟨⟨_, _, rfl⟩, _, Z', H', hr.of_block st, ⟨hg.T, hg.cell, hg.word, fun s hs => ?_, hg.cy, ⟨by show (X.popTr _).row.length ≤ 18; rw [hrow]; exact hg.few.1, hg.few.2⟩, K0, G, R0, rf0, h1, h2.imp (fun q => ⟨q.1.pop (by rw [hg.T]; exact ht) e, q.2⟩) id⟩, hm⟩
  show setL X.rt t U s = setL R t U s
  unfold setL
  split
  · rfl
  · exact hg.rt s hs
end
end Go.Proofs.YtibnipockmnmhaaGreat
