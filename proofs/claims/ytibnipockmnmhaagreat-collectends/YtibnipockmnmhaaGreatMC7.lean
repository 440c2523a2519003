/- CollectRings' heap: rings of cells, of which one is held. -/
import Derived.Test.YtibnipockmnmhaaGreatMC5
namespace Go.Proofs.YtibnipockmnmhaaGreat
open Go.RowKit
/-- The refs b + 1 to b + j. -/
def seg (b : Nat) : Nat → List Int
  | 0 => []
  | j + 1 => seg b j ++ [(b : Int) + j + 1]
theorem seg_len (b : Nat) : ∀ j, (seg b j).length = j
  | 0 => rfl
  | j + 1 => by rw [seg, List.length_append, seg_len b j]; rfl
/-- n cells of two words, no cycle; those below k make a ring; P the roots. -/
structure Rg (n k : Nat) (P : List Int) (X : Cm) : Prop where
  T : X.T = 1
  W : X.W = 16384
  ph : X.ph = 0
  lk : ¬ X.tr.ln < X.tr.lw
  all : X.A 0 = true
  len : X.S.length = n
  cell : ∀ i, i < n → ∃ a, X.S[i]? = some (some ⟨1, 0, 2, a⟩)
  rt : X.rt 0 = P
  ring : ∀ x, x < k → X.F x 1 = 0 ∧ X.F x 0 = if x + 1 < k then (x : Int) + 2 else 1
  sum : sumS X.S = 18 * n
  cy : X.cy = 0
/-- A chain from b on: j cells, each names the next. -/
def Chain (b j : Nat) (X : Cm) : Prop := ∀ x, b ≤ x → x < b + j → X.F x 1 = 0 ∧ (x + 1 < b + j → X.F x 0 = (x : Int) + 2)
section
variable {B : Nat} {w0 w w' : World} {hb : Nat}
/-- While a ring is made: i rings before, j cells of this one, k the held one's size. -/
def RgI (B : Nat) (w0 : World) (hb n k : Nat) (P : List Int) (j c : Nat) (w : World) : Prop := ∃ X Z, CvC B w0 w hb X Z ∧ Rg (n + j) k (P ++ seg n j) X ∧ Chain n j X ∧ X.m ≤ c
/-- Behind a Make. -/
def RgK (B : Nat) (w0 : World) (hb n k : Nat) (P : List Int) (j c : Nat) (w : World) : Prop := ∃ X Z, CvC B w0 w hb X Z ∧ Rg (n + (j + 1)) k (P ++ seg n (j + 1)) X ∧ Chain n j X ∧ X.F (n + j) 1 = 0 ∧ X.m ≤ c
theorem rg_make {n k j c : Nat} {P : List Int} (h : RgI B w0 hb n k P j c w) (hn : n + j ≤ 47) (hk : k ≤ n) (hP : P.length ≤ 1) (hj : j ≤ 8) (hc : c ≤ 100000) : Calls Tryz.prog 14 #[.pointer (some ⟨hb, 0, none⟩), .int .i64 0, .int .i64 1, .int .i64 0, .int .i64 2] w fun e w' => e = .returned (.tuple #[.int .i64 (((n + j : Nat) : Int) + 1), .int .i64 0]) ∧ RgK B w0 hb n k P j (c + 500) w' := by
  obtain ⟨X, Z, H, hg, hch, hm⟩ := h
  refine (cmake_ok H (by omega) 0 1 0 2 (by rw [hg.T]; omega) (fits_obj (by omega) (by omega)) (by rw [hg.rt, List.length_append, seg_len]; omega) (by rw [hg.sum, hg.W]; omega)).mono ?_
  rintro e w' ⟨i, S', a, c', rfl, hAd, Z', H', _, _⟩
  have ei : i = n + j := by rw [hAd.at_, hg.len]
  subst ei
  refine ⟨rfl, _, Z', H', ⟨hg.T, hg.W, hg.ph, hg.lk, hg.all, ?_, fun x hx => ?_, ?_, fun x hx => ?_, ?_, hg.cy⟩, fun x h1 h2 => ?_, ?_, by show X.m + 500 ≤ c + 500; omega⟩
  · show S'.length = _
    rw [hAd.eq, List.length_append, hg.len]; rfl
  · show ∃ a, S'[x]? = _
    by_cases e : x = n + j
    · subst e; exact ⟨a, hAd.new⟩
    · obtain ⟨a', h⟩ := hg.cell x (by omega)
      exact ⟨a', by rw [hAd.old x e]; exact h⟩
  · show setL X.rt 0 (X.rt 0 ++ [((n + j : Nat) : Int) + 1]) 0 = _
    rw [hg.rt]
    simp only [setL, if_pos, seg]
    rw [List.append_assoc]
    congr 3
  · show setF X.F (n + j) (fun _ => 0) x 1 = 0 ∧ setF X.F (n + j) (fun _ => 0) x 0 = _
    rw [setF_else _ _ (by omega), setF_else _ _ (by omega)]
    exact hg.ring x hx
  · show sumS S' = _
    rw [hAd.sum, hg.sum]
    show 18 * (n + j) + (2 + 16) = _
    omega
  · show setF X.F (n + j) (fun _ => 0) x 1 = 0 ∧ (_ → setF X.F (n + j) (fun _ => 0) x 0 = _)
    rw [setF_else _ _ (by omega), setF_else _ _ (by omega)]
    exact hch x h1 h2
  · show setF X.F (n + j) (fun _ => 0) (n + j) 1 = 0
    rw [setF_at]
theorem rg_first {n k c : Nat} {P : List Int} (h : RgK B w0 hb n k P 0 c w) : RgI B w0 hb n k P 1 c w := by
  obtain ⟨X, Z, H, hg, _, h1, hm⟩ := h
  refine ⟨X, Z, H, hg, fun x h2 h3 => ?_, hm⟩
  obtain rfl : x = n := by omega
  exact ⟨h1, fun h => by omega⟩
/-- A word 0 is put. -/
theorem rg_put {n k c i : Nat} {P : List Int} {X : Cm} {Z : Cx} (H : CvC B w0 w hb X Z) (hg : Rg n k P X) (hi : i < n) (hc : X.m ≤ c) (hc2 : c ≤ 100000) (v : Int) : Calls Tryz.prog 15 #[.pointer (some ⟨hb, 0, none⟩), .int .i64 0, .int .i64 ((i : Int) + 1), .int .i64 0, .int .i64 v] w fun e w' => e = .returned (.int .i64 0) ∧ ∃ c' Z', CvC B w0 w' hb { X with m := X.m + 2, c := c', F := setF X.F i (fun l => if l = 0 then v else X.F i l) } Z' := by
  obtain ⟨a, ha⟩ := hg.cell i hi
  refine (cput_ok H (by omega) 0 v (by rw [hg.T]; omega) ha 0 0 rfl (show 0 < 2 by omega)).mono ?_
  rintro e w' ⟨rfl, c', _, Z', H', _, _⟩
  have et : X.pw ((i : Int) + 1) 0 = X.tr := if_neg (by rw [hg.ph]; omega)
  rw [et] at H'
  exact ⟨rfl, c', Z', H'⟩
theorem rg_link {n k j c : Nat} {P : List Int} (h : RgK B w0 hb n k P (j + 1) c w) (hk : k ≤ n) (hc : c ≤ 100000) : Calls Tryz.prog 15 #[.pointer (some ⟨hb, 0, none⟩), .int .i64 0, .int .i64 (((n + j : Nat) : Int) + 1), .int .i64 0, .int .i64 (((n + (j + 1) : Nat) : Int) + 1)] w fun e w' => e = .returned (.int .i64 0) ∧ RgI B w0 hb n k P (j + 2) (c + 2) w' := by
  obtain ⟨X, Z, H, hg, hch, h1, hm⟩ := h
  refine (rg_put H hg (i := n + j) (by omega) hm hc _).mono ?_
  rintro e w' ⟨rfl, c', Z', H'⟩
  refine ⟨rfl, _, Z', H', ⟨hg.T, hg.W, hg.ph, hg.lk, hg.all, hg.len, hg.cell, hg.rt, fun x hx => ?_, hg.sum, hg.cy⟩, fun x h2 h3 => ?_, by show X.m + 2 ≤ _; omega⟩
  · dsimp only
    rw [setF_else _ _ (by omega), setF_else _ _ (by omega)]
    exact hg.ring x hx
  · dsimp only
    by_cases e : x = n + j
    · subst e
      rw [setF_at, setF_at, if_neg (by omega), if_pos rfl]
      exact ⟨(hch _ h2 (by omega)).1, fun _ => by omega⟩
    · rw [setF_else _ _ e, setF_else _ _ e]
      by_cases e2 : x = n + (j + 1)
      · subst e2
        exact ⟨h1, fun h => by omega⟩
      · have := hch x h2 (by omega)
        exact ⟨this.1, fun _ => this.2 (by omega)⟩
/-- Between a ring's last cell and its pops. -/
def RgC (B : Nat) (w0 : World) (hb n k : Nat) (P : List Int) (c : Nat) (w : World) : Prop := ∃ X Z, CvC B w0 w hb X Z ∧ Rg n k P X ∧ X.m ≤ c
theorem rg_close0 {j c : Nat} (h : RgI B w0 hb 0 0 [] (j + 1) c w) (hc : c ≤ 100000) : Calls Tryz.prog 15 #[.pointer (some ⟨hb, 0, none⟩), .int .i64 0, .int .i64 (((0 + j : Nat) : Int) + 1), .int .i64 0, .int .i64 (((0 : Nat) : Int) + 1)] w fun e w' => e = .returned (.int .i64 0) ∧ RgC B w0 hb (j + 1) (j + 1) (seg 0 (j + 1)) (c + 2) w' := by
  obtain ⟨X, Z, H, hg, hch, hm⟩ := h
  rw [Nat.zero_add] at hg
  refine (rg_put H hg (i := 0 + j) (by omega) hm hc _).mono ?_
  rintro e w' ⟨rfl, c', Z', H'⟩
  refine ⟨rfl, _, Z', H', ⟨hg.T, hg.W, hg.ph, hg.lk, hg.all, hg.len, hg.cell, hg.rt, fun x hx => ?_, hg.sum, hg.cy⟩, by show X.m + 2 ≤ _; omega⟩
  dsimp only
  have hh := hch x (Nat.zero_le _) (by omega)
  by_cases e : x = 0 + j
  · subst e
    rw [setF_at, setF_at, if_neg (by omega), if_pos rfl, if_neg (by omega)]
    exact ⟨hh.1, rfl⟩
  · rw [setF_else _ _ e, setF_else _ _ e, if_pos (by omega)]
    exact ⟨hh.1, hh.2 (by omega)⟩
theorem rg_close {n k j c : Nat} {P : List Int} (h : RgI B w0 hb n k P (j + 1) c w) (hk : k ≤ n) (hc : c ≤ 100000) : Calls Tryz.prog 15 #[.pointer (some ⟨hb, 0, none⟩), .int .i64 0, .int .i64 (((n + j : Nat) : Int) + 1), .int .i64 0, .int .i64 ((n : Int) + 1)] w fun e w' => e = .returned (.int .i64 0) ∧ RgC B w0 hb (n + (j + 1)) k (P ++ seg n (j + 1)) (c + 2) w' := by
  obtain ⟨X, Z, H, hg, hch, hm⟩ := h
  refine (rg_put H hg (i := n + j) (by omega) hm hc _).mono ?_
  rintro e w' ⟨rfl, c', Z', H'⟩
  refine ⟨rfl, _, Z', H', ⟨hg.T, hg.W, hg.ph, hg.lk, hg.all, hg.len, hg.cell, hg.rt, fun x hx => ?_, hg.sum, hg.cy⟩, by show X.m + 2 ≤ _; omega⟩
  dsimp only
  rw [setF_else _ _ (by omega), setF_else _ _ (by omega)]
  exact hg.ring x hx
theorem rg_pop {n k b j c : Nat} {P : List Int} (h : RgC B w0 hb n k (P ++ seg b (j + 1)) c w) : Calls Tryz.prog 16 #[.pointer (some ⟨hb, 0, none⟩), .int .i64 0] w fun e w' => (∃ x y, e = .returned (.tuple #[.int .i64 x, .int .i64 y])) ∧ RgC B w0 hb n k (P ++ seg b j) c w' := by
  obtain ⟨X, Z, H, hg, hm⟩ := h
  have e : X.rt 0 = (P ++ seg b j) ++ [(b : Int) + j + 1] := by rw [hg.rt, seg, List.append_assoc]
  refine (cpop_ok H 0 (by rw [hg.T]; omega) e).mono ?_
  rintro e' w' ⟨rfl, Z', H', _, _⟩
  have et : X.popTr ((b : Int) + j + 1) = X.tr := if_neg (by rw [hg.ph]; omega)
  rw [et] at H'
  refine ⟨⟨_, _, rfl⟩, _, Z', H', ⟨hg.T, hg.W, hg.ph, hg.lk, hg.all, hg.len, hg.cell, ?_, hg.ring, hg.sum, hg.cy⟩, hm⟩
  show setL X.rt 0 _ 0 = _
  simp [setL]
end
end Go.Proofs.YtibnipockmnmhaaGreat
/- CollectRings' two cycles. -/
namespace Go.Proofs.YtibnipockmnmhaaGreat
open Go.RowKit
theorem seg_mem (b : Nat) : ∀ (j : Nat) (x : Int), x ∈ seg b j ↔ (b : Int) + 1 ≤ x ∧ x ≤ (b : Int) + j
  | 0, x => by simp [seg]; omega
  | j + 1, x => by rw [seg, List.mem_append, seg_mem b j x, List.mem_singleton]; omega
theorem seg_get (b : Nat) : ∀ {j x : Nat}, x < j → (seg b j)[x]? = some ((b : Int) + x + 1)
  | 0, x, h => by omega
  | j + 1, x, h => by
    rw [seg]
    by_cases e : x < j
    · rw [List.getElem?_append_left (by rw [seg_len]; exact e)]; exact seg_get b e
    · obtain rfl : x = j := by omega
      rw [List.getElem?_append_right (by rw [seg_len]; exact Nat.le_refl _), seg_len, Nat.sub_self]; rfl
theorem seg_nodup (b : Nat) : ∀ j, (seg b j).Nodup
  | 0 => List.nodup_nil
  | j + 1 => by
    rw [seg, List.nodup_append]
    refine ⟨seg_nodup b j, by simp, fun a ha c hc e => ?_⟩
    have h1 := (seg_mem b j a).1 ha
    have h2 := List.mem_singleton.1 hc
    omega
def rgK (k : Nat) (x : Int) : Prop := 1 ≤ x ∧ x ≤ k
/-- A ring of k cells that is held, and others of two words; no cycle is under way. -/
structure RgB (k : Nat) (X : Cm) : Prop where
  T : X.T = 1
  ph : X.ph = 0
  lk : ¬ X.tr.ln < X.tr.lw
  all : X.A 0 = true
  roots : (k = 0 ∧ X.rt 0 = []) ∨ (1 ≤ k ∧ X.rt 0 = [1])
  rf : ∀ r, rfs X.S r ≤ 2
  there : ∀ x, rgK k x → x ∈ nums 0 X.S
  ring : ∀ x, x < k → X.F x 1 = 0 ∧ X.F x 0 = if x + 1 < k then (x : Int) + 2 else 1
  few : (nums 0 X.S).length ≤ 48
  k8 : k ≤ 8
theorem Rg.b {n k : Nat} {P : List Int} {X : Cm} (h : Rg n k P X) (hP : (k = 0 ∧ P = []) ∨ (1 ≤ k ∧ P = [1])) (hk : k ≤ n) (hn : n ≤ 48) (k8 : k ≤ 8) : RgB k X := by
  refine ⟨h.T, h.ph, h.lk, h.all, by rw [h.rt]; exact hP, fun r => ?_, fun x hx => ?_, h.ring, by have := nums_few X.S; rw [h.len] at this; omega, k8⟩
  · unfold rfs
    cases hc : celOf X.S r with
    | none => exact Nat.zero_le _
    | some c =>
      obtain ⟨i, _, hi⟩ := celOf_some hc
      obtain ⟨a, ha⟩ := h.cell i (by have := (List.getElem?_eq_some_iff.1 hi).1; rw [h.len] at this; exact this)
      rw [ha] at hi
      simp only [Option.some.injEq] at hi
      subst hi
      simp
  · obtain ⟨i, rfl⟩ : ∃ i : Nat, x = (i : Int) + 1 := ⟨(x - 1).toNat, by unfold rgK at hx; omega⟩
    obtain ⟨a, ha⟩ := h.cell i (by unfold rgK at hx; omega)
    exact nums_in ha
theorem RgB.word {k : Nat} {X : Cm} (h : RgB k X) {r : Int} (hr : rgK k r) {j : Nat} (hj : j < rfs X.S r) : wd X r j = 0 ∨ (j = 0 ∧ wd X r j = if r < k then r + 1 else 1) := by
  have h2 := h.rf r
  obtain ⟨i, rfl⟩ : ∃ i : Nat, r = (i : Int) + 1 := ⟨(r - 1).toNat, by unfold rgK at hr; omega⟩
  unfold rgK at hr
  have hi := h.ring i (by omega)
  unfold wd
  rw [show ((i : Int) + 1 - 1).toNat = i by omega]
  rcases (show j = 0 ∨ j = 1 by omega) with rfl | rfl
  · right
    refine ⟨rfl, ?_⟩
    rw [hi.2]
    by_cases q : i + 1 < k
    · rw [if_pos q, if_pos (by omega)]; omega
    · rw [if_neg q, if_neg (by omega)]
  · exact .inl hi.1
theorem RgB.snap {k : Nat} {X : Cm} (h : RgB k X) (hr2 : ∀ x, rgK k x → rfs X.S x = 2) : Snap (rgK k) (wd X) X.rt X.S X.T := by
  refine ⟨fun t ht r hr => ?_, h.there, fun r hr j hj => ?_, fun P hP hW => ?_⟩
  · rw [h.T] at ht
    obtain rfl : t = 0 := by omega
    rcases h.roots with ⟨_, q⟩ | ⟨q1, q⟩
    · rw [q] at hr; simp at hr
    · rw [q] at hr
      right
      rw [List.mem_singleton.1 hr]
      unfold rgK; omega
  · rcases h.word hr hj with q | ⟨_, q⟩
    · exact .inl q
    · right
      rw [q]
      unfold rgK at *
      split <;> omega
  · rcases h.roots with ⟨q0, _⟩ | ⟨q1, q⟩
    · intro r hr; unfold rgK at hr; omega
    · have h1 : P 1 := hP 0 (by rw [h.T]; omega) 1 (by rw [q]; simp) (by decide)
      have hn : ∀ n : Nat, n < k → P ((n : Int) + 1) := by
        intro n
        induction n with
        | zero => intro _; exact h1
        | succ n ih =>
          intro hk
          have hrn : rgK k ((n : Int) + 1) := by unfold rgK; omega
          have hj : 0 < rfs X.S ((n : Int) + 1) := by rw [hr2 _ hrn]; omega
          have e : wd X ((n : Int) + 1) 0 = (n : Int) + 2 := by
            have := (h.ring n (by omega)).2
            unfold wd
            rw [show ((n : Int) + 1 - 1).toNat = n by omega, this, if_pos (by omega)]
          have := hW _ hrn (ih (by omega)) 0 hj (by rw [e]; omega)
          rw [e] at this
          rw [show ((n + 1 : Nat) : Int) + 1 = (n : Int) + 2 by omega]
          exact this
      intro r hr
      unfold rgK at hr
      have := hn (r - 1).toNat (by omega)
      rw [show (((r - 1).toNat : Nat) : Int) + 1 = r by omega] at this
      exact this
/-- Behind a cycle there is the held ring, and no more. -/
theorem RgB.over {k : Nat} {X X' : Cm} (h : RgB k X) (he : Qe (rgK k) (wd X) X.rt X.S X') (hT : X'.T = X.T) : RgB k X' ∧ (nums 0 X'.S).length = k := by
  obtain ⟨f, hf, hn⟩ := he.there
  have hmem : ∀ x, x ∈ nums 0 X'.S ↔ x ∈ seg 0 k := fun x => by
    rw [hn, List.mem_filter, seg_mem]
    constructor
    · rintro ⟨h1, h2⟩
      have := (hf x h1).1 h2
      unfold rgK at this
      omega
    · intro hx
      have hk : rgK k x := by unfold rgK; omega
      exact ⟨h.there x hk, (hf x (h.there x hk)).2 hk⟩
  have hl : (nums 0 X'.S).length = k := by
    rw [same_len (rise_nodup (nums_rise 0 _)) (seg_nodup 0 k) hmem, seg_len]
  refine ⟨⟨hT.trans h.T, he.ph, he.lk, ?_, ?_, fun r => Nat.le_trans (rfs_sub he.sub r) (h.rf r), fun x hx => ?_, fun x hx => ?_, by have := h.k8; omega, h.k8⟩, hl⟩
  · have := he.all
    rw [hT, h.T, all1] at this
    exact this
  · rw [he.rt 0 (by rw [hT, h.T]; omega)]; exact h.roots
  · rw [hmem, seg_mem]; unfold rgK at hx; omega
  · have hk : rgK k ((x : Int) + 1) := by unfold rgK; omega
    have a := he.wd _ hk 1
    have b := he.wd _ hk 0
    unfold wd at a b
    rw [show ((x : Int) + 1 - 1).toNat = x by omega] at a b
    rw [a, b]
    exact h.ring x hx
section
variable {B : Nat} {w0 w w' : World} {hb k i r : Nat}
/-- Between two cycles. -/
def RgS (B : Nat) (w0 : World) (hb k i : Nat) (w : World) : Prop := ∃ X Z, CvC B w0 w hb X Z ∧ RgB k X ∧ (∀ x, rgK k x → rfs X.S x = 2) ∧ (i ≠ 0 → (nums 0 X.S).length = k) ∧ X.cy = i ∧ X.m ≤ 100000 + 100000 * i
/-- Within one, with r turns to come at most. -/
def RgT (B : Nat) (w0 : World) (hb k i r : Nat) (w : World) : Prop := ∃ X Z Xb, CvC B w0 w hb X Z ∧ RgB k Xb ∧ (∀ x, rgK k x → rfs Xb.S x = 2) ∧ Qz (rgK k) (wd Xb) Xb.rt Xb.S X r ∧ X.T = 1 ∧ X.cy = i ∧ X.m + 500 * r ≤ 200000 + 100000 * i
theorem rg_begin (h : RgS B w0 hb k i w) (hi : i ≤ 2) : Calls Tryz.prog 18 #[.pointer (some ⟨hb, 0, none⟩)] w fun e w' => e = .returned (.int .i64 0) ∧ ∃ r, r ≤ 200 ∧ RgT B w0 hb k i r w' := by
  obtain ⟨X, Z, H, hg, h2, _, hcy, hm⟩ := h
  refine (cbegin_idle H (by omega) hg.ph (by rw [hg.T, all1]; exact hg.all)).mono ?_
  rintro e w' ⟨rfl, rr, Z', H', _, _⟩
  have hq := qz_begin (X := X) (hg.snap h2) (fun _ _ => rfl) (fun _ _ _ => rfl) hg.lk 1 rr
  have hmu := musum_le (T := X.tr.begun X.S) hg.rf (nums 0 X.S).length
  have hf := hg.few
  obtain ⟨r, hr⟩ : ∃ r, r = musum (X.tr.begun X.S) X.S (nums 0 X.S).length + (nums 0 X.S).length + 4 := ⟨_, rfl⟩
  rw [← hr] at hq
  have hr2 : r ≤ 200 := by omega
  exact ⟨rfl, r, hr2, _, Z', X, H', hg, h2, hq, hg.T, hcy, by show X.m + 500 * r ≤ _; omega⟩
theorem qz_phs {K0 : Int → Prop} {G : Int → Nat → Int} {R0 : Nat → List Int} {Sb : List (Option Cel)} {X : Cm} (h : Qz K0 G R0 Sb X r) : X.phs := by
  rcases h.2.2.2 with q | ⟨q | q, _⟩
  · exact .inr (.inl q.1)
  · exact .inr (.inr (.inr q.1))
  · exact .inr (.inr (.inl q.1))
theorem qz_pos {K0 : Int → Prop} {G : Int → Nat → Int} {R0 : Nat → List Int} {Sb : List (Option Cel)} {X : Cm} (h : Qz K0 G R0 Sb X r) : 1 ≤ r := by
  rcases h.2.2.2 with ⟨_, _, _, _, q | ⟨_, q⟩⟩ | ⟨⟨_, q⟩ | ⟨_, q⟩, _⟩ <;> omega
theorem rg_turn (h : RgT B w0 hb k i r w) (hi : i ≤ 1) : Calls Tryz.prog 25 #[.pointer (some ⟨hb, 0, none⟩), .int .i64 1] w fun e w' => (e = .returned (.bool true) ∧ ∃ r', r' < r ∧ RgT B w0 hb k i r' w') ∨ (e = .returned (.bool false) ∧ RgS B w0 hb k (i + 1) w') := by
  obtain ⟨X, Z, Xb, H, hg, h2, hq, hT, hcy, hm⟩ := h
  have hr1 := qz_pos hq
  refine (turn_ok H (by omega) (qz_phs hq) ⟨by omega, by omega⟩ 1 (by rw [hT]; rfl)).mono ?_
  rintro e w' ⟨X1, hs, rfl, Z', H', _, _⟩
  obtain ⟨m1, m2⟩ := turn_cost hs
  have hm2 : (ansN X1 X1.T).m ≤ 100000 + 100000 * (i + 1) := Nat.le_trans m1 (by clear m1 m2; omega)
  have hm3 : ∀ r', r' < r → (ansN X1 X1.T).m + 500 * r' ≤ 200000 + 100000 * i := fun r' h' => by clear m2 hm2; omega
  have hT1 := hs.T
  have hTa := (ansN_same X1 X1.T).1
  have hph := (ansN_same X1 X1.T).2.2.2.2.2.2.1
  rcases qz_turn (by rw [hT, ← hg.T]; exact hg.snap h2) hq H.greys.1 H.greys.2 hs with ⟨q1, r', q2, q3⟩ | ⟨q1, q2⟩
  · refine .inl ⟨by rw [show (X1.ph != 0) = true by simpa using q1], r', q2, _, Z', Xb, H', hg, h2, q3, by rw [hTa, hT1, hT], ?_, hm3 r' q2⟩
    rcases m2 with m2 | ⟨_, m2⟩
    · rw [m2, hcy]
    · exact absurd m2 q1
  · obtain ⟨g1, g2⟩ := hg.over q2 (by rw [hTa, hT1, hT, hg.T])
    refine .inr ⟨by rw [q1]; rfl, _, Z', H', g1, fun x hx => by rw [rfs_cel (q2.cel x hx)]; exact h2 x hx, fun _ => g2, ?_, hm2⟩
    have hc := qz_cyc hq hs q1
    have e8 := (ansN_same X1 X1.T).2.2.2.2.2.2.2.1
    rw [e8, hc, hcy]; omega
theorem rg_refs (h : RgS B w0 hb k 2 w) : Calls Tryz.prog 21 #[.pointer (some ⟨hb, 0, none⟩)] w fun e w' => (∃ ao cap, e = .returned (.slice ao k cap)) ∧ RgS B w0 hb k 2 w' := by
  obtain ⟨X, Z, H, hg, h2, h3, hcy, hm⟩ := h
  refine (crefs_ok H (by omega)).mono ?_
  rintro e w' ⟨v, rfl, hr, hb1⟩
  obtain ⟨ao, cap, rfl⟩ := hr.form
  rw [h3 (by decide)]
  exact ⟨⟨ao, cap, rfl⟩, X, Z, H.below hb1, hg, h2, h3, hcy, hm⟩
theorem rg_cycles (h : RgS B w0 hb k 2 w) : Calls Tryz.prog 23 #[.pointer (some ⟨hb, 0, none⟩)] w fun e w' => e = .returned (.int .i64 2) ∧ w' = w := by
  obtain ⟨X, Z, H, hg, h2, h3, hcy, hm⟩ := h
  have := ccycles_ok H
  rw [hcy] at this
  exact this
theorem RgS.bel (h : RgS B w0 hb k i w) : Below B w0 w := let ⟨_, _, H, _⟩ := h; H.hv.bel
end
end Go.Proofs.YtibnipockmnmhaaGreat
