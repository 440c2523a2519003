/- CollectRings' heap: rings of cells, of which one is held. -/
import Derived.Test.YthkelaeemefnaaaGreatMC5q
namespace Go.Proofs.YthkelaeemefnaaaGreat
open Go.RowKit
/-- The refs b + 1 to b + j. -/
def seg (b : Nat) : Nat → List Int
  | 0 => []
  | j + 1 => seg b j ++ [(b : Int) + j + 1]
theorem seg_len (b : Nat) : ∀ j, (seg b j).length = j
  | 0 => rfl
  | j + 1 => by rw [seg, List.length_append, seg_len b j]; rfl
/-- n cells of two words, no cycle; those below k make a ring; P the roots. -/
structure Rg (n k : Nat) (P : List Int) (X : Cm) : Prop where
  T : X.T = 1
  W : X.W = 16384
  ph : X.ph = 0
  lk : ¬ X.tr.ln < X.tr.lw
  all : X.A 0 = true
  len : X.S.length = n
  cell : ∀ i, i < n → ∃ a, X.S[i]? = some (some ⟨1, 0, 2, a⟩)
  rt : X.rt 0 = P
  ring : ∀ x, x < k → X.F x 1 = 0 ∧ X.F x 0 = if x + 1 < k then (x : Int) + 2 else 1
  sum : sumS X.S = 18 * n
  cy : X.cy = 0
/-- A chain from b on: j cells, each names the next. -/
def Chain (b j : Nat) (X : Cm) : Prop := ∀ x, b ≤ x → x < b + j → X.F x 1 = 0 ∧ (x + 1 < b + j → X.F x 0 = (x : Int) + 2)
section
variable {B : Nat} {w0 w w' : World} {hb : Nat}
/-- While a ring is made: i rings before, j cells of this one, k the held one's size. -/
def RgI (B : Nat) (w0 : World) (hb n k : Nat) (P : List Int) (j c : Nat) (w : World) : Prop := ∃ X Z, CvC B w0 w hb X Z ∧ Rg (n + j) k (P ++ seg n j) X ∧ Chain n j X ∧ X.m ≤ c
/-- Behind a Make. -/
def RgK (B : Nat) (w0 : World) (hb n k : Nat) (P : List Int) (j c : Nat) (w : World) : Prop := ∃ X Z, CvC B w0 w hb X Z ∧ Rg (n + (j + 1)) k (P ++ seg n (j + 1)) X ∧ Chain n j X ∧ X.F (n + j) 1 = 0 ∧ X.m ≤ c
theorem rg_make {n k j c : Nat} {P : List Int} (h : RgI B w0 hb n k P j c w) (hn : n + j ≤ 47) (hk : k ≤ n) (hP : P.length ≤ 1) (hj : j ≤ 8) (hc : c ≤ 100000) : Calls Tryz.prog 32 #[.pointer (some ⟨hb, 0, none⟩), .int .i64 0, .int .i64 1, .int .i64 0, .int .i64 2] w fun e w' => e = .returned (.tuple #[.int .i64 (((n + j : Nat) : Int) + 1), .int .i64 0]) ∧ RgK B w0 hb n k P j (c + 500) w' := by
  obtain ⟨X, Z, H, hg, hch, hm⟩ := h
  refine (cmake_ok H (by omega) 0 1 0 2 (by rw [hg.T]; omega) (fits_obj (by omega) (by omega)) (by rw [hg.rt, List.length_append, seg_len]; omega) (by rw [hg.sum, hg.W]; omega)).mono ?_
  rintro e w' ⟨i, S', a, c', rfl, hAd, Z', H', _, _⟩
  have ei : i = n + j := by rw [hAd.at_, hg.len]
  subst ei
  refine ⟨rfl, _, Z', H', ⟨hg.T, hg.W, hg.ph, hg.lk, hg.all, ?_, fun x hx => ?_, ?_, fun x hx => ?_, ?_, hg.cy⟩, fun x h1 h2 => ?_, ?_, by show X.m + 500 ≤ c + 500; omega⟩
  · show S'.length = _
    rw [hAd.eq, List.length_append, hg.len]; rfl
  · show ∃ a, S'[x]? = _
    by_cases e : x = n + j
    · subst e; exact ⟨a, hAd.new⟩
    · obtain ⟨a', h⟩ := hg.cell x (by omega)
      exact ⟨a', by rw [hAd.old x e]; exact h⟩
  · show setL X.rt 0 (X.rt 0 ++ [((n + j : Nat) : Int) + 1]) 0 = _
    rw [hg.rt]
    simp only [setL, if_pos, seg]
    rw [List.append_assoc]
    congr 3
  · show setF X.F (n + j) (fun _ => 0) x 1 = 0 ∧ setF X.F (n + j) (fun _ => 0) x 0 = _
    rw [setF_else _ _ (by omega), setF_else _ _ (by omega)]
    exact hg.ring x hx
  · show sumS S' = _
    rw [hAd.sum, hg.sum]
    show 18 * (n + j) + (2 + 16) = _
    omega
  · show setF X.F (n + j) (fun _ => 0) x 1 = 0 ∧ (_ → setF X.F (n + j) (fun _ => 0) x 0 = _)
    rw [setF_else _ _ (by omega), setF_else _ _ (by omega)]
    exact hch x h1 h2
  · show setF X.F (n + j) (fun _ => 0) (n + j) 1 = 0
    rw [setF_at]
theorem rg_first {n k c : Nat} {P : List Int} (h : RgK B w0 hb n k P 0 c w) : RgI B w0 hb n k P 1 c w := by
  obtain ⟨X, Z, H, hg, _, h1, hm⟩ := h
  refine ⟨X, Z, H, hg, fun x h2 h3 => ?_, hm⟩
  obtain rfl : x = n := by omega
  exact ⟨h1, fun h => by omega⟩
/-- A word 0 is put. -/
theorem rg_put {n k c i : Nat} {P : List Int} {X : Cm} {Z : Cx} (H : CvC B w0 w hb X Z) (hg : Rg n k P X) (hi : i < n) (hc : X.m ≤ c) (hc2 : c ≤ 100000) (v : Int) : Calls Tryz.prog 49 #[.pointer (some ⟨hb, 0, none⟩), .int .i64 0, .int .i64 ((i : Int) + 1), .int .i64 0, .int .i64 v] w fun e w' => e = .returned (.int .i64 0) ∧ ∃ c' Z', CvC B w0 w' hb { X with m := X.m + 2, c := c', F := setF X.F i (fun l => if l = 0 then v else X.F i l) } Z' := by
  obtain ⟨a, ha⟩ := hg.cell i hi
  refine (cput_ok H (by omega) 0 v (by rw [hg.T]; omega) ha 0 0 rfl (show 0 < 2 by omega)).mono ?_
  rintro e w' ⟨rfl, c', _, Z', H', _, _⟩
  have et : X.pw ((i : Int) + 1) 0 = X.tr := if_neg (by rw [hg.ph]; omega)
  rw [et] at H'
  exact ⟨rfl, c', Z', H'⟩
theorem rg_link {n k j c : Nat} {P : List Int} (h : RgK B w0 hb n k P (j + 1) c w) (hk : k ≤ n) (hc : c ≤ 100000) : Calls Tryz.prog 49 #[.pointer (some ⟨hb, 0, none⟩), .int .i64 0, .int .i64 (((n + j : Nat) : Int) + 1), .int .i64 0, .int .i64 (((n + (j + 1) : Nat) : Int) + 1)] w fun e w' => e = .returned (.int .i64 0) ∧ RgI B w0 hb n k P (j + 2) (c + 2) w' := by
  obtain ⟨X, Z, H, hg, hch, h1, hm⟩ := h
  refine (rg_put H hg (i := n + j) (by omega) hm hc _).mono ?_
  rintro e w' ⟨rfl, c', Z', H'⟩
  refine ⟨rfl, _, Z', H', ⟨hg.T, hg.W, hg.ph, hg.lk, hg.all, hg.len, hg.cell, hg.rt, fun x hx => ?_, hg.sum, hg.cy⟩, fun x h2 h3 => ?_, by show X.m + 2 ≤ _; omega⟩
  · dsimp only
    rw [setF_else _ _ (by omega), setF_else _ _ (by omega)]
    exact hg.ring x hx
  · dsimp only
    by_cases e : x = n + j
    · subst e
      rw [setF_at, setF_at, if_neg (by omega), if_pos rfl]
      exact ⟨(hch _ h2 (by omega)).1, fun _ => by omega⟩
    · rw [setF_else _ _ e, setF_else _ _ e]
      by_cases e2 : x = n + (j + 1)
      · subst e2
        exact ⟨h1, fun h => by omega⟩
      · have := hch x h2 (by omega)
        exact ⟨this.1, fun _ => this.2 (by omega)⟩
/-- Between a ring's last cell and its pops. -/
def RgC (B : Nat) (w0 : World) (hb n k : Nat) (P : List Int) (c : Nat) (w : World) : Prop := ∃ X Z, CvC B w0 w hb X Z ∧ Rg n k P X ∧ X.m ≤ c
theorem rg_close0 {j c : Nat} (h : RgI B w0 hb 0 0 [] (j + 1) c w) (hc : c ≤ 100000) : Calls Tryz.prog 49 #[.pointer (some ⟨hb, 0, none⟩), .int .i64 0, .int .i64 (((0 + j : Nat) : Int) + 1), .int .i64 0, .int .i64 (((0 : Nat) : Int) + 1)] w fun e w' => e = .returned (.int .i64 0) ∧ RgC B w0 hb (j + 1) (j + 1) (seg 0 (j + 1)) (c + 2) w' := by
  obtain ⟨X, Z, H, hg, hch, hm⟩ := h
  rw [Nat.zero_add] at hg
  refine (rg_put H hg (i := 0 + j) (by omega) hm hc _).mono ?_
  rintro e w' ⟨rfl, c', Z', H'⟩
  refine ⟨rfl, _, Z', H', ⟨hg.T, hg.W, hg.ph, hg.lk, hg.all, hg.len, hg.cell, hg.rt, fun x hx => ?_, hg.sum, hg.cy⟩, by show X.m + 2 ≤ _; omega⟩
  dsimp only
  have hh := hch x (Nat.zero_le _) (by omega)
  by_cases e : x = 0 + j
  · subst e
    rw [setF_at, setF_at, if_neg (by omega), if_pos rfl, if_neg (by omega)]
    exact ⟨hh.1, rfl⟩
  · rw [setF_else _ _ e, setF_else _ _ e, if_pos (by omega)]
    exact ⟨hh.1, hh.2 (by omega)⟩
theorem rg_close {n k j c : Nat} {P : List Int} (h : RgI B w0 hb n k P (j + 1) c w) (hk : k ≤ n) (hc : c ≤ 100000) : Calls Tryz.prog 49 #[.pointer (some ⟨hb, 0, none⟩), .int .i64 0, .int .i64 (((n + j : Nat) : Int) + 1), .int .i64 0, .int .i64 ((n : Int) + 1)] w fun e w' => e = .returned (.int .i64 0) ∧ RgC B w0 hb (n + (j + 1)) k (P ++ seg n (j + 1)) (c + 2) w' := by
  obtain ⟨X, Z, H, hg, hch, hm⟩ := h
  refine (rg_put H hg (i := n + j) (by omega) hm hc _).mono ?_
  rintro e w' ⟨rfl, c', Z', H'⟩
  refine ⟨rfl, _, Z', H', ⟨hg.T, hg.W, hg.ph, hg.lk, hg.all, hg.len, hg.cell, hg.rt, fun x hx => ?_, hg.sum, hg.cy⟩, by show X.m + 2 ≤ _; omega⟩
  dsimp only
  rw [setF_else _ _ (by omega), setF_else _ _ (by omega)]
  exact hg.ring x hx
theorem rg_pop {n k b j c : Nat} {P : List Int} (h : RgC B w0 hb n k (P ++ seg b (j + 1)) c w) : Calls Tryz.prog 35 #[.pointer (some ⟨hb, 0, none⟩), .int .i64 0] w fun e w' => (∃ x y, e = .returned (.tuple #[.int .i64 x, .int .i64 y])) ∧ RgC B w0 hb n k (P ++ seg b j) c w' := by
  obtain ⟨X, Z, H, hg, hm⟩ := h
  have e : X.rt 0 = (P ++ seg b j) ++ [(b : Int) + j + 1] := by rw [hg.rt, seg, List.append_assoc]
  refine (cpop_ok H 0 (by rw [hg.T]; omega) e).mono ?_
  rintro e' w' ⟨rfl, Z', H', _, _⟩
  have et : X.popTr ((b : Int) + j + 1) = X.tr := if_neg (by rw [hg.ph]; omega)
  rw [et] at H'
  refine ⟨⟨_, _, rfl⟩, _, Z', H', ⟨hg.T, hg.W, hg.ph, hg.lk, hg.all, hg.len, hg.cell, ?_, hg.ring, hg.sum, hg.cy⟩, hm⟩
  show setL X.rt 0 _ 0 = _
  simp [setL]
end
end Go.Proofs.YthkelaeemefnaaaGreat
/- CollectRings' two cycles. -/
namespace Go.Proofs.YthkelaeemefnaaaGreat
open Go.RowKit
theorem seg_mem (b : Nat) : ∀ (j : Nat) (x : Int), x ∈ seg b j ↔ (b : Int) + 1 ≤ x ∧ x ≤ (b : Int) + j
  | 0, x => by simp [seg]; omega
  | j + 1, x => by rw [seg, List.mem_append, seg_mem b j x, List.mem_singleton]; omega
theorem seg_get (b : Nat) : ∀ {j x : Nat}, x < j → (seg b j)[x]? = some ((b : Int) + x + 1)
  | 0, x, h => by omega
  | j + 1, x, h => by
    rw [seg]
    by_cases e : x < j
    · rw [List.getElem?_append_left (by rw [seg_len]; exact e)]; exact seg_get b e
    · obtain rfl : x = j := by omega
      rw [List.getElem?_append_right (by rw [seg_len]; exact Nat.le_refl _), seg_len, Nat.sub_self]; rfl
theorem seg_nodup (b : Nat) : ∀ j, (seg b j).Nodup
  | 0 => List.nodup_nil
  | j + 1 => by
    rw [seg, List.nodup_append]
    refine ⟨seg_nodup b j, by simp, fun a ha c hc e => ?_⟩
    have h1 := (seg_mem b j a).1 ha
    have h2 := List.mem_singleton.1 hc
    omega
end Go.Proofs.YthkelaeemefnaaaGreat
