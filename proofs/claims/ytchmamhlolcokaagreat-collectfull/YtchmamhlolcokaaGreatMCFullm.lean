/- A cycle that finds nothing reached; plain. -/
import Derived.Test.YtchmamhlolcokaaGreatMC4
namespace Go.Proofs.YtchmamhlolcokaaGreat
open Go.RowKit
theorem nums_del {S : List (Option Cel)} {r : Int} {U : List Int} (h : nums 0 S = r :: U) : nums 0 (delS S r) = U := by
  obtain ⟨i, c, h1, h2⟩ := nums_mem 0 S r (by rw [h]; simp)
  have hr : r = (i : Int) + 1 := by omega
  obtain ⟨j, g1, g2⟩ := pres_gone 0 S i c h2
  have hj : (nums 0 S)[j]? = some r := by rw [nums_pres, List.getElem?_map, g1, hr]; simp
  have h0 : (nums 0 S)[0]? = some r := by rw [h]; rfl
  have a1 := (posK_at (nums_rise 0 S) hj).1
  have a2 := (posK_at (nums_rise 0 S) h0).1
  obtain rfl : j = 0 := by omega
  have hc : celOf S r = some c := by rw [hr, celOf_at, h2]; rfl
  have e : delS S r = S.set i none := by unfold delS; rw [hc, hr]; simp
  rw [e, nums_pres, g2]
  have hp := nums_pres 0 S
  rw [h] at hp
  cases hq : pres 0 S with
  | nil => rw [hq] at hp; simp at hp
  | cons x l => rw [hq] at hp; simp at hp; simp [hp.2]
theorem sum_none {S : List (Option Cel)} (h : nums 0 S = []) : sumS S = 0 := by
  have hc : cntS S = 0 := by rw [← nums_len 0 S, h]; rfl
  clear h
  induction S with
  | nil => rfl
  | cons a r ih =>
    cases a with
    | none => exact ih hc
    | some c => simp only [cntS] at hc; omega
theorem nums_more (S : List (Option Cel)) (c : Cel) : nums 0 (S ++ [some c]) = nums 0 S ++ [(S.length : Int) + 1] := by
  rw [nums_pres, pres_more, List.map_append, ← nums_pres]; simp
/-- Nothing is reached, and r turns at most are to come. -/
def Fz (X : Cm) (r : Nat) : Prop := X.T = 1 ∧ X.W = 4096 ∧ ¬ X.tr.ln < X.tr.lw ∧ X.rt 0 = [] ∧ (∀ p, X.tr.col p = 1) ∧
  ((X.ph = 1 ∧ X.tr.q = [] ∧ X.tr.sw = 0 ∧ X.tr.row = nums 0 X.S ∧ ((X.A 0 = false ∧ r = X.tr.row.length + 3) ∨ (X.A 0 = true ∧ r = X.tr.row.length + 2))) ∨
   (X.ph = 3 ∧ X.A 0 = true ∧ nums 0 X.S = X.tr.row.drop X.tr.sw ∧ X.tr.sw ≤ X.tr.row.length ∧ r = X.tr.row.length - X.tr.sw + 1))
/-- No cycle, no root. -/
def Fi (X : Cm) : Prop := X.T = 1 ∧ X.W = 4096 ∧ X.ph = 0 ∧ ¬ X.tr.ln < X.tr.lw ∧ X.A 0 = true
theorem all1 (A : Nat → Bool) : allB 1 A = A 0 := by
  unfold allB cntB cntB
  cases A 0 <;> simp
theorem ans_yes {X : Cm} (h1 : X.T = 1) (h2 : X.A 0 = true) : ansN X X.T = X := by
  rw [h1]; show ans1 X 0 = X; unfold ans1; rw [if_pos h2]
theorem fz_turn {X X1 : Cm} {r : Nat} (h : Fz X r) (hs : Stp X X1) : ((ansN X1 X1.T).m ≤ X.m + 1 ∧ ((ansN X1 X1.T).cy = X.cy ∨ (ansN X1 X1.T).cy = X.cy + 1)) ∧
    ((X1.ph ≠ 0 ∧ ∃ r', r' < r ∧ Fz (ansN X1 X1.T) r') ∨ (X1.ph = 0 ∧ Fi (ansN X1 X1.T) ∧ (ansN X1 X1.T).rt 0 = [] ∧ nums 0 (ansN X1 X1.T).S = [])) := by
  obtain ⟨hT, hW, hl, hr, hcol, h⟩ := h
  rcases h with ⟨p1, hq, hsw, hrow, ha⟩ | ⟨p3, ha, hn, hle, hrr⟩
  · rcases hs with ⟨_, q, _⟩ | ⟨_, _, _, rfl⟩ | ⟨_, _, p, t, x, q, _⟩ | ⟨q, _⟩ | ⟨q, _⟩ | ⟨q, _⟩
    · exact absurd q hl
    · rcases ha with ⟨ha, hrr⟩ | ⟨ha, hrr⟩
      · have e : allB X.T X.A = false := by rw [hT, all1, ha]
        have e2 : (if allB X.T X.A = true then (3 : Int) else 1) = 1 := if_neg (by rw [e]; decide)
        have ea : ansN ({ X with ph := if allB X.T X.A = true then 3 else 1 } : Cm) X.T = { X with ph := 1, A := setB X.A 0 true, tr := markAll X.tr (X.rt 0) } := by
          have e3 : ∀ Y : Cm, ansN Y X.T = ans1 Y 0 := fun Y => by rw [hT]; rfl
          rw [e3, e2]; unfold ans1; rw [if_neg (by show ¬ X.A 0 = true; rw [ha]; decide)]
        show ((ansN _ X.T).m ≤ _ ∧ _) ∧ _
        rw [ea]
        refine ⟨⟨Nat.le_succ _, .inl rfl⟩, .inl ⟨by show (if allB X.T X.A = true then (3 : Int) else 1) ≠ 0; rw [e2]; decide, X.tr.row.length + 2, by omega, hT, hW, ?_, hr, ?_, .inl ⟨rfl, ?_, ?_, ?_, .inr ⟨?_, ?_⟩⟩⟩⟩
        all_goals (first | rw [hr] | skip)
        · exact hl
        · exact hcol
        · exact hq
        · exact hsw
        · exact hrow
        · show setB X.A 0 true 0 = true; simp [setB]
        · rfl
      · have e : allB X.T X.A = true := by rw [hT, all1, ha]
        have e2 : (if allB X.T X.A = true then (3 : Int) else 1) = 3 := if_pos e
        have ea := ans_yes (X := { X with ph := if allB X.T X.A = true then 3 else 1 }) hT ha
        show ((ansN _ _).m ≤ _ ∧ _) ∧ _
        rw [ea]
        refine ⟨⟨Nat.le_succ _, .inl rfl⟩, .inl ⟨by show (if allB X.T X.A = true then (3 : Int) else 1) ≠ 0; rw [e2]; decide, X.tr.row.length + 1, by omega, hT, hW, hl, hr, hcol, .inr ⟨e2, ha, ?_, ?_, ?_⟩⟩⟩
        · show nums 0 X.S = X.tr.row.drop X.tr.sw; rw [hsw, hrow]; rfl
        · show X.tr.sw ≤ _; rw [hsw]; exact Nat.zero_le _
        · show _ = X.tr.row.length - X.tr.sw + 1; rw [hsw]; rfl
    · rw [hq] at q; simp at q
    · omega
    · omega
    · exact absurd p1 q
  · rcases hs with ⟨q, _⟩ | ⟨q, _⟩ | ⟨q, _⟩ | ⟨_, hlt, x, c', hx, rfl⟩ | ⟨_, hge, rfl⟩ | ⟨_, q, _⟩
    · omega
    · omega
    · omega
    · have ea := ans_yes (X := { X with m := X.m + 1, c := c', S := if X.tr.col X.tr.sw = 1 then delS X.S x else X.S, tr := { X.tr with sw := X.tr.sw + 1 }, ph := if X.tr.sw + 1 < X.tr.row.length then 3 else 0, cy := if X.tr.sw + 1 < X.tr.row.length then X.cy else X.cy + 1 }) hT ha
      rw [ea]
      have hnx : nums 0 X.S = x :: X.tr.row.drop (X.tr.sw + 1) := by
        rw [hn]
        have hg := (List.getElem?_eq_some_iff.1 hx)
        rw [List.drop_eq_getElem_cons hlt, hg.2]
      have hnS : nums 0 (if X.tr.col X.tr.sw = 1 then delS X.S x else X.S) = X.tr.row.drop (X.tr.sw + 1) := by rw [if_pos (hcol _)]; exact nums_del hnx
      by_cases hl2 : X.tr.sw + 1 < X.tr.row.length
      · refine ⟨⟨Nat.le_refl _, .inl (if_pos hl2)⟩, .inl ⟨by show (if _ then (3 : Int) else 0) ≠ 0; rw [if_pos hl2]; decide, r - 1, by omega, hT, hW, hl, hr, hcol, .inr ⟨if_pos hl2, ha, hnS, by show X.tr.sw + 1 ≤ X.tr.row.length; omega, by show r - 1 = X.tr.row.length - (X.tr.sw + 1) + 1; omega⟩⟩⟩
      · refine ⟨⟨Nat.le_refl _, .inr (if_neg hl2)⟩, .inr ⟨if_neg hl2, ⟨hT, hW, if_neg hl2, hl, ha⟩, hr, ?_⟩⟩
        show nums 0 (if X.tr.col X.tr.sw = 1 then delS X.S x else X.S) = []
        rw [hnS]
        exact List.drop_eq_nil_iff.2 (by omega)
    · have ea := ans_yes (X := { X with ph := 0, cy := X.cy + 1 }) hT ha
      rw [ea]
      refine ⟨⟨Nat.le_succ _, .inr rfl⟩, .inr ⟨rfl, ⟨hT, hW, rfl, hl, ha⟩, hr, ?_⟩⟩
      show nums 0 X.S = []
      rw [hn]
      exact List.drop_eq_nil_iff.2 (by omega)
    · exact absurd p3 q
end Go.Proofs.YtchmamhlolcokaaGreat
