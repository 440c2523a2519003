/- package types: Ref, Fits over layouts as they lie in memory; load.Is. -/
import Derived.Test.YtllpjjglnopgaabGreatMY11
import Derived.Test.YtllpjjglnopgaabGreatMY6
namespace Go.Proofs.YtllpjjglnopgaabGreat
open Go.RowKit

def refT (t : Int) : Bool := t == 2 || t == 3 || t == 4 || decide (16 ≤ t)
def lyAt (ls : List Ly) (k : Int) : Ly := ls.getD k.toNat ly0
def inT (ls : List Ly) (k : Int) : Bool := decide (0 ≤ k) && decide (k < (ls.length : Int))
def isLy (ls : List Ly) (sub sup : Int) : Bool := inT ls sub && inT ls sup && (lyAt ls sub).abv.contains sup
def fitC (ls : List Ly) (a c : Int) : Bool := inT ls c && (c == 0 || (lyAt ls c).off == -1 || isLy ls (a - 16) c)
def fitT (ls : List Ly) (a b : Int) : Bool := b == 0 || a == b || (refT a && refT b && (a == 2 || fitC ls a (b - 16)))
theorem tplace_ok {S : Nat → Prop} {v : Value} {ls : List Ly} {w : World} (h : Sl kLy w S v ls) (k : Int) : Calls Tryz.prog 21 #[v, .int .i64 k] w fun e w' => e = .returned (.bool (inT ls k)) ∧ w' = w := by
  obtain ⟨a, c, rfl, -⟩ := h
  by_cases h0 : 0 ≤ k
  · have hr : inT ls k = decide (k < (ls.length : Int)) := by simp [inT, h0]
    rw [hr]
    clear hr
    go_enter Tryz.func21, Tryz.ntmps21
    go_wp2
    go_ret
    exact ⟨rfl, rfl⟩
  · have hr : inT ls k = false := by simp [inT]; omega
    rw [hr]
    have hd : decide (0 ≤ k) = false := by simp; omega
    clear hr h0
    go_enter Tryz.func21, Tryz.ntmps21
    go_wp2
    go_ret
    exact ⟨rfl, rfl⟩
set_option maxHeartbeats 2000000 in
set_option maxRecDepth 20000 in
theorem tindex_ok {S : Nat → Prop} {v : Value} {xs : List Int} {w : World} (k : Int) (hA : Sl kI w S v xs) (hn : xs.length ≤ 9223372036854775806) :
    Calls Tryz.prog 43 #[v, .int .i64 k] w fun e w' => ∃ r : Int, e = .returned (.int .i64 r) ∧ decide (0 ≤ r) = xs.contains k ∧ w' = w := by
  obtain ⟨R, hR⟩ : ∃ R, xs.contains k = R := ⟨_, rfl⟩
  have HR : Hid (xs.contains k = R) := hR
  rw [hR]
  clear hR
  have hA2 := hA
  obtain ⟨aa, ca, rfl, hmx, -⟩ := hA2
  have HC : Hid (∀ (i : Nat) (x : Int), xs[i]? = some x → (∃ b o, aa = some ⟨b, o, none⟩ ∧ w.cell? ⟨b, o + i, none⟩ = some (.int .i64 x))) := fun i x hx => hA.int hx
  clear hA
  go_enter Tryz.func43, Tryz.ntmps43
  go_wp2
  go_loopg [8] (xs.length + 1) (fun kx s8 wr => ∃ i : Nat, s8 = .int .i64 i ∧ i ≤ xs.length ∧ xs.length - i ≤ kx ∧ Hid (wr = w) ∧ Hid ((xs.take i).contains k = false))
  case atStart => exact ⟨0, rfl, by omega, by omega, rfl, by show _ = _; simp⟩
  case round =>
    obtain ⟨i, rfl, hi, hk, HL, HT⟩ := hrel
    obtain rfl := HL.out
    clear HL
    by_cases hlt : i < xs.length
    · obtain ⟨x, hx⟩ : ∃ c, xs[i]? = some c := ⟨_, List.getElem?_eq_getElem hlt⟩
      obtain ⟨ap, ao, rfl, a0⟩ := HC.out i x hx
      have HQ : Hid _ := cont_take HT.out hx
      have hl2 : (i : Int) < (xs.length : Int) := by omega
      clear HC hx
      by_cases hxy : x = k
      · have e1 : (k == x) = true := by simp [hxy]
        have HE : Hid (R = true) := by show _ = _; rw [← HR.out]; exact HQ.out.2 hxy
        clear hxy
        go_wp2
        go_ret
        exact ⟨_, rfl, by rw [HE.out]; simp, rfl⟩
      · have e1 : (k == x) = false := by rw [beq_eq_false_iff_ne]; exact fun e => hxy e.symm
        have HE : Hid ((xs.take (i + 1)).contains k = false) := HQ.out.1 hxy
        clear hxy
        go_wp2
        go_roundg (xs.length - (i + 1))
        case measure => omega
        case rel => exact ⟨i + 1, by go_num, by omega, by omega, rfl, HE.out⟩
    · have hn : i = xs.length := by omega
      subst hn
      have hl : ¬ ((xs.length : Nat) : Int) < ((xs.length : Nat) : Int) := by omega
      have HE : Hid (R = false) := by have := HT.out; rw [List.take_length] at this; show _ = _; rw [← HR.out]; exact this
      clear HC
      go_wp2
      go_ret
      exact ⟨_, rfl, by rw [HE.out]; rfl, rfl⟩
theorem tcontains_ok {S : Nat → Prop} {v : Value} {xs : List Int} {w : World} (k : Int) (hA : Sl kI w S v xs) (hn : xs.length ≤ 9223372036854775806) :
    Calls Tryz.prog 23 #[v, .int .i64 k] w fun e w' => e = .returned (.bool (xs.contains k)) ∧ w' = w := by
  have hI := tindex_ok k hA hn
  obtain ⟨R, hR⟩ : ∃ R, xs.contains k = R := ⟨_, rfl⟩
  rw [hR] at hI ⊢
  clear hA hR
  go_enter Tryz.func23, Tryz.ntmps23
  go_wp2_with (go_at_call 43; refine hI.mono ?_; rintro e w9 ⟨r, rfl, hr, hw9⟩; replace hw9 := hw9.symm; subst hw9; have HD : Hid (decide (0 ≤ r) = R) := hr; clear hr)
  go_ret
  exact ⟨by rw [← HD.out]; rfl, rfl⟩
theorem ly_get {w : World} {S : Nat → Prop} {a : Option Addr} {l c : Nat} {ls : List Ly} (h : Sl kLy w S (.slice a l c) ls) {k : Int} (hk : inT ls k = true) : ∃ i : Nat, k = (i : Int) ∧ i < ls.length ∧ ∃ b o a3 c3, a = some ⟨b, o, none⟩ ∧ w.cell? ⟨b, o + i * 4 + 1, none⟩ = some (.int .i64 (lyAt ls k).off) ∧ w.cell? ⟨b, o + i * 4 + 3, none⟩ = some (.slice a3 (lyAt ls k).abv.length c3) ∧ Sl kI w S (.slice a3 (lyAt ls k).abv.length c3) (lyAt ls k).abv := by
  simp [inT] at hk
  obtain ⟨i, rfl⟩ : ∃ i : Nat, k = (i : Int) := ⟨k.toNat, by omega⟩
  have hi : i < ls.length := by omega
  have hy : ls[i]? = some (lyAt ls (i : Int)) := by
    unfold lyAt
    rw [List.getD_eq_getElem?_getD, show ((i : Int)).toNat = i by omega, List.getElem?_eq_getElem hi]; rfl
  obtain ⟨b, o, e, -, cs, ⟨v1, v2, v3, rfl, -, -, h3⟩, hc⟩ := h.atJ hy
  have h3' := h3
  obtain ⟨a3, c3, rfl, -⟩ := h3'
  refine ⟨i, rfl, hi, b, o, a3, c3, e, ?_, ?_, h3⟩
  · have := hc 1 _ rfl
    rw [show kLy.k = 4 from rfl, show o + (i * 4 + 1) = o + i * 4 + 1 by omega] at this; exact this
  · have := hc 3 _ rfl
    rw [show kLy.k = 4 from rfl, show o + (i * 4 + 3) = o + i * 4 + 3 by omega] at this; exact this
set_option maxHeartbeats 2000000 in
set_option maxRecDepth 20000 in
theorem tis_ok {S : Nat → Prop} {v : Value} {ls : List Ly} {w : World} (h : Sl kLy w S v ls) (hn : ∀ y ∈ ls, y.abv.length ≤ 9223372036854775806) (sub sup : Int) : Calls Tryz.prog 17 #[v, .int .i64 sub, .int .i64 sup] w fun e w' => e = .returned (.bool (isLy ls sub sup)) ∧ w' = w := by
  have hP1 := tplace_ok h sub
  have hP2 := tplace_ok h sup
  have hv := h
  obtain ⟨a, c, rfl, -⟩ := hv
  rcases h1 : inT ls sub with _ | _
  · have hr : isLy ls sub sup = false := by simp [isLy, h1]
    rw [hr]
    rw [h1] at hP1
    clear hr h1 hP2 h
    go_enter Tryz.func17, Tryz.ntmps17
    go_wp2_with (go_at_call 21; refine hP1.mono ?_; rintro e w9 ⟨rfl, hw9⟩; replace hw9 := hw9.symm; subst hw9)
    go_ret
    exact ⟨rfl, rfl⟩
  · rw [h1] at hP1
    obtain ⟨i, rfl, hi, b, o, a3, c3, rfl, -, k3, h3⟩ := ly_get h h1
    rcases h2 : inT ls sup with _ | _
    · have hr : isLy ls i sup = false := by simp [isLy, h2]
      rw [hr]
      rw [h2] at hP2
      clear hr h1 h2 h
      go_enter Tryz.func17, Tryz.ntmps17
      go_wp2_with (first
        | (go_at_call 21; refine hP1.mono ?_; rintro e w9 ⟨rfl, hw9⟩; replace hw9 := hw9.symm; subst hw9; clear hP1)
        | (go_at_call 21; refine hP2.mono ?_; rintro e w9 ⟨rfl, hw9⟩; replace hw9 := hw9.symm; subst hw9))
      go_ret
      exact ⟨rfl, rfl⟩
    · rw [h2] at hP2
      have hr : isLy ls i sup = (lyAt ls i).abv.contains sup := by simp [isLy, h1, h2]
      rw [hr]
      have hC := tcontains_ok sup h3 (hn (lyAt ls i) (by
        unfold lyAt
        rw [List.getD_eq_getElem?_getD, show ((i : Int)).toNat = i by omega, List.getElem?_eq_getElem hi]
        exact List.getElem_mem hi))
      obtain ⟨R, hR⟩ : ∃ R, (lyAt ls i).abv.contains sup = R := ⟨_, rfl⟩
      rw [hR] at hC ⊢
      have hl : (i : Int) < (ls.length : Int) := by omega
      generalize (lyAt ls (i : Int)).abv.length = na at *
      clear hr h1 h2 h h3 hR
      go_enter Tryz.func17, Tryz.ntmps17
      go_wp2_with (first
        | (go_at_call 21; refine hP1.mono ?_; rintro e w9 ⟨rfl, hw9⟩; replace hw9 := hw9.symm; subst hw9; clear hP1)
        | (go_at_call 21; refine hP2.mono ?_; rintro e w9 ⟨rfl, hw9⟩; replace hw9 := hw9.symm; subst hw9)
        | (go_at_call 23; refine hC.mono ?_; rintro e w9 ⟨rfl, hw9⟩; replace hw9 := hw9.symm; subst hw9))
      go_ret
      exact ⟨rfl, rfl⟩
end Go.Proofs.YtllpjjglnopgaabGreat
/- layer 17's awake. -/
namespace Go.Proofs.YtllpjjglnopgaabGreat
open Go.RowKit

theorem tiny_okz : Okz tinyP := by
  have hM : ∀ m ∈ tinyC.mds, OkM m := by
    intro m hm
    simp [tinyC] at hm
    subst hm
    refine ⟨by decide, ?_, by unfold rg; decide, by unfold rg; decide⟩
    intro x hx
    simp [tinyM] at hx
  refine ⟨by unfold rg; decide, by decide, fun c hc => ?_⟩
  simp [tinyP] at hc
  subst hc
  exact ⟨by unfold rg; decide, by decide, by intro x hx; simp [tinyC] at hx, by decide, by intro x hx; simp [tinyC] at hx, by decide, by intro x hx; simp [tinyC] at hx, by decide, hM⟩
def tinyLs : List Ly := allJ tinyP
theorem tiny_load : loadJ tinyP = .ok tinyLs := by kernel_rfl
theorem tiny_ls : tinyLs.length = 12 := by kernel_rfl
theorem tiny_abv : ∀ y ∈ tinyLs, y.abv.length ≤ 9223372036854775806 := by
  have h : tinyLs.all (fun y => decide (y.abv.length ≤ 9223372036854775806)) = true := by kernel_rfl
  intro y hy
  simpa using List.all_eq_true.1 h y hy
theorem tiny_f1 : fitT tinyLs 2 3 = true := by kernel_rfl
theorem tiny_f2 : fitT tinyLs 3 16 = true := by kernel_rfl
theorem tiny_f3 : fitT tinyLs 16 27 = false := by kernel_rfl
/-- Tiny, and the document's Load of it: layouts of their own. -/
theorem tiny_at17 (w : World) : Calls Tryz.prog 16 #[] w fun e w' => ∃ ao cap S, e = .returned (.agg #[.int .i64 11, .slice ao 1 cap]) ∧ Below w.heap.size w w' ∧ Sl kCs w' S (.slice ao 1 cap) tinyP.cls ∧ (∀ k, S k → k < w'.heap.size) := by
  refine (Tiny_any w).mono ?_
  rintro e w' ⟨hb, v, rfl, cs, hR, rfl⟩
  obtain ⟨v1, rfl, h1⟩ := hR
  have h1' := h1
  obtain ⟨ao, cap, rfl, -⟩ := h1'
  exact ⟨ao, cap, _, rfl, hb, h1, fun k hk => hk.2⟩
end Go.Proofs.YtllpjjglnopgaabGreat
