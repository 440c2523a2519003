/- package types: Ref, Fits over layouts as they lie in memory; load.Is. -/
import Derived.Test.YtbbmgjcabmjjdaaGreatDoorMGJ9
import Derived.Test.YtbbmgjcabmjjdaaGreatDoorMY5
namespace Go.Proofs.YtbbmgjcabmjjdaaGreatDoor
open Go.RowKit

def refT (t : Int) : Bool := t == 2 || t == 3 || t == 4 || decide (16 ≤ t)
def lyAt (ls : List Ly) (k : Int) : Ly := ls.getD k.toNat ly0
def inT (ls : List Ly) (k : Int) : Bool := decide (0 ≤ k) && decide (k < (ls.length : Int))
def isLy (ls : List Ly) (sub sup : Int) : Bool := inT ls sub && inT ls sup && (lyAt ls sub).abv.contains sup
def fitC (ls : List Ly) (a c : Int) : Bool := inT ls c && (c == 0 || (lyAt ls c).off == -1 || isLy ls (a - 16) c)
def fitT (ls : List Ly) (a b : Int) : Bool := b == 0 || a == b || (refT a && refT b && (a == 2 || fitC ls a (b - 16)))
theorem tref_ok (t : Int) (w : World) : Calls Tryz.prog 11 #[.int .i64 t] w fun e w' => e = .returned (.bool (refT t)) ∧ w' = w := by
  by_cases h2 : t = 2
  · subst h2
    go_enter Tryz.func11, Tryz.ntmps11
    go_wp2
    go_ret
    exact ⟨rfl, rfl⟩
  have e2 : (t == 2) = false := by simp [h2]
  by_cases h3 : t = 3
  · subst h3
    go_enter Tryz.func11, Tryz.ntmps11
    go_wp2
    go_ret
    exact ⟨rfl, rfl⟩
  have e3 : (t == 3) = false := by simp [h3]
  by_cases h4 : t = 4
  · subst h4
    go_enter Tryz.func11, Tryz.ntmps11
    go_wp2
    go_ret
    exact ⟨rfl, rfl⟩
  have e4 : (t == 4) = false := by simp [h4]
  have hr : refT t = decide (16 ≤ t) := by simp [refT, h2, h3, h4]
  rw [hr]
  clear hr h2 h3 h4
  go_enter Tryz.func11, Tryz.ntmps11
  go_wp2
  go_ret
  exact ⟨rfl, rfl⟩
theorem tplace_ok {S : Nat → Prop} {v : Value} {ls : List Ly} {w : World} (h : Sl kLy w S v ls) (k : Int) : Calls Tryz.prog 84 #[v, .int .i64 k] w fun e w' => e = .returned (.bool (inT ls k)) ∧ w' = w := by
  obtain ⟨a, c, rfl, -⟩ := h
  by_cases h0 : 0 ≤ k
  · have hr : inT ls k = decide (k < (ls.length : Int)) := by simp [inT, h0]
    rw [hr]
    clear hr
    go_enter Tryz.func84, Tryz.ntmps84
    go_wp2
    go_ret
    exact ⟨rfl, rfl⟩
  · have hr : inT ls k = false := by simp [inT]; omega
    rw [hr]
    have hd : decide (0 ≤ k) = false := by simp; omega
    clear hr h0
    go_enter Tryz.func84, Tryz.ntmps84
    go_wp2
    go_ret
    exact ⟨rfl, rfl⟩
set_option maxHeartbeats 2000000 in
set_option maxRecDepth 20000 in
theorem tindex_ok {S : Nat → Prop} {v : Value} {xs : List Int} {w : World} (k : Int) (hA : Sl kI w S v xs) (hn : xs.length ≤ 9223372036854775806) :
    Calls Tryz.prog 111 #[v, .int .i64 k] w fun e w' => ∃ r : Int, e = .returned (.int .i64 r) ∧ decide (0 ≤ r) = xs.contains k ∧ w' = w := by
  obtain ⟨R, hR⟩ : ∃ R, xs.contains k = R := ⟨_, rfl⟩
  have HR : Hid (xs.contains k = R) := hR
  rw [hR]
  clear hR
  have hA2 := hA
  obtain ⟨aa, ca, rfl, hmx, -⟩ := hA2
  have HC : Hid (∀ (i : Nat) (x : Int), xs[i]? = some x → (∃ b o, aa = some ⟨b, o, none⟩ ∧ w.cell? ⟨b, o + i, none⟩ = some (.int .i64 x))) := fun i x hx => hA.int hx
  clear hA
  go_enter Tryz.func111, Tryz.ntmps111
  go_wp2
  go_loopg [8] (xs.length + 1) (fun kx s8 wr => ∃ i : Nat, s8 = .int .i64 i ∧ i ≤ xs.length ∧ xs.length - i ≤ kx ∧ Hid (wr = w) ∧ Hid ((xs.take i).contains k = false))
  case atStart => exact ⟨0, rfl, by omega, by omega, rfl, by show _ = _; simp⟩
  case round =>
    obtain ⟨i, rfl, hi, hk, HL, HT⟩ := hrel
    obtain rfl := HL.out
    clear HL
    by_cases hlt : i < xs.length
    · obtain ⟨x, hx⟩ : ∃ c, xs[i]? = some c := ⟨_, List.getElem?_eq_getElem hlt⟩
      obtain ⟨ap, ao, rfl, a0⟩ := HC.out i x hx
      have HQ : Hid _ := cont_take HT.out hx
      have hl2 : (i : Int) < (xs.length : Int) := by omega
      clear HC hx
      by_cases hxy : x = k
      · have e1 : (k == x) = true := by simp [hxy]
        have HE : Hid (R = true) := by show _ = _; rw [← HR.out]; exact HQ.out.2 hxy
        clear hxy
        go_wp2
        go_ret
        exact ⟨_, rfl, by rw [HE.out]; simp, rfl⟩
      · have e1 : (k == x) = false := by rw [beq_eq_false_iff_ne]; exact fun e => hxy e.symm
        have HE : Hid ((xs.take (i + 1)).contains k = false) := HQ.out.1 hxy
        clear hxy
        go_wp2
        go_roundg (xs.length - (i + 1))
        case measure => omega
        case rel => exact ⟨i + 1, by go_num, by omega, by omega, rfl, HE.out⟩
    · have hn : i = xs.length := by omega
      subst hn
      have hl : ¬ ((xs.length : Nat) : Int) < ((xs.length : Nat) : Int) := by omega
      have HE : Hid (R = false) := by have := HT.out; rw [List.take_length] at this; show _ = _; rw [← HR.out]; exact this
      clear HC
      go_wp2
      go_ret
      exact ⟨_, rfl, by rw [HE.out]; rfl, rfl⟩
theorem tcontains_ok {S : Nat → Prop} {v : Value} {xs : List Int} {w : World} (k : Int) (hA : Sl kI w S v xs) (hn : xs.length ≤ 9223372036854775806) :
    Calls Tryz.prog 85 #[v, .int .i64 k] w fun e w' => e = .returned (.bool (xs.contains k)) ∧ w' = w := by
  have hI := tindex_ok k hA hn
  obtain ⟨R, hR⟩ : ∃ R, xs.contains k = R := ⟨_, rfl⟩
  rw [hR] at hI ⊢
  clear hA hR
  go_enter Tryz.func85, Tryz.ntmps85
  go_wp2_with (go_at_call 111; refine hI.mono ?_; rintro e w9 ⟨r, rfl, hr, hw9⟩; replace hw9 := hw9.symm; subst hw9; have HD : Hid (decide (0 ≤ r) = R) := hr; clear hr)
  go_ret
  exact ⟨by rw [← HD.out]; rfl, rfl⟩
theorem ly_get {w : World} {S : Nat → Prop} {a : Option Addr} {l c : Nat} {ls : List Ly} (h : Sl kLy w S (.slice a l c) ls) {k : Int} (hk : inT ls k = true) : ∃ i : Nat, k = (i : Int) ∧ i < ls.length ∧ ∃ b o a3 c3, a = some ⟨b, o, none⟩ ∧ w.cell? ⟨b, o + i * 4 + 1, none⟩ = some (.int .i64 (lyAt ls k).off) ∧ w.cell? ⟨b, o + i * 4 + 3, none⟩ = some (.slice a3 (lyAt ls k).abv.length c3) ∧ Sl kI w S (.slice a3 (lyAt ls k).abv.length c3) (lyAt ls k).abv := by
  simp [inT] at hk
  obtain ⟨i, rfl⟩ : ∃ i : Nat, k = (i : Int) := ⟨k.toNat, by omega⟩
  have hi : i < ls.length := by omega
  have hy : ls[i]? = some (lyAt ls (i : Int)) := by
    unfold lyAt
    rw [List.getD_eq_getElem?_getD, show ((i : Int)).toNat = i by omega, List.getElem?_eq_getElem hi]; rfl
  obtain ⟨b, o, e, -, cs, ⟨v1, v2, v3, rfl, -, -, h3⟩, hc⟩ := h.atJ hy
  have h3' := h3
  obtain ⟨a3, c3, rfl, -⟩ := h3'
  refine ⟨i, rfl, hi, b, o, a3, c3, e, ?_, ?_, h3⟩
  · have := hc 1 _ rfl
    rw [show kLy.k = 4 from rfl, show o + (i * 4 + 1) = o + i * 4 + 1 by omega] at this; exact this
  · have := hc 3 _ rfl
    rw [show kLy.k = 4 from rfl, show o + (i * 4 + 3) = o + i * 4 + 3 by omega] at this; exact this
set_option maxHeartbeats 2000000 in
set_option maxRecDepth 20000 in
theorem tis_ok {S : Nat → Prop} {v : Value} {ls : List Ly} {w : World} (h : Sl kLy w S v ls) (hn : ∀ y ∈ ls, y.abv.length ≤ 9223372036854775806) (sub sup : Int) : Calls Tryz.prog 41 #[v, .int .i64 sub, .int .i64 sup] w fun e w' => e = .returned (.bool (isLy ls sub sup)) ∧ w' = w := by
  have hP1 := tplace_ok h sub
  have hP2 := tplace_ok h sup
  have hv := h
  obtain ⟨a, c, rfl, -⟩ := hv
  rcases h1 : inT ls sub with _ | _
  · have hr : isLy ls sub sup = false := by simp [isLy, h1]
    rw [hr]
    rw [h1] at hP1
    clear hr h1 hP2 h
    go_enter Tryz.func41, Tryz.ntmps41
    go_wp2_with (go_at_call 84; refine hP1.mono ?_; rintro e w9 ⟨rfl, hw9⟩; replace hw9 := hw9.symm; subst hw9)
    go_ret
    exact ⟨rfl, rfl⟩
  · rw [h1] at hP1
    obtain ⟨i, rfl, hi, b, o, a3, c3, rfl, -, k3, h3⟩ := ly_get h h1
    rcases h2 : inT ls sup with _ | _
    · have hr : isLy ls i sup = false := by simp [isLy, h2]
      rw [hr]
      rw [h2] at hP2
      clear hr h1 h2 h
      go_enter Tryz.func41, Tryz.ntmps41
      go_wp2_with (first
        | (go_at_call 84; refine hP1.mono ?_; rintro e w9 ⟨rfl, hw9⟩; replace hw9 := hw9.symm; subst hw9; clear hP1)
        | (go_at_call 84; refine hP2.mono ?_; rintro e w9 ⟨rfl, hw9⟩; replace hw9 := hw9.symm; subst hw9))
      go_ret
      exact ⟨rfl, rfl⟩
    · rw [h2] at hP2
      have hr : isLy ls i sup = (lyAt ls i).abv.contains sup := by simp [isLy, h1, h2]
      rw [hr]
      have hC := tcontains_ok sup h3 (hn (lyAt ls i) (by
        unfold lyAt
        rw [List.getD_eq_getElem?_getD, show ((i : Int)).toNat = i by omega, List.getElem?_eq_getElem hi]
        exact List.getElem_mem hi))
      obtain ⟨R, hR⟩ : ∃ R, (lyAt ls i).abv.contains sup = R := ⟨_, rfl⟩
      rw [hR] at hC ⊢
      have hl : (i : Int) < (ls.length : Int) := by omega
      generalize (lyAt ls (i : Int)).abv.length = na at *
      clear hr h1 h2 h h3 hR
      go_enter Tryz.func41, Tryz.ntmps41
      go_wp2_with (first
        | (go_at_call 84; refine hP1.mono ?_; rintro e w9 ⟨rfl, hw9⟩; replace hw9 := hw9.symm; subst hw9; clear hP1)
        | (go_at_call 84; refine hP2.mono ?_; rintro e w9 ⟨rfl, hw9⟩; replace hw9 := hw9.symm; subst hw9)
        | (go_at_call 85; refine hC.mono ?_; rintro e w9 ⟨rfl, hw9⟩; replace hw9 := hw9.symm; subst hw9))
      go_ret
      exact ⟨rfl, rfl⟩
set_option maxHeartbeats 2000000 in
set_option maxRecDepth 20000 in
theorem tfitc_ok {S : Nat → Prop} {v : Value} {ls : List Ly} {w : World} (h : Sl kLy w S v ls) (hn : ∀ y ∈ ls, y.abv.length ≤ 9223372036854775806) (a c : Int) (ha : -1000 ≤ a ∧ a ≤ 9223372036854775807) : Calls Tryz.prog 15 #[v, .int .i64 a, .int .i64 c] w fun e w' => e = .returned (.bool (fitC ls a c)) ∧ w' = w := by
  have hI := tis_ok h hn (a - 16) c
  have hv := h
  obtain ⟨pa, pc, rfl, -⟩ := hv
  by_cases h0 : 0 ≤ c
  · by_cases h1 : c < (ls.length : Int)
    · have hin : inT ls c = true := by simp [inT, h0, h1]
      obtain ⟨i, rfl, hi, b, o, a3, c3, rfl, k1, -, -⟩ := ly_get h hin
      have hw : wrap64 (a - 16) = a - 16 := by unfold wrap64; omega
      have hd0 : decide ((i : Int) < 0) = false := by simp
      have hd1 : ¬ (ls.length : Int) ≤ (i : Int) := by omega
      by_cases hz : (i : Int) = 0
      · have hr : fitC ls a i = true := by unfold fitC; rw [hin, show ((i : Int) == 0) = true by simp [hz]]; rfl
        rw [hr]
        have ez : ((i : Int) == 0) = true := by simp [hz]
        clear hr hin hz h hI
        go_enter Tryz.func15, Tryz.ntmps15
        go_wp2_with (fail)
        go_ret
        exact ⟨rfl, rfl⟩
      · have ez : ((i : Int) == 0) = false := by rw [beq_eq_false_iff_ne]; exact hz
        by_cases hoff : (lyAt ls i).off = -1
        · have hr : fitC ls a i = true := by simp [fitC, hin, hoff]
          rw [hr]
          have eo : ((lyAt ls i).off == -1) = true := by simp [hoff]
          generalize (lyAt ls (i : Int)).off = off at *
          clear hr hin hz hoff h hI
          go_enter Tryz.func15, Tryz.ntmps15
          go_wp2_with (fail)
          go_ret
          exact ⟨rfl, rfl⟩
        · have hr : fitC ls a i = isLy ls (a - 16) i := by unfold fitC; rw [hin, ez, show ((lyAt ls i).off == -1) = false by simp [hoff]]; simp
          rw [hr]
          have eo : ((lyAt ls i).off == -1) = false := by simp [hoff]
          generalize (lyAt ls (i : Int)).off = off at *
          clear hr hin hz hoff h
          go_enter Tryz.func15, Tryz.ntmps15
          go_wp2_with (go_at_call 41; refine hI.mono ?_; rintro e w9 ⟨rfl, hw9⟩; replace hw9 := hw9.symm; subst hw9)
          go_ret
          exact ⟨rfl, rfl⟩
    · have hr : fitC ls a c = false := by simp [fitC, inT]; intro; omega
      rw [hr]
      have hd0 : decide (c < 0) = false := by simp; omega
      have hd1 : (ls.length : Int) ≤ c := by omega
      clear hr h hI h1
      go_enter Tryz.func15, Tryz.ntmps15
      go_wp2_with (fail)
      go_ret
      exact ⟨rfl, rfl⟩
  · have hr : fitC ls a c = false := by simp [fitC, inT]; intro; omega
    rw [hr]
    have hd0 : c < 0 := by omega
    clear hr h hI h0
    go_enter Tryz.func15, Tryz.ntmps15
    go_wp2_with (fail)
    go_ret
    exact ⟨rfl, rfl⟩
set_option maxHeartbeats 2000000 in
set_option maxRecDepth 20000 in
theorem tfits_ok {S : Nat → Prop} {v : Value} {ls : List Ly} {w : World} (h : Sl kLy w S v ls) (hn : ∀ y ∈ ls, y.abv.length ≤ 9223372036854775806) (a b : Int) (ha : a ≤ 9223372036854775807) (hb : b ≤ 9223372036854775807) : Calls Tryz.prog 7 #[v, .int .i64 a, .int .i64 b] w fun e w' => e = .returned (.bool (fitT ls a b)) ∧ w' = w := by
  have hRa := tref_ok a w
  have hRb := tref_ok b w
  by_cases hb0 : b = 0
  · have hr : fitT ls a b = true := by simp [fitT, hb0]
    rw [hr]
    have e0 : (b == 0) = true := by simp [hb0]
    clear hr hb0 h hRa hRb
    go_enter Tryz.func7, Tryz.ntmps7
    go_wp2_with (fail)
    go_ret
    exact ⟨rfl, rfl⟩
  have e0 : (b == 0) = false := by simp [hb0]
  by_cases hab : a = b
  · have hr : fitT ls a b = true := by simp [fitT, hab]
    rw [hr]
    have e1 : (a == b) = true := by simp [hab]
    clear hr hb0 hab h hRa hRb
    go_enter Tryz.func7, Tryz.ntmps7
    go_wp2_with (fail)
    go_ret
    exact ⟨rfl, rfl⟩
  have e1 : (a == b) = false := by simp [hab]
  rcases h1 : refT a with _ | _
  · have hr : fitT ls a b = false := by simp [fitT, hb0, hab, h1]
    rw [hr]
    rw [h1] at hRa
    clear hr hb0 hab h h1 hRb
    go_enter Tryz.func7, Tryz.ntmps7
    go_wp2_with (go_at_call 11; refine hRa.mono ?_; rintro e w9 ⟨rfl, hw9⟩; replace hw9 := hw9.symm; subst hw9)
    go_ret
    exact ⟨rfl, rfl⟩
  rcases h2 : refT b with _ | _
  · have hr : fitT ls a b = false := by simp [fitT, hb0, hab, h2]
    rw [hr]
    rw [h1] at hRa
    rw [h2] at hRb
    clear hr hb0 hab h h1 h2
    go_enter Tryz.func7, Tryz.ntmps7
    go_wp2_with (first
      | (go_at_call 11; refine hRa.mono ?_; rintro e w9 ⟨rfl, hw9⟩; replace hw9 := hw9.symm; subst hw9; clear hRa)
      | (go_at_call 11; refine hRb.mono ?_; rintro e w9 ⟨rfl, hw9⟩; replace hw9 := hw9.symm; subst hw9))
    go_ret
    exact ⟨rfl, rfl⟩
  have hb2 : 2 ≤ b := by simp [refT] at h2; omega
  have ha2 : 2 ≤ a := by simp [refT] at h1; omega
  by_cases han : a = 2
  · have hr : fitT ls a b = true := by unfold fitT; rw [h1, h2, show (a == 2) = true by simp [han]]; simp
    rw [hr]
    rw [h1] at hRa
    rw [h2] at hRb
    have e2 : (a == 2) = true := by simp [han]
    clear hr hb0 hab h h1 h2 han
    go_enter Tryz.func7, Tryz.ntmps7
    go_wp2_with (first
      | (go_at_call 11; refine hRa.mono ?_; rintro e w9 ⟨rfl, hw9⟩; replace hw9 := hw9.symm; subst hw9; clear hRa)
      | (go_at_call 11; refine hRb.mono ?_; rintro e w9 ⟨rfl, hw9⟩; replace hw9 := hw9.symm; subst hw9))
    go_ret
    exact ⟨rfl, rfl⟩
  · have hr : fitT ls a b = fitC ls a (b - 16) := by unfold fitT; rw [e0, e1, h1, h2, show (a == 2) = false by simp [han]]; simp
    rw [hr]
    rw [h1] at hRa
    rw [h2] at hRb
    have e2 : (a == 2) = false := by simp [han]
    have hF := tfitc_ok h hn a (b - 16) ⟨by omega, ha⟩
    have hw : wrap64 (b - 16) = b - 16 := by unfold wrap64; omega
    obtain ⟨pa, pc, rfl, -⟩ := h
    clear hr hb0 hab h1 h2 han
    go_enter Tryz.func7, Tryz.ntmps7
    go_wp2_with (first
      | (go_at_call 11; refine hRa.mono ?_; rintro e w9 ⟨rfl, hw9⟩; replace hw9 := hw9.symm; subst hw9; clear hRa)
      | (go_at_call 11; refine hRb.mono ?_; rintro e w9 ⟨rfl, hw9⟩; replace hw9 := hw9.symm; subst hw9)
      | (go_at_call 15; refine hF.mono ?_; rintro e w9 ⟨rfl, hw9⟩; replace hw9 := hw9.symm; subst hw9))
    go_ret
    exact ⟨rfl, rfl⟩
end Go.Proofs.YtbbmgjcabmjjdaaGreatDoor
/- layer 17's awake. -/
namespace Go.Proofs.YtbbmgjcabmjjdaaGreatDoor
open Go.RowKit

theorem tiny_okz : Okz tinyP := by
  have hM : ∀ m ∈ tinyC.mds, OkM m := by
    intro m hm
    simp [tinyC] at hm
    subst hm
    refine ⟨by decide, ?_, by unfold rg; decide, by unfold rg; decide⟩
    intro x hx
    simp [tinyM] at hx
  refine ⟨by unfold rg; decide, by decide, fun c hc => ?_⟩
  simp [tinyP] at hc
  subst hc
  exact ⟨by unfold rg; decide, by decide, by intro x hx; simp [tinyC] at hx, by decide, by intro x hx; simp [tinyC] at hx, by decide, by intro x hx; simp [tinyC] at hx, by decide, hM⟩
def tinyLs : List Ly := allJ tinyP
theorem tiny_load : loadJ tinyP = .ok tinyLs := by kernel_rfl
theorem tiny_ls : tinyLs.length = 12 := by kernel_rfl
theorem tiny_abv : ∀ y ∈ tinyLs, y.abv.length ≤ 9223372036854775806 := by
  have h : tinyLs.all (fun y => decide (y.abv.length ≤ 9223372036854775806)) = true := by kernel_rfl
  intro y hy
  simpa using List.all_eq_true.1 h y hy
theorem tiny_f1 : fitT tinyLs 2 3 = true := by kernel_rfl
theorem tiny_f2 : fitT tinyLs 3 16 = true := by kernel_rfl
theorem tiny_f3 : fitT tinyLs 16 27 = false := by kernel_rfl
set_option maxRecDepth 20000 in
theorem small11 (w : World) : Calls Tryz.prog 112 #[.int .i64 11] w fun e w' => e = .returned (.string ⟨#[49, 49]⟩) ∧ w' = w := by
  go_enter Tryz.func112, Tryz.ntmps112
  go_wp2
  go_ret
  exact ⟨by kernel_rfl, rfl⟩
set_option maxRecDepth 20000 in
theorem fmt11 (w : World) : Calls Tryz.prog 89 #[.int .i64 11, .int .i64 10] w fun e w' => e = .returned (.string ⟨#[49, 49]⟩) ∧ w' = w := by
  go_enter Tryz.func89, Tryz.ntmps89
  go_wp2_with (go_at_call 112; refine (small11 w).mono ?_; rintro e w9 ⟨rfl, hw9⟩; replace hw9 := hw9.symm; subst hw9)
  go_ret
  exact ⟨rfl, rfl⟩
set_option maxRecDepth 20000 in
theorem itoa11 (w : World) : Calls Tryz.prog 25 #[.int .i64 11] w fun e w' => e = .returned (.string ⟨#[49, 49]⟩) ∧ w' = w := by
  have h : Calls Tryz.prog 55 #[.int .i64 11] w fun e w' => e = .returned (.string ⟨#[49, 49]⟩) ∧ w' = w := by
    go_enter Tryz.func55, Tryz.ntmps55
    go_wp2_with (go_at_call 89; refine (fmt11 w).mono ?_; rintro e w9 ⟨rfl, hw9⟩; replace hw9 := hw9.symm; subst hw9)
    go_ret
    exact ⟨rfl, rfl⟩
  go_enter Tryz.func25, Tryz.ntmps25
  go_wp2_with (go_at_call 55; refine h.mono ?_; rintro e w9 ⟨rfl, hw9⟩; replace hw9 := hw9.symm; subst hw9)
  go_ret
  exact ⟨rfl, rfl⟩
set_option maxRecDepth 20000 in
theorem text27 (w : World) : Calls Tryz.prog 10 #[.int .i64 27] w fun e w' => e = .returned (.string ⟨#[99, 108, 97, 115, 115, 32, 49, 49]⟩) ∧ w' = w := by
  go_enter Tryz.func10, Tryz.ntmps10
  go_wp2_with (go_at_call 25; refine (itoa11 w).mono ?_; rintro e w9 ⟨rfl, hw9⟩; replace hw9 := hw9.symm; subst hw9)
  go_ret
  exact ⟨by kernel_rfl, rfl⟩
set_option maxRecDepth 20000 in
theorem textneg (w : World) : Calls Tryz.prog 10 #[.int .i64 (-1)] w fun e w' => e = .returned (.string ⟨#[63]⟩) ∧ w' = w := by
  go_enter Tryz.func10, Tryz.ntmps10
  go_wp2_with (fail)
  go_ret
  exact ⟨rfl, rfl⟩
/-- Tiny, and the document's Load of it: layouts of their own. -/
theorem tiny_at17 (w : World) : Calls Tryz.prog 9 #[] w fun e w' => ∃ ao cap S, e = .returned (.agg #[.int .i64 11, .slice ao 1 cap]) ∧ Below w.heap.size w w' ∧ Sl kCs w' S (.slice ao 1 cap) tinyP.cls ∧ (∀ k, S k → k < w'.heap.size) := by
  refine (Tiny_any w).mono ?_
  rintro e w' ⟨hb, v, rfl, cs, hR, rfl⟩
  obtain ⟨v1, rfl, h1⟩ := hR
  have h1' := h1
  obtain ⟨ao, cap, rfl, -⟩ := h1'
  exact ⟨ao, cap, _, rfl, hb, h1, fun k hk => hk.2⟩
theorem load_tiny {w : World} {S : Nat → Prop} {ao : Option Addr} {cap : Nat} (hS : ∀ k, S k → k < w.heap.size) (hv : Sl kCs w S (.slice ao 1 cap) tinyP.cls) : Calls Tryz.prog 8 #[.agg #[.int .i64 11, .slice ao 1 cap]] w fun e w' => ∃ a2 c2 L, e = .returned (.tuple #[.slice a2 12 c2, .int .i64 0, .int .i64 0]) ∧ Below w.heap.size w w' ∧ Sl kLy w' L (.slice a2 12 c2) tinyLs ∧ (∀ k, L k → k < w'.heap.size) := by
  refine (Load_any tiny_okz hS hv).mono ?_
  rintro e w' ⟨hb, h⟩
  rw [tiny_load] at h
  obtain ⟨a2, c2, he, hs⟩ := h
  rw [tiny_ls] at he hs
  exact ⟨a2, c2, _, he, hb, Sl.soft (K := kLyU) (fun _ _ ⟨_, _, _, q, h1, h2, h3⟩ => ⟨_, _, _, q, soft_Fd h1, soft_En h2, soft_I h3⟩) rfl rfl hs, fun k hk => hk.2⟩
set_option maxHeartbeats 4000000 in
set_option maxRecDepth 20000 in
theorem awake17 (w : World) : Calls Tryz.prog 4 #[] w fun e w' => e = .returned (.bool true) ∧ Below w.heap.size w w' := by
  have hT := tiny_at17 w
  go_enter Tryz.func4, Tryz.ntmps4
  go_wp2_with (first
    | (go_at_call 9; refine hT.mono ?_; rintro e u1 ⟨ao, cap, S, rfl, hb1, hs1, hS1⟩; have hLd := load_tiny hS1 hs1; have HB1 : Hid (Below w.heap.size w u1) := hb1; clear hT hb1 hs1 hS1)
    | (go_at_call 8; refine hLd.mono ?_; rintro e u2 ⟨a2, c2, L, rfl, hb2, hs2, -⟩; have HB2 : Hid (Below w.heap.size w u2) := HB1.out.trans (hb2.mono HB1.out.size); have HF : Hid (∀ a b : Int, a ≤ 9223372036854775807 → b ≤ 9223372036854775807 → Calls Tryz.prog 7 #[.slice a2 12 c2, .int .i64 a, .int .i64 b] u2 fun e w' => e = .returned (.bool (fitT tinyLs a b)) ∧ w' = u2) := (fun a b => tfits_ok hs2 tiny_abv a b); have hF1 := HF.out 2 3 (by decide) (by decide); have hF2 := HF.out 3 16 (by decide) (by decide); have hF3 := HF.out 16 27 (by decide) (by decide); rw [tiny_f1] at hF1; rw [tiny_f2] at hF2; rw [tiny_f3] at hF3; have hX1 := text27 u2; have hX2 := textneg u2; clear hLd hb2 hs2 HB1 HF)
    | (go_at_call 10; first
      | (refine hX1.mono ?_; clear hX1; rintro e w9 ⟨rfl, hw9⟩; replace hw9 := hw9.symm; subst hw9)
      | (refine hX2.mono ?_; rintro e w9 ⟨rfl, hw9⟩; replace hw9 := hw9.symm; subst hw9))
    | (go_at_call 11; refine (tref_ok _ u2).mono ?_; rintro e w9 ⟨rfl, hw9⟩; replace hw9 := hw9.symm; subst hw9)
    | (go_at_call 7; first
      | (refine hF1.mono ?_; clear hF1; rintro e w9 ⟨rfl, hw9⟩; replace hw9 := hw9.symm; subst hw9)
      | (refine hF2.mono ?_; clear hF2; rintro e w9 ⟨rfl, hw9⟩; replace hw9 := hw9.symm; subst hw9)
      | (refine hF3.mono ?_; rintro e w9 ⟨rfl, hw9⟩; replace hw9 := hw9.symm; subst hw9))
    | (go_at_call 6; refine (num_any _ _).mono ?_; rintro e w9 ⟨rfl, hw9⟩; replace hw9 := hw9.symm; subst hw9))
  go_ret
  exact ⟨by rfl, HB2.out⟩
end Go.Proofs.YtbbmgjcabmjjdaaGreatDoor
