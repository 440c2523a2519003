/- The document's Ref, Is, Fits. -/
import Derived.Test.YtdgndglinkcdbaaDoorMGT1
import Derived.Test.YtdgndglinkcdbaaDoorMGJ1
namespace Go.Proofs.YtdgndglinkcdbaaDoor
open Go.RowKit

theorem docref_ok (t : Int) (w : World) : Calls Tryd.prog 11 #[.int .i64 t] w fun e w' => e = .returned (.bool (refT t)) ∧ w' = w := by
  by_cases h2 : t = 2
  · subst h2
    go_enter Tryd.func11, Tryd.ntmps11
    go_wp2
    go_ret
    exact ⟨rfl, rfl⟩
  have e2 : (t == 2) = false := by simp [h2]
  by_cases h3 : t = 3
  · subst h3
    go_enter Tryd.func11, Tryd.ntmps11
    go_wp2
    go_ret
    exact ⟨rfl, rfl⟩
  have e3 : (t == 3) = false := by simp [h3]
  by_cases h4 : t = 4
  · subst h4
    go_enter Tryd.func11, Tryd.ntmps11
    go_wp2
    go_ret
    exact ⟨rfl, rfl⟩
  have e4 : (t == 4) = false := by simp [h4]
  have hr : refT t = decide (16 ≤ t) := by simp [refT, h2, h3, h4]
  rw [hr]
  clear hr h2 h3 h4
  go_enter Tryd.func11, Tryd.ntmps11
  go_wp2
  go_ret
  exact ⟨rfl, rfl⟩
def isDy (ls : List Ly) (sub sup : Int) : Bool := inT ls sub && (lyAt ls sub).abv.contains sup
set_option maxHeartbeats 2000000 in
set_option maxRecDepth 20000 in
theorem docis_ok {S : Nat → Prop} {v : Value} {ls : List Ly} {w : World} (h : Sl kLy w S v ls) (sub sup : Int) : Calls Tryd.prog 33 #[v, .int .i64 sub, .int .i64 sup] w fun e w' => e = .returned (.bool (isDy ls sub sup)) ∧ w' = w := by
  have hv := h
  obtain ⟨pa, pc, rfl, -⟩ := hv
  by_cases h0 : 0 ≤ sub
  · have d0 : decide (0 ≤ sub) = true := by simp [h0]
    by_cases h1 : sub < (ls.length : Int)
    · have hin : inT ls sub = true := by simp [inT, h0, h1]
      obtain ⟨i, rfl, hi, b, o, a3, c3, rfl, -, k2, hs⟩ := ly_get h hin
      have hr : isDy ls i sup = (lyAt ls i).abv.contains sup := by simp [isDy, hin]
      rw [hr]
      have hC := jhas_ok sup hs
      generalize (lyAt ls (i : Int)).abv.contains sup = R at *
      generalize (lyAt ls (i : Int)).abv.length = na at *
      clear hr hin h hs d0 h0
      go_enter Tryd.func33, Tryd.ntmps33
      go_wp2_with (go_at_call 55; refine hC.mono ?_; rintro e w9 ⟨rfl, hw9⟩; replace hw9 := hw9.symm; subst hw9)
      go_ret
      exact ⟨rfl, rfl⟩
    · have hr : isDy ls sub sup = false := by simp [isDy, inT]; intro; omega
      rw [hr]
      have d1 : decide (sub < (ls.length : Int)) = false := by simp; omega
      clear hr h h1 h0
      go_enter Tryd.func33, Tryd.ntmps33
      go_wp2_with (fail)
      go_ret
      exact ⟨rfl, rfl⟩
  · have hr : isDy ls sub sup = false := by simp [isDy, inT]; intro; omega
    rw [hr]
    have d0 : decide (0 ≤ sub) = false := by simp; omega
    clear hr h h0
    go_enter Tryd.func33, Tryd.ntmps33
    go_wp2_with (fail)
    go_ret
    exact ⟨rfl, rfl⟩
set_option maxHeartbeats 4000000 in
set_option maxRecDepth 20000 in
theorem docfits_ok {S : Nat → Prop} {v : Value} {ls : List Ly} {w : World} (h : Sl kLy w S v ls) (a b : Int) (ha : a ≤ 9223372036854775807) (hb : b ≤ 9223372036854775807) : Calls Tryd.prog 13 #[v, .int .i64 a, .int .i64 b] w fun e w' => e = .returned (.bool (fitT ls a b)) ∧ w' = w := by
  have hRa := docref_ok a w
  have hRb := docref_ok b w
  by_cases hb0 : b = 0
  · have hr : fitT ls a b = true := by simp [fitT, hb0]
    rw [hr]
    have e0 : (b == 0) = true := by simp [hb0]
    clear hr hb0 hRa hRb h
    go_enter Tryd.func13, Tryd.ntmps13
    go_wp2_with (fail)
    go_ret
    exact ⟨rfl, rfl⟩
  have e0 : (b == 0) = false := by simp [hb0]
  by_cases hab : a = b
  · have hr : fitT ls a b = true := by simp [fitT, hab]
    rw [hr]
    have e1 : (a == b) = true := by simp [hab]
    clear hr hab hRa hRb h hb0
    go_enter Tryd.func13, Tryd.ntmps13
    go_wp2_with (fail)
    go_ret
    exact ⟨rfl, rfl⟩
  have e1 : (a == b) = false := by simp [hab]
  rcases ra : refT a with _ | _
  · have hr : fitT ls a b = false := by simp [fitT, e0, e1, ra]
    rw [hr]
    rw [ra] at hRa
    clear hr hab hRb h hb0 ra
    go_enter Tryd.func13, Tryd.ntmps13
    go_wp2_with (go_at_call 11; refine hRa.mono ?_; rintro e w9 ⟨rfl, hw9⟩; replace hw9 := hw9.symm; subst hw9; clear hRa)
    go_ret
    exact ⟨rfl, rfl⟩
  rcases rb : refT b with _ | _
  · have hr : fitT ls a b = false := by simp [fitT, e0, e1, rb]
    rw [hr]
    rw [ra] at hRa
    rw [rb] at hRb
    clear hr hab h hb0 ra rb
    go_enter Tryd.func13, Tryd.ntmps13
    go_wp2_with (go_at_call 11; first | (refine hRa.mono ?_; rintro e w9 ⟨rfl, hw9⟩; replace hw9 := hw9.symm; subst hw9; clear hRa) | (refine hRb.mono ?_; rintro e w9 ⟨rfl, hw9⟩; replace hw9 := hw9.symm; subst hw9; clear hRb))
    go_ret
    exact ⟨rfl, rfl⟩
  rw [ra] at hRa
  rw [rb] at hRb
  by_cases ha2 : a = 2
  · have hr : fitT ls a b = true := by unfold fitT; rw [e0, e1, ra, rb, show (a == 2) = true by simp [ha2]]; rfl
    rw [hr]
    have e2 : (a == 2) = true := by simp [ha2]
    clear hr hab h hb0 ra rb ha2
    go_enter Tryd.func13, Tryd.ntmps13
    go_wp2_with (go_at_call 11; first | (refine hRa.mono ?_; rintro e w9 ⟨rfl, hw9⟩; replace hw9 := hw9.symm; subst hw9; clear hRa) | (refine hRb.mono ?_; rintro e w9 ⟨rfl, hw9⟩; replace hw9 := hw9.symm; subst hw9; clear hRb))
    go_ret
    exact ⟨rfl, rfl⟩
  have e2 : (a == 2) = false := by simp [ha2]
  have ra3 : 3 ≤ a := by
    have := ra
    simp [refT, ha2] at this; omega
  have rb2 : 2 ≤ b := by
    have := rb
    simp [refT] at this; omega
  have hF : fitT ls a b = fitC ls a (b - 16) := by simp [fitT, e0, e1, ra, rb, e2]
  rw [hF]
  have hwb : wrap64 (b - 16) = b - 16 := by unfold wrap64; omega
  have hwa : wrap64 (a - 16) = a - 16 := by unfold wrap64; omega
  obtain ⟨c, hc⟩ : ∃ c, b - 16 = c := ⟨_, rfl⟩
  have HWB : Hid (wrap64 (b - 16) = c) := hwb.trans hc
  rw [hc]
  clear hwb
  have hv := h
  obtain ⟨pa, pc, rfl, -⟩ := hv
  by_cases h0 : 0 ≤ c
  · by_cases h1 : c < (ls.length : Int)
    · have hin : inT ls c = true := by simp [inT, h0, h1]
      have hI := docis_ok h (a - 16) c
      obtain ⟨i, rfl, hi, B, o, a3, c3, rfl, k1, -, -⟩ := ly_get h hin
      have d0 : decide ((i : Int) < 0) = false := by simp
      have d1 : ¬ (ls.length : Int) ≤ (i : Int) := by omega
      by_cases hz : (i : Int) = 0
      · have hr : fitC ls a i = true := by unfold fitC; rw [hin, show ((i : Int) == 0) = true by simp [hz]]; rfl
        rw [hr]
        have ez : ((i : Int) == 0) = true := by simp [hz]
        clear hr hin hz h hI hF hab hb0 ha2 ra rb hc ra3 rb2 ha hb hwa
        go_enter Tryd.func13, Tryd.ntmps13
        go_upto_region 8 with (go_at_call 11; first | (refine hRa.mono ?_; rintro e w9 ⟨rfl, hw9⟩; replace hw9 := hw9.symm; subst hw9; clear hRa) | (refine hRb.mono ?_; rintro e w9 ⟨rfl, hw9⟩; replace hw9 := hw9.symm; subst hw9; clear hRb))
        rw [HWB.out]
        go_wp2_with (fail)
        go_ret
        exact ⟨rfl, rfl⟩
      have ez : ((i : Int) == 0) = false := by rw [beq_eq_false_iff_ne]; exact hz
      by_cases hoff : (lyAt ls i).off = -1
      · have hr : fitC ls a i = true := by simp [fitC, hin, hoff]
        rw [hr]
        have eo : ((lyAt ls i).off == -1) = true := by simp [hoff]
        generalize (lyAt ls (i : Int)).off = off at *
        clear hr hin hz hoff h hI hF hab hb0 ha2 ra rb hc ra3 rb2 ha hb hwa
        go_enter Tryd.func13, Tryd.ntmps13
        go_upto_region 8 with (go_at_call 11; first | (refine hRa.mono ?_; rintro e w9 ⟨rfl, hw9⟩; replace hw9 := hw9.symm; subst hw9; clear hRa) | (refine hRb.mono ?_; rintro e w9 ⟨rfl, hw9⟩; replace hw9 := hw9.symm; subst hw9; clear hRb))
        rw [HWB.out]
        go_wp2_with (fail)
        go_ret
        exact ⟨rfl, rfl⟩
      have eo : ((lyAt ls i).off == -1) = false := by simp [hoff]
      have hr : fitC ls a i = isDy ls (a - 16) i := by unfold fitC isLy isDy; rw [hin, ez, eo]; simp
      rw [hr]
      generalize (lyAt ls (i : Int)).off = off at *
      by_cases h16 : 16 ≤ a
      · have d16 : decide (16 ≤ a) = true := by simp [h16]
        generalize isDy ls (a - 16) (i : Int) = R at *
        clear hr hin hz hoff h hF hab hb0 ha2 ra rb hc ra3 rb2 ha hb h16
        go_enter Tryd.func13, Tryd.ntmps13
        go_upto_region 8 with (go_at_call 11; first | (refine hRa.mono ?_; rintro e w9 ⟨rfl, hw9⟩; replace hw9 := hw9.symm; subst hw9; clear hRa) | (refine hRb.mono ?_; rintro e w9 ⟨rfl, hw9⟩; replace hw9 := hw9.symm; subst hw9; clear hRb))
        rw [HWB.out]
        go_wp2_with (go_at_call 33; refine hI.mono ?_; rintro e w9 ⟨rfl, hw9⟩; replace hw9 := hw9.symm; subst hw9)
        go_ret
        exact ⟨rfl, rfl⟩
      · have hq : isDy ls (a - 16) (i : Int) = false := by simp [isDy, inT]; intro; omega
        rw [hq]
        have d16 : decide (16 ≤ a) = false := by simp; omega
        clear hr hin hz hoff h hF hab hb0 ha2 ra rb hc ra3 rb2 ha hb h16 hI hq hwa
        go_enter Tryd.func13, Tryd.ntmps13
        go_upto_region 8 with (go_at_call 11; first | (refine hRa.mono ?_; rintro e w9 ⟨rfl, hw9⟩; replace hw9 := hw9.symm; subst hw9; clear hRa) | (refine hRb.mono ?_; rintro e w9 ⟨rfl, hw9⟩; replace hw9 := hw9.symm; subst hw9; clear hRb))
        rw [HWB.out]
        go_wp2_with (fail)
        go_ret
        exact ⟨rfl, rfl⟩
    · have hr : fitC ls a c = false := by simp [fitC, inT]; intro; omega
      rw [hr]
      have d0 : decide (c < 0) = false := by simp; omega
      have d1 : (ls.length : Int) ≤ c := by omega
      clear hr h h1 hF hab hb0 ha2 ra rb hc ra3 rb2 ha hb hwa
      go_enter Tryd.func13, Tryd.ntmps13
      go_upto_region 8 with (go_at_call 11; first | (refine hRa.mono ?_; rintro e w9 ⟨rfl, hw9⟩; replace hw9 := hw9.symm; subst hw9; clear hRa) | (refine hRb.mono ?_; rintro e w9 ⟨rfl, hw9⟩; replace hw9 := hw9.symm; subst hw9; clear hRb))
      rw [HWB.out]
      go_wp2_with (fail)
      go_ret
      exact ⟨rfl, rfl⟩
  · have hr : fitC ls a c = false := by simp [fitC, inT]; intro; omega
    rw [hr]
    have d0 : c < 0 := by omega
    clear hr h h0 hF hab hb0 ha2 ra rb hc ra3 rb2 ha hb hwa
    go_enter Tryd.func13, Tryd.ntmps13
    go_upto_region 8 with (go_at_call 11; first | (refine hRa.mono ?_; rintro e w9 ⟨rfl, hw9⟩; replace hw9 := hw9.symm; subst hw9; clear hRa) | (refine hRb.mono ?_; rintro e w9 ⟨rfl, hw9⟩; replace hw9 := hw9.symm; subst hw9; clear hRb))
    rw [HWB.out]
    go_wp2_with (fail)
    go_ret
    exact ⟨rfl, rfl⟩
end Go.Proofs.YtdgndglinkcdbaaDoor
