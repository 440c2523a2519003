/- The reader's small functions: a number, a number within bounds, a name. -/
import Derived.Test.YtajghalljkphiaaGreatMLMem
import Derived.Test.YtajghalljkphiaaGreatMGL0
import Derived.StillTailTactics
namespace Go.Proofs.YtajghalljkphiaaGreat
open Go.RowKit

theorem ofWire_any (c : Int) (w : World) : Calls Tryz.prog 77 #[.int .i64 c] w fun e w' => e = .returned (.int .i64 (ofW c)) ∧ w' = w := by
  by_cases h : c = 200
  · subst h
    go_enter Tryz.func77, Tryz.ntmps77
    go_wp2
    go_ret
    exact ⟨rfl, rfl⟩
  · have h1 : (c == 200) = false := by simp [h]
    by_cases h2 : c = 202
    · subst h2
      go_enter Tryz.func77, Tryz.ntmps77
      go_wp2
      go_ret
      exact ⟨rfl, rfl⟩
    · have h3 : (c == 202) = false := by simp [h2]
      have HE : Hid (ofW c = 1402) := by show _ = _; unfold ofW; rw [if_neg h, if_neg h2]
      clear h h2
      go_enter Tryz.func77, Tryz.ntmps77
      go_wp2
      go_ret
      exact ⟨by rw [HE.out]; rfl, rfl⟩

set_option maxHeartbeats 1000000 in
set_option maxRecDepth 20000 in
theorem num_err {w : World} {rh : Nat} {s : ByteArray} {a : Nat} (H : Rb w rh s a) (hs : s.size ≤ maxLen) (h : gC s a ≠ 0) :
    Calls Tryz.prog 62 #[.pointer (some ⟨rh, 0, none⟩)] w fun e w' => e = Flt a (ofW (gC s a)) ∧ Bx rh w w' := by
  have c0 := H.c0
  have c1 := H.c1
  have hc : (gC s a != 0) = true := by simp [h]
  clear h
  go_enter Tryz.func62, Tryz.ntmps62
  go_wp2
  go_quiet ((go_at_call 76; exact Calls.quiet_of_same (get_any _ _ _ hs)))
  go_wp2
  refine wp_region_still_tail 6 (by kernel_rfl) (by kernel_rfl) ?_
  change wpStill _ _ (World.drew _) (fun a' => wpList _ _ _ _ a' (World.drew _)) _ _
  simp only [List.take_succ_cons, List.take_zero, List.drop_succ_cons, List.drop_zero]
  repeat still_step
  still_call (ofWire_any _ _)
  repeat still_step
  refine wpStill_nil ?_
  go_wp2_with (go_at_call 36; refine (throw_any _ _ _).mono ?_; rintro e w8 ⟨rfl, hw⟩; replace hw := hw.symm; subst hw)
  exact ⟨rfl, rfl, Bx.of_below (below_drewN w nq _).drew⟩

set_option maxHeartbeats 1000000 in
set_option maxRecDepth 20000 in
theorem num_ok {w : World} {rh : Nat} {s : ByteArray} {a : Nat} (H : Rb w rh s a) (ha : a ≤ s.size) (hs : s.size ≤ maxLen) (h : gC s a = 0) :
    Calls Tryz.prog 62 #[.pointer (some ⟨rh, 0, none⟩)] w fun e w' => e = .returned (.int .i64 (gN s a)) ∧ Bx rh w w' ∧ Rb w' rh s (gT s a).toNat := by
  have c0 := H.c0
  have c1 := H.c1
  have fr := H.fr 1
  have hc : (gC s a != 0) = false := by simp [h]
  have HT : Hid (gT s a = ((gT s a).toNat : Int)) := by
    show _ = _
    obtain ⟨n, e, _⟩ := num_back ha h
    rw [e]; rfl
  clear h
  go_enter Tryz.func62, Tryz.ntmps62
  go_wp2
  go_quiet ((go_at_call 76; exact Calls.quiet_of_same (get_any _ _ _ hs)))
  go_wp2
  go_ret
  have hb := H.below (below_drewN w nq _)
  refine ⟨rfl, (Bx.of_below (below_drewN w nq _)).set 1 _, ?_⟩
  rw [HT.out]
  exact hb.set _

theorem rnum_ok {w : World} {rh : Nat} {s : ByteArray} {a : Nat} (H : Rb w rh s a) (ha : a ≤ s.size) (hs : s.size ≤ maxLen) :
    Calls Tryz.prog 62 #[.pointer (some ⟨rh, 0, none⟩)] w (RdP (pNum s a) vI s rh w) := by
  by_cases h : gC s a = 0
  · refine (num_ok H ha hs h).mono fun e w' hp => ?_
    unfold RdP
    rw [pNum_ok h]
    exact ⟨hp.2.1, _, hp.1, rfl, hp.2.2⟩
  · refine (num_err H hs h).mono fun e w' hp => ?_
    unfold RdP
    rw [pNum_no h]
    exact ⟨hp.2, hp.1⟩

set_option maxHeartbeats 1000000 in
set_option maxRecDepth 20000 in
theorem rup_ok {w : World} {rh : Nat} {s : ByteArray} {a : Nat} (most ab : Int) (H : Rb w rh s a) (ha : a ≤ s.size) (hs : s.size ≤ maxLen) :
    Calls Tryz.prog 78 #[.pointer (some ⟨rh, 0, none⟩), .int .i64 most, .int .i64 ab] w (RdP (pUp most ab s a) vI s rh w) := by
  have c1 := H.c1
  have hN := rnum_ok H ha hs
  unfold pUp
  rcases hp : pNum s a with ⟨q, c⟩ | ⟨x, b⟩
  · rw [hp] at hN
    rw [bnd_err]
    go_enter Tryz.func78, Tryz.ntmps78
    go_wp2_with (go_at_call 62; refine hN.mono ?_; rintro e w1 ⟨hb, rfl⟩)
    exact ⟨rfl, hb, rfl⟩
  · rw [hp] at hN
    rw [bnd_ok]
    by_cases h1 : x < 0
    · rw [if_pos h1]
      go_enter Tryz.func78, Tryz.ntmps78
      go_wp2_with (first | (go_at_call 36; refine (throw_any _ _ _).mono ?_; rintro e w8 ⟨rfl, hw⟩; replace hw := hw.symm; subst hw) | (go_at_call 62; refine hN.mono ?_; rintro e w1 ⟨hb, v, rfl, rfl, hR⟩))
      exact ⟨rfl, hb, rfl⟩
    · rw [if_neg h1]
      by_cases h2 : most < x
      · rw [if_pos h2]
        go_enter Tryz.func78, Tryz.ntmps78
        go_wp2_with (first | (go_at_call 36; refine (throw_any _ _ _).mono ?_; rintro e w8 ⟨rfl, hw⟩; replace hw := hw.symm; subst hw) | (go_at_call 62; refine hN.mono ?_; rintro e w1 ⟨hb, v, rfl, rfl, hR⟩))
        exact ⟨rfl, hb, rfl⟩
      · rw [if_neg h2]
        go_enter Tryz.func78, Tryz.ntmps78
        go_wp2_with (first | (go_at_call 36; refine (throw_any _ _ _).mono ?_; rintro e w8 ⟨rfl, hw⟩; replace hw := hw.symm; subst hw) | (go_at_call 62; refine hN.mono ?_; rintro e w1 ⟨hb, v, rfl, rfl, hR⟩))
        go_ret
        exact ⟨hb, _, rfl, rfl, hR⟩

theorem isDigit_a (c : UInt8) (w : World) (h : 48 ≤ c.toNat ∧ c.toNat ≤ 57) : Calls Tryz.prog 92 #[.int .u8 c.toNat] w fun e w' => e = .returned (.bool (isD c)) ∧ w' = w := by
  have HE : Hid (isD c = true) := by show _ = _; unfold isD; simp; omega
  have d0 : decide ((48 : Int) ≤ (c.toNat : Int)) = true := by simp; omega
  have d1 : decide ((c.toNat : Int) ≤ 57) = true := by simp; omega
  go_enter Tryz.func92, Tryz.ntmps92
  go_wp2
  go_ret
  exact ⟨by rw [HE.out]; rfl, rfl⟩
theorem isDigit_b (c : UInt8) (w : World) (h : 48 ≤ c.toNat ∧ ¬ c.toNat ≤ 57) : Calls Tryz.prog 92 #[.int .u8 c.toNat] w fun e w' => e = .returned (.bool (isD c)) ∧ w' = w := by
  have HE : Hid (isD c = false) := by show _ = _; unfold isD; simp; omega
  have d0 : decide ((48 : Int) ≤ (c.toNat : Int)) = true := by simp; omega
  have d1 : decide ((c.toNat : Int) ≤ 57) = false := by simp; omega
  go_enter Tryz.func92, Tryz.ntmps92
  go_wp2
  go_ret
  exact ⟨by rw [HE.out]; rfl, rfl⟩
theorem isDigit_c (c : UInt8) (w : World) (h : ¬ 48 ≤ c.toNat) : Calls Tryz.prog 92 #[.int .u8 c.toNat] w fun e w' => e = .returned (.bool (isD c)) ∧ w' = w := by
  have HE : Hid (isD c = false) := by show _ = _; unfold isD; simp; omega
  have d0 : decide ((48 : Int) ≤ (c.toNat : Int)) = false := by simp; omega
  go_enter Tryz.func92, Tryz.ntmps92
  go_wp2
  go_ret
  exact ⟨by rw [HE.out]; rfl, rfl⟩
theorem digit_any (c : UInt8) (w : World) : Calls Tryz.prog 92 #[.int .u8 c.toNat] w fun e w' => e = .returned (.bool (isD c)) ∧ w' = w := by
  by_cases h1 : 48 ≤ c.toNat
  · by_cases h2 : c.toNat ≤ 57
    · exact isDigit_a c w ⟨h1, h2⟩
    · exact isDigit_b c w ⟨h1, h2⟩
  · exact isDigit_c c w h1
theorem isLetter_a (c : UInt8) (w : World) (h : 97 ≤ c.toNat ∧ c.toNat ≤ 122) : Calls Tryz.prog 93 #[.int .u8 c.toNat] w fun e w' => e = .returned (.bool (isL c)) ∧ w' = w := by
  have HE : Hid (isL c = true) := by show _ = _; unfold isL; simp; omega
  have d0 : decide ((97 : Int) ≤ (c.toNat : Int)) = true := by simp; omega
  have d1 : decide ((c.toNat : Int) ≤ 122) = true := by simp; omega
  go_enter Tryz.func93, Tryz.ntmps93
  go_wp2
  go_ret
  exact ⟨by rw [HE.out]; rfl, rfl⟩
theorem isLetter_b (c : UInt8) (w : World) (h : 97 ≤ c.toNat ∧ ¬ c.toNat ≤ 122) : Calls Tryz.prog 93 #[.int .u8 c.toNat] w fun e w' => e = .returned (.bool (isL c)) ∧ w' = w := by
  have HE : Hid (isL c = false) := by show _ = _; unfold isL; simp; omega
  have d0 : decide ((97 : Int) ≤ (c.toNat : Int)) = true := by simp; omega
  have d1 : decide ((c.toNat : Int) ≤ 122) = false := by simp; omega
  have d2 : decide ((65 : Int) ≤ (c.toNat : Int)) = true := by simp; omega
  have d3 : decide ((c.toNat : Int) ≤ 90) = false := by simp; omega
  have d4 : ((c.toNat : Int) == 95) = false := by simp; omega
  go_enter Tryz.func93, Tryz.ntmps93
  go_wp2
  go_ret
  exact ⟨by rw [HE.out]; rfl, rfl⟩
theorem isLetter_c (c : UInt8) (w : World) (h : ¬ 97 ≤ c.toNat ∧ 65 ≤ c.toNat ∧ c.toNat ≤ 90) : Calls Tryz.prog 93 #[.int .u8 c.toNat] w fun e w' => e = .returned (.bool (isL c)) ∧ w' = w := by
  have HE : Hid (isL c = true) := by show _ = _; unfold isL; simp; omega
  have d0 : decide ((97 : Int) ≤ (c.toNat : Int)) = false := by simp; omega
  have d1 : decide ((65 : Int) ≤ (c.toNat : Int)) = true := by simp; omega
  have d2 : decide ((c.toNat : Int) ≤ 90) = true := by simp; omega
  go_enter Tryz.func93, Tryz.ntmps93
  go_wp2
  go_ret
  exact ⟨by rw [HE.out]; rfl, rfl⟩
theorem isLetter_d (c : UInt8) (w : World) (h : ¬ 97 ≤ c.toNat ∧ ¬ c.toNat ≤ 90 ∧ ¬ c.toNat = 95) : Calls Tryz.prog 93 #[.int .u8 c.toNat] w fun e w' => e = .returned (.bool (isL c)) ∧ w' = w := by
  have HE : Hid (isL c = false) := by show _ = _; unfold isL; simp; omega
  have d0 : decide ((97 : Int) ≤ (c.toNat : Int)) = false := by simp; omega
  have d1 : decide ((65 : Int) ≤ (c.toNat : Int)) = true := by simp; omega
  have d2 : decide ((c.toNat : Int) ≤ 90) = false := by simp; omega
  have d3 : ((c.toNat : Int) == 95) = false := by simp; omega
  go_enter Tryz.func93, Tryz.ntmps93
  go_wp2
  go_ret
  exact ⟨by rw [HE.out]; rfl, rfl⟩
theorem isLetter_e (c : UInt8) (w : World) (h : c.toNat = 95) : Calls Tryz.prog 93 #[.int .u8 c.toNat] w fun e w' => e = .returned (.bool (isL c)) ∧ w' = w := by
  have HE : Hid (isL c = true) := by show _ = _; unfold isL; simp; omega
  have d0 : decide ((97 : Int) ≤ (c.toNat : Int)) = false := by simp; omega
  have d1 : decide ((65 : Int) ≤ (c.toNat : Int)) = true := by simp; omega
  have d2 : decide ((c.toNat : Int) ≤ 90) = false := by simp; omega
  have d3 : ((c.toNat : Int) == 95) = true := by simp; omega
  go_enter Tryz.func93, Tryz.ntmps93
  go_wp2
  go_ret
  exact ⟨by rw [HE.out]; rfl, rfl⟩
theorem isLetter_f (c : UInt8) (w : World) (h : ¬ 65 ≤ c.toNat) : Calls Tryz.prog 93 #[.int .u8 c.toNat] w fun e w' => e = .returned (.bool (isL c)) ∧ w' = w := by
  have HE : Hid (isL c = false) := by show _ = _; unfold isL; simp; omega
  have d0 : decide ((97 : Int) ≤ (c.toNat : Int)) = false := by simp; omega
  have d1 : decide ((65 : Int) ≤ (c.toNat : Int)) = false := by simp; omega
  have d2 : ((c.toNat : Int) == 95) = false := by simp; omega
  go_enter Tryz.func93, Tryz.ntmps93
  go_wp2
  go_ret
  exact ⟨by rw [HE.out]; rfl, rfl⟩
theorem letter_any (c : UInt8) (w : World) : Calls Tryz.prog 93 #[.int .u8 c.toNat] w fun e w' => e = .returned (.bool (isL c)) ∧ w' = w := by
  by_cases h1 : 97 ≤ c.toNat
  · by_cases h2 : c.toNat ≤ 122
    · exact isLetter_a c w ⟨h1, h2⟩
    · exact isLetter_b c w ⟨h1, h2⟩
  · by_cases h2 : 65 ≤ c.toNat
    · by_cases h3 : c.toNat ≤ 90
      · exact isLetter_c c w ⟨h1, h2, h3⟩
      · by_cases h4 : c.toNat = 95
        · exact isLetter_e c w h4
        · exact isLetter_d c w ⟨h1, h3, h4⟩
    · exact isLetter_f c w h2
end Go.Proofs.YtajghalljkphiaaGreat
