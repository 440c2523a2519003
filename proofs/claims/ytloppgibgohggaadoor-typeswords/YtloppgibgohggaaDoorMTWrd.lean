/- TypesWords: the walk (by twrd_gen.py). -/
import Derived.Test.YtloppgibgohggaaDoorMGT1
import Derived.Test.YtloppgibgohggaaDoorMGT2
namespace Go.Proofs.YtloppgibgohggaaDoor
open Go.RowKit

theorem dec0 (w : World) : Calls Tryd.prog 20 #[.int .i64 0] w fun e w' => e = .returned (.string ⟨#[48]⟩) ∧ Below w.heap.size w w' := by
  have h := dec_ok 0 (by decide) w
  rw [dig_lt (by decide)] at h
  exact h
theorem dec1 (w : World) : Calls Tryd.prog 20 #[.int .i64 1] w fun e w' => e = .returned (.string ⟨#[49]⟩) ∧ Below w.heap.size w w' := by
  have h := dec_ok 1 (by decide) w
  rw [dig_lt (by decide)] at h
  exact h
theorem dec2 (w : World) : Calls Tryd.prog 20 #[.int .i64 2] w fun e w' => e = .returned (.string ⟨#[50]⟩) ∧ Below w.heap.size w w' := by
  have h := dec_ok 2 (by decide) w
  rw [dig_lt (by decide)] at h
  exact h
theorem dec3 (w : World) : Calls Tryd.prog 20 #[.int .i64 3] w fun e w' => e = .returned (.string ⟨#[51]⟩) ∧ Below w.heap.size w w' := by
  have h := dec_ok 3 (by decide) w
  rw [dig_lt (by decide)] at h
  exact h
theorem dec4 (w : World) : Calls Tryd.prog 20 #[.int .i64 4] w fun e w' => e = .returned (.string ⟨#[52]⟩) ∧ Below w.heap.size w w' := by
  have h := dec_ok 4 (by decide) w
  rw [dig_lt (by decide)] at h
  exact h
theorem dec5 (w : World) : Calls Tryd.prog 20 #[.int .i64 5] w fun e w' => e = .returned (.string ⟨#[53]⟩) ∧ Below w.heap.size w w' := by
  have h := dec_ok 5 (by decide) w
  rw [dig_lt (by decide)] at h
  exact h
theorem dec6 (w : World) : Calls Tryd.prog 20 #[.int .i64 6] w fun e w' => e = .returned (.string ⟨#[54]⟩) ∧ Below w.heap.size w w' := by
  have h := dec_ok 6 (by decide) w
  rw [dig_lt (by decide)] at h
  exact h
theorem dec7 (w : World) : Calls Tryd.prog 20 #[.int .i64 7] w fun e w' => e = .returned (.string ⟨#[55]⟩) ∧ Below w.heap.size w w' := by
  have h := dec_ok 7 (by decide) w
  rw [dig_lt (by decide)] at h
  exact h
theorem dec8 (w : World) : Calls Tryd.prog 20 #[.int .i64 8] w fun e w' => e = .returned (.string ⟨#[56]⟩) ∧ Below w.heap.size w w' := by
  have h := dec_ok 8 (by decide) w
  rw [dig_lt (by decide)] at h
  exact h
theorem dec9 (w : World) : Calls Tryd.prog 20 #[.int .i64 9] w fun e w' => e = .returned (.string ⟨#[57]⟩) ∧ Below w.heap.size w w' := by
  have h := dec_ok 9 (by decide) w
  rw [dig_lt (by decide)] at h
  exact h
theorem dec10 (w : World) : Calls Tryd.prog 20 #[.int .i64 10] w fun e w' => e = .returned (.string ⟨#[49, 48]⟩) ∧ Below w.heap.size w w' := by
  have h := dec_ok 10 (by decide) w
  rw [dig_ge (by decide), show 10 / 10 = 1 from rfl, dig_lt (by decide)] at h
  exact h
theorem dec11 (w : World) : Calls Tryd.prog 20 #[.int .i64 11] w fun e w' => e = .returned (.string ⟨#[49, 49]⟩) ∧ Below w.heap.size w w' := by
  have h := dec_ok 11 (by decide) w
  rw [dig_ge (by decide), show 11 / 10 = 1 from rfl, dig_lt (by decide)] at h
  exact h
theorem dec12 (w : World) : Calls Tryd.prog 20 #[.int .i64 12] w fun e w' => e = .returned (.string ⟨#[49, 50]⟩) ∧ Below w.heap.size w w' := by
  have h := dec_ok 12 (by decide) w
  rw [dig_ge (by decide), show 12 / 10 = 1 from rfl, dig_lt (by decide)] at h
  exact h
theorem dec13 (w : World) : Calls Tryd.prog 20 #[.int .i64 13] w fun e w' => e = .returned (.string ⟨#[49, 51]⟩) ∧ Below w.heap.size w w' := by
  have h := dec_ok 13 (by decide) w
  rw [dig_ge (by decide), show 13 / 10 = 1 from rfl, dig_lt (by decide)] at h
  exact h
set_option maxHeartbeats 8000000 in
set_option maxRecDepth 20000 in
theorem words_walk (t : Int) (w : World) : Calls Tryd.prog 5 #[.int .i64 t] w fun e w' => e = .returned (.bool true) ∧ Below w.heap.size w w' := by
  have hA := awake17 w
  go_enter Tryd.func5, Tryd.ntmps5
  go_upto_region 4 with (first
    | (go_at_call 8; refine hA.mono ?_; rintro e u0 ⟨rfl, hb0⟩; have HB0 : Hid (Below w.heap.size w u0) := hb0; clear hA hb0))
  obtain ⟨k, hk⟩ : ∃ k, t.tmod 30 = k := ⟨_, rfl⟩
  have hb : -30 < k ∧ k < 30 := by
    rw [← hk]
    exact ⟨by have := Int.lt_tmod_of_pos t (show (0 : Int) < 30 by decide); omega, Int.tmod_lt_of_pos t (by decide)⟩
  rw [hk]
  have HB3 : Hid (Below w.heap.size w (u0.alloc (.cells #[.string ⟨#[110, 111, 110, 101]⟩, .string ⟨#[105, 110, 116]⟩, .string ⟨#[110, 117, 108, 108]⟩, .string ⟨#[105, 110, 116, 115]⟩, .string ⟨#[114, 101, 102, 115]⟩] 9))) := HB0.out.alloc HB0.out.size _
  clear hk HB0
  by_cases k0 : k = 0
  · subst k0
    have hc : (u0.alloc (.cells #[.string ⟨#[110, 111, 110, 101]⟩, .string ⟨#[105, 110, 116]⟩, .string ⟨#[110, 117, 108, 108]⟩, .string ⟨#[105, 110, 116, 115]⟩, .string ⟨#[114, 101, 102, 115]⟩] 9)).cell? ⟨u0.heap.size, 0, none⟩ = some (.string ⟨#[110, 111, 110, 101]⟩) := by simp only [World.cell?, heap_alloc_new]; rfl
    have hrf : refT 0 = false := by decide
    go_wp2_with (first
      | (go_at_call 11; refine (text0 _).mono ?_; rintro e w9 ⟨rfl, hw9⟩; replace hw9 := hw9.symm; subst hw9)
      | (go_at_call 13; refine (tref_ok _ _).mono ?_; rintro e w9 ⟨rfl, hw9⟩; replace hw9 := hw9.symm; subst hw9)
      | (go_at_call 21; refine (num_any _ _).mono ?_; rintro e w9 ⟨rfl, hw9⟩; replace hw9 := hw9.symm; subst hw9))
    go_ret
    exact ⟨by first | rfl | (simp [refT]) , HB3.out⟩
  by_cases k1 : k = 1
  · subst k1
    have hc : (u0.alloc (.cells #[.string ⟨#[110, 111, 110, 101]⟩, .string ⟨#[105, 110, 116]⟩, .string ⟨#[110, 117, 108, 108]⟩, .string ⟨#[105, 110, 116, 115]⟩, .string ⟨#[114, 101, 102, 115]⟩] 9)).cell? ⟨u0.heap.size, 1, none⟩ = some (.string ⟨#[105, 110, 116]⟩) := by simp only [World.cell?, heap_alloc_new]; rfl
    have hrf : refT 1 = false := by decide
    go_wp2_with (first
      | (go_at_call 11; refine (text1 _).mono ?_; rintro e w9 ⟨rfl, hw9⟩; replace hw9 := hw9.symm; subst hw9)
      | (go_at_call 13; refine (tref_ok _ _).mono ?_; rintro e w9 ⟨rfl, hw9⟩; replace hw9 := hw9.symm; subst hw9)
      | (go_at_call 21; refine (num_any _ _).mono ?_; rintro e w9 ⟨rfl, hw9⟩; replace hw9 := hw9.symm; subst hw9))
    go_ret
    exact ⟨by first | rfl | (simp [refT]) , HB3.out⟩
  by_cases k2 : k = 2
  · subst k2
    have hc : (u0.alloc (.cells #[.string ⟨#[110, 111, 110, 101]⟩, .string ⟨#[105, 110, 116]⟩, .string ⟨#[110, 117, 108, 108]⟩, .string ⟨#[105, 110, 116, 115]⟩, .string ⟨#[114, 101, 102, 115]⟩] 9)).cell? ⟨u0.heap.size, 2, none⟩ = some (.string ⟨#[110, 117, 108, 108]⟩) := by simp only [World.cell?, heap_alloc_new]; rfl
    have hrf : refT 2 = true := by decide
    go_wp2_with (first
      | (go_at_call 11; refine (text2 _).mono ?_; rintro e w9 ⟨rfl, hw9⟩; replace hw9 := hw9.symm; subst hw9)
      | (go_at_call 13; refine (tref_ok _ _).mono ?_; rintro e w9 ⟨rfl, hw9⟩; replace hw9 := hw9.symm; subst hw9)
      | (go_at_call 21; refine (num_any _ _).mono ?_; rintro e w9 ⟨rfl, hw9⟩; replace hw9 := hw9.symm; subst hw9))
    go_ret
    exact ⟨by first | rfl | (simp [refT]) , HB3.out⟩
  by_cases k3 : k = 3
  · subst k3
    have hc : (u0.alloc (.cells #[.string ⟨#[110, 111, 110, 101]⟩, .string ⟨#[105, 110, 116]⟩, .string ⟨#[110, 117, 108, 108]⟩, .string ⟨#[105, 110, 116, 115]⟩, .string ⟨#[114, 101, 102, 115]⟩] 9)).cell? ⟨u0.heap.size, 3, none⟩ = some (.string ⟨#[105, 110, 116, 115]⟩) := by simp only [World.cell?, heap_alloc_new]; rfl
    have hrf : refT 3 = true := by decide
    go_wp2_with (first
      | (go_at_call 11; refine (text3 _).mono ?_; rintro e w9 ⟨rfl, hw9⟩; replace hw9 := hw9.symm; subst hw9)
      | (go_at_call 13; refine (tref_ok _ _).mono ?_; rintro e w9 ⟨rfl, hw9⟩; replace hw9 := hw9.symm; subst hw9)
      | (go_at_call 21; refine (num_any _ _).mono ?_; rintro e w9 ⟨rfl, hw9⟩; replace hw9 := hw9.symm; subst hw9))
    go_ret
    exact ⟨by first | rfl | (simp [refT]) , HB3.out⟩
  by_cases k4 : k = 4
  · subst k4
    have hc : (u0.alloc (.cells #[.string ⟨#[110, 111, 110, 101]⟩, .string ⟨#[105, 110, 116]⟩, .string ⟨#[110, 117, 108, 108]⟩, .string ⟨#[105, 110, 116, 115]⟩, .string ⟨#[114, 101, 102, 115]⟩] 9)).cell? ⟨u0.heap.size, 4, none⟩ = some (.string ⟨#[114, 101, 102, 115]⟩) := by simp only [World.cell?, heap_alloc_new]; rfl
    have hrf : refT 4 = true := by decide
    go_wp2_with (first
      | (go_at_call 11; refine (text4 _).mono ?_; rintro e w9 ⟨rfl, hw9⟩; replace hw9 := hw9.symm; subst hw9)
      | (go_at_call 13; refine (tref_ok _ _).mono ?_; rintro e w9 ⟨rfl, hw9⟩; replace hw9 := hw9.symm; subst hw9)
      | (go_at_call 21; refine (num_any _ _).mono ?_; rintro e w9 ⟨rfl, hw9⟩; replace hw9 := hw9.symm; subst hw9))
    go_ret
    exact ⟨by first | rfl | (simp [refT]) , HB3.out⟩
  by_cases k16 : k < 16
  · have e0 : (k == 0) = false := by simp [k0]
    have e1 : (k == 1) = false := by simp [k1]
    have e2 : (k == 2) = false := by simp [k2]
    have e3 : (k == 3) = false := by simp [k3]
    have e4 : (k == 4) = false := by simp [k4]
    have d16 : decide (k < 16) = true := by simp [k16]
    have d17 : decide (16 ≤ k) = false := by simp; omega
    have hX := text_no e0 e1 e2 e3 e4 d16
    have hR : refT k = false := by simp [refT, k2, k3, k4]; omega
    have hY := fun u => tref_ok k u
    simp only [hR] at hY
    by_cases kn : 0 ≤ k
    · have dn : decide (0 ≤ k) = true := by simp [kn]
      have d5 : decide (k < 5) = false := by simp; omega
      clear k0 k1 k2 k3 k4 k16 kn e0 e1 e2 e3 e4 hR
      go_wp2_with (first
        | (go_at_call 11; refine (hX _).mono ?_; rintro e w9 ⟨rfl, hw9⟩; replace hw9 := hw9.symm; subst hw9)
        | (go_at_call 13; refine (hY _).mono ?_; rintro e w9 ⟨rfl, hw9⟩; replace hw9 := hw9.symm; subst hw9)
        | (go_at_call 21; refine (num_any _ _).mono ?_; rintro e w9 ⟨rfl, hw9⟩; replace hw9 := hw9.symm; subst hw9))
      all_goals (go_ret; exact ⟨by first | rfl | simp, HB3.out⟩)
    · have dn : decide (0 ≤ k) = false := by simp; omega
      clear k0 k1 k2 k3 k4 k16 kn e0 e1 e2 e3 e4 hR
      go_wp2_with (first
        | (go_at_call 11; refine (hX _).mono ?_; rintro e w9 ⟨rfl, hw9⟩; replace hw9 := hw9.symm; subst hw9)
        | (go_at_call 13; refine (hY _).mono ?_; rintro e w9 ⟨rfl, hw9⟩; replace hw9 := hw9.symm; subst hw9)
        | (go_at_call 21; refine (num_any _ _).mono ?_; rintro e w9 ⟨rfl, hw9⟩; replace hw9 := hw9.symm; subst hw9))
      all_goals (go_ret; exact ⟨by first | rfl | simp, HB3.out⟩)
  by_cases q16 : k = 16
  · subst q16
    have hrf : refT 16 = true := by decide
    have hcc : ((⟨#[99, 108, 97, 115, 115, 32]⟩ : ByteArray) ++ (⟨#[48]⟩ : ByteArray)) = ⟨#[99, 108, 97, 115, 115, 32, 48]⟩ := by kernel_rfl
    go_wp2_with (first
      | (go_at_call 20; refine (dec0 _).mono ?_; rintro e u3 ⟨rfl, hb3⟩; have HB4 : Hid (Below w.heap.size w u3) := HB3.out.trans (hb3.mono HB3.out.size); clear hb3 HB3)
      | (go_at_call 11; refine (text16 _).mono ?_; rintro e w9 ⟨rfl, hw9⟩; replace hw9 := hw9.symm; subst hw9)
      | (go_at_call 13; refine (tref_ok _ _).mono ?_; rintro e w9 ⟨rfl, hw9⟩; replace hw9 := hw9.symm; subst hw9)
      | (go_at_call 21; refine (num_any _ _).mono ?_; rintro e w9 ⟨rfl, hw9⟩; replace hw9 := hw9.symm; subst hw9))
    go_ret
    exact ⟨by first | rfl | (simp [refT]) , HB4.out⟩
  by_cases k17 : k = 17
  · subst k17
    have hrf : refT 17 = true := by decide
    have hcc : ((⟨#[99, 108, 97, 115, 115, 32]⟩ : ByteArray) ++ (⟨#[49]⟩ : ByteArray)) = ⟨#[99, 108, 97, 115, 115, 32, 49]⟩ := by kernel_rfl
    go_wp2_with (first
      | (go_at_call 20; refine (dec1 _).mono ?_; rintro e u3 ⟨rfl, hb3⟩; have HB4 : Hid (Below w.heap.size w u3) := HB3.out.trans (hb3.mono HB3.out.size); clear hb3 HB3)
      | (go_at_call 11; refine (text17 _).mono ?_; rintro e w9 ⟨rfl, hw9⟩; replace hw9 := hw9.symm; subst hw9)
      | (go_at_call 13; refine (tref_ok _ _).mono ?_; rintro e w9 ⟨rfl, hw9⟩; replace hw9 := hw9.symm; subst hw9)
      | (go_at_call 21; refine (num_any _ _).mono ?_; rintro e w9 ⟨rfl, hw9⟩; replace hw9 := hw9.symm; subst hw9))
    go_ret
    exact ⟨by first | rfl | (simp [refT]) , HB4.out⟩
  by_cases k18 : k = 18
  · subst k18
    have hrf : refT 18 = true := by decide
    have hcc : ((⟨#[99, 108, 97, 115, 115, 32]⟩ : ByteArray) ++ (⟨#[50]⟩ : ByteArray)) = ⟨#[99, 108, 97, 115, 115, 32, 50]⟩ := by kernel_rfl
    go_wp2_with (first
      | (go_at_call 20; refine (dec2 _).mono ?_; rintro e u3 ⟨rfl, hb3⟩; have HB4 : Hid (Below w.heap.size w u3) := HB3.out.trans (hb3.mono HB3.out.size); clear hb3 HB3)
      | (go_at_call 11; refine (text18 _).mono ?_; rintro e w9 ⟨rfl, hw9⟩; replace hw9 := hw9.symm; subst hw9)
      | (go_at_call 13; refine (tref_ok _ _).mono ?_; rintro e w9 ⟨rfl, hw9⟩; replace hw9 := hw9.symm; subst hw9)
      | (go_at_call 21; refine (num_any _ _).mono ?_; rintro e w9 ⟨rfl, hw9⟩; replace hw9 := hw9.symm; subst hw9))
    go_ret
    exact ⟨by first | rfl | (simp [refT]) , HB4.out⟩
  by_cases k19 : k = 19
  · subst k19
    have hrf : refT 19 = true := by decide
    have hcc : ((⟨#[99, 108, 97, 115, 115, 32]⟩ : ByteArray) ++ (⟨#[51]⟩ : ByteArray)) = ⟨#[99, 108, 97, 115, 115, 32, 51]⟩ := by kernel_rfl
    go_wp2_with (first
      | (go_at_call 20; refine (dec3 _).mono ?_; rintro e u3 ⟨rfl, hb3⟩; have HB4 : Hid (Below w.heap.size w u3) := HB3.out.trans (hb3.mono HB3.out.size); clear hb3 HB3)
      | (go_at_call 11; refine (text19 _).mono ?_; rintro e w9 ⟨rfl, hw9⟩; replace hw9 := hw9.symm; subst hw9)
      | (go_at_call 13; refine (tref_ok _ _).mono ?_; rintro e w9 ⟨rfl, hw9⟩; replace hw9 := hw9.symm; subst hw9)
      | (go_at_call 21; refine (num_any _ _).mono ?_; rintro e w9 ⟨rfl, hw9⟩; replace hw9 := hw9.symm; subst hw9))
    go_ret
    exact ⟨by first | rfl | (simp [refT]) , HB4.out⟩
  by_cases k20 : k = 20
  · subst k20
    have hrf : refT 20 = true := by decide
    have hcc : ((⟨#[99, 108, 97, 115, 115, 32]⟩ : ByteArray) ++ (⟨#[52]⟩ : ByteArray)) = ⟨#[99, 108, 97, 115, 115, 32, 52]⟩ := by kernel_rfl
    go_wp2_with (first
      | (go_at_call 20; refine (dec4 _).mono ?_; rintro e u3 ⟨rfl, hb3⟩; have HB4 : Hid (Below w.heap.size w u3) := HB3.out.trans (hb3.mono HB3.out.size); clear hb3 HB3)
      | (go_at_call 11; refine (text20 _).mono ?_; rintro e w9 ⟨rfl, hw9⟩; replace hw9 := hw9.symm; subst hw9)
      | (go_at_call 13; refine (tref_ok _ _).mono ?_; rintro e w9 ⟨rfl, hw9⟩; replace hw9 := hw9.symm; subst hw9)
      | (go_at_call 21; refine (num_any _ _).mono ?_; rintro e w9 ⟨rfl, hw9⟩; replace hw9 := hw9.symm; subst hw9))
    go_ret
    exact ⟨by first | rfl | (simp [refT]) , HB4.out⟩
  by_cases k21 : k = 21
  · subst k21
    have hrf : refT 21 = true := by decide
    have hcc : ((⟨#[99, 108, 97, 115, 115, 32]⟩ : ByteArray) ++ (⟨#[53]⟩ : ByteArray)) = ⟨#[99, 108, 97, 115, 115, 32, 53]⟩ := by kernel_rfl
    go_wp2_with (first
      | (go_at_call 20; refine (dec5 _).mono ?_; rintro e u3 ⟨rfl, hb3⟩; have HB4 : Hid (Below w.heap.size w u3) := HB3.out.trans (hb3.mono HB3.out.size); clear hb3 HB3)
      | (go_at_call 11; refine (text21 _).mono ?_; rintro e w9 ⟨rfl, hw9⟩; replace hw9 := hw9.symm; subst hw9)
      | (go_at_call 13; refine (tref_ok _ _).mono ?_; rintro e w9 ⟨rfl, hw9⟩; replace hw9 := hw9.symm; subst hw9)
      | (go_at_call 21; refine (num_any _ _).mono ?_; rintro e w9 ⟨rfl, hw9⟩; replace hw9 := hw9.symm; subst hw9))
    go_ret
    exact ⟨by first | rfl | (simp [refT]) , HB4.out⟩
  by_cases k22 : k = 22
  · subst k22
    have hrf : refT 22 = true := by decide
    have hcc : ((⟨#[99, 108, 97, 115, 115, 32]⟩ : ByteArray) ++ (⟨#[54]⟩ : ByteArray)) = ⟨#[99, 108, 97, 115, 115, 32, 54]⟩ := by kernel_rfl
    go_wp2_with (first
      | (go_at_call 20; refine (dec6 _).mono ?_; rintro e u3 ⟨rfl, hb3⟩; have HB4 : Hid (Below w.heap.size w u3) := HB3.out.trans (hb3.mono HB3.out.size); clear hb3 HB3)
      | (go_at_call 11; refine (text22 _).mono ?_; rintro e w9 ⟨rfl, hw9⟩; replace hw9 := hw9.symm; subst hw9)
      | (go_at_call 13; refine (tref_ok _ _).mono ?_; rintro e w9 ⟨rfl, hw9⟩; replace hw9 := hw9.symm; subst hw9)
      | (go_at_call 21; refine (num_any _ _).mono ?_; rintro e w9 ⟨rfl, hw9⟩; replace hw9 := hw9.symm; subst hw9))
    go_ret
    exact ⟨by first | rfl | (simp [refT]) , HB4.out⟩
  by_cases k23 : k = 23
  · subst k23
    have hrf : refT 23 = true := by decide
    have hcc : ((⟨#[99, 108, 97, 115, 115, 32]⟩ : ByteArray) ++ (⟨#[55]⟩ : ByteArray)) = ⟨#[99, 108, 97, 115, 115, 32, 55]⟩ := by kernel_rfl
    go_wp2_with (first
      | (go_at_call 20; refine (dec7 _).mono ?_; rintro e u3 ⟨rfl, hb3⟩; have HB4 : Hid (Below w.heap.size w u3) := HB3.out.trans (hb3.mono HB3.out.size); clear hb3 HB3)
      | (go_at_call 11; refine (text23 _).mono ?_; rintro e w9 ⟨rfl, hw9⟩; replace hw9 := hw9.symm; subst hw9)
      | (go_at_call 13; refine (tref_ok _ _).mono ?_; rintro e w9 ⟨rfl, hw9⟩; replace hw9 := hw9.symm; subst hw9)
      | (go_at_call 21; refine (num_any _ _).mono ?_; rintro e w9 ⟨rfl, hw9⟩; replace hw9 := hw9.symm; subst hw9))
    go_ret
    exact ⟨by first | rfl | (simp [refT]) , HB4.out⟩
  by_cases k24 : k = 24
  · subst k24
    have hrf : refT 24 = true := by decide
    have hcc : ((⟨#[99, 108, 97, 115, 115, 32]⟩ : ByteArray) ++ (⟨#[56]⟩ : ByteArray)) = ⟨#[99, 108, 97, 115, 115, 32, 56]⟩ := by kernel_rfl
    go_wp2_with (first
      | (go_at_call 20; refine (dec8 _).mono ?_; rintro e u3 ⟨rfl, hb3⟩; have HB4 : Hid (Below w.heap.size w u3) := HB3.out.trans (hb3.mono HB3.out.size); clear hb3 HB3)
      | (go_at_call 11; refine (text24 _).mono ?_; rintro e w9 ⟨rfl, hw9⟩; replace hw9 := hw9.symm; subst hw9)
      | (go_at_call 13; refine (tref_ok _ _).mono ?_; rintro e w9 ⟨rfl, hw9⟩; replace hw9 := hw9.symm; subst hw9)
      | (go_at_call 21; refine (num_any _ _).mono ?_; rintro e w9 ⟨rfl, hw9⟩; replace hw9 := hw9.symm; subst hw9))
    go_ret
    exact ⟨by first | rfl | (simp [refT]) , HB4.out⟩
  by_cases k25 : k = 25
  · subst k25
    have hrf : refT 25 = true := by decide
    have hcc : ((⟨#[99, 108, 97, 115, 115, 32]⟩ : ByteArray) ++ (⟨#[57]⟩ : ByteArray)) = ⟨#[99, 108, 97, 115, 115, 32, 57]⟩ := by kernel_rfl
    go_wp2_with (first
      | (go_at_call 20; refine (dec9 _).mono ?_; rintro e u3 ⟨rfl, hb3⟩; have HB4 : Hid (Below w.heap.size w u3) := HB3.out.trans (hb3.mono HB3.out.size); clear hb3 HB3)
      | (go_at_call 11; refine (text25 _).mono ?_; rintro e w9 ⟨rfl, hw9⟩; replace hw9 := hw9.symm; subst hw9)
      | (go_at_call 13; refine (tref_ok _ _).mono ?_; rintro e w9 ⟨rfl, hw9⟩; replace hw9 := hw9.symm; subst hw9)
      | (go_at_call 21; refine (num_any _ _).mono ?_; rintro e w9 ⟨rfl, hw9⟩; replace hw9 := hw9.symm; subst hw9))
    go_ret
    exact ⟨by first | rfl | (simp [refT]) , HB4.out⟩
  by_cases k26 : k = 26
  · subst k26
    have hrf : refT 26 = true := by decide
    have hcc : ((⟨#[99, 108, 97, 115, 115, 32]⟩ : ByteArray) ++ (⟨#[49, 48]⟩ : ByteArray)) = ⟨#[99, 108, 97, 115, 115, 32, 49, 48]⟩ := by kernel_rfl
    go_wp2_with (first
      | (go_at_call 20; refine (dec10 _).mono ?_; rintro e u3 ⟨rfl, hb3⟩; have HB4 : Hid (Below w.heap.size w u3) := HB3.out.trans (hb3.mono HB3.out.size); clear hb3 HB3)
      | (go_at_call 11; refine (text26 _).mono ?_; rintro e w9 ⟨rfl, hw9⟩; replace hw9 := hw9.symm; subst hw9)
      | (go_at_call 13; refine (tref_ok _ _).mono ?_; rintro e w9 ⟨rfl, hw9⟩; replace hw9 := hw9.symm; subst hw9)
      | (go_at_call 21; refine (num_any _ _).mono ?_; rintro e w9 ⟨rfl, hw9⟩; replace hw9 := hw9.symm; subst hw9))
    go_ret
    exact ⟨by first | rfl | (simp [refT]) , HB4.out⟩
  by_cases k27 : k = 27
  · subst k27
    have hrf : refT 27 = true := by decide
    have hcc : ((⟨#[99, 108, 97, 115, 115, 32]⟩ : ByteArray) ++ (⟨#[49, 49]⟩ : ByteArray)) = ⟨#[99, 108, 97, 115, 115, 32, 49, 49]⟩ := by kernel_rfl
    go_wp2_with (first
      | (go_at_call 20; refine (dec11 _).mono ?_; rintro e u3 ⟨rfl, hb3⟩; have HB4 : Hid (Below w.heap.size w u3) := HB3.out.trans (hb3.mono HB3.out.size); clear hb3 HB3)
      | (go_at_call 11; refine (text27 _).mono ?_; rintro e w9 ⟨rfl, hw9⟩; replace hw9 := hw9.symm; subst hw9)
      | (go_at_call 13; refine (tref_ok _ _).mono ?_; rintro e w9 ⟨rfl, hw9⟩; replace hw9 := hw9.symm; subst hw9)
      | (go_at_call 21; refine (num_any _ _).mono ?_; rintro e w9 ⟨rfl, hw9⟩; replace hw9 := hw9.symm; subst hw9))
    go_ret
    exact ⟨by first | rfl | (simp [refT]) , HB4.out⟩
  by_cases k28 : k = 28
  · subst k28
    have hrf : refT 28 = true := by decide
    have hcc : ((⟨#[99, 108, 97, 115, 115, 32]⟩ : ByteArray) ++ (⟨#[49, 50]⟩ : ByteArray)) = ⟨#[99, 108, 97, 115, 115, 32, 49, 50]⟩ := by kernel_rfl
    go_wp2_with (first
      | (go_at_call 20; refine (dec12 _).mono ?_; rintro e u3 ⟨rfl, hb3⟩; have HB4 : Hid (Below w.heap.size w u3) := HB3.out.trans (hb3.mono HB3.out.size); clear hb3 HB3)
      | (go_at_call 11; refine (text28 _).mono ?_; rintro e w9 ⟨rfl, hw9⟩; replace hw9 := hw9.symm; subst hw9)
      | (go_at_call 13; refine (tref_ok _ _).mono ?_; rintro e w9 ⟨rfl, hw9⟩; replace hw9 := hw9.symm; subst hw9)
      | (go_at_call 21; refine (num_any _ _).mono ?_; rintro e w9 ⟨rfl, hw9⟩; replace hw9 := hw9.symm; subst hw9))
    go_ret
    exact ⟨by first | rfl | (simp [refT]) , HB4.out⟩
  obtain rfl : k = 29 := by omega
  have hrf : refT 29 = true := by decide
  have hcc : ((⟨#[99, 108, 97, 115, 115, 32]⟩ : ByteArray) ++ (⟨#[49, 51]⟩ : ByteArray)) = ⟨#[99, 108, 97, 115, 115, 32, 49, 51]⟩ := by kernel_rfl
  go_wp2_with (first
    | (go_at_call 20; refine (dec13 _).mono ?_; rintro e u3 ⟨rfl, hb3⟩; have HB4 : Hid (Below w.heap.size w u3) := HB3.out.trans (hb3.mono HB3.out.size); clear hb3 HB3)
    | (go_at_call 11; refine (text29 _).mono ?_; rintro e w9 ⟨rfl, hw9⟩; replace hw9 := hw9.symm; subst hw9)
    | (go_at_call 13; refine (tref_ok _ _).mono ?_; rintro e w9 ⟨rfl, hw9⟩; replace hw9 := hw9.symm; subst hw9)
    | (go_at_call 21; refine (num_any _ _).mono ?_; rintro e w9 ⟨rfl, hw9⟩; replace hw9 := hw9.symm; subst hw9))
  go_ret
  exact ⟨by first | rfl | (simp [refT]) , HB4.out⟩
end Go.Proofs.YtloppgibgohggaaDoor
