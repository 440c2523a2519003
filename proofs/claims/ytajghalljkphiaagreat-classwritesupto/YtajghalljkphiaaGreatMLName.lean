/- Names: which texts are names; reading one. -/
import Derived.Test.YtajghalljkphiaaGreatMLRead
import Derived.Laws.Strings
namespace Go.Proofs.YtajghalljkphiaaGreat
open Go.RowKit

def okCh (s : ByteArray) (k : Nat) : Prop := ∀ j (h : j < s.size), j < k → (isL s[j] || isD s[j]) = true
theorem all_yes {s : ByteArray} (h : okCh s s.size) : s.data.toList.all (fun c => isL c || isD c) = true := by
  rw [List.all_eq_true]
  intro c hc
  obtain ⟨j, hj, rfl⟩ := List.getElem_of_mem hc
  have hj' : j < s.size := by simpa using hj
  exact h j hj' hj'
theorem all_no {s : ByteArray} {k : Nat} (hk : k < s.size) (h : (isL s[k] || isD s[k]) = false) : s.data.toList.all (fun c => isL c || isD c) = false := by
  rw [List.all_eq_false]
  refine ⟨s[k], ?_, by rw [h]; decide⟩
  have : s[k] = s.data.toList[k]'(by simpa using hk) := rfl
  rw [this]; exact List.getElem_mem _

theorem isNm_empty {s : ByteArray} (h : s.size = 0) : isNm s = false := by simp [isNm, h]
theorem isNm_long {s : ByteArray} (h : 16 < s.size) : isNm s = false := by
  unfold isNm
  have : decide (s.size ≤ 16) = false := by simp; omega
  rw [this]; simp
theorem get0 {s : ByteArray} (h : 0 < s.size) : s.data[0]? = some s[0] := Array.getElem?_eq_getElem h
theorem isNm_digit {s : ByteArray} (h : 0 < s.size) (hd : isD s[0] = true) : isNm s = false := by
  unfold isNm
  rw [get0 h]; simp [hd]
theorem isNm_rest {s : ByteArray} (h : 0 < s.size) (h2 : s.size ≤ 16) (hd : isD s[0] = false) : isNm s = s.data.toList.all (fun c => isL c || isD c) := by
  unfold isNm
  have e1 : (s.size == 0) = false := by rw [beq_eq_false_iff_ne]; omega
  have e2 : decide (s.size ≤ 16) = true := by simp; omega
  rw [get0 h, e1, e2]; simp [hd]
theorem ne_empty {s : ByteArray} (h : 0 < s.size) : s.toList.isEmpty = false := by
  rw [ByteArray.toList_eq]
  cases hl : s.data.toList with
  | nil =>
    have h2 : s.data.toList.length = s.size := by simp
    rw [hl] at h2
    change 0 = s.size at h2
    omega
  | cons a l => rfl
theorem empty_of {s : ByteArray} (h : s.size = 0) : s = ⟨#[]⟩ := by
  apply ByteArray.ext; exact Array.eq_empty_of_size_eq_zero h

set_option maxHeartbeats 1000000 in
set_option maxRecDepth 20000 in
theorem isName_any (s : ByteArray) (w : World) : Calls Tryz.prog 71 #[.string s] w fun e w' => e = .returned (.bool (isNm s)) ∧ w' = w := by
  by_cases h0 : s.size = 0
  · rw [isNm_empty h0]
    have := empty_of h0
    subst this
    go_enter Tryz.func71, Tryz.ntmps71
    go_wp2
    go_ret
    exact ⟨rfl, rfl⟩
  · have h1 : 0 < s.size := by omega
    have hne := ne_empty h1
    by_cases h2 : 16 < s.size
    · rw [isNm_long h2]
      clear h0
      go_enter Tryz.func71, Tryz.ntmps71
      go_wp2
      go_ret
      exact ⟨rfl, rfl⟩
    · by_cases h3 : isD s[0] = true
      · rw [isNm_digit h1 h3]
        clear h0
        go_enter Tryz.func71, Tryz.ntmps71
        go_wp2_with (go_at_call 92; refine (digit_any _ _).mono ?_; rintro e w1 ⟨rfl, rfl⟩)
        go_ret
        exact ⟨rfl, rfl⟩
      · have h3' : isD s[0] = false := by simpa using h3
        obtain ⟨b, hb⟩ : ∃ b, s.data.toList.all (fun c => isL c || isD c) = b := ⟨_, rfl⟩
        rw [isNm_rest h1 (by omega) h3', hb]
        have HB : Hid _ := hb
        clear h0 h3 hb
        go_enter Tryz.func71, Tryz.ntmps71
        go_wp2_with (go_at_call 92; refine (digit_any _ _).mono ?_; rintro e w1 ⟨rfl, rfl⟩)
        go_loop [18] (fun i => ∃ k : Nat, i = .int .i64 k ∧ k ≤ s.size ∧ Hid (okCh s k)) (fun i => 17 - (intOf i).toNat)
        case atStart => exact ⟨0, rfl, by omega, fun j _ h => by omega⟩
        case round =>
          obtain ⟨k, rfl, hk, HK⟩ := hrel
          by_cases hlt : k < s.size
          · by_cases hl : isL s[k] = true
            · have HN : Hid (okCh s (k + 1)) := fun j hj hlt => by
                by_cases e : j = k
                · subst e; rw [hl]; rfl
                · exact HK.out j hj (by omega)
              go_wp2_with (first | (go_at_call 92; refine (digit_any _ _).mono ?_; rintro e w1 ⟨rfl, rfl⟩) | (go_at_call 93; refine (letter_any _ _).mono ?_; rintro e w1 ⟨rfl, rfl⟩))
              go_round
              case rel => exact ⟨k + 1, by go_num, by omega, HN⟩
              case measure => simp [intOf]; omega
            · have hl' : isL s[k] = false := by simpa using hl
              clear hl
              by_cases hd : isD s[k] = true
              · have HN : Hid (okCh s (k + 1)) := fun j hj hlt => by
                  by_cases e : j = k
                  · subst e; rw [hd]; simp
                  · exact HK.out j hj (by omega)
                go_wp2_with (first | (go_at_call 92; refine (digit_any _ _).mono ?_; rintro e w1 ⟨rfl, rfl⟩) | (go_at_call 93; refine (letter_any _ _).mono ?_; rintro e w1 ⟨rfl, rfl⟩))
                go_round
                case rel => exact ⟨k + 1, by go_num, by omega, HN⟩
                case measure => simp [intOf]; omega
              · have hd' : isD s[k] = false := by simpa using hd
                have HX : Hid (b = false) := by
                  show _ = _
                  rw [← HB.out]; exact all_no hlt (by rw [hl', hd']; rfl)
                clear hd
                go_wp2_with (first | (go_at_call 92; refine (digit_any _ _).mono ?_; rintro e w1 ⟨rfl, rfl⟩) | (go_at_call 93; refine (letter_any _ _).mono ?_; rintro e w1 ⟨rfl, rfl⟩))
                go_ret
                exact ⟨by rw [HX.out]; rfl, rfl⟩
          · have HX : Hid (b = true) := by
              show _ = _
              have e : k = s.size := by omega
              subst e
              rw [← HB.out]; exact all_yes HK.out
            go_wp2
            go_ret
            exact ⟨by rw [HX.out]; rfl, rfl⟩

theorem pName_ok {s : ByteArray} {a : Nat} (h : tC s a 16 = 0) (h2 : isNm (tS s a 16) = true) : pName s a = .ok (tS s a 16, (tT s a 16).toNat) := by unfold pName; rw [if_pos h, if_pos h2]
theorem pName_bad {s : ByteArray} {a : Nat} (h : tC s a 16 = 0) (h2 : isNm (tS s a 16) = false) : pName s a = .error (a, 1403) := by unfold pName; rw [if_pos h, if_neg (by rw [h2]; decide)]
theorem pName_no {s : ByteArray} {a : Nat} (h : tC s a 16 ≠ 0) : pName s a = .error (a, ofW (tC s a 16)) := by unfold pName; rw [if_neg h]
theorem tT_nat {s : ByteArray} {a : Nat} (ha : a ≤ s.size) (h : tC s a 16 = 0) : tT s a 16 = ((tT s a 16).toNat : Int) ∧ (tS s a 16).size ≤ s.size := by
  have g0 : gC s a = 0 := by
    apply Classical.byContradiction; intro h'
    rw [(t_err (most := 16) h').1] at h; exact h' h
  have g1 : ¬ (gN s a < 0 ∨ (16 : Int) < gN s a) := by
    intro h'; rw [(t_long g0 h').1] at h; cases h
  have g2 : ¬ (s.size : Int) - gT s a < gN s a := by
    intro h'; rw [(t_cut g0 g1 h').1] at h; cases h
  obtain ⟨_, t2, t3⟩ := t_ok g0 g1 g2
  obtain ⟨n, b1, b2, b3, b4, b5⟩ := num_back ha g0
  rw [t3, b1, t2, ByteArray.size_extract]
  exact ⟨by omega, by omega⟩

set_option maxHeartbeats 1000000 in
set_option maxRecDepth 20000 in
theorem rname_ok {w : World} {rh : Nat} {s : ByteArray} {a : Nat} (H : Rb w rh s a) (ha : a ≤ s.size) (hs : s.size ≤ maxLen) :
    Calls Tryz.prog 79 #[.pointer (some ⟨rh, 0, none⟩)] w (RdP (pName s a) vT s rh w) := by
  have c0 := H.c0
  have c1 := H.c1
  have fr := H.fr 1
  have hT : ∀ u : World, Below w.heap.size w u → Calls Tryz.prog 99 #[.string s, .int .i64 a, .int .i64 16] u fun e w' => e = .returned (.tuple #[.string (tS s a 16), .int .i64 (tT s a 16), .int .i64 (tC s a 16)]) ∧ Below w.heap.size w w' := fun u hu =>
    text_any s a 16 u hs hu
  have HR : Hid (∀ u, Below w.heap.size w u → u.cell? ⟨rh, 1, none⟩ = some (.int .i64 a) ∧ rh < u.heap.size ∧ u.frozen? ⟨rh, 1, none⟩ = false) := fun u hu => ⟨(H.below hu).c1, (H.below hu).lt, (H.below hu).fr 1⟩
  by_cases h : tC s a 16 = 0
  · obtain ⟨e1, e2⟩ := tT_nat ha h
    have HT : Hid (tT s a 16 = ((tT s a 16).toNat : Int)) := e1
    have HI : Hid (∀ u, Calls Tryz.prog 71 #[.string (tS s a 16)] u fun e w' => e = .returned (.bool (isNm (tS s a 16))) ∧ w' = u) := fun u => isName_any _ u
    have hc : (tC s a 16 != 0) = false := by simp [h]
    by_cases h2 : isNm (tS s a 16) = true
    · unfold RdP
      rw [pName_ok h h2]
      clear h e1 e2
      go_enter Tryz.func79, Tryz.ntmps79
      go_wp2
      go_region_with (go_at_call 99; refine (hT _ (by first | exact (Below.refl _ _).drew.drew | exact (Below.refl _ _).drew)).mono ?_; rintro e w2 ⟨rfl, hb2⟩; obtain ⟨k1, k2, k3⟩ := HR.out _ hb2; have HB : Hid _ := hb2; clear hb2 hT)
      all_goals
        go_wp2_with (go_at_call 71; refine (HI.out _).mono ?_; rintro e w3 ⟨rfl, hw3⟩; replace hw3 := hw3.symm; subst hw3)
        go_ret
        refine ⟨(Bx.of_below HB.out).set 1 _, _, rfl, rfl, ?_⟩
        rw [HT.out]
        exact (H.below HB.out).set _
    · have h2' : isNm (tS s a 16) = false := by simpa using h2
      unfold RdP
      rw [pName_bad h h2']
      clear h e1 e2 h2
      go_enter Tryz.func79, Tryz.ntmps79
      go_wp2
      go_region_with (go_at_call 99; refine (hT _ (by first | exact (Below.refl _ _).drew.drew | exact (Below.refl _ _).drew)).mono ?_; rintro e w2 ⟨rfl, hb2⟩; obtain ⟨k1, k2, k3⟩ := HR.out _ hb2; have HB : Hid _ := hb2; clear hb2 hT)
      all_goals
        go_wp2_with (first | (go_at_call 36; refine (throw_any _ _ _).mono ?_; rintro e w8 ⟨rfl, hw⟩; replace hw := hw.symm; subst hw) | (go_at_call 71; refine (HI.out _).mono ?_; rintro e w3 ⟨rfl, hw3⟩; replace hw3 := hw3.symm; subst hw3))
        exact ⟨rfl, Bx.of_below HB.out, rfl⟩
  · have hc : (tC s a 16 != 0) = true := by simp [h]
    unfold RdP
    rw [pName_no h]
    clear h
    go_enter Tryz.func79, Tryz.ntmps79
    go_wp2
    go_region_with (go_at_call 99; refine (hT _ (by first | exact (Below.refl _ _).drew.drew | exact (Below.refl _ _).drew)).mono ?_; rintro e w2 ⟨rfl, hb2⟩; obtain ⟨k1, k2, k3⟩ := HR.out _ hb2; have HB : Hid _ := hb2; clear hb2 hT)
    all_goals
      go_wp2
      refine wp_region_still_tail 6 (by kernel_rfl) (by kernel_rfl) ?_
      change wpStill _ _ (World.drew _) (fun a' => wpList _ _ _ _ a' (World.drew _)) _ _
      simp only [List.take_succ_cons, List.take_zero, List.drop_succ_cons, List.drop_zero]
      repeat still_step
      still_call (ofWire_any _ _)
      repeat still_step
      refine wpStill_nil ?_
      go_wp2_with (go_at_call 36; refine (throw_any _ _ _).mono ?_; rintro e w8 ⟨rfl, hw⟩; replace hw := hw.symm; subst hw)
      exact ⟨rfl, Bx.of_below HB.out.drew, rfl⟩
end Go.Proofs.YtajghalljkphiaaGreat
