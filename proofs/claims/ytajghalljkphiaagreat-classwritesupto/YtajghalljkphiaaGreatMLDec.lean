/- decode: a program's bytes read, or the first fault thrown. -/
import Derived.Test.YtajghalljkphiaaGreatMLRPg
import Derived.Test.YtajghalljkphiaaGreatMGL0
namespace Go.Proofs.YtajghalljkphiaaGreat
open Go.RowKit

theorem prefix_short (s : ByteArray) (w : World) (h : s.size < 4) : Calls Tryz.prog 61 #[.string s, .string ⟨#[71, 78, 83, 83]⟩] w fun e w' => e = .returned (.bool false) ∧ w' = w := by
  have d1 : decide ((4 : Int) ≤ (s.size : Int)) = false := by simp; omega
  go_enter Tryz.func61, Tryz.ntmps61
  go_wp2
  go_ret
  exact ⟨rfl, rfl⟩
theorem prefix_long (s : ByteArray) (w : World) (h : 4 ≤ s.size) : Calls Tryz.prog 61 #[.string s, .string ⟨#[71, 78, 83, 83]⟩] w fun e w' => e = .returned (.bool (decide (s.data.toList.take 4 = mag))) ∧ w' = w := by
  have d1 : decide ((4 : Int) ≤ (s.size : Int)) = true := by simp; omega
  go_enter Tryz.func61, Tryz.ntmps61
  go_wp2
  go_ret
  refine ⟨?_, rfl⟩
  show Ending.returned (.bool ((s.extract 0 4).toList == [71, 78, 83, 83])) = _
  have e : (s.extract 0 4).toList = s.data.toList.take 4 := by
    rw [ByteArray.toList_eq]
    have := ext_from s 0 4
    rw [Nat.zero_add] at this
    rw [this]; rfl
  rw [e]
  by_cases e2 : s.data.toList.take 4 = mag
  · rw [e2]; rfl
  · rw [decide_eq_false e2]
    have : (s.data.toList.take 4 == [71, 78, 83, 83]) = false := by rw [beq_eq_false_iff_ne]; exact e2
    rw [this]
theorem prefix_lite (s : ByteArray) (w : World) : Calls Tryz.prog 61 #[.string s, .string ⟨#[71, 78, 83, 83]⟩] w fun e w' => e = .returned (.bool (decide (s.data.toList.take 4 = mag))) ∧ w' = w := by
  by_cases h : 4 ≤ s.size
  · exact prefix_long s w h
  · have : decide (s.data.toList.take 4 = mag) = false := by
      rw [decide_eq_false_iff_not]
      intro e
      have := congrArg List.length e
      rw [List.length_take] at this
      simp [mag] at this; omega
    rw [this]
    exact prefix_short s w (by omega)
theorem prefix_any (s : ByteArray) (w : World) : Calls Tryz.prog 37 #[.string s, .string ⟨#[71, 78, 83, 83]⟩] w fun e w' => e = .returned (.bool (decide (s.data.toList.take 4 = mag))) ∧ w' = w := by
  obtain ⟨b, hb⟩ : ∃ b, decide (s.data.toList.take 4 = mag) = b := ⟨_, rfl⟩
  have hP := prefix_lite s
  rw [hb] at hP ⊢
  go_enter Tryz.func37, Tryz.ntmps37
  go_wp2_with (go_at_call 61; refine (hP _).mono ?_; rintro e w1 ⟨rfl, hw⟩; replace hw := hw.symm; subst hw)
  go_ret
  exact ⟨rfl, rfl⟩
/-- What is answered where a program is read. -/
def DcP (s : ByteArray) (w : World) (e : Ending) (w' : World) : Prop := Below w.heap.size w w' ∧ match decP s with
  | .ok p => ∃ v, e = .returned v ∧ Nw kPgU w p v w'
  | .error (q, c) => e = Flt q c
theorem DcP.err {s : ByteArray} {w w' : World} {q : Nat} {c : Int} (h : decP s = .error (q, c)) (hb : Below w.heap.size w w') : DcP s w (Flt q c) w' := by
  unfold DcP; rw [h]; exact ⟨hb, rfl⟩

set_option maxHeartbeats 2000000 in
set_option maxRecDepth 20000 in
theorem decode_any (s : ByteArray) (w : World) (hs : s.size ≤ maxLen) : Calls Tryz.prog 16 #[.string s] w (DcP s w) := by
  have hb0 : Below w.heap.size w (w.alloc (.cells #[.int .i64 0, .slice none 0 0] 24)) := (Below.refl _ _).alloc (Nat.le_refl _) _
  by_cases h1 : 32768 < s.size
  · have HE : Hid (decP s = .error (0, 1406)) := by show _ = _; unfold decP; rw [if_pos h1]
    go_enter Tryz.func16, Tryz.ntmps16
    go_wp2_with (go_at_call 36; refine (throw_any _ _ _).mono ?_; rintro e w8 ⟨rfl, hw⟩; replace hw := hw.symm; subst hw)
    exact ⟨rfl, DcP.err HE.out hb0⟩
  · by_cases h2 : s.data.toList.take 4 = mag
    · have h4 : 4 ≤ s.size := by
        have := congrArg List.length h2
        rw [List.length_take] at this
        simp [mag] at this; omega
      have hP : ∀ u, Calls Tryz.prog 37 #[.string s, .string ⟨#[71, 78, 83, 83]⟩] u fun e w' => e = .returned (.bool true) ∧ w' = u := fun u => by
        have := prefix_any s u; rw [decide_eq_true h2] at this; exact this
      have hz1 : (w.alloc (.cells #[.int .i64 0, .slice none 0 0] 24)).heap.size = w.heap.size + 1 := by simp
      have HR : Hid (Rb ((w.alloc (.cells #[.int .i64 0, .slice none 0 0] 24)).alloc (.cells #[.string s, .int .i64 4] 89)) (w.heap.size + 1) s 4) := by
        have := heap_alloc_new (w.alloc (.cells #[.int .i64 0, .slice none 0 0] 24)) (.cells #[.string s, .int .i64 4] 89)
        rw [hz1] at this
        exact this
      have HB1 : Hid (Below w.heap.size w ((w.alloc (.cells #[.int .i64 0, .slice none 0 0] 24)).alloc (.cells #[.string s, .int .i64 4] 89))) := hb0.alloc (by omega) _
      have HZ1 : Hid (((w.alloc (.cells #[.int .i64 0, .slice none 0 0] 24)).alloc (.cells #[.string s, .int .i64 4] 89)).heap[w.heap.size]? = some (.cells #[.int .i64 0, .slice none 0 0] 24 (0, 0))) := by
        show _ = _
        rw [Below.heap_alloc _ _ _ (by omega)]; exact heap_alloc_new w _
      have HS2 : Hid (((w.alloc (.cells #[.int .i64 0, .slice none 0 0] 24)).alloc (.cells #[.string s, .int .i64 4] 89)).heap.size = w.heap.size + 2) := by show _ = _; simp
      have hC := rpg_ok HR.out h4 hs
      unfold maxLen at hs
      rcases hq : pPg s 4 with ⟨q, c⟩ | ⟨p, b⟩
      · rw [hq] at hC
        have HE : Hid (decP s = .error (q, c)) := by show _ = _; unfold decP; rw [if_neg h1, if_pos h2, hq]
        clear h2 hq
        go_enter Tryz.func16, Tryz.ntmps16
        go_wp2_with (first
          | (go_at_call 37; refine (hP _).mono ?_; rintro e w9 ⟨rfl, hw⟩; replace hw := hw.symm; subst hw)
          | (go_at_call 38; refine hC.mono ?_; rintro e w2 ⟨hb, rfl⟩))
        refine ⟨rfl, DcP.err HE.out (HB1.out.trans ⟨hb.os, hb.tape, hb.output, hb.size, fun k hk => hb.block k (by rw [HS2.out]; omega) (by omega)⟩)⟩
      · rw [hq] at hC
        have hbs := (good_pg.back s 4 p b h4 hq).2.2.1
        have HB2 : Hid (∀ w2, Bx (w.heap.size + 1) ((w.alloc (.cells #[.int .i64 0, .slice none 0 0] 24)).alloc (.cells #[.string s, .int .i64 4] 89)) w2 → Below w.heap.size w w2 ∧ w2.heap[w.heap.size]? = some (.cells #[.int .i64 0, .slice none 0 0] 24 (0, 0)) ∧ w.heap.size + 2 ≤ w2.heap.size) := fun w2 hb =>
          ⟨HB1.out.trans ⟨hb.os, hb.tape, hb.output, hb.size, fun k hk => hb.block k (by rw [HS2.out]; omega) (by omega)⟩, by rw [hb.block _ (by rw [HS2.out]; omega) (by omega)]; exact HZ1.out, by have := hb.size; rw [HS2.out] at this; exact this⟩
        by_cases h5 : b < s.size
        · have HE2 : Hid (decP s = .error (b, 1405)) := by
            show _ = _
            unfold decP
            rw [if_neg h1, if_pos h2, hq]
            exact if_pos h5
          clear h2 hq
          go_enter Tryz.func16, Tryz.ntmps16
          go_wp2_with (first
            | (go_at_call 36; refine (throw_any _ _ _).mono ?_; rintro e w8 ⟨rfl, hw⟩; replace hw := hw.symm; subst hw)
            | (go_at_call 37; refine (hP _).mono ?_; rintro e w9 ⟨rfl, hw⟩; replace hw := hw.symm; subst hw)
            | (go_at_call 38; refine hC.mono ?_; rintro e w2 ⟨hb, v, rfl, ⟨cs, ⟨v1, rfl, ⟨ao, cap, rfl, -⟩⟩, rfl⟩, hR⟩; obtain ⟨hb2, hz2, hs2⟩ := HB2.out w2 hb; have c1 := hR.c1; have hlt := hR.lt; have HQ : Hid (Below w.heap.size w w2 ∧ w2.heap[w.heap.size]? = some (.cells #[.int .i64 0, .slice none 0 0] 24 (0, 0)) ∧ Rb w2 (w.heap.size + 1) s b) := ⟨hb2, hz2, hR⟩; clear hC hb hR hb2 hz2 HB2))
          refine ⟨rfl, DcP.err HE2.out (HQ.out.1.alloc (by omega) _)⟩
        · have HE2 : Hid (decP s = .ok p) := by
            show _ = _
            unfold decP
            rw [if_neg h1, if_pos h2, hq]
            exact if_neg h5
          have h6 : ¬ (b : Int) < (s.size : Int) := by omega
          clear h2 hq
          go_enter Tryz.func16, Tryz.ntmps16
          go_wp2_with (first
            | (go_at_call 36; refine (throw_any _ _ _).mono ?_; rintro e w8 ⟨rfl, hw⟩; replace hw := hw.symm; subst hw)
            | (go_at_call 37; refine (hP _).mono ?_; rintro e w9 ⟨rfl, hw⟩; replace hw := hw.symm; subst hw)
            | (go_at_call 38; refine hC.mono ?_; rintro e w2 ⟨hb, v, rfl, ⟨cs, ⟨v1, rfl, hSl⟩, rfl⟩, hR⟩; have HV : Hid (Sl kCsU w2 (fun k => w.heap.size + 2 ≤ k ∧ k < w2.heap.size) v1 p.cls) := hSl.mono (fun k hk => ⟨by have := hk.1; rw [HS2.out] at this; exact this, hk.2⟩); obtain ⟨ao, cap, rfl, -⟩ := hSl; obtain ⟨hb2, hz2, hs2⟩ := HB2.out w2 hb; have c1 := hR.c1; have hlt := hR.lt; have HQ : Hid (Below w.heap.size w w2 ∧ (w2.alloc (.cells #[.int .i64 p.main, .slice ao p.cls.length cap] 24)).heap[w.heap.size]? = some (.cells #[.int .i64 0, .slice none 0 0] 24 (0, 0))) := ⟨hb2, (Below.heap_alloc _ _ _ (by omega)).trans hz2⟩; clear hC hb hR hb2 hz2 HB2)
            | (refine wpList_store_row rfl 24 _ _ rfl w.heap.size _ rfl rfl 24 _ HQ.out.2 infoRPg rfl (by simp [Value.oneCell']) ?_))
          refine bodyPost_ret (results_cell_row rfl _ _ w.heap.size 24 #[.int .i64 p.main, .slice ao p.cls.length cap] (0, 0) _ rfl (setRow_heap _ _ _ _ _ _ HQ.out.2) Tryz.underlying24 rfl infoRPg) rfl ?_
          unfold DcP
          rw [HE2.out]
          have hsame : ∀ k, k < w2.heap.size → k ≠ w.heap.size → (((w2.alloc (.cells #[.int .i64 p.main, .slice ao p.cls.length cap] 24)).setRow w.heap.size #[.int .i64 p.main, .slice ao p.cls.length cap]).heap[k]? = w2.heap[k]?) := fun k hk hn => by
            rw [setRow_other _ _ _ _ hn, Below.heap_alloc _ _ _ hk]
          refine ⟨⟨HQ.out.1.os, HQ.out.1.tape, HQ.out.1.output, ?_, fun k hk => ?_⟩, _, rfl, _, ⟨_, rfl, (HV.out.keep fun k hk => hsame k hk.2 (by have := hk.1; omega)).mono fun k hk => ⟨by have := hk.1; omega, ?_⟩⟩, rfl⟩
          · rw [size_setRow]; simp; omega
          · rw [hsame k (by omega) (by omega)]; exact HQ.out.1.block k hk
          · rw [size_setRow]; simp; have := hk.2; omega
    · have HE : Hid (decP s = .error (0, 1400)) := by show _ = _; unfold decP; rw [if_neg h1, if_neg h2]
      have hP : ∀ u, Calls Tryz.prog 37 #[.string s, .string ⟨#[71, 78, 83, 83]⟩] u fun e w' => e = .returned (.bool false) ∧ w' = u := fun u => by
        have := prefix_any s u; rw [decide_eq_false h2] at this; exact this
      clear h2
      go_enter Tryz.func16, Tryz.ntmps16
      go_wp2_with (first | (go_at_call 36; refine (throw_any _ _ _).mono ?_; rintro e w8 ⟨rfl, hw⟩; replace hw := hw.symm; subst hw) | (go_at_call 37; refine (hP _).mono ?_; rintro e w9 ⟨rfl, hw⟩; replace hw := hw.symm; subst hw))
      exact ⟨rfl, DcP.err HE.out hb0⟩
end Go.Proofs.YtajghalljkphiaaGreat
