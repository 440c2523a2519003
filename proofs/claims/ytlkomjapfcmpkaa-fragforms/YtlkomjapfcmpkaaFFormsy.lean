/- The walk of FragForms: a pool that there may be. -/
import Derived.Test.YtlkomjapfcmpkaaFOwn
namespace Go.Proofs.Ytlkomjapfcmpkaa
open Go.RowKit

set_option maxRecDepth 20000 in
set_option maxHeartbeats 8000000 in
theorem forms_yes (words : Int) (base n : Nat) (w : World) (r : Nat) (hr : bits BinOp.and .i64 words 2047 = (r : Int)) (hr16 : r < 2048) (c1 : 1 ≤ n) (c3 : base + (14 * n + 64) ≤ 1 + r) :
    Calls Try.prog 4 #[.int .i64 words, .int .i64 base, .int .i64 n] w fun e w' => e = .returned (.bool true) ∧ Below w.heap.size w w' := by
  have c2 : n ≤ 1000 := by omega
  go_enter Try.func4, Try.ntmps4
  go_wp2_with (first
    | (go_at_call 10; refine (awake_any _).mono ?_; rintro e w0 ⟨rfl, hb0⟩)
    | (go_at_call 11; refine (new_at _ _ (1 + r) 1 _ (by omega) rfl (by omega) (by omega) (by omega) (by omega)).mono ?_; rintro e w1 ⟨b, bw, bs, rfl, hA1, hb1', l0, l1, l2⟩; have hb1 := hb0.trans (hb1'.mono hb0.size)))
  go_loopw [10] (fun v10 wr => ∃ (i : Nat) (ws cs : Nat → Int), i ≤ 1 + r ∧ v10 = .int .i64 i ∧ Ar wr b bw bs (1 + r) 1 ws cs ∧ Below w.heap.size w wr ∧ Hid (∀ j, j < i → ws j = 1000 + (j : Int))) (fun v10 _ => 1 + r - (intOf v10).toNat)
  case atStart => exact ⟨0, _, _, by omega, rfl, hA1, hb1, fun j hj => absurd hj (by omega)⟩
  case round =>
    obtain ⟨i, ws, cs, hi, rfl, hA, hb, hws⟩ := hrel
    have q0 : w.heap.size ≤ b := Nat.le_trans hb0.size l0
    have q1 : w.heap.size ≤ bw := Nat.le_trans hb0.size l1
    have q2 : w.heap.size ≤ bs := Nat.le_trans hb0.size l2
    clear hA1 hb1 hb1' l0 l1 l2 hb0
    by_cases hlt : i < 1 + r
    · have hst := store_at hA 0 i (1000 + (i : Int)) 0 i rfl rfl (by omega) hlt
      go_wp2_with (go_at_call 12; refine hst.mono ?_; rintro e w2 ⟨rfl, hA2, hB2⟩)
      go_roundw
      case rel => exact ⟨i + 1, _, _, by omega, by go_num, hA2, But.under hb hb.size q1 q2 hB2, fun j hj => (by
        by_cases e : j = i
        · subst e; exact upd_at _ _ _
        · rw [upd_else _ _ e]; exact hws.out j (by omega))⟩
      case measure => simp [intOf]; omega
    · have Hi : Hid (∀ j, j < 1 + r → ws j = 1000 + (j : Int)) := fun j hj => hws.out j (by omega)
      have hnew : Calls Try.prog 13 #[.pointer (some ⟨b, 0, none⟩), .int .i64 base, .int .i64 n] wr fun e w' => ∃ (p : Nat), e = .returned (.tuple #[.pointer (some ⟨p, 0, none⟩), .int .i64 0]) ∧ Own w.heap.size w w' p b (1 + r) base n 1 0 (up n 1) (zap ws (base + 8 * n) n) := by
        refine (pnew_ok hA base n base n rfl rfl c1 c2 c3 (by omega) (by omega)).mono ?_
        rintro e w' ⟨p, P, rfl, hP, hB, hQ⟩
        exact ⟨p, rfl, P, _, 0, hP, Int.le_refl _, Bt.under hb hb.size (fun j hj => by rcases hj with rfl | rfl <;> omega) hB, Nat.le_trans hb.size hB.size, fun j hj => by have := hb.size; rcases hQ j hj with e | e | e | e <;> omega⟩
      clear hA hb hws
      have d1 : decide ((n : Int) < 1) = false := by simp; omega
      have d2 : decide (2000 < (n : Int)) = false := by simp; omega
      have d3 : decide ((base : Int) < 0) = false := by simp
      have d4 : decide (1 + (r : Int) < (base : Int)) = false := by simp; omega
      have d5 : decide (1 + (r : Int) - (base : Int) < 14 * (n : Int) + 64) = false := by simp; omega
      go_wp2_with (first | (go_at_call 13; refine hnew.mono ?_; rintro e w2 ⟨p, rfl, hO2⟩) | (go_at_call 14; refine (num_any _ _).mono ?_; rintro e w3 ⟨rfl, rfl⟩))
      clear hnew hlt hi d1 d2 d3 d4 d5
      go_loopw [13] (fun v13 wr => ∃ (i : Nat) (xs : List Int) (ws' : Nat → Int), i ≤ n ∧ v13 = .int .i64 i ∧ Own w.heap.size w wr p b (1 + r) base n 1 i xs ws' ∧ xs.length + i = n ∧ Hid (∀ a, a < base ∨ base + (14 * n + 64) ≤ a → ws' a = ws a)) (fun v13 _ => n - (intOf v13).toNat)
      case atStart => exact ⟨0, _, _, by omega, rfl, hO2, up_len _ _, fun a ha => zap_else _ (by omega)⟩
      case round =>
        clear hO2
        obtain ⟨i, xs, ws', hi, rfl, hO, hlen, hout⟩ := hrel
        by_cases hin : i < n
        · cases xs with
          | nil => simp at hlen; omega
          | cons x xs =>
            have hal := o_alloc hO (by omega) 0 0 rfl (by omega)
            have hlen' : xs.length + (i + 1) = n := by simp at hlen; omega
            have hin' : (i : Int) < n := by omega
            clear hlen hO
            go_wp2_with (first | (go_at_call 15; refine hal.mono ?_; rintro e w4 ⟨f, _, hf, _, rfl, hO4⟩) | (go_at_call 14; refine (num_any _ _).mono ?_; rintro e w3 ⟨rfl, rfl⟩))
            clear hal
            go_loopw [16] (fun v16 wr => ∃ (j : Nat) (ws2 : Nat → Int), j ≤ 8 ∧ v16 = .int .i64 j ∧ Own w.heap.size w wr p b (1 + r) base n 1 (i + 1) xs ws2 ∧ InUse ws2 base n f ∧ Hid (∀ a, a < base ∨ base + (14 * n + 64) ≤ a → ws2 a = ws a)) (fun v16 _ => 8 - (intOf v16).toNat)
            case atStart => exact ⟨0, _, by omega, rfl, hO4, inuse_set hf (by decide), fun a ha => (by rw [upd_else _ _ (by omega), zap_else _ (by omega)]; exact hout.out a ha)⟩
            case round =>
              clear hO4
              obtain ⟨j, ws2, hj, rfl, hO, hu, hout2⟩ := hrel
              by_cases hj8 : j < 8
              · have hst := o_store hO 0 f j 0 f j 7 rfl rfl rfl (by omega) hu hj8
                have hj8' : (j : Int) < 8 := by omega
                go_wp2_with (go_at_call 16; refine hst.mono ?_; rintro e w5 ⟨rfl, hO5⟩)
                go_roundw
                case rel => exact ⟨j + 1, _, by omega, by go_num, hO5, inuse_word hu hf hj8, fun a ha => (by rw [upd_else _ _ (by omega)]; exact hout2.out a ha)⟩
                case measure => simp [intOf]; omega
              · have hj8' : ¬ ((j : Int) < 8) := by omega
                go_wp2
                go_roundw
                case rel => exact ⟨i + 1, xs, ws2, by omega, by go_num, hO, hlen', hout2⟩
                case measure => simp [intOf]; omega
        · have hin' : ¬ ((i : Int) < n) := by omega
          have hfull := hO.full (by omega)
          have HF : Hid (cnt (fun f => ws' (base + 8 * n + f)) n = n) := hfull
          clear hfull hlen
          go_wp2
          go_loopw [17] (fun v17 wr => ∃ (j : Nat), j ≤ 1 + r ∧ v17 = .int .i64 j ∧ Own w.heap.size w wr p b (1 + r) base n 1 i xs ws') (fun v17 _ => 1 + r - (intOf v17).toNat)
          case atStart => exact ⟨0, by omega, rfl, hO⟩
          case round =>
            clear hO
            obtain ⟨j, hj, rfl, hO⟩ := hrel
            by_cases hjr : j < 1 + r
            · have hld := o_aload hO 0 j 0 j rfl rfl (by omega) hjr
              have hold := Hi.out j hjr
              by_cases o1 : j < base
              · have hld' : Calls Try.prog 17 #[.pointer (some ⟨b, 0, none⟩), .int .i64 0, .int .i64 j] wr fun e w' => e = .returned (.tuple #[.int .i64 (1000 + (j : Int)), .int .i64 0]) ∧ Own w.heap.size w w' p b (1 + r) base n 1 i xs ws' := by
                  refine hld.mono ?_
                  rintro e w' ⟨v, rfl, hv, hO'⟩
                  exact ⟨by rw [hv (by omega), hout.out j (by omega), ← hold], hO'⟩
                have hxx : (1000 + (j : Int) != 1000 + (j : Int)) = false := by simp
                clear hld hold
                go_wp2_with (go_at_call 17; refine hld'.mono ?_; rintro e w6 ⟨rfl, hO6⟩)
                go_roundw
                case rel => exact ⟨j + 1, by omega, by go_num, hO6⟩
                case measure => simp [intOf]; omega
              · have o1' : decide ((j : Int) < (base : Int)) = false := by simp; omega
                by_cases o2 : base + (14 * n + 64) ≤ j
                · have hld' : Calls Try.prog 17 #[.pointer (some ⟨b, 0, none⟩), .int .i64 0, .int .i64 j] wr fun e w' => e = .returned (.tuple #[.int .i64 (1000 + (j : Int)), .int .i64 0]) ∧ Own w.heap.size w w' p b (1 + r) base n 1 i xs ws' := by
                    refine hld.mono ?_
                    rintro e w' ⟨v, rfl, hv, hO'⟩
                    exact ⟨by rw [hv (by omega), hout.out j (by omega), ← hold], hO'⟩
                  have hxx : (1000 + (j : Int) != 1000 + (j : Int)) = false := by simp
                  have o3 : (base : Int) + 14 * (n : Int) + 64 ≤ (j : Int) := by omega
                  clear hld hold o1
                  go_wp2_with (go_at_call 17; refine hld'.mono ?_; rintro e w6 ⟨rfl, hO6⟩)
                  go_roundw
                  case rel => exact ⟨j + 1, by omega, by go_num, hO6⟩
                  case measure => simp [intOf]; omega
                · have o3 : (j : Int) < (base : Int) + 14 * (n : Int) + 64 := by omega
                  have o4 : (base : Int) ≤ (j : Int) := by omega
                  clear hold o1 o1' o2
                  go_wp2_with (go_at_call 17; refine hld.mono ?_; rintro e w6 ⟨v6, rfl, _, hO6⟩)
                  go_roundw
                  case rel => exact ⟨j + 1, by omega, by go_num, hO6⟩
                  case measure => simp [intOf]; omega
            · have hus := o_used hO
              rw [HF.out] at hus
              have hjr' : ¬ ((j : Int) < 1 + (r : Int)) := by omega
              go_wp2_with (go_at_call 8; refine hus.mono ?_; rintro e w7 ⟨ao, k, F, rfl, _, _, hb7⟩)
              go_ret
              exact ⟨by simp, hO.out.trans (hb7.mono hO.big)⟩
theorem forms_walk (words base cap0 : Int) (w : World) : Calls Try.prog 4 #[.int .i64 words, .int .i64 base, .int .i64 cap0] w fun e w' => e = .returned (.bool true) ∧ Below w.heap.size w w' := by
  obtain ⟨r, hr, hr16⟩ := masked2047 words
  by_cases hq : 1 ≤ cap0 ∧ cap0 ≤ 2000 ∧ 0 ≤ base ∧ base + (14 * cap0 + 64) ≤ ((1 + r : Nat) : Int)
  · obtain ⟨m, rfl⟩ : ∃ m : Nat, base = m := ⟨base.toNat, by omega⟩
    obtain ⟨k, rfl⟩ : ∃ k : Nat, cap0 = k := ⟨cap0.toNat, by omega⟩
    exact forms_yes words m k w r hr hr16 (by omega) (by omega)
  · exact forms_no words base cap0 w r hr hr16 hq
end Go.Proofs.Ytlkomjapfcmpkaa
