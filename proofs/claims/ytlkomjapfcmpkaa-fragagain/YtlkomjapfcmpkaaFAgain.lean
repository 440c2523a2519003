/- The walk of FragAgain. -/
import Derived.Test.YtlkomjapfcmpkaaFOwn
namespace Go.Proofs.Ytlkomjapfcmpkaa
open Go.RowKit

theorem Own.mono {B : Nat} {w0 w : World} {p b W base n G m m' : Nat} {xs : List Int} {ws : Nat → Int} (h : Own B w0 w p b W base n G m xs ws) (hm : m ≤ m') : Own B w0 w p b W base n G m' xs ws := by
  obtain ⟨P, cs, T, h1, h2, h3⟩ := h
  exact ⟨P, cs, T, h1, by omega, h3⟩
theorem tmod3 (j : Nat) : (j : Int).tmod 3 = ((j % 3 : Nat) : Int) := by rw [Int.tmod_eq_emod_of_nonneg (by omega)]; omega
set_option maxRecDepth 20000 in
set_option maxHeartbeats 8000000 in
theorem again_walk (count rounds : Int) (w : World) : Calls Try.prog 5 #[.int .i64 count, .int .i64 rounds] w fun e w' => e = .returned (.bool true) ∧ Below w.heap.size w w' := by
  obtain ⟨r, hr, hr32⟩ := masked31 count
  obtain ⟨q, hq, hq8⟩ := masked7 rounds
  have hbe : ∀ u : World, Below w.heap.size w u → Calls Try.prog 6 #[.int .i64 0, .int .i64 (1 + (r : Int))] u fun e w' => ∃ p b, e = .returned (.tuple #[.pointer (some ⟨p, 0, none⟩), .pointer (some ⟨b, 0, none⟩), .bool true]) ∧ Own w.heap.size w w' p b (0 + (14 * (1 + r) + 64)) 0 (1 + r) 3 0 (up (1 + r) 1) (fun _ => 0) := by
    intro u hu
    refine (begun_ok 0 (1 + (r : Int)) 0 (1 + r) u rfl (by omega) (by omega) (by omega) (by omega)).mono ?_
    rintro e w' ⟨p, b, P, rfl, h1, h2, h3⟩
    exact ⟨p, b, rfl, P, _, 0, h1, Int.le_refl _, hu.trans (h2.mono hu.size), Nat.le_trans hu.size h2.size, fun j hj => Nat.le_trans hu.size (h3 j hj)⟩
  go_enter Try.func5, Try.ntmps5
  go_wp2_with (first
    | (go_at_call 10; refine (awake_any _).mono ?_; rintro e w0 ⟨rfl, hb0⟩)
    | (go_at_call 6; refine (hbe _ hb0).mono ?_; rintro e w1 ⟨p, b, rfl, hO1⟩))
  clear hbe
  obtain ⟨n, hn⟩ : ∃ n, n = 1 + r := ⟨_, rfl⟩
  go_loopw [9] (fun v9 wr => ∃ (i : Nat) (xs : List Int) (ws : Nat → Int), i ≤ q + 1 ∧ v9 = .int .i64 i ∧ Own w.heap.size w wr p b (0 + (14 * (1 + r) + 64)) 0 (1 + r) 3 (64 * i) xs ws ∧ xs.length = 1 + r ∧ Hid (∀ f, f < 1 + r → ws (0 + 8 * (1 + r) + f) = 0)) (fun v9 _ => q + 1 - (intOf v9).toNat)
  case atStart => exact ⟨0, _, _, by omega, rfl, hO1, up_len _ _, fun _ _ => rfl⟩
  case round =>
    clear hO1 hn
    obtain ⟨i, xs, ws, hi, rfl, hO, hlen, hcol⟩ := hrel
    by_cases hiq : i ≤ q
    · have hiq' : (i : Int) ≤ q := by omega
      have i8 : i < 8 := by omega
      go_wp2
      go_loopw [10] (fun v10 wr => ∃ (j : Nat) (xs : List Int) (ws : Nat → Int), j ≤ 1 + r ∧ v10 = .int .i64 j ∧ Own w.heap.size w wr p b (0 + (14 * (1 + r) + 64)) 0 (1 + r) 3 (64 * i + j) xs ws ∧ xs.length + j = 1 + r) (fun v10 _ => 1 + r - (intOf v10).toNat)
      case atStart => exact ⟨0, _, _, by omega, rfl, hO, by omega⟩
      case round =>
        clear hO hlen hcol ws xs
        obtain ⟨j, xs, ws, hj, rfl, hO, hlen⟩ := hrel
        by_cases hjn : j < 1 + r
        · cases xs with
          | nil => simp at hlen; omega
          | cons x xs =>
            have hal := o_alloc hO (by omega) _ (j % 3) (tmod3 j) (by omega)
            have hlen' : xs.length + (j + 1) = 1 + r := by simp at hlen; omega
            have hjn' : (j : Int) < 1 + (r : Int) := by omega
            have hld : ∀ (u : World) (f : Nat), f < 1 + r → Own w.heap.size w u p b (0 + (14 * (1 + r) + 64)) 0 (1 + r) 3 (64 * i + j + 1) xs (upd (zap ws (0 + 8 * f) 8) (0 + 8 * (1 + r) + f) 1) →
                Calls Try.prog 18 #[.pointer (some ⟨p, 0, none⟩), .int .i64 0, .int .i64 (f : Int), .int .i64 (i : Int)] u fun e w' => e = .returned (.tuple #[.int .i64 0, .int .i64 0]) ∧ Own w.heap.size w w' p b (0 + (14 * (1 + r) + 64)) 0 (1 + r) 3 (64 * i + j + 1) xs (upd (zap ws (0 + 8 * f) 8) (0 + 8 * (1 + r) + f) 1) := by
              intro u f hf hu
              have := o_load hu 0 f i 0 f i rfl rfl rfl (by omega) (inuse_set hf (by decide)) i8
              rw [upd_else _ _ (by omega), zap_in _ (by omega) (by omega)] at this
              exact this
            clear hlen hO
            go_wp2_with (first
              | (go_at_call 14; refine (num_any _ _).mono ?_; rintro e w3 ⟨rfl, rfl⟩)
              | (go_at_call 15; refine hal.mono ?_; rintro e w4 ⟨f, _, hf, _, rfl, hO4⟩)
              | (go_at_call 18; refine (hld _ f hf hO4).mono ?_; rintro e w5 ⟨rfl, hO5⟩; clear hO4 hld)
              | (go_at_call 16; refine (o_store hO5 1 f i 1 f i 5 rfl rfl rfl (by omega) (inuse_set hf (by decide)) i8).mono ?_; rintro e w6 ⟨rfl, hO6⟩; clear hO5)
              | (go_at_call 19; refine (o_paint hO6 2 f 2 f 3 rfl rfl (by omega) (inuse_word (inuse_set hf (by decide)) hf i8) (by omega)).mono ?_; rintro e w7 ⟨rfl, hO7⟩; clear hO6))
            go_roundw
            case rel => exact ⟨j + 1, xs, _, by omega, by go_num, hO7, hlen'⟩
            case measure => simp [intOf]; omega
        · have hjn' : ¬ ((j : Int) < 1 + (r : Int)) := by omega
          have hfull := hO.full (by omega)
          cases xs with
          | cons x xs => simp at hlen; omega
          | nil =>
            have Hcol : Hid (∀ f, f < 1 + r → ws (0 + 8 * (1 + r) + f) ≠ 0) := fun f hf e => by have := (hO.facts.2.2.2.2.1 f hf).2.2.1 e; cases this
            have hno := o_none hO (by omega) 0 (by omega)
            have hus := fun u (hu : Below wr.heap.size wr u) => o_used (hO.below hu)
            rw [hfull] at hus
            have hO' := hO.mono (show 64 * i + j ≤ 64 * i + (1 + r) by omega)
            clear hfull hlen hO
            go_wp2_with (first
              | (go_at_call 14; refine (num_any _ _).mono ?_; rintro e w3 ⟨rfl, rfl⟩)
              | (go_at_call 15; refine hno.mono ?_; rintro e w3 ⟨rfl, hb4⟩)
              | (go_at_call 8; refine (hus _ hb4).mono ?_; rintro e w5 ⟨ao, k, F, rfl, _, _, hb5⟩))
            have hO5 := (hO'.below hb4).below hb5
            clear hno hus hO' hb4 hb5
            go_loopw [19] (fun v19 wr => ∃ (j : Nat) (xs : List Int) (ws : Nat → Int), j ≤ 1 + r ∧ v19 = .int .i64 j ∧ Own w.heap.size w wr p b (0 + (14 * (1 + r) + 64)) 0 (1 + r) 3 (64 * i + (1 + r) + j) xs ws ∧ xs.length = j ∧ Hid (∀ f, f < 1 + r → (f < j → ws (0 + 8 * (1 + r) + f) = 0) ∧ (j ≤ f → ws (0 + 8 * (1 + r) + f) ≠ 0))) (fun v19 _ => 1 + r - (intOf v19).toNat)
            case atStart => exact ⟨0, _, _, by omega, rfl, hO5, rfl, fun f hf => ⟨fun q => absurd q (by omega), fun _ => Hcol.out f hf⟩⟩
            case round =>
              clear hO5 Hcol
              obtain ⟨j, xs, ws, hj, rfl, hO, hlen, hcol⟩ := hrel
              by_cases hjn : j < 1 + r
              · have hfr := o_free hO (by omega) _ j (j % 3) j (tmod3 j) rfl (by omega) ⟨by omega, by omega, by simpa using (hcol.out j hjn).2 (Nat.le_refl _)⟩
                have hjn' : (j : Int) < 1 + (r : Int) := by omega
                go_wp2_with (first
                  | (go_at_call 14; refine (num_any _ _).mono ?_; rintro e w3 ⟨rfl, rfl⟩)
                  | (go_at_call 20; refine hfr.mono ?_; rintro e w6 ⟨rfl, hO6⟩))
                go_roundw
                case rel =>
                  refine ⟨j + 1, _, _, by omega, by go_num, hO6, by simp [hlen], fun f hf => ⟨fun q => ?_, fun q => ?_⟩⟩
                  · by_cases e : f = j
                    · subst e; exact upd_at _ _ _
                    · rw [upd_else _ _ (by omega)]; exact (hcol.out f hf).1 (by omega)
                  · rw [upd_else _ _ (by omega)]; exact (hcol.out f hf).2 (by omega)
                case measure => simp [intOf]; omega
              · have hjn' : ¬ ((j : Int) < 1 + (r : Int)) := by omega
                go_wp2
                go_roundw
                case rel => exact ⟨i + 1, xs, ws, by omega, by go_num, hO.mono (by omega), by omega, fun f hf => (hcol.out f hf).1 (by omega)⟩
                case measure => simp [intOf]; omega
    · have hiq' : ¬ ((i : Int) ≤ q) := by omega
      have hus := o_used hO
      rw [cnt_none (fun f hf => hcol.out f hf)] at hus
      go_wp2_with (go_at_call 8; refine hus.mono ?_; rintro e w7 ⟨ao, k, F, rfl, _, _, hb7⟩)
      go_ret
      exact ⟨by simp, hO.out.trans (hb7.mono hO.big)⟩
end Go.Proofs.Ytlkomjapfcmpkaa
