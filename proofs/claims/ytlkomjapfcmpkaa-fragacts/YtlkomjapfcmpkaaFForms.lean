/- The walk of FragForms. -/
import Derived.Test.YtlkomjapfcmpkaaFAwake
namespace Go.Proofs.Ytlkomjapfcmpkaa
open Go.RowKit

theorem mask2047 (n : Int) : bits BinOp.and .i64 n 2047 = n % 2048 := by
  have e : (BitVec.ofInt 64 n &&& BitVec.ofInt 64 2047).toNat = (n % 18446744073709551616).toNat % 2048 := by
    rw [BitVec.toNat_and, BitVec.toNat_ofInt, show (BitVec.ofInt 64 2047).toNat = 2 ^ 11 - 1 from by decide, Nat.and_two_pow_sub_one_eq_mod]; rfl
  show IntKind.i64.wrap ((BitVec.ofInt 64 n &&& BitVec.ofInt 64 2047).toNat : Nat) = n % 2048
  rw [e, IntKind.wrap_i64]; omega
theorem masked2047 (n : Int) : ∃ r : Nat, bits BinOp.and .i64 n 2047 = (r : Int) ∧ r < 2048 := ⟨(n % 2048).toNat, by rw [mask2047]; omega, by omega⟩
theorem store_at {w : World} {b bw bs W G : Nat} {ws cs : Nat → Int} (h : Ar w b bw bs W G ws cs) (x y v : Int) (g a : Nat) (hx : x = g) (hy : y = a) (hg : g < G) (ha : a < W) :
    Calls Try.prog 12 #[.pointer (some ⟨b, 0, none⟩), .int .i64 x, .int .i64 y, .int .i64 v] w fun e w' => e = .returned (.int .i64 0) ∧ Ar w' b bw bs W G (upd ws a v) (upd cs g (wrap64 (cs g + 1))) ∧ But bw bs w w' := by
  subst hx hy; exact store_ok h g a v hg ha
/-- A word of the arena, whoever it belongs to. -/
theorem aload_ok {w : World} {P : Nat → Prop} {p b W base n G : Nat} {cs : Nat → Int} {T : Int} {xs : List Int} {ws : Nat → Int} (h : Pl w P p b W base n G cs T xs ws) (g a : Nat) (hg : g < G) (ha : a < W) :
    Calls Try.prog 17 #[.pointer (some ⟨b, 0, none⟩), .int .i64 g, .int .i64 a] w fun e w' => ∃ v, e = .returned (.tuple #[.int .i64 v, .int .i64 0]) ∧ (a < base + 9 * n ∨ base + 10 * n < a → v = ws a) ∧ Turn w P p b W base n G (upd cs g (wrap64 (cs g + 1))) T xs ws w' := by
  obtain ⟨Q, s, bc, pl, k, h⟩ := h
  refine (gi_load h.good g a hg ha).mono ?_
  rintro e w' ⟨v, rfl, hv, hG, hB⟩
  exact ⟨v, rfl, fun q => hv (by omega), h.turn hG hB (Wider.refl _ _) h.col⟩

set_option maxRecDepth 20000 in
set_option maxHeartbeats 4000000 in
theorem forms_no (words base cap0 : Int) (w : World) (r : Nat) (hr : bits BinOp.and .i64 words 2047 = (r : Int)) (hr16 : r < 2048) (hbad : ¬ (1 ≤ cap0 ∧ cap0 ≤ 2000 ∧ 0 ≤ base ∧ base + (14 * cap0 + 64) ≤ ((1 + r : Nat) : Int))) :
    Calls Try.prog 4 #[.int .i64 words, .int .i64 base, .int .i64 cap0] w fun e w' => e = .returned (.bool true) ∧ Below w.heap.size w w' := by
  have Hbad : Hid _ := hbad
  clear hbad
  go_enter Try.func4, Try.ntmps4
  go_wp2_with (first
    | (go_at_call 10; refine (awake_any _).mono ?_; rintro e w0 ⟨rfl, hb0⟩)
    | (go_at_call 11; refine (new_at _ _ (1 + r) 1 _ (by omega) rfl (by omega) (by omega) (by omega) (by omega)).mono ?_; rintro e w1 ⟨b, bw, bs, rfl, hA1, hb1', l0, l1, l2⟩; have hb1 := hb0.trans (hb1'.mono hb0.size)))
  go_loopw [10] (fun v10 wr => ∃ (i : Nat) (ws cs : Nat → Int), i ≤ 1 + r ∧ v10 = .int .i64 i ∧ Ar wr b bw bs (1 + r) 1 ws cs ∧ Below w.heap.size w wr) (fun v10 _ => 1 + r - (intOf v10).toNat)
  case atStart => exact ⟨0, _, _, by omega, rfl, hA1, hb1⟩
  case round =>
    obtain ⟨i, ws, cs, hi, rfl, hA, hb⟩ := hrel
    have q1 : w.heap.size ≤ bw := Nat.le_trans hb0.size l1
    have q2 : w.heap.size ≤ bs := Nat.le_trans hb0.size l2
    clear hA1 hb1 hb1' l0 l1 l2 hb0
    by_cases hlt : i < 1 + r
    · have hst := store_at hA 0 i (1000 + (i : Int)) 0 i rfl rfl (by omega) hlt
      go_wp2_with (go_at_call 12; refine hst.mono ?_; rintro e w2 ⟨rfl, hA2, hB2⟩)
      go_roundw
      case rel => exact ⟨i + 1, _, _, by omega, by go_num, hA2, But.under hb hb.size q1 q2 hB2⟩
      case measure => simp [intOf]; omega
    · have hno := pnew_no hA base cap0 (by omega) Hbad.out
      by_cases a1 : cap0 < 1
      · go_wp2_with (first | (go_at_call 13; refine hno.mono ?_; rintro e w3 ⟨rfl, rfl⟩) | (go_at_call 14; refine (num_any _ _).mono ?_; rintro e w4 ⟨rfl, rfl⟩))
        go_ret
        exact ⟨rfl, hb⟩
      · have b1 : decide (cap0 < 1) = false := by simp; omega
        by_cases a2 : 2000 < cap0
        · go_wp2_with (first | (go_at_call 13; refine hno.mono ?_; rintro e w3 ⟨rfl, rfl⟩) | (go_at_call 14; refine (num_any _ _).mono ?_; rintro e w4 ⟨rfl, rfl⟩))
          go_ret
          exact ⟨rfl, hb⟩
        · have b2 : decide (2000 < cap0) = false := by simp; omega
          by_cases a3 : base < 0
          · go_wp2_with (first | (go_at_call 13; refine hno.mono ?_; rintro e w3 ⟨rfl, rfl⟩) | (go_at_call 14; refine (num_any _ _).mono ?_; rintro e w4 ⟨rfl, rfl⟩))
            go_ret
            exact ⟨rfl, hb⟩
          · have b3 : decide (base < 0) = false := by simp; omega
            by_cases a4 : 1 + (r : Int) < base
            · go_wp2_with (first | (go_at_call 13; refine hno.mono ?_; rintro e w3 ⟨rfl, rfl⟩) | (go_at_call 14; refine (num_any _ _).mono ?_; rintro e w4 ⟨rfl, rfl⟩))
              go_ret
              exact ⟨rfl, hb⟩
            · have b4 : decide (1 + (r : Int) < base) = false := by simp; omega
              have b5 : 1 + (r : Int) - base < 14 * cap0 + 64 := by
                have hq : ¬ (1 ≤ cap0 ∧ cap0 ≤ 2000 ∧ 0 ≤ base ∧ base + (14 * cap0 + 64) ≤ ((1 + r : Nat) : Int)) := Hbad.out
                omega
              have c1 : 1 ≤ cap0 := by omega
              have c2 : cap0 ≤ 2000 := by omega
              have c3 : 0 ≤ base := by omega
              have c4 : base ≤ 1 + (r : Int) := by omega
              clear a1 a2 a3 a4
              go_wp2_with (first | (go_at_call 13; refine hno.mono ?_; rintro e w3 ⟨rfl, rfl⟩) | (go_at_call 14; refine (num_any _ _).mono ?_; rintro e w4 ⟨rfl, rfl⟩))
              go_ret
              exact ⟨rfl, hb⟩
end Go.Proofs.Ytlkomjapfcmpkaa
