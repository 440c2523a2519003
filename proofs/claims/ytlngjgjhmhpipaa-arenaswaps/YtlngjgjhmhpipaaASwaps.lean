/- The walk of the law ArenaSwaps: whatever it is called with it returns true, and of what was there nothing turns. -/
import Derived.Test.YtlngjgjhmhpipaaAAwake
namespace Go.Proofs.Ytlngjgjhmhpipaa
open Go.RowKit

theorem mask7 (n : Int) : bits BinOp.and .i64 n 7 = n % 8 := by
  have e : (BitVec.ofInt 64 n &&& BitVec.ofInt 64 7).toNat = (n % 18446744073709551616).toNat % 8 := by
    rw [BitVec.toNat_and, BitVec.toNat_ofInt, show (BitVec.ofInt 64 7).toNat = 2 ^ 3 - 1 from by decide, Nat.and_two_pow_sub_one_eq_mod]; rfl
  show IntKind.i64.wrap ((BitVec.ofInt 64 n &&& BitVec.ofInt 64 7).toNat : Nat) = n % 8
  rw [e, IntKind.wrap_i64]; omega
theorem mask31 (n : Int) : bits BinOp.and .i64 n 31 = n % 32 := by
  have e : (BitVec.ofInt 64 n &&& BitVec.ofInt 64 31).toNat = (n % 18446744073709551616).toNat % 32 := by
    rw [BitVec.toNat_and, BitVec.toNat_ofInt, show (BitVec.ofInt 64 31).toNat = 2 ^ 5 - 1 from by decide, Nat.and_two_pow_sub_one_eq_mod]; rfl
  show IntKind.i64.wrap ((BitVec.ofInt 64 n &&& BitVec.ofInt 64 31).toNat : Nat) = n % 32
  rw [e, IntKind.wrap_i64]; omega

theorem new_at (x y : Int) (W G : Nat) (w : World) (hx : x = W) (hy : y = G) (hW : 1 ≤ W) (hW' : W ≤ 65536) (hG : 1 ≤ G) (hG' : G ≤ 12) :
    Calls Try.prog 5 #[.int .i64 x, .int .i64 y] w fun e w' => ∃ b bw bs, e = .returned (.tuple #[.pointer (some ⟨b, 0, none⟩), .int .i64 0]) ∧ Ar w' b bw bs W G (fun _ => 0) (fun _ => 0) ∧ Below w.heap.size w w' ∧ w.heap.size ≤ b ∧ w.heap.size ≤ bw ∧ w.heap.size ≤ bs := by
  subst hx hy; exact new_ok W G w hW hW' hG hG'
theorem load_at {w : World} {b bw bs W G : Nat} {ws cs : Nat → Int} (h : Ar w b bw bs W G ws cs) (x y : Int) (g a : Nat) (v : Int) (hx : x = g) (hy : y = a) (hv : ws a = v) (hg : g < G) (ha : a < W) :
    Calls Try.prog 8 #[.pointer (some ⟨b, 0, none⟩), .int .i64 x, .int .i64 y] w fun e w' => e = .returned (.tuple #[.int .i64 v, .int .i64 0]) ∧ (∃ cs', Ar w' b bw bs W G ws cs') ∧ But bw bs w w' := by
  subst hx hy hv; exact (load_ok h g a hg ha).mono fun _ _ k => ⟨k.1, ⟨_, k.2.1⟩, k.2.2⟩
theorem swap_first {w : World} {b bw bs W G : Nat} {ws cs : Nat → Int} (h : Ar w b bw bs W G ws cs) (x y old v : Int) (g a : Nat) (hx : x = g) (hy : y = a) (hv : ws a = old) (hg : g < G) (ha : a < W) :
    Calls Try.prog 10 #[.pointer (some ⟨b, 0, none⟩), .int .i64 x, .int .i64 y, .int .i64 old, .int .i64 v] w fun e w' => e = .returned (.tuple #[.bool true, .int .i64 0]) ∧ (∃ ws' cs', Ar w' b bw bs W G ws' cs' ∧ ws' a = v) ∧ But bw bs w w' := by
  subst hx hy; exact (swap_yes h g a old v hg ha (by simp [hv])).mono fun _ _ k => ⟨k.1, ⟨_, _, k.2.1, upd_at _ _ _⟩, k.2.2⟩
theorem swap_late {w : World} {b bw bs W G : Nat} {ws cs : Nat → Int} (h : Ar w b bw bs W G ws cs) (x y old v : Int) (g a : Nat) (hx : x = g) (hy : y = a) (hv : ws a ≠ old) (hg : g < G) (ha : a < W) :
    Calls Try.prog 10 #[.pointer (some ⟨b, 0, none⟩), .int .i64 x, .int .i64 y, .int .i64 old, .int .i64 v] w fun e w' => e = .returned (.tuple #[.bool false, .int .i64 0]) ∧ (∃ cs', Ar w' b bw bs W G ws cs') ∧ But bw bs w w' := by
  subst hx hy; exact (swap_no h g a old v hg ha (by simp [hv])).mono fun _ _ k => ⟨k.1, ⟨_, k.2.1⟩, k.2.2⟩

set_option maxHeartbeats 1000000 in
theorem swaps_walk (x y : Int) (w : World) :
    Calls Try.prog 4 #[.int .i64 x, .int .i64 y] w fun e w' => e = .returned (.bool true) ∧ Below w.heap.size w w' := by
  obtain ⟨m, hm, hm8⟩ : ∃ m : Nat, bits BinOp.and .i64 x 7 = (m : Int) ∧ m < 8 := ⟨(x % 8).toNat, by rw [mask7]; omega, by omega⟩
  obtain ⟨r, hr, hr32⟩ : ∃ r : Nat, bits BinOp.and .i64 y 31 = (r : Int) ∧ r < 32 := ⟨(y % 32).toNat, by rw [mask31]; omega, by omega⟩
  go_enter Try.func4, Try.ntmps4
  go_wp2_with (first | (go_at_call 7; refine (awake_any _).mono ?_; rintro e w1 ⟨rfl, hb1⟩) | (go_at_call 5; refine (new_at _ _ 1 (m + 1) _ (by omega) (by omega) (by omega) (by omega) (by omega) (by omega)).mono ?_; rintro e w2 ⟨b, bw, bs, rfl, hA, hb2, l0, l1, l2⟩))
  go_loopw [8, 9] (fun won i wr => ∃ (n : Nat) (ws cs : Nat → Int), n ≤ r + 1 ∧ won = .int .i64 n ∧ i = .int .i64 n ∧ Ar wr b bw bs 1 (m + 1) ws cs ∧ ws 0 = n ∧ But bw bs w2 wr) (fun _ i _ => r + 1 - (intOf i).toNat)
  case atStart => exact ⟨0, _, _, by omega, rfl, rfl, hA, rfl, But.refl _ _ _⟩
  case round =>
    obtain ⟨n, ws, cs, hn, rfl, rfl, hA3, h0, hB3⟩ := hrel
    by_cases hlt : n < r + 1
    · have hrem : Int.tmod (n : Int) (1 + (m : Int)) = ((n % (m + 1) : Nat) : Int) := by
        rw [show (1 + (m : Int)) = ((m + 1 : Nat) : Int) from by omega]; rfl
      have hlm : n % (m + 1) < m + 1 := Nat.mod_lt _ (by omega)
      go_wp2_with (first | (go_at_call 8; refine (load_at hA3 _ _ (n % (m + 1)) 0 n (by first | rfl | omega) (by omega) h0 hlm (by omega)).mono ?_; rintro e w4 ⟨rfl, ⟨cs4, hA4⟩, hB4⟩) | (go_at_call 6; refine (num_any _ _).mono ?_; rintro e w5 ⟨rfl, rfl⟩))
      go_loopw [12] (fun j wr => ∃ (q : Nat) (ws cs : Nat → Int), q ≤ m + 1 ∧ j = .int .i64 q ∧ Ar wr b bw bs 1 (m + 1) ws cs ∧ (q = 0 → ws 0 = n) ∧ (0 < q → ws 0 = n + 1) ∧ But bw bs w2 wr) (fun j _ => m + 1 - (intOf j).toNat)
      case atStart => exact ⟨0, _, _, by omega, rfl, hA4, fun _ => h0, fun h => absurd h (by omega), hB3.trans hB4⟩
      case round =>
        obtain ⟨q, ws6, cs6, hq, rfl, hA6, hq0, hq1, hB6⟩ := hrel
        clear hrem
        by_cases hqm : q < m + 1
        · by_cases hz : q = 0
          · subst hz
            have h6 := hq0 rfl
            clear hq0 hq1
            go_wp2_with (first | (go_at_call 10; refine (swap_first hA6 _ _ _ _ 0 0 (by omega) (by omega) h6 (by omega) (by omega)).mono ?_; rintro e w7 ⟨rfl, ⟨ws7, cs7, hA7, h7⟩, hB7⟩) | (go_at_call 6; refine (num_any _ _).mono ?_; rintro e w8 ⟨rfl, rfl⟩))
            go_roundw
            case rel => exact ⟨1, ws7, cs7, by omega, rfl, hA7, fun h => absurd h (by omega), fun _ => h7, hB6.trans hB7⟩
            case measure => simp [intOf]
          · have h6 : ws6 0 ≠ (n : Int) := by rw [hq1 (by omega)]; omega
            have h6' := hq1 (by omega)
            have hz' : ((q : Int) == 0) = false := by simp; omega
            have H6 : Hid _ := h6'
            clear hq0 hq1 h6'
            go_wp2_with (first | (go_at_call 10; refine (swap_late hA6 _ _ _ _ q 0 (by omega) (by omega) h6 (by omega) (by omega)).mono ?_; rintro e w7 ⟨rfl, ⟨cs7, hA7⟩, hB7⟩) | (go_at_call 6; refine (num_any _ _).mono ?_; rintro e w8 ⟨rfl, rfl⟩))
            go_roundw
            case rel => exact ⟨q + 1, ws6, cs7, by omega, by go_num, hA7, fun h => absurd h (by omega), fun _ => H6.out, hB6.trans hB7⟩
            case measure => simp [intOf]; omega
        · have h6 := hq1 (by omega)
          clear hq0 hq1
          go_wp2
          go_roundw
          case rel => exact ⟨n + 1, ws6, cs6, by omega, by go_num, by go_num, hA6, by simpa using h6, hB6⟩
          case measure => simp [intOf]; omega
    · go_wp2_with (first | (go_at_call 8; refine (load_at hA3 _ _ 0 0 n (by omega) (by omega) h0 (by omega) (by omega)).mono ?_; rintro e w4 ⟨rfl, ⟨cs4, hA4⟩, hB4⟩) | (go_at_call 6; refine (num_any _ _).mono ?_; rintro e w5 ⟨rfl, rfl⟩))
      go_ret
      have hb := hb1.trans (hb2.mono hb1.size)
      exact ⟨rfl, But.under hb (by have := hb.size; omega) (by have := hb1.size; omega) (by have := hb1.size; omega) (hB3.trans hB4)⟩
end Go.Proofs.Ytlngjgjhmhpipaa
