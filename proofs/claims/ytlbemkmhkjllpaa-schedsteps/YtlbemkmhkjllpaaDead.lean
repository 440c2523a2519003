/- The walk of the law SchedDead: whatever it is called with it returns true, and of what was there nothing turns. -/
import Derived.Test.YtlbemkmhkjllpaaAppend
namespace Go.Proofs.Ytlbemkmhkjllpaa
open Go.RowKit Go.Conc

theorem mask3 (n : Int) : bits BinOp.and .i64 n 3 = n % 4 := by
  have e : (BitVec.ofInt 64 n &&& BitVec.ofInt 64 3).toNat = (n % 18446744073709551616).toNat % 4 := by
    rw [BitVec.toNat_and, BitVec.toNat_ofInt, show (BitVec.ofInt 64 3).toNat = 2 ^ 2 - 1 from by decide, Nat.and_two_pow_sub_one_eq_mod]; rfl
  show IntKind.i64.wrap ((BitVec.ofInt 64 n &&& BitVec.ofInt 64 3).toNat : Nat) = n % 4
  rw [e, IntKind.wrap_i64]; omega
theorem mask15 (n : Int) : bits BinOp.and .i64 n 15 = n % 16 := by
  have e : (BitVec.ofInt 64 n &&& BitVec.ofInt 64 15).toNat = (n % 18446744073709551616).toNat % 16 := by
    rw [BitVec.toNat_and, BitVec.toNat_ofInt, show (BitVec.ofInt 64 15).toNat = 2 ^ 4 - 1 from by decide, Nat.and_two_pow_sub_one_eq_mod]; rfl
  show IntKind.i64.wrap ((BitVec.ofInt 64 n &&& BitVec.ofInt 64 15).toNat : Nat) = n % 16
  rw [e, IntKind.wrap_i64]; omega
theorem mask7 (n : Int) : bits BinOp.and .i64 n 7 = n % 8 := by
  have e : (BitVec.ofInt 64 n &&& BitVec.ofInt 64 7).toNat = (n % 18446744073709551616).toNat % 8 := by
    rw [BitVec.toNat_and, BitVec.toNat_ofInt, show (BitVec.ofInt 64 7).toNat = 2 ^ 3 - 1 from by decide, Nat.and_two_pow_sub_one_eq_mod]; rfl
  show IntKind.i64.wrap ((BitVec.ofInt 64 n &&& BitVec.ofInt 64 7).toNat : Nat) = n % 8
  rw [e, IntKind.wrap_i64]; omega

section
variable {w0 w : World} {b ba bp bi G N M : Nat} {cs : Nat → Int} {sc : Nat → Nat} {t : Nat} {inp : Nat → Int} {u : Nat}
/-- Pick: its agent g is ready, and was picked p times. -/
theorem pick_at (h : Run w0 w b ba bp bi G N M cs sc t inp u) (ht : t < N) (hN : N ≤ 35184372088832) (g p : Nat) (hsc : sc t = g) (hg : g < G) (hG : G ≤ 12) (hr : cs (g * 2) = 0) (hp : cs (g * 2 + 1) = p) (hp' : p ≤ 35184372088832) :
    Calls Try.prog 12 #[.pointer (some ⟨b, 0, none⟩)] w fun e w' => e = .returned (.tuple #[.int .i64 g, .bool true]) ∧ Run w0 w' b ba bp bi G N M (upd cs (g * 2 + 1) (p + 1 : Nat)) sc (t + 1) inp u := by
  subst hsc
  refine (pick_ready h.sc ht hN hg hG (by simp [hr])).mono fun e w' k => ⟨k.1, h.call ?_ k.2.2⟩
  have hk := k.2.1
  rw [hp, IntWalk.wrap64_in _ (by omega)] at hk
  exact hk
theorem skip_at (h : Run w0 w b ba bp bi G N M cs sc t inp u) (ht : t < N) (hN : N ≤ 35184372088832) (g : Nat) (hsc : sc t = g) (hg : g < G) (hr : cs (g * 2) ≠ 0) :
    Calls Try.prog 12 #[.pointer (some ⟨b, 0, none⟩)] w fun e w' => e = .returned (.tuple #[.int .i64 (-1), .bool true]) ∧ Run w0 w' b ba bp bi G N M cs sc (t + 1) inp u := by
  subst hsc
  exact (pick_skip h.sc ht hN hg (by simp [hr])).mono fun e w' k => ⟨k.1, h.call k.2.1 k.2.2⟩
theorem set_at (h : Run w0 w b ba bp bi G N M cs sc t inp u) (g : Nat) (x s : Int) (hx : x = g) (hg : g < G) (hs : 0 ≤ s ∧ s ≤ 2) (hd : cs (g * 2) ≠ 2) :
    Calls Try.prog 15 #[.pointer (some ⟨b, 0, none⟩), .int .i64 x, .int .i64 s] w fun e w' => e = .returned (.int .i64 0) ∧ Run w0 w' b ba bp bi G N M (upd cs (g * 2) s) sc t inp u := by
  subst hx
  exact (set_live h.sc g s hg hs (by simp [hd])).mono fun e w' k => ⟨k.1, h.call k.2.1 k.2.2⟩
theorem set_dead_at (h : Run w0 w b ba bp bi G N M cs sc t inp u) (g : Nat) (x s : Int) (hx : x = g) (hg : g < G) (hs : 0 ≤ s ∧ s ≤ 2) (hd : cs (g * 2) = 2) :
    Calls Try.prog 15 #[.pointer (some ⟨b, 0, none⟩), .int .i64 x, .int .i64 s] w fun e w' => e = .returned (.int .i64 0) ∧ Run w0 w' b ba bp bi G N M cs sc t inp u := by
  subst hx
  exact (set_dead h.sc g s hg hs (by simp [hd])).mono fun e w' k => ⟨k.1, k.2 ▸ h⟩
theorem skips_at (h : Run w0 w b ba bp bi G N M cs sc t inp u) (hG : G ≤ 12) (ht : t ≤ 35184372088832) (hp : ∀ i, 0 ≤ cs (i * 2 + 1)) (s : Nat) (hs : total cs G + s = t) :
    Calls Try.prog 16 #[.pointer (some ⟨b, 0, none⟩)] w fun e w' => e = .returned (.int .i64 s) ∧ Run w0 w' b ba bp bi G N M cs sc t inp u :=
  (skips_any h.sc hG ht hp (by omega)).mono fun e w' k => ⟨by rw [k.1, show (t : Int) - total cs G = s by omega], h.call (h.sc.below k.2) (But.of_below k.2)⟩
theorem picks_at (h : Run w0 w b ba bp bi G N M cs sc t inp u) (g : Nat) (x : Int) (hx : x = g) (hg : g < G) : Calls Try.prog 20 #[.pointer (some ⟨b, 0, none⟩), .int .i64 x] w fun e w' => e = .returned (.int .i64 (cs (g * 2 + 1))) ∧ w' = w := by
  subst hx; exact picks_in h.sc g hg
end

theorem plc4 (A : Nat) (h : A < 4) : plc 4 (A : Int) = A := by unfold plc; omega
theorem cat_const (n : Nat) (x : Int) : cat n (fun _ => x) (fun _ => x) = fun _ => x := by funext i; unfold cat; split <;> rfl

theorem upd_even (cs : Nat → Int) (g j : Nat) (v : Int) : upd cs (g * 2) v (j * 2 + 1) = cs (j * 2 + 1) := upd_else _ _ (by omega)
theorem upd_odd (cs : Nat → Int) (g j : Nat) (v : Int) : upd cs (g * 2 + 1) v (j * 2) = cs (j * 2) := upd_else _ _ (by omega)
theorem only_step {cs : Nat → Int} {A k : Nat} (h : ∀ j, cs (j * 2 + 1) = if j = A then (k : Int) else 0) : ∀ j, upd cs (A * 2 + 1) ((k + 1 : Nat) : Int) (j * 2 + 1) = if j = A then ((k + 1 : Nat) : Int) else 0 := by
  intro j
  by_cases e : j = A
  · subst e; rw [upd_at]; simp
  · rw [upd_else _ _ (by omega), h j]; simp [e]
theorem only_total {cs : Nat → Int} {A k : Nat} (hA : A < 4) (h : ∀ j, cs (j * 2 + 1) = if j = A then (k : Int) else 0) : total cs 4 = k := by
  have h0 := h 0
  have h1 := h 1
  have h2 := h 2
  have h3 := h 3
  have : A = 0 ∨ A = 1 ∨ A = 2 ∨ A = 3 := by omega
  rcases this with rfl | rfl | rfl | rfl <;> simp at h0 h1 h2 h3 <;> simp [total, h0, h1, h2, h3]

set_option maxHeartbeats 2000000 in
set_option maxRecDepth 20000 in
theorem dead_walk (x y : Int) (w : World) :
    Calls Try.prog 6 #[.int .i64 x, .int .i64 y] w fun e w' => e = .returned (.bool true) ∧ Below w.heap.size w w' := by
  obtain ⟨A, hA, hA4⟩ : ∃ m : Nat, bits BinOp.and .i64 y 3 = (m : Int) ∧ m < 4 := ⟨(y % 4).toNat, by rw [mask3]; omega, by omega⟩
  obtain ⟨r, hr, hr16⟩ : ∃ r : Nat, bits BinOp.and .i64 x 15 = (r : Int) ∧ r < 16 := ⟨(x % 16).toNat, by rw [mask15]; omega, by omega⟩
  go_enter Try.func6, Try.ntmps6
  go_wp2_with (go_at_call 10; refine (awake_any _).mono ?_; rintro e w1 ⟨rfl, b1⟩)
  go_loopw [6, 7] (fun s i wr => ∃ k : Nat, k ≤ r + 1 ∧ i = .int .i64 k ∧ Own wr w.heap.size s k (fun _ => A) ∧ Below w.heap.size w wr) (fun _ i _ => r + 1 - (intOf i).toNat)
  case atStart => exact ⟨0, by omega, rfl, Own.nil _ _ _, b1⟩
  case round =>
    obtain ⟨k, hk, rfl, hO, hB⟩ := hrel
    by_cases hlt : k < r + 1
    · have hB1 := hB.size
      go_wp2_with (at_builtin; obtain ⟨v', w', hrun, hO', hB', hg'⟩ := app (hO.below ((Below.refl _ _).alloc (Nat.le_refl _) _)) (ints1 wr A) (by simp; omega) (by omega); refine wpList_app _ _ hrun rfl rfl rfl rfl rfl ?_; clear hrun)
      go_roundw
      case rel => exact ⟨k + 1, by omega, by go_num, by rw [cat_const] at hO'; exact hO', (hB.alloc hB.size _).trans hB'⟩
      case measure => simp [intOf]; omega
    · obtain rfl : k = r + 1 := by omega
      have hB1 := hB.size
      obtain ⟨p, cap, rfl, hp⟩ := hO.shape (by omega)
      clear hlt hk hp
      go_wp2_with (first
        | (at_builtin; obtain ⟨v9, w9, hrun, hO9, hB9, hg9⟩ := app hO8 (hO.ints.below hB8) (by have := hB8.size; omega) (by omega); refine wpList_app _ _ hrun rfl rfl rfl rfl rfl ?_; clear hrun; rw [cat_const] at hO9; have hB29 := hB8.trans hB9; have hB09 := hB.trans (hB29.mono hB.size))
        | (at_builtin; obtain ⟨v8, w8, hrun, hO8, hB8, hg8⟩ := app (Own.empty wr wr.heap.size (fun _ => (A : Int)) (Nat.le_refl _)) (hO.ints.below ((Below.refl _ _).alloc (Nat.le_refl _) _)) (by simp) (by omega); refine wpList_app _ _ hrun rfl rfl rfl rfl rfl ?_; clear hrun; rw [cat_const, Nat.zero_add] at hO8; replace hB8 := ((Below.refl wr.heap.size wr).alloc (Nat.le_refl _) _).trans hB8)
        | (go_at_call 8; refine (new_run 4 (r + 1 + (r + 1)) 0 _ _ (fun _ => (A : Int)) (fun _ => 0) w _ (by decide) (by decide) (by omega) (by decide) hB09 hO9.ints ⟨none, 0, rfl, Or.inl rfl⟩).mono ?_; rintro e w10 ⟨b, ba, bp, bi, rfl, hR, _, _, _⟩)
        | (go_at_call_of 15 (Value.int .i64 1); refine (set_at hR A _ _ rfl hA4 (by decide) (by simp)).mono ?_; rintro e w11 ⟨rfl, hR1⟩)
        | (go_at_call_of 15 (Value.int .i64 0); refine (set_at hR1 A _ _ rfl hA4 (by decide) (by rw [upd_at]; decide)).mono ?_; rintro e w12 ⟨rfl, hR2⟩))
      have hi : ∀ j, upd (upd (fun _ => 0) (A * 2) 1) (A * 2) 0 (j * 2 + 1) = if j = A then ((0 : Nat) : Int) else 0 := by intro j; rw [upd_even, upd_even]; split <;> rfl
      clear hO hO8 hO9 hB8 hB9 hB29 hB09 hg8 hg9 hR hR1 hB hB1 b1
      go_loopw [11] (fun i wz => ∃ (k : Nat) (cs : Nat → Int), k ≤ r + 1 ∧ i = .int .i64 k ∧ Run w wz b ba bp bi 4 (r + 1 + (r + 1)) 0 cs (fun _ => plc 4 A) k (fun _ => 0) 0 ∧ cs (A * 2) = 0 ∧ ∀ j, cs (j * 2 + 1) = if j = A then (k : Int) else 0) (fun i _ => r + 1 - (intOf i).toNat)
      case atStart => exact ⟨0, _, by omega, rfl, hR2, upd_at _ _ _, hi⟩
      case round =>
        obtain ⟨k, cs, hk, rfl, hR, hz, hc⟩ := hrel
        clear hR2 hi
        by_cases hlt : k < r + 1
        · have hpA := hc A
          rw [if_pos rfl] at hpA
          have HC : Hid _ := hc
          clear hc
          as_aux_lemma =>
            go_wp2_with (go_at_call 12; refine (pick_at hR (by omega) (by omega) A k (plc4 A hA4) hA4 (by decide) hz hpA (by omega)).mono ?_; rintro e w13 ⟨rfl, hR3⟩)
            go_roundw
            case rel => exact ⟨k + 1, _, by omega, by go_num, hR3, by rw [upd_odd]; exact hz, only_step HC.out⟩
            case measure => simp [intOf]; omega
        · obtain rfl : k = r + 1 := by omega
          clear hlt hk
          go_wp2_with (first
            | (go_at_call_of 15 (Value.int .i64 2); refine (set_at hR A _ _ rfl hA4 (by decide) (by rw [hz]; decide)).mono ?_; rintro e w14 ⟨rfl, hR4⟩)
            | (go_at_call_of 15 (Value.int .i64 0); refine (set_dead_at hR4 A _ _ rfl hA4 (by decide) (upd_at _ _ _)).mono ?_; rintro e w15 ⟨rfl, hR5⟩))
          have hc5 : ∀ j, upd cs (A * 2) 2 (j * 2 + 1) = if j = A then ((r + 1 : Nat) : Int) else 0 := by intro j; rw [upd_even]; exact hc j
          have hz5 : upd cs (A * 2) 2 (A * 2) = 2 := upd_at _ _ _
          generalize upd cs (A * 2) 2 = ds at hR5 hc5 hz5
          clear hR hR4 hc hz
          go_loopw [16] (fun i wz => ∃ k : Nat, k ≤ r + 1 ∧ i = .int .i64 k ∧ Run w wz b ba bp bi 4 (r + 1 + (r + 1)) 0 ds (fun _ => plc 4 A) (r + 1 + k) (fun _ => 0) 0) (fun i _ => r + 1 - (intOf i).toNat)
          case atStart => exact ⟨0, by omega, rfl, hR5⟩
          case round =>
            obtain ⟨k, hk, rfl, hR⟩ := hrel
            clear hR5
            by_cases hlt : k < r + 1
            · clear hc5
              as_aux_lemma =>
                go_wp2_with (go_at_call 12; refine (skip_at hR (by omega) (by omega) A (plc4 A hA4) hA4 (by rw [hz5]; decide)).mono ?_; rintro e w13 ⟨rfl, hR3⟩)
                go_roundw
                case rel => exact ⟨k + 1, by omega, by go_num, hR3⟩
                case measure => simp [intOf]; omega
            · obtain rfl : k = r + 1 := by omega
              have ht := only_total hA4 hc5
              have hp : ∀ i, 0 ≤ ds (i * 2 + 1) := by intro i; rw [hc5]; split <;> omega
              have hpA := hc5 A
              rw [if_pos rfl] at hpA
              have hpk := picks_at hR A A rfl hA4
              rw [hpA] at hpk
              have hsk := skips_at hR (by decide) (by omega) hp (r + 1) (by rw [ht]; omega)
              clear hlt hk hc5 hz5 ht hp hpA
              as_aux_lemma =>
                go_wp2_with (first
                  | (go_at_call 9; refine (num_any _ _).mono ?_; rintro e wn ⟨rfl, rfl⟩)
                  | (go_at_call 20; refine hpk.mono ?_; rintro e w16 ⟨rfl, rfl⟩)
                  | (go_at_call 16; refine hsk.mono ?_; rintro e w17 ⟨rfl, hR7⟩))
                go_ret
                exact ⟨rfl, hR7.bel⟩
end Go.Proofs.Ytlbemkmhkjllpaa
