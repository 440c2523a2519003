/- What every arena answers that is one: the law's small call; what the law looks up at its end. -/
import Derived.Test.YtlngjgjhmhpipaaAArena
namespace Go.Proofs.Ytlngjgjhmhpipaa
open Go.RowKit

def z0 : Nat → Int := fun _ => 0
def wA : Nat → Int := upd z0 3 7
def cA : Nat → Int := upd z0 1 1
def cB : Nat → Int := upd cA 0 1
def wB : Nat → Int := upd wA 3 9
def cC : Nat → Int := upd cB 0 2

theorem eA : upd z0 1 (wrap64 (z0 1 + 1)) = cA := by rw [show wrap64 (z0 1 + 1) = 1 from by kernel_rfl]; rfl
theorem eB : upd cA 0 (wrap64 (cA 0 + 1)) = cB := by rw [show wrap64 (cA 0 + 1) = 1 from by kernel_rfl]; rfl
theorem eC : upd cB 0 (wrap64 (cB 0 + 1)) = cC := by rw [show wrap64 (cB 0 + 1) = 2 from by kernel_rfl]; rfl

theorem new42 (w : World) : Calls Try.prog 5 #[.int .i64 4, .int .i64 2] w fun e w' => ∃ b bw bs, e = .returned (.tuple #[.pointer (some ⟨b, 0, none⟩), .int .i64 0]) ∧ Ar w' b bw bs 4 2 z0 z0 ∧ Below w.heap.size w w' ∧ w.heap.size ≤ b ∧ w.heap.size ≤ bw ∧ w.heap.size ≤ bs :=
  new_ok 4 2 w (by decide) (by decide) (by decide) (by decide)
theorem aw_store {w : World} {b bw bs : Nat} (h : Ar w b bw bs 4 2 z0 z0) : Calls Try.prog 9 #[.pointer (some ⟨b, 0, none⟩), .int .i64 1, .int .i64 3, .int .i64 7] w fun e w' => e = .returned (.int .i64 0) ∧ Ar w' b bw bs 4 2 wA cA ∧ But bw bs w w' :=
  (store_ok h 1 3 7 (by decide) (by decide)).mono fun _ _ k => ⟨k.1, eA ▸ k.2.1, k.2.2⟩
theorem aw_load {w : World} {b bw bs : Nat} (h : Ar w b bw bs 4 2 wA cA) : Calls Try.prog 8 #[.pointer (some ⟨b, 0, none⟩), .int .i64 0, .int .i64 3] w fun e w' => e = .returned (.tuple #[.int .i64 7, .int .i64 0]) ∧ Ar w' b bw bs 4 2 wA cB ∧ But bw bs w w' :=
  (load_ok h 0 3 (by decide) (by decide)).mono fun _ _ k => ⟨k.1, eB ▸ k.2.1, k.2.2⟩
theorem aw_swap {w : World} {b bw bs : Nat} (h : Ar w b bw bs 4 2 wA cB) : Calls Try.prog 10 #[.pointer (some ⟨b, 0, none⟩), .int .i64 0, .int .i64 3, .int .i64 7, .int .i64 9] w fun e w' => e = .returned (.tuple #[.bool true, .int .i64 0]) ∧ Ar w' b bw bs 4 2 wB cC ∧ But bw bs w w' :=
  (swap_yes h 0 3 7 9 (by decide) (by decide) rfl).mono fun _ _ k => ⟨k.1, eC ▸ k.2.1, k.2.2⟩
theorem aw_miss {w : World} {b bw bs : Nat} (h : Ar w b bw bs 4 2 wB cC) : Calls Try.prog 8 #[.pointer (some ⟨b, 0, none⟩), .int .i64 2, .int .i64 0] w fun e w' => e = .returned (.tuple #[.int .i64 0, .int .i64 302]) ∧ Ar w' b bw bs 4 2 wB cC ∧ But bw bs w w' :=
  load_agent h 2 0 (by decide)
theorem aw_steps {w : World} {b bw bs : Nat} (h : Ar w b bw bs 4 2 wB cC) : Calls Try.prog 13 #[.pointer (some ⟨b, 0, none⟩), .int .i64 0] w fun e w' => e = .returned (.int .i64 2) ∧ w' = w :=
  steps_in h 0 (by decide)
theorem aw_words {w : World} {b bw bs : Nat} (h : Ar w b bw bs 4 2 wB cC) : Calls Try.prog 14 #[.pointer (some ⟨b, 0, none⟩)] w fun e w' => e = .returned (.int .i64 4) ∧ w' = w :=
  words_any h

theorem awake_any (w : World) : Calls Try.prog 7 #[] w fun e w' => e = .returned (.bool true) ∧ Below w.heap.size w w' := by
  go_enter Try.func7, Try.ntmps7
  go_wp2_with (first | (go_at_call 5; refine (new42 _).mono ?_; rintro e w1 ⟨b, bw, bs, rfl, hA, hB, l0, l1, l2⟩) | (go_at_call 9; refine (aw_store hA).mono ?_; rintro e w2 ⟨rfl, hA2, k2⟩) | (go_at_call_of 8 (Value.int .i64 3); refine (aw_load hA2).mono ?_; rintro e w3 ⟨rfl, hA3, k3⟩) | (go_at_call 10; refine (aw_swap hA3).mono ?_; rintro e w4 ⟨rfl, hA4, k4⟩) | (go_at_call_of 8 (Value.int .i64 2); refine (aw_miss hA4).mono ?_; rintro e w5 ⟨rfl, hA5, k5⟩) | (go_at_call 6; refine (num_any _ _).mono ?_; rintro e w6 ⟨rfl, rfl⟩) | (go_at_call 13; refine (aw_steps hA5).mono ?_; rintro e w7 ⟨rfl, rfl⟩) | (go_at_call 14; refine (aw_words hA5).mono ?_; rintro e w8 ⟨rfl, rfl⟩))
  go_ret
  exact ⟨rfl, But.under hB hB.size l1 l2 (((k2.trans k3).trans k4).trans k5)⟩
end Go.Proofs.Ytlngjgjhmhpipaa
