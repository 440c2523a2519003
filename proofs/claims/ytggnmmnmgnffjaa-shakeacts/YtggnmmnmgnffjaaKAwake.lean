/- awake: whatever world it is called in it answers true, and of what was there nothing turns. -/
import Derived.Test.YtggnmmnmgnffjaaKShake
namespace Go.Proofs.Ytggnmmnmgnffjaa
open Go.RowKit
theorem knew2 (w : World) : Calls Try.prog 5 #[.int .i64 2] w fun e w' => ∃ s m, e = .returned (.tuple #[.pointer (some ⟨s, 0, none⟩), .int .i64 0]) ∧ Sk w' s m 2 (fun _ => true) 0 0 ∧ Below w.heap.size w w' ∧ w.heap.size ≤ s ∧ w.heap.size ≤ m := knew_ok 2 w (by omega) (by omega)
section
variable {w : World} {s m N : Nat} {A : Nat → Bool} {x r : Int}
theorem see1 (h : Sk w s m 2 A x r) (hA : A 1 = false) : Calls Try.prog 9 #[.pointer (some ⟨s, 0, none⟩), .int .i64 1] w fun e w' => e = .returned (.tuple #[.int .i64 x, .bool true, .int .i64 0]) ∧ Sk w' s m 2 A x r ∧ Bt (Sb s m) w w' := see_ok h 1 (by omega) hA
theorem see2 (h : Sk w s m 2 A x r) : Calls Try.prog 9 #[.pointer (some ⟨s, 0, none⟩), .int .i64 2] w fun e w' => e = .returned (.tuple #[.int .i64 0, .bool false, .int .i64 1002]) ∧ w' = w := see_no h 2 (by omega)
theorem ans0 (h : Sk w s m 2 A x r) : Calls Try.prog 10 #[.pointer (some ⟨s, 0, none⟩), .int .i64 0] w fun e w' => e = .returned (.int .i64 0) ∧ Sk w' s m 2 (setB A 0 true) x r ∧ Bt (Sb s m) w w' := answer_ok h 0 (by omega)
theorem ans1 (h : Sk w s m 2 A x r) : Calls Try.prog 10 #[.pointer (some ⟨s, 0, none⟩), .int .i64 1] w fun e w' => e = .returned (.int .i64 0) ∧ Sk w' s m 2 (setB A 1 true) x r ∧ Bt (Sb s m) w w' := answer_ok h 1 (by omega)
end
theorem sb_ge {B s m : Nat} (h1 : B ≤ s) (h2 : B ≤ m) : ∀ k, Sb s m k → B ≤ k := fun k hk => by rcases hk with rfl | rfl <;> assumption
theorem kone : wrap64 (0 + 1) = 1 := by kernel_rfl
set_option maxRecDepth 20000 in
theorem awake_any (w : World) : Calls Try.prog 7 #[] w fun e w' => e = .returned (.bool true) ∧ Below w.heap.size w w' := by
  go_enter Try.func7, Try.ntmps7
  go_wp2_with (first
    | (go_at_call 6; refine (num_any _ _).mono ?_; rintro e w9 ⟨rfl, rfl⟩)
    | (go_at_call 5; refine (knew2 _).mono ?_; rintro e w1 ⟨s, m, rfl, h1, b1, l1, l2⟩)
    | (go_at_call 8; refine (ask_no h2 6 (by decide)).mono ?_; rintro e w3 ⟨rfl, h3, b3⟩)
    | (go_at_call 8; refine (ask_ok h1 5 (by decide)).mono ?_; rintro e w2 ⟨rfl, h2, b2⟩; rw [kone] at h2)
    | (go_at_call 9; refine (see2 h6).mono ?_; rintro e w7 ⟨rfl, hw7⟩; replace hw7 := hw7.symm; subst hw7)
    | (go_at_call 9; refine (see1 h3 rfl).mono ?_; rintro e w4 ⟨rfl, h4, b4⟩)
    | (go_at_call 10; refine (ans1 h5).mono ?_; rintro e w6 ⟨rfl, h6, b6⟩)
    | (go_at_call 10; refine (ans0 h4).mono ?_; rintro e w5 ⟨rfl, h5, b5⟩)
    | (go_at_call 11; refine (done_ok h6).mono ?_; rintro e w8 ⟨rfl, q8, rfl⟩; rw [show allB 2 (setB (setB (fun _ => false) 0 true) 1 true) = true from by decide]; have h8 := h6.drewN q8)
    | (go_at_call 12; refine (rounds_ok h8).mono ?_; rintro e w10 ⟨rfl, hw10⟩; replace hw10 := hw10.symm; subst hw10))
  go_ret
  exact ⟨rfl, Bt.under (Bt.under b1 b1.size (sb_ge l1 l2) ((((b2.trans b3).trans b4).trans b5).trans b6)) (Nat.le_trans b1.size ((((b2.trans b3).trans b4).trans b5).trans b6).size) (sb_ge l1 l2) (Bt.of_below (below_drewN _ _ _))⟩
end Go.Proofs.Ytggnmmnmgnffjaa
