/- awake: whatever world it is called in it answers true, and of what was there nothing turns. -/
import Derived.Test.YtcafmloinmdeeaaMCol
namespace Go.Proofs.Ytcafmloinmdeeaa
open Go.RowKit
theorem mnew3 (w : World) : Calls Try.prog 5 #[.int .i64 3] w fun e w' => ∃ s bc bi, e = .returned (.tuple #[.pointer (some ⟨s, 0, none⟩), .int .i64 0]) ∧ Mk w' s bc bi 3 (fun _ => 1) [] ∧ Below w.heap.size w w' ∧ ∀ k, Mb s bc bi k → w.heap.size ≤ k := mnew_ok 3 w (by omega) (by omega)
section
variable {w : World} {s bc bi : Nat} {c : Nat → Int} {q : List Nat}
theorem mgrey3 (h : Mk w s bc bi 3 c q) : Calls Try.prog 8 #[.pointer (some ⟨s, 0, none⟩), .int .i64 3] w fun e w' => e = .returned (.tuple #[.bool false, .int .i64 1102]) ∧ w' = w := mgrey_no h 3 (by omega)
theorem mgrey2 (h : Mk w s bc bi 3 c q) (hc : c 2 = 1) : Calls Try.prog 8 #[.pointer (some ⟨s, 0, none⟩), .int .i64 2] w fun e w' => e = .returned (.tuple #[.bool true, .int .i64 0]) ∧ Mk w' s bc bi 3 (setC c 2 2) (q ++ [2]) ∧ Bt (Mb s bc bi) w w' := mgrey_ok h 2 (by omega) hc
theorem mgrey2b (h : Mk w s bc bi 3 c q) (hc : c 2 ≠ 1) : Calls Try.prog 8 #[.pointer (some ⟨s, 0, none⟩), .int .i64 2] w fun e w' => e = .returned (.tuple #[.bool false, .int .i64 0]) ∧ w' = w := mgrey_old h 2 (by omega) hc
theorem mnext2 (h : Mk w s bc bi 3 c ([] ++ [2])) : Calls Try.prog 9 #[.pointer (some ⟨s, 0, none⟩)] w fun e w' => e = .returned (.tuple #[.int .i64 2, .bool true]) ∧ Mk w' s bc bi 3 (setC c 2 3) [] ∧ Bt (Mb s bc bi) w w' := mnext_ok h
theorem mcolour2 (h : Mk w s bc bi 3 c q) (hc : c 2 = 3) : Calls Try.prog 10 #[.pointer (some ⟨s, 0, none⟩), .int .i64 2] w fun e w' => e = .returned (.tuple #[.int .i64 3, .int .i64 0]) ∧ w' = w := by
  have := mcolour_ok h 2 (by omega)
  rw [hc] at this
  exact this
end
set_option maxRecDepth 20000 in
theorem awake_any (w : World) : Calls Try.prog 7 #[] w fun e w' => e = .returned (.bool true) ∧ Below w.heap.size w w' := by
  go_enter Try.func7, Try.ntmps7
  go_wp2_with (first
    | (go_at_call 6; refine (num_any _ _).mono ?_; rintro e w9 ⟨rfl, hw9⟩; replace hw9 := hw9.symm; subst hw9)
    | (go_at_call 5; refine (mnew3 _).mono ?_; rintro e w1 ⟨s, bc, bi, rfl, h1, b1, l1⟩)
    | (go_at_call 8; refine (mgrey3 h3).mono ?_; rintro e w5 ⟨rfl, hw5⟩; replace hw5 := hw5.symm; subst hw5)
    | (go_at_call 8; refine (mgrey2b h2 (by decide)).mono ?_; rintro e w4 ⟨rfl, hw4⟩; replace hw4 := hw4.symm; subst hw4)
    | (go_at_call 8; refine (mgrey2 h1 rfl).mono ?_; rintro e w2 ⟨rfl, h2, b2⟩)
    | (go_at_call 9; refine (mnext_none h3).mono ?_; rintro e w6 ⟨rfl, hw6⟩; replace hw6 := hw6.symm; subst hw6)
    | (go_at_call 9; refine (mnext2 h2).mono ?_; rintro e w3 ⟨rfl, h3, b3⟩)
    | (go_at_call 10; refine (mcolour2 h3 rfl).mono ?_; rintro e w7 ⟨rfl, hw7⟩; replace hw7 := hw7.symm; subst hw7))
  go_ret
  exact ⟨rfl, Bt.under b1 b1.size l1 (b2.trans b3)⟩
end Go.Proofs.Ytcafmloinmdeeaa
