/- types.Text at small numbers: by ttxt_gen.py. -/
import Derived.Test.YtdgndglinkcdbaaDoorMGJ1
import Derived.Deep.Upon
import Derived.Lib.ItoaNum
namespace Go.Proofs.YtdgndglinkcdbaaDoor
open Go.RowKit

set_option maxRecDepth 20000 in
theorem small0 (w : World) : Calls Tryd.prog 70 #[.int .i64 0] w fun e w' => e = .returned (.string ⟨#[48]⟩) ∧ w' = w := by
  go_enter Tryd.func70, Tryd.ntmps70
  go_wp2
  go_ret
  exact ⟨by kernel_rfl, rfl⟩
set_option maxRecDepth 20000 in
theorem fmt0 (w : World) : Calls Tryd.prog 65 #[.int .i64 0, .int .i64 10] w fun e w' => e = .returned (.string ⟨#[48]⟩) ∧ w' = w := by
  go_enter Tryd.func65, Tryd.ntmps65
  go_wp2_with (go_at_call 70; refine (small0 w).mono ?_; rintro e w9 ⟨rfl, hw9⟩; replace hw9 := hw9.symm; subst hw9)
  go_ret
  exact ⟨rfl, rfl⟩
set_option maxRecDepth 20000 in
theorem itoa'0 (w : World) : Calls Tryd.prog 53 #[.int .i64 0] w fun e w' => e = .returned (.string ⟨#[48]⟩) ∧ w' = w := by
  go_enter Tryd.func53, Tryd.ntmps53
  go_wp2_with (go_at_call 65; refine (fmt0 w).mono ?_; rintro e w9 ⟨rfl, hw9⟩; replace hw9 := hw9.symm; subst hw9)
  go_ret
  exact ⟨rfl, rfl⟩
set_option maxRecDepth 20000 in
theorem itoa0 (w : World) : Calls Tryd.prog 30 #[.int .i64 0] w fun e w' => e = .returned (.string ⟨#[48]⟩) ∧ w' = w := by
  go_enter Tryd.func30, Tryd.ntmps30
  go_wp2_with (go_at_call 53; refine (itoa'0 w).mono ?_; rintro e w9 ⟨rfl, hw9⟩; replace hw9 := hw9.symm; subst hw9)
  go_ret
  exact ⟨rfl, rfl⟩
set_option maxRecDepth 20000 in
theorem text16 (w : World) : Calls Tryd.prog 8 #[.int .i64 16] w fun e w' => e = .returned (.string ⟨#[99, 108, 97, 115, 115, 32, 48]⟩) ∧ w' = w := by
  go_enter Tryd.func8, Tryd.ntmps8
  go_wp2_with (go_at_call 30; refine (itoa0 w).mono ?_; rintro e w9 ⟨rfl, hw9⟩; replace hw9 := hw9.symm; subst hw9)
  go_ret
  exact ⟨by kernel_rfl, rfl⟩
set_option maxRecDepth 20000 in
theorem small1 (w : World) : Calls Tryd.prog 70 #[.int .i64 1] w fun e w' => e = .returned (.string ⟨#[49]⟩) ∧ w' = w := by
  go_enter Tryd.func70, Tryd.ntmps70
  go_wp2
  go_ret
  exact ⟨by kernel_rfl, rfl⟩
set_option maxRecDepth 20000 in
theorem fmt1 (w : World) : Calls Tryd.prog 65 #[.int .i64 1, .int .i64 10] w fun e w' => e = .returned (.string ⟨#[49]⟩) ∧ w' = w := by
  go_enter Tryd.func65, Tryd.ntmps65
  go_wp2_with (go_at_call 70; refine (small1 w).mono ?_; rintro e w9 ⟨rfl, hw9⟩; replace hw9 := hw9.symm; subst hw9)
  go_ret
  exact ⟨rfl, rfl⟩
set_option maxRecDepth 20000 in
theorem itoa'1 (w : World) : Calls Tryd.prog 53 #[.int .i64 1] w fun e w' => e = .returned (.string ⟨#[49]⟩) ∧ w' = w := by
  go_enter Tryd.func53, Tryd.ntmps53
  go_wp2_with (go_at_call 65; refine (fmt1 w).mono ?_; rintro e w9 ⟨rfl, hw9⟩; replace hw9 := hw9.symm; subst hw9)
  go_ret
  exact ⟨rfl, rfl⟩
set_option maxRecDepth 20000 in
theorem itoa1 (w : World) : Calls Tryd.prog 30 #[.int .i64 1] w fun e w' => e = .returned (.string ⟨#[49]⟩) ∧ w' = w := by
  go_enter Tryd.func30, Tryd.ntmps30
  go_wp2_with (go_at_call 53; refine (itoa'1 w).mono ?_; rintro e w9 ⟨rfl, hw9⟩; replace hw9 := hw9.symm; subst hw9)
  go_ret
  exact ⟨rfl, rfl⟩
set_option maxRecDepth 20000 in
theorem text17 (w : World) : Calls Tryd.prog 8 #[.int .i64 17] w fun e w' => e = .returned (.string ⟨#[99, 108, 97, 115, 115, 32, 49]⟩) ∧ w' = w := by
  go_enter Tryd.func8, Tryd.ntmps8
  go_wp2_with (go_at_call 30; refine (itoa1 w).mono ?_; rintro e w9 ⟨rfl, hw9⟩; replace hw9 := hw9.symm; subst hw9)
  go_ret
  exact ⟨by kernel_rfl, rfl⟩
set_option maxRecDepth 20000 in
theorem small2 (w : World) : Calls Tryd.prog 70 #[.int .i64 2] w fun e w' => e = .returned (.string ⟨#[50]⟩) ∧ w' = w := by
  go_enter Tryd.func70, Tryd.ntmps70
  go_wp2
  go_ret
  exact ⟨by kernel_rfl, rfl⟩
set_option maxRecDepth 20000 in
theorem fmt2 (w : World) : Calls Tryd.prog 65 #[.int .i64 2, .int .i64 10] w fun e w' => e = .returned (.string ⟨#[50]⟩) ∧ w' = w := by
  go_enter Tryd.func65, Tryd.ntmps65
  go_wp2_with (go_at_call 70; refine (small2 w).mono ?_; rintro e w9 ⟨rfl, hw9⟩; replace hw9 := hw9.symm; subst hw9)
  go_ret
  exact ⟨rfl, rfl⟩
set_option maxRecDepth 20000 in
theorem itoa'2 (w : World) : Calls Tryd.prog 53 #[.int .i64 2] w fun e w' => e = .returned (.string ⟨#[50]⟩) ∧ w' = w := by
  go_enter Tryd.func53, Tryd.ntmps53
  go_wp2_with (go_at_call 65; refine (fmt2 w).mono ?_; rintro e w9 ⟨rfl, hw9⟩; replace hw9 := hw9.symm; subst hw9)
  go_ret
  exact ⟨rfl, rfl⟩
set_option maxRecDepth 20000 in
theorem itoa2 (w : World) : Calls Tryd.prog 30 #[.int .i64 2] w fun e w' => e = .returned (.string ⟨#[50]⟩) ∧ w' = w := by
  go_enter Tryd.func30, Tryd.ntmps30
  go_wp2_with (go_at_call 53; refine (itoa'2 w).mono ?_; rintro e w9 ⟨rfl, hw9⟩; replace hw9 := hw9.symm; subst hw9)
  go_ret
  exact ⟨rfl, rfl⟩
set_option maxRecDepth 20000 in
theorem text18 (w : World) : Calls Tryd.prog 8 #[.int .i64 18] w fun e w' => e = .returned (.string ⟨#[99, 108, 97, 115, 115, 32, 50]⟩) ∧ w' = w := by
  go_enter Tryd.func8, Tryd.ntmps8
  go_wp2_with (go_at_call 30; refine (itoa2 w).mono ?_; rintro e w9 ⟨rfl, hw9⟩; replace hw9 := hw9.symm; subst hw9)
  go_ret
  exact ⟨by kernel_rfl, rfl⟩
set_option maxRecDepth 20000 in
theorem small3 (w : World) : Calls Tryd.prog 70 #[.int .i64 3] w fun e w' => e = .returned (.string ⟨#[51]⟩) ∧ w' = w := by
  go_enter Tryd.func70, Tryd.ntmps70
  go_wp2
  go_ret
  exact ⟨by kernel_rfl, rfl⟩
set_option maxRecDepth 20000 in
theorem fmt3 (w : World) : Calls Tryd.prog 65 #[.int .i64 3, .int .i64 10] w fun e w' => e = .returned (.string ⟨#[51]⟩) ∧ w' = w := by
  go_enter Tryd.func65, Tryd.ntmps65
  go_wp2_with (go_at_call 70; refine (small3 w).mono ?_; rintro e w9 ⟨rfl, hw9⟩; replace hw9 := hw9.symm; subst hw9)
  go_ret
  exact ⟨rfl, rfl⟩
set_option maxRecDepth 20000 in
theorem itoa'3 (w : World) : Calls Tryd.prog 53 #[.int .i64 3] w fun e w' => e = .returned (.string ⟨#[51]⟩) ∧ w' = w := by
  go_enter Tryd.func53, Tryd.ntmps53
  go_wp2_with (go_at_call 65; refine (fmt3 w).mono ?_; rintro e w9 ⟨rfl, hw9⟩; replace hw9 := hw9.symm; subst hw9)
  go_ret
  exact ⟨rfl, rfl⟩
set_option maxRecDepth 20000 in
theorem itoa3 (w : World) : Calls Tryd.prog 30 #[.int .i64 3] w fun e w' => e = .returned (.string ⟨#[51]⟩) ∧ w' = w := by
  go_enter Tryd.func30, Tryd.ntmps30
  go_wp2_with (go_at_call 53; refine (itoa'3 w).mono ?_; rintro e w9 ⟨rfl, hw9⟩; replace hw9 := hw9.symm; subst hw9)
  go_ret
  exact ⟨rfl, rfl⟩
set_option maxRecDepth 20000 in
theorem text19 (w : World) : Calls Tryd.prog 8 #[.int .i64 19] w fun e w' => e = .returned (.string ⟨#[99, 108, 97, 115, 115, 32, 51]⟩) ∧ w' = w := by
  go_enter Tryd.func8, Tryd.ntmps8
  go_wp2_with (go_at_call 30; refine (itoa3 w).mono ?_; rintro e w9 ⟨rfl, hw9⟩; replace hw9 := hw9.symm; subst hw9)
  go_ret
  exact ⟨by kernel_rfl, rfl⟩
set_option maxRecDepth 20000 in
theorem small4 (w : World) : Calls Tryd.prog 70 #[.int .i64 4] w fun e w' => e = .returned (.string ⟨#[52]⟩) ∧ w' = w := by
  go_enter Tryd.func70, Tryd.ntmps70
  go_wp2
  go_ret
  exact ⟨by kernel_rfl, rfl⟩
set_option maxRecDepth 20000 in
theorem fmt4 (w : World) : Calls Tryd.prog 65 #[.int .i64 4, .int .i64 10] w fun e w' => e = .returned (.string ⟨#[52]⟩) ∧ w' = w := by
  go_enter Tryd.func65, Tryd.ntmps65
  go_wp2_with (go_at_call 70; refine (small4 w).mono ?_; rintro e w9 ⟨rfl, hw9⟩; replace hw9 := hw9.symm; subst hw9)
  go_ret
  exact ⟨rfl, rfl⟩
set_option maxRecDepth 20000 in
theorem itoa'4 (w : World) : Calls Tryd.prog 53 #[.int .i64 4] w fun e w' => e = .returned (.string ⟨#[52]⟩) ∧ w' = w := by
  go_enter Tryd.func53, Tryd.ntmps53
  go_wp2_with (go_at_call 65; refine (fmt4 w).mono ?_; rintro e w9 ⟨rfl, hw9⟩; replace hw9 := hw9.symm; subst hw9)
  go_ret
  exact ⟨rfl, rfl⟩
set_option maxRecDepth 20000 in
theorem itoa4 (w : World) : Calls Tryd.prog 30 #[.int .i64 4] w fun e w' => e = .returned (.string ⟨#[52]⟩) ∧ w' = w := by
  go_enter Tryd.func30, Tryd.ntmps30
  go_wp2_with (go_at_call 53; refine (itoa'4 w).mono ?_; rintro e w9 ⟨rfl, hw9⟩; replace hw9 := hw9.symm; subst hw9)
  go_ret
  exact ⟨rfl, rfl⟩
set_option maxRecDepth 20000 in
theorem text20 (w : World) : Calls Tryd.prog 8 #[.int .i64 20] w fun e w' => e = .returned (.string ⟨#[99, 108, 97, 115, 115, 32, 52]⟩) ∧ w' = w := by
  go_enter Tryd.func8, Tryd.ntmps8
  go_wp2_with (go_at_call 30; refine (itoa4 w).mono ?_; rintro e w9 ⟨rfl, hw9⟩; replace hw9 := hw9.symm; subst hw9)
  go_ret
  exact ⟨by kernel_rfl, rfl⟩
set_option maxRecDepth 20000 in
theorem small5 (w : World) : Calls Tryd.prog 70 #[.int .i64 5] w fun e w' => e = .returned (.string ⟨#[53]⟩) ∧ w' = w := by
  go_enter Tryd.func70, Tryd.ntmps70
  go_wp2
  go_ret
  exact ⟨by kernel_rfl, rfl⟩
set_option maxRecDepth 20000 in
theorem fmt5 (w : World) : Calls Tryd.prog 65 #[.int .i64 5, .int .i64 10] w fun e w' => e = .returned (.string ⟨#[53]⟩) ∧ w' = w := by
  go_enter Tryd.func65, Tryd.ntmps65
  go_wp2_with (go_at_call 70; refine (small5 w).mono ?_; rintro e w9 ⟨rfl, hw9⟩; replace hw9 := hw9.symm; subst hw9)
  go_ret
  exact ⟨rfl, rfl⟩
set_option maxRecDepth 20000 in
theorem itoa'5 (w : World) : Calls Tryd.prog 53 #[.int .i64 5] w fun e w' => e = .returned (.string ⟨#[53]⟩) ∧ w' = w := by
  go_enter Tryd.func53, Tryd.ntmps53
  go_wp2_with (go_at_call 65; refine (fmt5 w).mono ?_; rintro e w9 ⟨rfl, hw9⟩; replace hw9 := hw9.symm; subst hw9)
  go_ret
  exact ⟨rfl, rfl⟩
set_option maxRecDepth 20000 in
theorem itoa5 (w : World) : Calls Tryd.prog 30 #[.int .i64 5] w fun e w' => e = .returned (.string ⟨#[53]⟩) ∧ w' = w := by
  go_enter Tryd.func30, Tryd.ntmps30
  go_wp2_with (go_at_call 53; refine (itoa'5 w).mono ?_; rintro e w9 ⟨rfl, hw9⟩; replace hw9 := hw9.symm; subst hw9)
  go_ret
  exact ⟨rfl, rfl⟩
set_option maxRecDepth 20000 in
theorem text21 (w : World) : Calls Tryd.prog 8 #[.int .i64 21] w fun e w' => e = .returned (.string ⟨#[99, 108, 97, 115, 115, 32, 53]⟩) ∧ w' = w := by
  go_enter Tryd.func8, Tryd.ntmps8
  go_wp2_with (go_at_call 30; refine (itoa5 w).mono ?_; rintro e w9 ⟨rfl, hw9⟩; replace hw9 := hw9.symm; subst hw9)
  go_ret
  exact ⟨by kernel_rfl, rfl⟩
set_option maxRecDepth 20000 in
theorem small6 (w : World) : Calls Tryd.prog 70 #[.int .i64 6] w fun e w' => e = .returned (.string ⟨#[54]⟩) ∧ w' = w := by
  go_enter Tryd.func70, Tryd.ntmps70
  go_wp2
  go_ret
  exact ⟨by kernel_rfl, rfl⟩
set_option maxRecDepth 20000 in
theorem fmt6 (w : World) : Calls Tryd.prog 65 #[.int .i64 6, .int .i64 10] w fun e w' => e = .returned (.string ⟨#[54]⟩) ∧ w' = w := by
  go_enter Tryd.func65, Tryd.ntmps65
  go_wp2_with (go_at_call 70; refine (small6 w).mono ?_; rintro e w9 ⟨rfl, hw9⟩; replace hw9 := hw9.symm; subst hw9)
  go_ret
  exact ⟨rfl, rfl⟩
set_option maxRecDepth 20000 in
theorem itoa'6 (w : World) : Calls Tryd.prog 53 #[.int .i64 6] w fun e w' => e = .returned (.string ⟨#[54]⟩) ∧ w' = w := by
  go_enter Tryd.func53, Tryd.ntmps53
  go_wp2_with (go_at_call 65; refine (fmt6 w).mono ?_; rintro e w9 ⟨rfl, hw9⟩; replace hw9 := hw9.symm; subst hw9)
  go_ret
  exact ⟨rfl, rfl⟩
set_option maxRecDepth 20000 in
theorem itoa6 (w : World) : Calls Tryd.prog 30 #[.int .i64 6] w fun e w' => e = .returned (.string ⟨#[54]⟩) ∧ w' = w := by
  go_enter Tryd.func30, Tryd.ntmps30
  go_wp2_with (go_at_call 53; refine (itoa'6 w).mono ?_; rintro e w9 ⟨rfl, hw9⟩; replace hw9 := hw9.symm; subst hw9)
  go_ret
  exact ⟨rfl, rfl⟩
set_option maxRecDepth 20000 in
theorem text22 (w : World) : Calls Tryd.prog 8 #[.int .i64 22] w fun e w' => e = .returned (.string ⟨#[99, 108, 97, 115, 115, 32, 54]⟩) ∧ w' = w := by
  go_enter Tryd.func8, Tryd.ntmps8
  go_wp2_with (go_at_call 30; refine (itoa6 w).mono ?_; rintro e w9 ⟨rfl, hw9⟩; replace hw9 := hw9.symm; subst hw9)
  go_ret
  exact ⟨by kernel_rfl, rfl⟩
set_option maxRecDepth 20000 in
theorem small7 (w : World) : Calls Tryd.prog 70 #[.int .i64 7] w fun e w' => e = .returned (.string ⟨#[55]⟩) ∧ w' = w := by
  go_enter Tryd.func70, Tryd.ntmps70
  go_wp2
  go_ret
  exact ⟨by kernel_rfl, rfl⟩
set_option maxRecDepth 20000 in
theorem fmt7 (w : World) : Calls Tryd.prog 65 #[.int .i64 7, .int .i64 10] w fun e w' => e = .returned (.string ⟨#[55]⟩) ∧ w' = w := by
  go_enter Tryd.func65, Tryd.ntmps65
  go_wp2_with (go_at_call 70; refine (small7 w).mono ?_; rintro e w9 ⟨rfl, hw9⟩; replace hw9 := hw9.symm; subst hw9)
  go_ret
  exact ⟨rfl, rfl⟩
set_option maxRecDepth 20000 in
theorem itoa'7 (w : World) : Calls Tryd.prog 53 #[.int .i64 7] w fun e w' => e = .returned (.string ⟨#[55]⟩) ∧ w' = w := by
  go_enter Tryd.func53, Tryd.ntmps53
  go_wp2_with (go_at_call 65; refine (fmt7 w).mono ?_; rintro e w9 ⟨rfl, hw9⟩; replace hw9 := hw9.symm; subst hw9)
  go_ret
  exact ⟨rfl, rfl⟩
set_option maxRecDepth 20000 in
theorem itoa7 (w : World) : Calls Tryd.prog 30 #[.int .i64 7] w fun e w' => e = .returned (.string ⟨#[55]⟩) ∧ w' = w := by
  go_enter Tryd.func30, Tryd.ntmps30
  go_wp2_with (go_at_call 53; refine (itoa'7 w).mono ?_; rintro e w9 ⟨rfl, hw9⟩; replace hw9 := hw9.symm; subst hw9)
  go_ret
  exact ⟨rfl, rfl⟩
set_option maxRecDepth 20000 in
theorem text23 (w : World) : Calls Tryd.prog 8 #[.int .i64 23] w fun e w' => e = .returned (.string ⟨#[99, 108, 97, 115, 115, 32, 55]⟩) ∧ w' = w := by
  go_enter Tryd.func8, Tryd.ntmps8
  go_wp2_with (go_at_call 30; refine (itoa7 w).mono ?_; rintro e w9 ⟨rfl, hw9⟩; replace hw9 := hw9.symm; subst hw9)
  go_ret
  exact ⟨by kernel_rfl, rfl⟩
set_option maxRecDepth 20000 in
theorem small8 (w : World) : Calls Tryd.prog 70 #[.int .i64 8] w fun e w' => e = .returned (.string ⟨#[56]⟩) ∧ w' = w := by
  go_enter Tryd.func70, Tryd.ntmps70
  go_wp2
  go_ret
  exact ⟨by kernel_rfl, rfl⟩
set_option maxRecDepth 20000 in
theorem fmt8 (w : World) : Calls Tryd.prog 65 #[.int .i64 8, .int .i64 10] w fun e w' => e = .returned (.string ⟨#[56]⟩) ∧ w' = w := by
  go_enter Tryd.func65, Tryd.ntmps65
  go_wp2_with (go_at_call 70; refine (small8 w).mono ?_; rintro e w9 ⟨rfl, hw9⟩; replace hw9 := hw9.symm; subst hw9)
  go_ret
  exact ⟨rfl, rfl⟩
set_option maxRecDepth 20000 in
theorem itoa'8 (w : World) : Calls Tryd.prog 53 #[.int .i64 8] w fun e w' => e = .returned (.string ⟨#[56]⟩) ∧ w' = w := by
  go_enter Tryd.func53, Tryd.ntmps53
  go_wp2_with (go_at_call 65; refine (fmt8 w).mono ?_; rintro e w9 ⟨rfl, hw9⟩; replace hw9 := hw9.symm; subst hw9)
  go_ret
  exact ⟨rfl, rfl⟩
set_option maxRecDepth 20000 in
theorem itoa8 (w : World) : Calls Tryd.prog 30 #[.int .i64 8] w fun e w' => e = .returned (.string ⟨#[56]⟩) ∧ w' = w := by
  go_enter Tryd.func30, Tryd.ntmps30
  go_wp2_with (go_at_call 53; refine (itoa'8 w).mono ?_; rintro e w9 ⟨rfl, hw9⟩; replace hw9 := hw9.symm; subst hw9)
  go_ret
  exact ⟨rfl, rfl⟩
set_option maxRecDepth 20000 in
theorem text24 (w : World) : Calls Tryd.prog 8 #[.int .i64 24] w fun e w' => e = .returned (.string ⟨#[99, 108, 97, 115, 115, 32, 56]⟩) ∧ w' = w := by
  go_enter Tryd.func8, Tryd.ntmps8
  go_wp2_with (go_at_call 30; refine (itoa8 w).mono ?_; rintro e w9 ⟨rfl, hw9⟩; replace hw9 := hw9.symm; subst hw9)
  go_ret
  exact ⟨by kernel_rfl, rfl⟩
set_option maxRecDepth 20000 in
theorem small9 (w : World) : Calls Tryd.prog 70 #[.int .i64 9] w fun e w' => e = .returned (.string ⟨#[57]⟩) ∧ w' = w := by
  go_enter Tryd.func70, Tryd.ntmps70
  go_wp2
  go_ret
  exact ⟨by kernel_rfl, rfl⟩
set_option maxRecDepth 20000 in
theorem fmt9 (w : World) : Calls Tryd.prog 65 #[.int .i64 9, .int .i64 10] w fun e w' => e = .returned (.string ⟨#[57]⟩) ∧ w' = w := by
  go_enter Tryd.func65, Tryd.ntmps65
  go_wp2_with (go_at_call 70; refine (small9 w).mono ?_; rintro e w9 ⟨rfl, hw9⟩; replace hw9 := hw9.symm; subst hw9)
  go_ret
  exact ⟨rfl, rfl⟩
set_option maxRecDepth 20000 in
theorem itoa'9 (w : World) : Calls Tryd.prog 53 #[.int .i64 9] w fun e w' => e = .returned (.string ⟨#[57]⟩) ∧ w' = w := by
  go_enter Tryd.func53, Tryd.ntmps53
  go_wp2_with (go_at_call 65; refine (fmt9 w).mono ?_; rintro e w9 ⟨rfl, hw9⟩; replace hw9 := hw9.symm; subst hw9)
  go_ret
  exact ⟨rfl, rfl⟩
set_option maxRecDepth 20000 in
theorem itoa9 (w : World) : Calls Tryd.prog 30 #[.int .i64 9] w fun e w' => e = .returned (.string ⟨#[57]⟩) ∧ w' = w := by
  go_enter Tryd.func30, Tryd.ntmps30
  go_wp2_with (go_at_call 53; refine (itoa'9 w).mono ?_; rintro e w9 ⟨rfl, hw9⟩; replace hw9 := hw9.symm; subst hw9)
  go_ret
  exact ⟨rfl, rfl⟩
set_option maxRecDepth 20000 in
theorem text25 (w : World) : Calls Tryd.prog 8 #[.int .i64 25] w fun e w' => e = .returned (.string ⟨#[99, 108, 97, 115, 115, 32, 57]⟩) ∧ w' = w := by
  go_enter Tryd.func8, Tryd.ntmps8
  go_wp2_with (go_at_call 30; refine (itoa9 w).mono ?_; rintro e w9 ⟨rfl, hw9⟩; replace hw9 := hw9.symm; subst hw9)
  go_ret
  exact ⟨by kernel_rfl, rfl⟩
set_option maxRecDepth 20000 in
theorem small10 (w : World) : Calls Tryd.prog 70 #[.int .i64 10] w fun e w' => e = .returned (.string ⟨#[49, 48]⟩) ∧ w' = w := by
  go_enter Tryd.func70, Tryd.ntmps70
  go_wp2
  go_ret
  exact ⟨by kernel_rfl, rfl⟩
set_option maxRecDepth 20000 in
theorem fmt10 (w : World) : Calls Tryd.prog 65 #[.int .i64 10, .int .i64 10] w fun e w' => e = .returned (.string ⟨#[49, 48]⟩) ∧ w' = w := by
  go_enter Tryd.func65, Tryd.ntmps65
  go_wp2_with (go_at_call 70; refine (small10 w).mono ?_; rintro e w9 ⟨rfl, hw9⟩; replace hw9 := hw9.symm; subst hw9)
  go_ret
  exact ⟨rfl, rfl⟩
set_option maxRecDepth 20000 in
theorem itoa'10 (w : World) : Calls Tryd.prog 53 #[.int .i64 10] w fun e w' => e = .returned (.string ⟨#[49, 48]⟩) ∧ w' = w := by
  go_enter Tryd.func53, Tryd.ntmps53
  go_wp2_with (go_at_call 65; refine (fmt10 w).mono ?_; rintro e w9 ⟨rfl, hw9⟩; replace hw9 := hw9.symm; subst hw9)
  go_ret
  exact ⟨rfl, rfl⟩
set_option maxRecDepth 20000 in
theorem itoa10 (w : World) : Calls Tryd.prog 30 #[.int .i64 10] w fun e w' => e = .returned (.string ⟨#[49, 48]⟩) ∧ w' = w := by
  go_enter Tryd.func30, Tryd.ntmps30
  go_wp2_with (go_at_call 53; refine (itoa'10 w).mono ?_; rintro e w9 ⟨rfl, hw9⟩; replace hw9 := hw9.symm; subst hw9)
  go_ret
  exact ⟨rfl, rfl⟩
set_option maxRecDepth 20000 in
theorem text26 (w : World) : Calls Tryd.prog 8 #[.int .i64 26] w fun e w' => e = .returned (.string ⟨#[99, 108, 97, 115, 115, 32, 49, 48]⟩) ∧ w' = w := by
  go_enter Tryd.func8, Tryd.ntmps8
  go_wp2_with (go_at_call 30; refine (itoa10 w).mono ?_; rintro e w9 ⟨rfl, hw9⟩; replace hw9 := hw9.symm; subst hw9)
  go_ret
  exact ⟨by kernel_rfl, rfl⟩
set_option maxRecDepth 20000 in
theorem small12 (w : World) : Calls Tryd.prog 70 #[.int .i64 12] w fun e w' => e = .returned (.string ⟨#[49, 50]⟩) ∧ w' = w := by
  go_enter Tryd.func70, Tryd.ntmps70
  go_wp2
  go_ret
  exact ⟨by kernel_rfl, rfl⟩
set_option maxRecDepth 20000 in
theorem fmt12 (w : World) : Calls Tryd.prog 65 #[.int .i64 12, .int .i64 10] w fun e w' => e = .returned (.string ⟨#[49, 50]⟩) ∧ w' = w := by
  go_enter Tryd.func65, Tryd.ntmps65
  go_wp2_with (go_at_call 70; refine (small12 w).mono ?_; rintro e w9 ⟨rfl, hw9⟩; replace hw9 := hw9.symm; subst hw9)
  go_ret
  exact ⟨rfl, rfl⟩
set_option maxRecDepth 20000 in
theorem itoa'12 (w : World) : Calls Tryd.prog 53 #[.int .i64 12] w fun e w' => e = .returned (.string ⟨#[49, 50]⟩) ∧ w' = w := by
  go_enter Tryd.func53, Tryd.ntmps53
  go_wp2_with (go_at_call 65; refine (fmt12 w).mono ?_; rintro e w9 ⟨rfl, hw9⟩; replace hw9 := hw9.symm; subst hw9)
  go_ret
  exact ⟨rfl, rfl⟩
set_option maxRecDepth 20000 in
theorem itoa12 (w : World) : Calls Tryd.prog 30 #[.int .i64 12] w fun e w' => e = .returned (.string ⟨#[49, 50]⟩) ∧ w' = w := by
  go_enter Tryd.func30, Tryd.ntmps30
  go_wp2_with (go_at_call 53; refine (itoa'12 w).mono ?_; rintro e w9 ⟨rfl, hw9⟩; replace hw9 := hw9.symm; subst hw9)
  go_ret
  exact ⟨rfl, rfl⟩
set_option maxRecDepth 20000 in
theorem text28 (w : World) : Calls Tryd.prog 8 #[.int .i64 28] w fun e w' => e = .returned (.string ⟨#[99, 108, 97, 115, 115, 32, 49, 50]⟩) ∧ w' = w := by
  go_enter Tryd.func8, Tryd.ntmps8
  go_wp2_with (go_at_call 30; refine (itoa12 w).mono ?_; rintro e w9 ⟨rfl, hw9⟩; replace hw9 := hw9.symm; subst hw9)
  go_ret
  exact ⟨by kernel_rfl, rfl⟩
set_option maxRecDepth 20000 in
theorem small13 (w : World) : Calls Tryd.prog 70 #[.int .i64 13] w fun e w' => e = .returned (.string ⟨#[49, 51]⟩) ∧ w' = w := by
  go_enter Tryd.func70, Tryd.ntmps70
  go_wp2
  go_ret
  exact ⟨by kernel_rfl, rfl⟩
set_option maxRecDepth 20000 in
theorem fmt13 (w : World) : Calls Tryd.prog 65 #[.int .i64 13, .int .i64 10] w fun e w' => e = .returned (.string ⟨#[49, 51]⟩) ∧ w' = w := by
  go_enter Tryd.func65, Tryd.ntmps65
  go_wp2_with (go_at_call 70; refine (small13 w).mono ?_; rintro e w9 ⟨rfl, hw9⟩; replace hw9 := hw9.symm; subst hw9)
  go_ret
  exact ⟨rfl, rfl⟩
set_option maxRecDepth 20000 in
theorem itoa'13 (w : World) : Calls Tryd.prog 53 #[.int .i64 13] w fun e w' => e = .returned (.string ⟨#[49, 51]⟩) ∧ w' = w := by
  go_enter Tryd.func53, Tryd.ntmps53
  go_wp2_with (go_at_call 65; refine (fmt13 w).mono ?_; rintro e w9 ⟨rfl, hw9⟩; replace hw9 := hw9.symm; subst hw9)
  go_ret
  exact ⟨rfl, rfl⟩
set_option maxRecDepth 20000 in
theorem itoa13 (w : World) : Calls Tryd.prog 30 #[.int .i64 13] w fun e w' => e = .returned (.string ⟨#[49, 51]⟩) ∧ w' = w := by
  go_enter Tryd.func30, Tryd.ntmps30
  go_wp2_with (go_at_call 53; refine (itoa'13 w).mono ?_; rintro e w9 ⟨rfl, hw9⟩; replace hw9 := hw9.symm; subst hw9)
  go_ret
  exact ⟨rfl, rfl⟩
set_option maxRecDepth 20000 in
theorem text29 (w : World) : Calls Tryd.prog 8 #[.int .i64 29] w fun e w' => e = .returned (.string ⟨#[99, 108, 97, 115, 115, 32, 49, 51]⟩) ∧ w' = w := by
  go_enter Tryd.func8, Tryd.ntmps8
  go_wp2_with (go_at_call 30; refine (itoa13 w).mono ?_; rintro e w9 ⟨rfl, hw9⟩; replace hw9 := hw9.symm; subst hw9)
  go_ret
  exact ⟨by kernel_rfl, rfl⟩
set_option maxRecDepth 20000 in
theorem text0 (w : World) : Calls Tryd.prog 8 #[.int .i64 0] w fun e w' => e = .returned (.string ⟨#[110, 111, 110, 101]⟩) ∧ w' = w := by
  go_enter Tryd.func8, Tryd.ntmps8
  go_wp2_with (fail)
  go_ret
  exact ⟨rfl, rfl⟩
set_option maxRecDepth 20000 in
theorem text1 (w : World) : Calls Tryd.prog 8 #[.int .i64 1] w fun e w' => e = .returned (.string ⟨#[105, 110, 116]⟩) ∧ w' = w := by
  go_enter Tryd.func8, Tryd.ntmps8
  go_wp2_with (fail)
  go_ret
  exact ⟨rfl, rfl⟩
set_option maxRecDepth 20000 in
theorem text2 (w : World) : Calls Tryd.prog 8 #[.int .i64 2] w fun e w' => e = .returned (.string ⟨#[110, 117, 108, 108]⟩) ∧ w' = w := by
  go_enter Tryd.func8, Tryd.ntmps8
  go_wp2_with (fail)
  go_ret
  exact ⟨rfl, rfl⟩
set_option maxRecDepth 20000 in
theorem text3 (w : World) : Calls Tryd.prog 8 #[.int .i64 3] w fun e w' => e = .returned (.string ⟨#[105, 110, 116, 115]⟩) ∧ w' = w := by
  go_enter Tryd.func8, Tryd.ntmps8
  go_wp2_with (fail)
  go_ret
  exact ⟨rfl, rfl⟩
set_option maxRecDepth 20000 in
theorem text4 (w : World) : Calls Tryd.prog 8 #[.int .i64 4] w fun e w' => e = .returned (.string ⟨#[114, 101, 102, 115]⟩) ∧ w' = w := by
  go_enter Tryd.func8, Tryd.ntmps8
  go_wp2_with (fail)
  go_ret
  exact ⟨rfl, rfl⟩
set_option maxRecDepth 20000 in
theorem text_no {k : Int} (h0 : (k == 0) = false) (h1 : (k == 1) = false) (h2 : (k == 2) = false) (h3 : (k == 3) = false) (h4 : (k == 4) = false) (h5 : decide (k < 16) = true) (w : World) : Calls Tryd.prog 8 #[.int .i64 k] w fun e w' => e = .returned (.string ⟨#[63]⟩) ∧ w' = w := by
  go_enter Tryd.func8, Tryd.ntmps8
  go_wp2_with (fail)
  go_ret
  exact ⟨rfl, rfl⟩
end Go.Proofs.YtdgndglinkcdbaaDoor
/- gneissref0.Decimal of a number from 0 on. -/
namespace Go.Proofs.YtdgndglinkcdbaaDoor
open Go.RowKit

/-- A number's digits, as bytes. -/
def dig (n : Nat) : List Int := (Lib.decDigits n).map fun b => (b.toNat : Int)
theorem dig_lt {n : Nat} (h : n < 10) : dig n = [48 + (n : Int)] := by
  unfold dig
  rw [Lib.decDigits, dif_pos h]
  simp only [List.map_cons, List.map_nil]
  have : (UInt8.ofNat (48 + n)).toNat = 48 + n := by simp; omega
  rw [this]; simp
theorem dig_ge {n : Nat} (h : 10 ≤ n) : dig n = dig (n / 10) ++ [48 + ((n % 10 : Nat) : Int)] := by
  unfold dig
  rw [Lib.decDigits, dif_neg (by omega)]
  simp only [List.map_append, List.map_cons, List.map_nil]
  have : (UInt8.ofNat (48 + n % 10)).toNat = 48 + n % 10 := by simp; omega
  rw [this]; simp
/-- What is told between two rounds: n is left of x, l is written. -/
def Dg (x n : Nat) (l : List Int) : Prop := (l = [] ∧ n = x) ∨ (n = 0 ∧ l = dig x) ∨ (0 < n ∧ l ≠ [] ∧ dig n ++ l = dig x)
theorem Dg.next {x n : Nat} {l : List Int} (h : Dg x n l) (hn : 0 < n ∨ l = []) : Dg x (n / 10) ((48 + ((n % 10 : Nat) : Int)) :: l) := by
  have key : dig n ++ l = dig x → Dg x (n / 10) ((48 + ((n % 10 : Nat) : Int)) :: l) := fun e => by
    by_cases h10 : n < 10
    · refine .inr (.inl ⟨by omega, ?_⟩)
      rw [← e, dig_lt h10, Nat.mod_eq_of_lt h10]; rfl
    · refine .inr (.inr ⟨by omega, by simp, ?_⟩)
      rw [← e, dig_ge (n := n) (by omega)]; simp
  rcases h with ⟨rfl, rfl⟩ | ⟨rfl, rfl⟩ | ⟨h1, h2, h3⟩
  · exact key (by simp)
  · rcases hn with hn | hn
    · omega
    · exfalso
      have : dig x ≠ [] := by
        by_cases h9 : x < 10
        · rw [dig_lt h9]; simp
        · rw [dig_ge (by omega)]; simp
      exact this hn
  · exact key h3

theorem infoD8 : (Tryd.prog.info? 5).map (fun i => (i.zero, i.size, i.bytes)) = some (some (.int .u8 0), 1, 1) := by kernel_rfl
def appD (ats : Array TypeId) (ty : TypeId) (args : Array Value) := Builtin.append_ ats ty args
theorem app_D (ats : Array TypeId) (ty : TypeId) (args : Array Value) : Builtin.append_ ats ty args = appD ats ty args := rfl
/-- A slice whose bytes are l; nothing is said of who owns it. -/
def Db (w : World) (v : Value) (l : List Int) : Prop := (l = [] ∧ v = .slice none 0 0) ∨ ∃ g c, v = .slice (some ⟨g, 0, none⟩) l.length c ∧ l ≠ [] ∧ ∀ j u, (l.map (Value.int .u8))[j]? = some u → w.cell? ((⟨g, 0, none⟩ : Addr).add j) = some u
theorem Db.len {w : World} {v : Value} {l : List Int} (h : Db w v l) : ∃ a c, v = .slice a l.length c := by
  rcases h with ⟨rfl, rfl⟩ | ⟨g, c, rfl, -⟩
  · exact ⟨_, _, rfl⟩
  · exact ⟨_, _, rfl⟩
theorem addD (B o j : Nat) : (⟨B, o, none⟩ : Addr).add j = ⟨B, o + j, none⟩ := by unfold Addr.add; split <;> simp_all
theorem appD_ok {w : World} {v : Value} {l : List Int} (h : Db w v l) (d : Int) (hl : l.length ≤ 30) :
    ∃ a c w', (appD #[54, 54] 54 #[.slice (some ⟨w.heap.size, 0, none⟩) 1 1, v]).run Tryd.prog (w.alloc (.cells #[.int .u8 d] 5)) = .ok (.slice a (l.length + 1) c) w' ∧ Db w' (.slice a (l.length + 1) c) (d :: l) ∧ Below w.heap.size w w' := by
  obtain ⟨i, hi, hzz⟩ := Option.map_eq_some_iff.1 infoD8
  simp only [Prod.mk.injEq] at hzz
  obtain ⟨hz, hs, hby⟩ := hzz
  have hb1 : Below w.heap.size w (w.alloc (.cells #[.int .u8 d] 5)) := (Below.refl _ _).alloc (Nat.le_refl _) _
  have hnew := cell_one_new w (.int .u8 d) 5
  rcases h with ⟨rfl, rfl⟩ | ⟨g, c, rfl, hne, hc⟩
  · exact ⟨_, _, _, run_append_nothing (P := Tryd.prog) _ 54 54 54 5 i Tryd.underlying54 hi _ 1 1 (Nat.le_refl _) _ (Src.ofNil _ Tryd.underlying54 0), .inr ⟨_, _, rfl, by simp, hnew⟩, hb1⟩
  · have hp : 0 < l.length := List.length_pos_iff.2 hne
    have hc1 : ∀ j u, (l.map (Value.int .u8))[j]? = some u → (w.alloc (.cells #[.int .u8 d] 5)).cell? ((⟨g, 0, none⟩ : Addr).add j) = some u := fun j u hj => by
      have q := hc j u hj
      rw [addD] at q ⊢
      have hg : g < w.heap.size := by
        rcases Nat.lt_or_ge g w.heap.size with k | k
        · exact k
        · simp [World.cell?, Array.getElem?_eq_none k] at q
      simp only [World.cell?, Below.heap_alloc _ _ _ hg] at q ⊢
      exact q
    have hr := run_append_grow_src (P := Tryd.prog) (w.alloc (.cells #[.int .u8 d] 5)) 54 54 54 5 i (.int .u8 0) Tryd.underlying54 hi hz (some ⟨w.heap.size, 0, none⟩) 1 1 [.int .u8 d] (by rw [hs]; exact run_firstCells_some _ 1 1 _ 1 1 [.int .u8 d] rfl (by simpa using hnew)) (.slice (some ⟨g, 0, none⟩) l.length c) l.length (l.map (Value.int .u8)) (by rw [hs]; exact Src.ofSlice _ Tryd.underlying54 _ _ _ _ (by simp) hc1 (by simp [Value.oneCell'])) (by omega) (by omega) (by rw [hby]; exact growslice_fits (by omega) (by omega))
    rw [Nat.add_comm 1 l.length] at hr
    refine ⟨_, _, _, hr, .inr ⟨_, _, rfl, by simp, fun j u hj => ?_⟩, ?_⟩
    · rw [addD, Nat.zero_add]
      have e := heap_alloc_new (w.alloc (.cells #[.int .u8 d] 5)).drew (.cells (([Value.int .u8 d] ++ l.map (Value.int .u8)).toArray ++ Builtin.zeroCells (Value.int .u8 0).cells (grownCap (w.alloc (.cells #[.int .u8 d] 5)) (l.length + 1) 1 5 - (l.length + 1))) 5)
      simp only [World.cell?]
      rw [show (w.alloc (.cells #[.int .u8 d] 5)).heap.size = (w.alloc (.cells #[.int .u8 d] 5)).drew.heap.size from rfl, e]
      have hjl : j < ([Value.int .u8 d] ++ l.map (Value.int .u8)).length := (List.getElem?_eq_some_iff.1 hj).1
      simp only
      rw [Array.getElem?_append_left (by simpa using hjl)]
      simpa using hj
    · have q : Below w.heap.size w (w.alloc (.cells #[.int .u8 d] 5)).drew := ⟨hb1.os, hb1.tape, hb1.output, hb1.size, hb1.block⟩
      exact q.alloc q.size _
attribute [local go_sem ↓] app_D
theorem dec_next {x n r q : Nat} {l : List Int} (hx : x ≤ 9223372036854775807) (h : Dg x n l ∧ 10 ^ l.length * n ≤ x ∧ l.length ≤ 20) (hn : 0 < n ∨ l = []) (hr : n % 10 = r) (hq : n / 10 = q) : Dg x q ((48 + (r : Int)) :: l) ∧ 10 ^ ((48 + (r : Int)) :: l).length * q ≤ x ∧ ((48 + (r : Int)) :: l).length ≤ 20 := by
  subst hr; subst hq
  refine ⟨h.1.next hn, ?_, ?_⟩
  · rw [List.length_cons, Nat.pow_succ, Nat.mul_assoc]
    exact Nat.le_trans (Nat.mul_le_mul_left _ (by omega)) h.2.1
  · rw [List.length_cons]
    rcases Nat.lt_or_ge l.length 20 with k | k
    · omega
    · exfalso
      have h1 : 10 ^ 20 ≤ 10 ^ l.length := Nat.pow_le_pow_right (by decide) k
      rcases hn with hn | rfl
      · have h2 := Nat.mul_le_mul h1 hn
        have h3 := h.2.1
        have h4 : (10 : Nat) ^ 20 = 100000000000000000000 := rfl
        omega
      · simp at k
set_option maxHeartbeats 2000000 in
set_option maxRecDepth 20000 in
theorem dec_ok (x : Nat) (hx : x ≤ 9223372036854775807) (w : World) : Calls Tryd.prog 31 #[.int .i64 x] w fun e w' => e = .returned (.string (strOfNums (dig x))) ∧ Below w.heap.size w w' := by
  have hx0 : decide ((x : Int) < 0) = false := by simp
  go_enter Tryd.func31, Tryd.ntmps31
  go_wp2_with (fail)
  go_loopg [3, 4] (x + 1) (fun kx s3 s4 wr => ∃ (n : Nat) (l : List Int) (a : Option Addr) (c : Nat), s3 = .int .u64 n ∧ s4 = .slice a l.length c ∧ n ≤ 9223372036854775807 ∧ n + (if l = [] then 1 else 0) ≤ kx ∧ Hid (Dg x n l ∧ 10 ^ l.length * n ≤ x ∧ l.length ≤ 20) ∧ Hid (Db wr (.slice a l.length c) l) ∧ Hid (Below w.heap.size w wr))
  case atStart => exact ⟨x, [], none, 0, rfl, rfl, hx, by simp, ⟨.inl ⟨rfl, rfl⟩, by simp, by simp⟩, .inl ⟨rfl, rfl⟩, Below.refl _ _⟩
  case round =>
    obtain ⟨n, l, a, c, rfl, rfl, hn63, hk, HD, HB, HW⟩ := hrel
    by_cases hn : 0 < n
    · have hn1 : decide (0 < (n : Int)) = true := by simp; omega
      obtain ⟨r, hr⟩ : ∃ r, n % 10 = r := ⟨_, rfl⟩
      obtain ⟨q, hq⟩ : ∃ q, n / 10 = q := ⟨_, rfl⟩
      have hr9 : r < 10 := by omega
      have er : (n : Int).tmod 10 = (r : Int) := by rw [← hr]; exact (Int.ofNat_tmod n 10).symm
      have eq1 : (n : Int).tdiv 10 = (q : Int) := by rw [← hq]; exact (Int.ofNat_tdiv n 10).symm
      have HN : Hid (Dg x q ((48 + (r : Int)) :: l) ∧ 10 ^ ((48 + (r : Int)) :: l).length * q ≤ x ∧ ((48 + (r : Int)) :: l).length ≤ 20) := dec_next hx HD.out (.inl hn) hr hq
      obtain ⟨a2, c2, w2, hrun, hdb, hbel⟩ := appD_ok HB.out (48 + (r : Int)) (by have := HD.out.2.2; omega)
      have HB2 : Hid (Db w2 (.slice a2 (l.length + 1) c2) ((48 + (r : Int)) :: l)) := hdb
      have HW2 : Hid (Below w.heap.size w w2) := HW.out.trans (hbel.mono HW.out.size)
      have hm : q + 1 ≤ n + (if l = [] then 1 else 0) := by omega
      clear HB HW HD hdb hbel
      go_wp2_with (fail)
      go_roundg q
      case rel => exact ⟨q, (48 + (r : Int)) :: l, a2, c2, rfl, rfl, by omega, by simp, HN, HB2, HW2⟩
      case measure => omega
    · obtain rfl : n = 0 := by omega
      clear hn
      by_cases hl : l = []
      · subst hl
        obtain ⟨a2, c2, w2, hrun, hdb, hbel⟩ := appD_ok HB.out 48 (by simp)
        have HN : Hid (Dg x 0 [48] ∧ 10 ^ ([48] : List Int).length * 0 ≤ x ∧ ([48] : List Int).length ≤ 20) := dec_next (r := 0) (q := 0) hx HD.out (.inr rfl) rfl rfl
        have HB2 : Hid (Db w2 (.slice a2 (0 + 1) c2) [48]) := hdb
        have HW2 : Hid (Below w.heap.size w w2) := HW.out.trans (hbel.mono HW.out.size)
        simp only [List.length_nil] at hrun hk ⊢
        clear HB HW HD hdb hbel
        go_wp2_with (fail)
        go_roundg 0
        case rel => exact ⟨0, [48], a2, c2, rfl, rfl, by omega, by simp, HN, HB2, HW2⟩
        case measure => simp at hk; omega
      · have hlx : l = dig x := by
          rcases HD.out.1 with ⟨e, -⟩ | ⟨-, e⟩ | ⟨e, -⟩
          · exact absurd e hl
          · exact e
          · omega
        have hcv : (convert 54 9 (.slice a l.length c)).run Tryd.prog wr = .ok (.string (strOfNums (dig x))) wr := by
          rcases HB.out with ⟨e, -⟩ | ⟨g, c', e, -, hc⟩
          · exact absurd e hl
          · cases e
            rw [← hlx]
            refine run_convert_bytes_arg wr 54 5 Tryd.underlying54 Tryd.underlying5 g 0 l.length c l rfl (fun i hi => ?_) 9 Tryd.underlying9
            have := hc i (.int .u8 (l.getD i 0)) (by simp [List.getD, List.getElem?_eq_getElem hi])
            rwa [addD] at this
        obtain ⟨m, hm⟩ : ∃ m, l.length = m + 1 := ⟨l.length - 1, by have := List.length_pos_iff.2 hl; omega⟩
        have hm3 : ¬ ((m : Int) + 1 = 0) := by omega
        have HW2 : Hid (Below w.heap.size w wr) := HW.out
        have hm20 : m < 20 := by have := HD.out.2.2; omega
        rw [hm] at hcv ⊢
        clear HB HW HD hlx hl hk hm
        go_wp2_with (fail)
        go_ret
        exact ⟨rfl, HW2.out⟩
end Go.Proofs.YtdgndglinkcdbaaDoor
