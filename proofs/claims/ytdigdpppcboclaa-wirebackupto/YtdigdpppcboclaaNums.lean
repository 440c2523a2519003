/- The walk of the law WireNums: for every number, every string and every place it returns true, and of what was there nothing turns. -/
import Derived.Test.YtdigdpppcboclaaGet
import Derived.Test.YtdigdpppcboclaaPut
namespace Go.Proofs.Ytdigdpppcboclaa
open Go.RowKit

/-- Of what w0 held nothing has turned. -/
def Gr (w0 w : World) : Prop := Below w0.heap.size w0 w
theorem Gr.refl (w : World) : Gr w w := Below.refl _ _
theorem Gr.on {w0 w w' : World} (h : Gr w0 w) (h' : Below w.heap.size w w') : Gr w0 w' := Below.trans h (Below.mono h' h.size)

theorem get_g {w0 : World} (s : ByteArray) (a : Int) (w : World) (hs : s.size ≤ maxLen) (hg : Gr w0 w) :
    Calls Try.prog 7 #[.string s, .int .i64 a] w fun e w' => e = .returned (.tuple #[.int .i64 (gN s a), .int .i64 (gT s a), .int .i64 (gC s a)]) ∧ Gr w0 w' :=
  (get_any s a w hs).mono fun _ _ h => ⟨h.1, by rw [h.2]; exact hg⟩
theorem refget_g {w0 : World} (s : ByteArray) (a : Int) (w : World) (hs : s.size ≤ maxLen) (hg : Gr w0 w) :
    Calls Try.prog 8 #[.string s, .int .i64 a] w fun e w' => e = .returned (.tuple #[.int .i64 (gN s a), .int .i64 (gT s a), .int .i64 (gC s a)]) ∧ Gr w0 w' :=
  (ref_any s a w hs).mono fun _ _ h => ⟨h.1, by rw [h.2]; exact hg⟩
theorem put_g {w0 : World} (x : Int) (w : World) (hg : Gr w0 w) :
    Calls Try.prog 9 #[.int .i64 x] w fun e w' => e = .returned (.string (putB x)) ∧ Gr w0 w' :=
  (putnum_any x w).mono fun _ _ h => ⟨h.1, hg.on h.2⟩
theorem refput_g {w0 : World} (x : Int) (w : World) (hg : Gr w0 w) :
    Calls Try.prog 10 #[.int .i64 x] w fun e w' => e = .returned (.string (putB x)) ∧ Gr w0 w' :=
  (refput_any x w).mono fun _ _ h => ⟨h.1, hg.on h.2⟩
theorem num_g {w0 : World} (x : Int) (w : World) (hg : Gr w0 w) :
    Calls Try.prog 11 #[.int .i64 x] w fun e w' => e = .returned (.int .i64 x) ∧ Gr w0 w' :=
  (num_any x w).mono fun _ _ h => ⟨h.1, by rw [h.2]; exact hg⟩

theorem aw1 : gN ⟨#[172, 2]⟩ 0 = 150 ∧ gT ⟨#[172, 2]⟩ 0 = 2 ∧ gC ⟨#[172, 2]⟩ 0 = 0 := by decide
theorem aw2 : gN ⟨#[128, 0]⟩ 0 = 0 ∧ gT ⟨#[128, 0]⟩ 0 = 0 ∧ gC ⟨#[128, 0]⟩ 0 = 201 := by decide
theorem aw3 : putB (-1) = ⟨#[1]⟩ := by
  have h : inR (-1) = true := by decide
  rw [putB_yes h]
  have : zig (-1) = 1 := by decide
  rw [this, parts_lt (by decide)]
  rfl

set_option maxHeartbeats 400000 in
theorem awake {w0 : World} (w : World) (hg : Gr w0 w) :
    Calls Try.prog 12 #[] w fun e w' => e = .returned (.bool true) ∧ Gr w0 w' := by
  obtain ⟨a1, a2, a3⟩ := aw1
  obtain ⟨b1, b2, b3⟩ := aw2
  have c1 := aw3
  go_enter Try.func12, Try.ntmps12
  go_wp2_with (first | (go_at_call 7; refine (get_g _ _ _ (by decide) hg).mono ?_; clear hg; rintro e w1 ⟨rfl, hg⟩) | (go_at_call 9; refine (put_g _ _ hg).mono ?_; clear hg; rintro e w1 ⟨rfl, hg⟩) | (go_at_call 11; refine (num_g _ _ hg).mono ?_; clear hg; rintro e w1 ⟨rfl, hg⟩))
  go_ret
  exact ⟨rfl, hg⟩

set_option maxHeartbeats 400000 in
theorem nums_walk (x : Int) (s : ByteArray) (a : Int) (hs : s.size ≤ maxLen) (w : World) :
    Calls Try.prog 3 #[.int .i64 x, .string s, .int .i64 a] w fun e w' => e = .returned (.bool true) ∧ Gr w w' := by
  have hg := Gr.refl w
  go_enter Try.func3, Try.ntmps3
  go_wp2_with (first | (go_at_call 7; refine (get_g _ _ _ hs hg).mono ?_; clear hg; rintro e w1 ⟨rfl, hg⟩) | (go_at_call 8; refine (refget_g _ _ _ hs hg).mono ?_; clear hg; rintro e w1 ⟨rfl, hg⟩) | (go_at_call 9; refine (put_g _ _ hg).mono ?_; clear hg; rintro e w1 ⟨rfl, hg⟩) | (go_at_call 10; refine (refput_g _ _ hg).mono ?_; clear hg; rintro e w1 ⟨rfl, hg⟩) | (go_at_call 11; refine (num_g _ _ hg).mono ?_; clear hg; rintro e w1 ⟨rfl, hg⟩) | (go_at_call 12; refine (awake _ hg).mono ?_; clear hg; rintro e w1 ⟨rfl, hg⟩))
  go_ret
  exact ⟨rfl, hg⟩
end Go.Proofs.Ytdigdpppcboclaa
