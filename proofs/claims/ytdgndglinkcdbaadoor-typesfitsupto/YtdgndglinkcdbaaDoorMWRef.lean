/- The document's own Get, Put, GetText, PutText: what each answers, whatever it is asked. -/
import Derived.Test.YtdgndglinkcdbaaDoorMWText
namespace Go.Proofs.YtdgndglinkcdbaaDoor
open Go.RowKit

theorem pw_le {k P : Nat} (hk : k ≤ 4) (h : P = 128 ^ k) : 1 ≤ P ∧ P ≤ 268435456 := by
  rcases pow_le_4 hk with e | e | e | e | e <;> subst e <;> simp only [Nat.reducePow] at h <;> omega

theorem mid {c : Nat} {P : Int} (h0 : 0 ≤ P) (h : P ≤ 268435456) : 0 ≤ (c : Int) % 128 * P ∧ (c : Int) % 128 * P ≤ 34091302912 := by
  constructor
  · exact Int.mul_nonneg (by omega) h0
  · have h1 : (c : Int) % 128 * P ≤ 127 * P := Int.mul_le_mul_of_nonneg_right (by omega) h0
    omega

theorem Z_nat {c zn k : Nat} {z P : Int} (hz : z = (zn : Int)) (hP : P = ((128 ^ k : Nat) : Int)) : z + (c : Int) % 128 * P = ((zn + c % 128 * 128 ^ k : Nat) : Int) := by
  rw [hz, hP, Int.natCast_add, Int.natCast_mul]; rfl

theorem Z_lt {c zn k : Nat} {z P : Int} (hk : k ≤ 4) (hz : z = (zn : Int)) (hP : P = ((128 ^ k : Nat) : Int)) (hl : z < P) (hc : c < 256) (hb : bad c k = false) : z + (c : Int) % 128 * P < 4294967296 := by
  have := (word_eq (z := zn) hc hk (by omega) hb).2
  rw [Z_nat hz hP]
  omega

theorem Z_ge {c zn k : Nat} {z P : Int} (hk : k = 4) (hz : z = (zn : Int)) (hP : P = ((128 ^ k : Nat) : Int)) (h1 : 15 < c) (h2 : c < 128) : 4294967296 ≤ z + (c : Int) % 128 * P := by
  rw [Z_nat hz hP]
  subst hk
  have h3 : 16 * 268435456 ≤ c % 128 * 268435456 := Nat.mul_le_mul_right _ (by omega)
  have h4 : (128 : Nat) ^ 4 = 268435456 := rfl
  rw [h4]
  omega

theorem pow_le_int {k : Nat} {P : Int} (hk : k ≤ 4) (h : P = ((128 ^ k : Nat) : Int)) : 1 ≤ P ∧ P ≤ 268435456 := by
  have := pw_le hk rfl
  omega

theorem z_step {c : Nat} {z P : Int} (h : z < P) (hP : 1 ≤ P) : z + (c : Int) % 128 * P < P * 128 := by
  have h1 : (c : Int) % 128 * P ≤ 127 * P := Int.mul_le_mul_of_nonneg_right (by omega) (by omega)
  omega

theorem zag_odd {n : Nat} {Z : Int} (h : Z = (n : Int)) (hp : Z % 2 = 1) : -(Z / 2) - 1 = zag n := by
  subst h; unfold zag; rw [if_neg (by omega)]; omega
theorem zag_even {n : Nat} {Z : Int} (h : Z = (n : Int)) (hp : ¬ Z % 2 = 1) : Z / 2 = zag n := by
  subst h; unfold zag; rw [if_pos (by omega)]; omega

theorem tl_eq {a k : Nat} (n : Nat) : (a : Int) + (k : Int) + 1 = tlOf a (n, k + 1, 0) := by
  unfold tlOf; simp only [if_pos]; omega

set_option maxHeartbeats 400000 in
theorem number_no (x : Int) (w : World) (h : x < -2147483648 ∨ 2147483647 < x) :
    Calls Tryd.prog 56 #[.int .i64 x] w fun e w' => e = .returned (.bool false) ∧ w' = w := by
  rcases h with h | h
  · go_enter Tryd.func56, Tryd.ntmps56
    go_wp2
    go_ret
    exact ⟨rfl, rfl⟩
  · have h' : -2147483648 ≤ x := by omega
    have h2 : decide (x ≤ 2147483647) = false := by simp; omega
    go_enter Tryd.func56, Tryd.ntmps56
    go_wp2
    go_ret
    exact ⟨rfl, rfl⟩

set_option maxHeartbeats 400000 in
theorem number_yes (x : Int) (w : World) (h : -2147483648 ≤ x) (h' : x ≤ 2147483647) :
    Calls Tryd.prog 56 #[.int .i64 x] w fun e w' => e = .returned (.bool true) ∧ w' = w := by
  go_enter Tryd.func56, Tryd.ntmps56
  go_wp2
  go_ret
  exact ⟨rfl, rfl⟩

set_option maxHeartbeats 400000 in
theorem refput_no (x : Int) (w : World) (h : x < -2147483648 ∨ 2147483647 < x) :
    Calls Tryd.prog 57 #[.int .i64 x] w fun e w' => e = .returned (.string ⟨#[]⟩) ∧ Below w.heap.size w w' := by
  go_enter Tryd.func57, Tryd.ntmps57
  go_wp2_with (go_at_call 56; refine (number_no _ _ h).mono ?_; rintro e w' ⟨rfl, rfl⟩)
  go_ret
  exact ⟨rfl, Below.refl _ _⟩

theorem prt_int {z : Nat} : ((z : Int) % 128 + 128) = ((prt z).toNat : Int) := by rw [prt_nat]; omega

theorem zig_pos {x : Int} (h : 0 ≤ x) : Value.int .i64 (2 * x) = Value.int .i64 (zig x : Nat) := by
  have : (zig x : Int) = 2 * x := by unfold zig; rw [if_pos h]; omega
  rw [this]
theorem zig_neg {x : Int} (h : x < 0) : Value.int .i64 (-2 * x - 1) = Value.int .i64 (zig x : Nat) := by
  have : (zig x : Int) = -2 * x - 1 := by unfold zig; rw [if_neg (by omega)]; omega
  rw [this]

set_option maxHeartbeats 1000000 in
set_option maxRecDepth 20000 in
theorem refput_yes (x : Int) (w : World) (h : -2147483648 ≤ x) (h' : x ≤ 2147483647) :
    Calls Tryd.prog 57 #[.int .i64 x] w fun e w' => e = .returned (.string ⟨(parts (zig x)).toArray⟩) ∧ Below w.heap.size w w' := by
  obtain ⟨i0, hi, hz0, hz1, hz2⟩ := info_parts info5
  have hz4 := zig_lt h h'
  by_cases hx : 0 ≤ x
  all_goals
    go_enter Tryd.func57, Tryd.ntmps57
    go_wp2_with (go_at_call 56; refine (number_yes _ _ h h').mono ?_; rintro e w1 ⟨rfl, hw⟩; rw [hw]; clear hw)
    go_loopw [3, 4] (fun y v wr => ∃ (acc : List UInt8) (z : Nat), y = .int .i64 z ∧ z < 4294967296 ∧ Gath w (zig x) acc z v wr) (fun y _ _ => (intOf y).toNat)
    case atStart => exact ⟨[], zig x, by first | exact zig_pos hx | exact zig_neg hx | exact zig_neg (by omega), hz4, rfl, World.ownsRow_nil _ _ _ _, Below.refl _ _⟩
    case round =>
      obtain ⟨acc, z, rfl, hz, HG⟩ := hrel
      have hlen := HG.len hz4
      by_cases hc : 128 ≤ z
      · go_wp2_with (at_builtin; refine wpList_append_lies _ rfl _ _ 54 rfl w.heap.size 5 i0 (.int .u8 0) 1 1 Tryd.underlying54 hi hz0 hz1 hz2 rfl (by decide) _ acc.length _ rfl (HG.2.1.alloc _) ⟨wr.heap.size, 0, none⟩ 1 1 [.int .u8 _] rfl rfl (news1 _ _) (one1 _) (by decide) (by unfold maxLen; omega) (by omega) (by have := HG.2.2.size; simp; omega) _ rfl ?_; intro g cap w1 hown hgrow hat hlt)
        rw [prt_int] at hown
        go_roundw
        case rel => exact ⟨acc ++ [prt z], z / 128, by go_num, by omega, HG.step hc hown hgrow⟩
        case measure => simp [intOf]; omega
      · go_wp2_with (at_builtin; refine wpList_append_lies _ rfl _ _ 54 rfl w.heap.size 5 i0 (.int .u8 0) 1 1 Tryd.underlying54 hi hz0 hz1 hz2 rfl (by decide) _ acc.length _ rfl (HG.2.1.alloc _) ⟨wr.heap.size, 0, none⟩ 1 1 [.int .u8 _] rfl rfl (news1 _ _) (one1 _) (by decide) (by unfold maxLen; omega) (by omega) (by have := HG.2.2.size; simp; omega) _ rfl ?_; intro g cap w1 hown hgrow hat hlt; have hl := HG.last hc (by rw [lst_nat (by omega)]) hown hgrow; have hcv := hl.1; have HB : Hid _ := hl.2; clear hl)
        go_ret
        exact ⟨rfl, HB.out⟩

/-- The document's Put. -/
theorem refput_any (x : Int) (w : World) : Calls Tryd.prog 57 #[.int .i64 x] w fun e w' => e = .returned (.string (putB x)) ∧ Below w.heap.size w w' := by
  cases h : inR x
  · rw [putB_no h]; exact refput_no x w (inR_not h)
  · rw [putB_yes h]; obtain ⟨h1, h2⟩ := inR_iff.1 h; exact refput_yes x w h1 h2


theorem refput_g {w0 : World} (x : Int) (w : World) (hg : Gr w0 w) :
    Calls Tryd.prog 57 #[.int .i64 x] w fun e w' => e = .returned (.string (putB x)) ∧ Gr w0 w' :=
  (refput_any x w).mono fun _ _ h => ⟨h.1, hg.on h.2⟩
set_option maxHeartbeats 400000 in
theorem refputtext_any {w0 : World} (s : ByteArray) (w : World) (hs : s.size ≤ maxLen) (hg : Gr w0 w) :
    Calls Tryd.prog 69 #[.string s] w fun e w' => e = .returned (.string (txtB s)) ∧ Gr w0 w' := by
  have hadd := fun W => run_string_add_sum (P := Tryd.prog) W (putB s.size) s (put_sum s hs)
  go_enter Tryd.func69, Tryd.ntmps69
  go_wp2_with (go_at_call 57; refine (refput_g _ _ hg).mono ?_; clear hg; rintro e w1 ⟨rfl, hg⟩)
  go_ret
  exact ⟨rfl, hg⟩
end Go.Proofs.YtdgndglinkcdbaaDoor
