/- Colour, Grey, Next: a contract a case. -/
import Derived.Test.YtcafmloinmdeeaaMNew
namespace Go.Proofs.Ytcafmloinmdeeaa
open Go.RowKit
section
variable {w w' : World} {s bc bi N : Nat} {c : Nat → Int} {q t : List Nat}
theorem mcolour_no (h : Mk w s bc bi N c q) (x : Int) (hx : ¬ (0 ≤ x ∧ x < N)) :
    Calls Try.prog 10 #[.pointer (some ⟨s, 0, none⟩), .int .i64 x] w fun e w' => e = .returned (.tuple #[.int .i64 0, .int .i64 1102]) ∧ w' = w := by
  have c0 := h.c0
  clear h
  by_cases h1 : x < 0
  · clear hx
    go_enter Try.func10, Try.ntmps10
    go_wp2
    go_ret2
    exact ⟨rfl, rfl⟩
  · have h2 : (N : Int) ≤ x := by omega
    have h3 : decide (x < 0) = false := by simp; omega
    clear hx h1
    go_enter Try.func10, Try.ntmps10
    go_wp2
    go_ret2
    exact ⟨rfl, rfl⟩
theorem mcolour_ok (h : Mk w s bc bi N c q) (x : Nat) (hx : x < N) :
    Calls Try.prog 10 #[.pointer (some ⟨s, 0, none⟩), .int .i64 x] w fun e w' => e = .returned (.tuple #[.int .i64 (c x), .int .i64 0]) ∧ w' = w := by
  have c0 := h.c0
  have hr := h.col.cell hx
  have d1 : decide ((x : Int) < 0) = false := by simp <;> omega
  have d2 : decide ((N : Int) ≤ (x : Int)) = false := by simp; omega
  have d3 : (x : Int) < (N : Int) := by omega
  generalize c x = v at hr ⊢
  clear h
  go_enter Try.func10, Try.ntmps10
  go_wp2
  go_ret2
  exact ⟨rfl, rfl⟩
theorem mgrey_no (h : Mk w s bc bi N c q) (x : Int) (hx : ¬ (0 ≤ x ∧ x < N)) :
    Calls Try.prog 8 #[.pointer (some ⟨s, 0, none⟩), .int .i64 x] w fun e w' => e = .returned (.tuple #[.bool false, .int .i64 1102]) ∧ w' = w := by
  have hc := mcolour_no h x hx
  clear h hx
  go_enter Try.func8, Try.ntmps8
  go_wp2_with (go_at_call 10; refine hc.mono ?_; rintro e w1 ⟨rfl, hw1⟩; replace hw1 := hw1.symm; subst hw1)
  go_ret2
  exact ⟨rfl, rfl⟩
theorem mgrey_old (h : Mk w s bc bi N c q) (x : Nat) (hx : x < N) (hn : c x ≠ 1) :
    Calls Try.prog 8 #[.pointer (some ⟨s, 0, none⟩), .int .i64 x] w fun e w' => e = .returned (.tuple #[.bool false, .int .i64 0]) ∧ w' = w := by
  have hc := mcolour_ok h x hx
  have d1 : (c x != 1) = true := by simp [hn]
  generalize c x = v at hc d1
  clear h hx hn
  go_enter Try.func8, Try.ntmps8
  go_wp2_with (go_at_call 10; refine hc.mono ?_; rintro e w1 ⟨rfl, hw1⟩; replace hw1 := hw1.symm; subst hw1)
  go_ret2
  exact ⟨rfl, rfl⟩
theorem mgrey_ok (h : Mk w s bc bi N c q) (x : Nat) (hx : x < N) (hn : c x = 1) :
    Calls Try.prog 8 #[.pointer (some ⟨s, 0, none⟩), .int .i64 x] w fun e w' => e = .returned (.tuple #[.bool true, .int .i64 0]) ∧ Mk w' s bc bi N (setC c x 2) (q ++ [x]) ∧ Bt (Mb s bc bi) w w' := by
  have hc := mcolour_ok h x hx
  rw [hn] at hc
  obtain ⟨r, fi, hW, hI⟩ := h
  have hI2 := hI.add hx hn
  have hroom := hI.room hx hn
  have c0 := hW.c0
  have hr := hW.col.cell hx
  have hz := hW.col.frozen x
  have d3 : (x : Int) < (N : Int) := by omega
  have hW2 := hW.paint x 2
  have hadd := madd_ok hW2 x hI.fi_lt hroom
  have HI : Hid (MInv N (setC c x 2) (q ++ [x]) (setC r ((fi + q.length) % N) (x : Int)) fi) := hI2
  have HB : Hid (Bt (Mb s bc bi) w (w.setCell ⟨bc, x, none⟩ (.int .i64 2))) := (Bt.refl _ w).set bc x _ (.inl (.inr (.inl rfl)))
  clear hI hI2 hW hW2 hn hroom
  go_enter Try.func8, Try.ntmps8
  go_wp2_with (first | (go_at_call 10; refine hc.mono ?_; rintro e w1 ⟨rfl, hw1⟩; replace hw1 := hw1.symm; subst hw1) | (go_at_call 16; refine hadd.mono ?_; rintro e w2 ⟨rfl, hW3, hB3⟩))
  go_ret2
  exact ⟨rfl, ⟨_, _, by simpa using hW3, HI.out⟩, HB.out.trans hB3⟩
theorem mnext_none (h : Mk w s bc bi N c []) :
    Calls Try.prog 9 #[.pointer (some ⟨s, 0, none⟩)] w fun e w' => e = .returned (.tuple #[.int .i64 0, .bool false]) ∧ w' = w := by
  obtain ⟨r, fi, hW, _⟩ := h
  have ht := mtake_none hW
  clear hW
  go_enter Try.func9, Try.ntmps9
  go_wp2_with (go_at_call 17; refine ht.mono ?_; rintro e w1 ⟨rfl, hw1⟩; replace hw1 := hw1.symm; subst hw1)
  go_ret2
  exact ⟨rfl, rfl⟩
theorem mnext_ok {x : Nat} (h : Mk w s bc bi N c (x :: t)) :
    Calls Try.prog 9 #[.pointer (some ⟨s, 0, none⟩)] w fun e w' => e = .returned (.tuple #[.int .i64 x, .bool true]) ∧ Mk w' s bc bi N (setC c x 3) t ∧ Bt (Mb s bc bi) w w' := by
  obtain ⟨r, fi, hW, hI⟩ := h
  have hh := hI.head
  have ht := mtake_ok hW hI.fi_lt (by have := hI.few; simp at this; omega)
  rw [hh.1] at ht
  have HI : Hid (MInv N (setC c x 3) t r ((fi + 1) % N)) := hI.take 3 (.inr rfl)
  have hxN := hh.2
  have d3 : (x : Int) < (N : Int) := by omega
  clear hI hW hh
  go_enter Try.func9, Try.ntmps9
  go_wp2_with (go_at_call 17; refine ht.mono ?_; rintro e w1 ⟨rfl, hW1, hB1⟩; have c0 := hW1.c0; have hr := hW1.col.cell hxN; have hz := hW1.col.frozen x)
  go_ret2
  exact ⟨rfl, ⟨_, _, hW1.paint x 3, HI.out⟩, hB1.set bc x _ (.inl (.inr (.inl rfl)))⟩
end
end Go.Proofs.Ytcafmloinmdeeaa
