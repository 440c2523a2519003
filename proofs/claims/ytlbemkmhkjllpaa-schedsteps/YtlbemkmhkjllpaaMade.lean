/- New as a whole; what every script answers that is one (the law's small call). -/
import Derived.Test.YtlbemkmhkjllpaaNew
namespace Go.Proofs.Ytlbemkmhkjllpaa
open Go.RowKit Go.Conc

theorem new_no (x : Int) (v1 v2 : Value) (w : World) (hx : ¬ (1 ≤ x ∧ x ≤ 12)) :
    Calls Try.prog 8 #[.int .i64 x, v1, v2] w fun e w' => e = .returned (.tuple #[.pointer none, .int .i64 400]) ∧ w' = w := by
  by_cases h1 : x < 1
  · clear hx
    go_enter Try.func8, Try.ntmps8
    go_wp2
    go_ret2
    exact ⟨rfl, rfl⟩
  · have h2 : 12 < x := by omega
    have h3 : 1 ≤ x := by omega
    clear hx h1
    go_enter Try.func8, Try.ntmps8
    go_wp2
    go_ret2
    exact ⟨rfl, rfl⟩
theorem new_ok (G N M : Nat) (v1 v2 : Value) (f g : Nat → Int) (w : World) (hG : 1 ≤ G) (hG' : G ≤ 12) (hN : N ≤ 35184372088832) (hM : M ≤ 35184372088832) (h1 : Ints w v1 N f) (h2 : Ints w v2 M g) :
    Calls Try.prog 8 #[.int .i64 G, v1, v2] w fun e w' => ∃ b ba bp bi, e = .returned (.tuple #[.pointer (some ⟨b, 0, none⟩), .int .i64 0]) ∧ Sc w' b ba bp bi G N M (fun _ => 0) (fun i => plc G (f i)) 0 g 0 ∧ Below w.heap.size w w' ∧ w.heap.size ≤ b ∧ w.heap.size ≤ ba := by
  go_enter Try.func8, Try.ntmps8
  go_wp2_with (first
    | (go_at_call 22; refine (ready_any G _ hG').mono ?_; rintro e w1 ⟨ba, rfl, r1, b1, l1⟩)
    | (go_at_call 24; refine (placeAmong_any G _).mono ?_; rintro e w2 ⟨k, rfl, kc, b2, kl⟩; have b12 := b1.trans (b2.mono b1.size))
    | (go_at_call 23; refine (feedPlaces_any G N k v1 f _ hG hG' hN (h1.below b12) kc kl).mono ?_; rintro e w3 ⟨bp, rfl, r3, b3, l3⟩; have b13 := b12.trans (b3.mono b12.size))
    | (go_at_call 25; refine (feedInts_any M v2 g _ hM (h2.below b13)).mono ?_; rintro e w4 ⟨bi, rfl, r4, b4, l4⟩))
  go_ret2
  have b14 := b13.trans (b4.mono b13.size)
  refine ⟨_, _, _, _, rfl, ⟨heap_alloc_new w4 _, ?_, ?_, r4.alloc _⟩, b14.alloc b14.size _, b14.size, l1⟩
  · exact ((r1.of_block (b2.block _ r1.lt)).of_block (b3.block _ (Nat.lt_of_lt_of_le r1.lt b2.size))).of_block (b4.block _ (Nat.lt_of_lt_of_le r1.lt (Nat.le_trans b2.size b3.size))) |>.alloc _
  · exact (r3.of_block (b4.block _ r3.lt)).alloc _

def z0 : Nat → Int := fun _ => 0
def fA : Nat → Int := fun i => if i = 0 then -1 else 4
def gA : Nat → Int := fun _ => 9
def sA : Nat → Nat := fun i => plc 3 (fA i)
def cA : Nat → Int := upd z0 5 1
def cB : Nat → Int := upd cA 2 1

theorem ints1 (w : World) (x : Int) : Ints (w.alloc (.cells #[.int .i64 x] 3)) (.slice (some ⟨w.heap.size, 0, none⟩) 1 1) 1 (fun _ => x) :=
  ⟨_, _, rfl, Or.inr ⟨_, _, rfl, by simp, fun i hi => by
    obtain rfl : i = 0 := by omega
    simp only [World.cell?, heap_alloc_new]; rfl⟩⟩
theorem ints2 (w : World) : Ints (w.alloc (.cells #[.int .i64 (-1), .int .i64 4] 3)) (.slice (some ⟨w.heap.size, 0, none⟩) 2 2) 2 fA :=
  ⟨_, _, rfl, Or.inr ⟨_, _, rfl, by simp, fun i hi => by
    have : i = 0 ∨ i = 1 := by omega
    rcases this with rfl | rfl <;> (simp only [World.cell?, heap_alloc_new]; rfl)⟩⟩

section
variable {w : World} {b ba bp bi : Nat}
theorem eA : upd z0 (sA 0 * 2 + 1) (wrap64 (z0 (sA 0 * 2 + 1) + 1)) = cA := by
  rw [show sA 0 = 2 from by decide, show wrap64 (z0 (2 * 2 + 1) + 1) = 1 from by kernel_rfl]; rfl
theorem aw_p1 (h : Sc w b ba bp bi 3 2 1 z0 sA 0 gA 0) : Calls Try.prog 12 #[.pointer (some ⟨b, 0, none⟩)] w fun e w' => e = .returned (.tuple #[.int .i64 2, .bool true]) ∧ Sc w' b ba bp bi 3 2 1 cA sA 1 gA 0 ∧ But b ba w w' :=
  (pick_ready h (by decide) (by decide) (by decide) (by decide) rfl).mono fun _ _ k => ⟨k.1, eA ▸ k.2.1, k.2.2⟩
theorem aw_s (h : Sc w b ba bp bi 3 2 1 cA sA 1 gA 0) : Calls Try.prog 15 #[.pointer (some ⟨b, 0, none⟩), .int .i64 1, .int .i64 1] w fun e w' => e = .returned (.int .i64 0) ∧ Sc w' b ba bp bi 3 2 1 cB sA 1 gA 0 ∧ But b ba w w' :=
  set_live h 1 1 (by decide) (by decide) rfl
theorem aw_p2 (h : Sc w b ba bp bi 3 2 1 cB sA 1 gA 0) : Calls Try.prog 12 #[.pointer (some ⟨b, 0, none⟩)] w fun e w' => e = .returned (.tuple #[.int .i64 (-1), .bool true]) ∧ Sc w' b ba bp bi 3 2 1 cB sA 2 gA 0 ∧ But b ba w w' :=
  pick_skip h (by decide) (by decide) (by decide) rfl
theorem aw_p3 (h : Sc w b ba bp bi 3 2 1 cB sA 2 gA 0) : Calls Try.prog 12 #[.pointer (some ⟨b, 0, none⟩)] w fun e w' => e = .returned (.tuple #[.int .i64 (-1), .bool false]) ∧ Sc w' b ba bp bi 3 2 1 cB sA 2 gA 0 ∧ But b ba w w' :=
  pick_none h rfl
theorem cB_pos (i : Nat) : 0 ≤ cB (i * 2 + 1) := by unfold cB cA upd z0; split <;> (try split) <;> decide
theorem aw_k (h : Sc w b ba bp bi 3 2 1 cB sA 2 gA 0) : Calls Try.prog 16 #[.pointer (some ⟨b, 0, none⟩)] w fun e w' => e = .returned (.int .i64 1) ∧ Sc w' b ba bp bi 3 2 1 cB sA 2 gA 0 ∧ But b ba w w' :=
  (skips_any h (by decide) (by decide) cB_pos (by decide)).mono fun _ _ k => ⟨k.1, h.below k.2, But.of_below k.2⟩
theorem aw_i1 (h : Sc w b ba bp bi 3 2 1 cB sA 2 gA 0) : Calls Try.prog 14 #[.pointer (some ⟨b, 0, none⟩)] w fun e w' => e = .returned (.int .i64 9) ∧ Sc w' b ba bp bi 3 2 1 cB sA 2 gA 1 ∧ But b ba w w' :=
  input_some h (by decide) (by decide)
theorem aw_i2 (h : Sc w b ba bp bi 3 2 1 cB sA 2 gA 1) : Calls Try.prog 14 #[.pointer (some ⟨b, 0, none⟩)] w fun e w' => e = .returned (.int .i64 0) ∧ Sc w' b ba bp bi 3 2 1 cB sA 2 gA 1 ∧ But b ba w w' :=
  input_none h rfl
theorem aw_at (h : Sc w b ba bp bi 3 2 1 cB sA 2 gA 1) : Calls Try.prog 17 #[.pointer (some ⟨b, 0, none⟩)] w fun e w' => e = .returned (.int .i64 2) ∧ w' = w := at_any h
end
theorem new32 (w : World) (v1 v2 : Value) (h1 : Ints w v1 2 fA) (h2 : Ints w v2 1 gA) :
    Calls Try.prog 8 #[.int .i64 3, v1, v2] w fun e w' => ∃ b ba bp bi, e = .returned (.tuple #[.pointer (some ⟨b, 0, none⟩), .int .i64 0]) ∧ Sc w' b ba bp bi 3 2 1 z0 sA 0 gA 0 ∧ Below w.heap.size w w' ∧ w.heap.size ≤ b ∧ w.heap.size ≤ ba :=
  new_ok 3 2 1 v1 v2 fA gA w (by decide) (by decide) (by decide) (by decide) h1 h2
theorem aw_ints (w : World) (x : Obj) : Ints ((w.alloc (.cells #[.int .i64 (-1), .int .i64 4] 3)).alloc x) (.slice (some ⟨w.heap.size, 0, none⟩) 2 2) 2 fA :=
  (ints2 w).below ((Below.refl _ _).alloc (Nat.le_refl _) _)

theorem aw_ints' (w : World) (x : Obj) : Ints ((w.alloc x).alloc (.cells #[.int .i64 9] 3)) (.slice (some ⟨w.heap.size + 1, 0, none⟩) 1 1) 1 gA := by
  have h := ints1 (w.alloc x) 9
  rw [Go.Deep.nblk_alloc] at h
  exact h

set_option maxRecDepth 20000 in
theorem awake_any (w : World) : Calls Try.prog 10 #[] w fun e w' => e = .returned (.bool true) ∧ Below w.heap.size w w' := by
  go_enter Try.func10, Try.ntmps10
  go_wp2_with (first
    | (go_at_call 8; refine (new32 _ _ _ (aw_ints w _) (aw_ints' w _)).mono ?_; rintro e w1 ⟨b, ba, bp, bi, rfl, hA1, hB, l0, l1⟩)
    | (go_at_call 12; refine (aw_p3 hA4).mono ?_; rintro e w5 ⟨rfl, hA5, k5⟩)
    | (go_at_call 12; refine (aw_p2 hA3).mono ?_; rintro e w4 ⟨rfl, hA4, k4⟩)
    | (go_at_call 12; refine (aw_p1 hA1).mono ?_; rintro e w2 ⟨rfl, hA2, k2⟩)
    | (go_at_call 15; refine (aw_s hA2).mono ?_; rintro e w3 ⟨rfl, hA3, k3⟩)
    | (go_at_call 9; refine (num_any _ _).mono ?_; rintro e wn ⟨rfl, rfl⟩)
    | (go_at_call 16; refine (aw_k hA5).mono ?_; rintro e w6 ⟨rfl, hA6, k6⟩)
    | (go_at_call 14; refine (aw_i2 hA7).mono ?_; rintro e w8 ⟨rfl, hA8, k8⟩)
    | (go_at_call 14; refine (aw_i1 hA6).mono ?_; rintro e w7 ⟨rfl, hA7, k7⟩)
    | (go_at_call 17; refine (aw_at hA8).mono ?_; rintro e w9 ⟨rfl, rfl⟩))
  go_ret
  refine ⟨rfl, ?_⟩
  have hb := (feed_start w _ _).trans (hB.mono (by simp; omega))
  exact But.under hb hb.size (by simp at l0; omega) (by simp at l1; omega) ((((((k2.trans k3).trans k4).trans k5).trans k6).trans k7).trans k8)
end Go.Proofs.Ytlbemkmhkjllpaa
