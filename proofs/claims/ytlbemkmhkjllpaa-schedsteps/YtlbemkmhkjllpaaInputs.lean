/- The walk of the law SchedInputs: whatever it is called with it returns true, and of what was there nothing turns. -/
import Derived.Test.YtlbemkmhkjllpaaMade
namespace Go.Proofs.Ytlbemkmhkjllpaa
open Go.RowKit Go.Conc

/-- Pick, whatever it answers. -/
theorem pick_some {w : World} {b ba bp bi G N M : Nat} {cs : Nat → Int} {sc : Nat → Nat} {t : Nat} {inp : Nat → Int} {u : Nat} (h : Sc w b ba bp bi G N M cs sc t inp u) (ht : t ≤ N) (hN : N ≤ 35184372088832) (hs : ∀ i, sc i < G) (hG : G ≤ 12) :
    Calls Try.prog 12 #[.pointer (some ⟨b, 0, none⟩)] w fun e w' => ∃ (a : Int) (more : Bool) (cs' : Nat → Int) (t' : Nat), e = .returned (.tuple #[.int .i64 a, .bool more]) ∧ Sc w' b ba bp bi G N M cs' sc t' inp u ∧ t' ≤ N ∧ But b ba w w' := by
  by_cases h1 : t = N
  · exact (pick_none h h1).mono fun _ _ k => ⟨_, _, _, _, k.1, k.2.1, ht, k.2.2⟩
  · cases h2 : (cs (sc t * 2) != 0)
    · exact (pick_ready h (by omega) hN (hs t) hG h2).mono fun _ _ k => ⟨_, _, _, _, k.1, k.2.1, by omega, k.2.2⟩
    · exact (pick_skip h (by omega) hN (hs t) h2).mono fun _ _ k => ⟨_, _, _, _, k.1, k.2.1, by omega, k.2.2⟩

/-- The object, and that what w0 held stands. -/
structure Run (w0 w : World) (b ba bp bi G N M : Nat) (cs : Nat → Int) (sc : Nat → Nat) (t : Nat) (inp : Nat → Int) (u : Nat) : Prop where
  sc : Sc w b ba bp bi G N M cs sc t inp u
  bel : Below w0.heap.size w0 w
  l0 : w0.heap.size ≤ b
  l1 : w0.heap.size ≤ ba
theorem Run.call {w0 w w' : World} {b ba bp bi G N M : Nat} {cs cs' : Nat → Int} {sc sc' : Nat → Nat} {t t' : Nat} {inp inp' : Nat → Int} {u u' : Nat} (h : Run w0 w b ba bp bi G N M cs sc t inp u)
    (hs : Sc w' b ba bp bi G N M cs' sc' t' inp' u') (hb : But b ba w w') : Run w0 w' b ba bp bi G N M cs' sc' t' inp' u' :=
  ⟨hs, But.under h.bel h.bel.size h.l0 h.l1 hb, h.l0, h.l1⟩
theorem new_run (G N M : Nat) (v1 v2 : Value) (f g : Nat → Int) (w0 w : World) (hG : 1 ≤ G) (hG' : G ≤ 12) (hN : N ≤ 35184372088832) (hM : M ≤ 35184372088832) (hw : Below w0.heap.size w0 w) (h1 : Ints w v1 N f) (h2 : Ints w v2 M g) :
    Calls Try.prog 8 #[.int .i64 G, v1, v2] w fun e w' => ∃ b ba bp bi, e = .returned (.tuple #[.pointer (some ⟨b, 0, none⟩), .int .i64 0]) ∧ Run w0 w' b ba bp bi G N M (fun _ => 0) (fun i => plc G (f i)) 0 g 0 ∧ Below w.heap.size w w' ∧ w.heap.size ≤ b ∧ w.heap.size ≤ ba :=
  (new_ok G N M v1 v2 f g w hG hG' hN hM h1 h2).mono fun _ _ ⟨b, ba, bp, bi, e, s, k, l0, l1⟩ => ⟨b, ba, bp, bi, e, ⟨s, hw.trans (k.mono hw.size), Nat.le_trans hw.size l0, Nat.le_trans hw.size l1⟩, k, l0, l1⟩

theorem inputs_walk (v1 v2 : Value) (p : Int) (N M : Nat) (f g : Nat → Int) (w : World) (hN : N ≤ 35184372088832) (hM : M ≤ 35184372088832) (h1 : Ints w v1 N f) (h2 : Ints w v2 M g) :
    Calls Try.prog 5 #[v1, v2, .int .i64 p] w fun e w' => e = .returned (.bool true) ∧ Below w.heap.size w w' := by
  have h2' := h2
  obtain ⟨ao, cap, rfl, hv⟩ := h2
  go_enter Try.func5, Try.ntmps5
  go_wp2_with (first
    | (go_at_call 10; refine (awake_any _).mono ?_; rintro e w1 ⟨rfl, b1⟩)
    | (go_at_call 8; refine (new_run 3 N M _ _ f g w _ (by decide) (by decide) hN hM b1 (h1.below b1) (h2'.below b1)).mono ?_; rintro e w2 ⟨b, ba, bp, bi, rfl, hR, _, _, _⟩))
  clear h1 h2' b1
  go_loopw [9] (fun i wr => ∃ (k t : Nat) (cs : Nat → Int), k ≤ M + 3 ∧ i = .int .i64 k ∧ t ≤ N ∧ Run w wr b ba bp bi 3 N M cs (fun i => plc 3 (f i)) t g (min k M)) (fun i _ => M + 3 - (intOf i).toNat)
  case atStart => exact ⟨0, 0, _, by omega, rfl, by omega, by rw [Nat.zero_min]; exact hR⟩
  case round =>
    obtain ⟨k, t, cs, hk, rfl, ht, hR⟩ := hrel
    by_cases hlt : k < M + 3
    · by_cases hin : k < M
      · obtain h0 | ⟨B, o, rfl, hBl, hc⟩ := hv
        · omega
        have d0 := fun wx (hb : Below w.heap.size w wx) => (hb.cell hBl).trans (hc k hin)
        rw [Nat.min_eq_left (by omega)] at hR
        cases hb : (bits BinOp.and .i64 (wrap64 (p + k)) 1 == 1)
        · have d1 := d0 _ hR.bel
          as_aux_lemma =>
            go_wp2_with (go_at_call 14; refine (input_some hR.sc hin hM).mono ?_; rintro e w4 ⟨rfl, hA4, hB4⟩)
            go_roundw
            case rel => exact ⟨k + 1, t, cs, by omega, by go_num, ht, by rw [Nat.min_eq_left (by omega)]; exact hR.call hA4 hB4⟩
            case measure => simp [intOf]; omega
        · as_aux_lemma =>
            go_wp2_with (first
              | (go_at_call 12; refine (pick_some hR.sc ht hN (fun i => plc_lt 3 _ (by decide)) (by decide)).mono ?_; rintro e w3 ⟨a, more, cs', t', rfl, hA3, ht', hB3⟩; have hR3 := hR.call hA3 hB3; have d1 := d0 _ hR3.bel)
              | (go_at_call 14; refine (input_some hR3.sc hin hM).mono ?_; rintro e w4 ⟨rfl, hA4, hB4⟩))
            go_roundw
            case rel => exact ⟨k + 1, t', cs', by omega, by go_num, ht', by rw [Nat.min_eq_left (by omega)]; exact hR3.call hA4 hB4⟩
            case measure => simp [intOf]; omega
      · rw [Nat.min_eq_right (by omega)] at hR
        cases hb : (bits BinOp.and .i64 (wrap64 (p + k)) 1 == 1)
        · as_aux_lemma =>
            go_wp2_with (go_at_call 14; refine (input_none hR.sc rfl).mono ?_; rintro e w4 ⟨rfl, hA4, hB4⟩)
            go_roundw
            case rel => exact ⟨k + 1, t, cs, by omega, by go_num, ht, by rw [Nat.min_eq_right (by omega)]; exact hR.call hA4 hB4⟩
            case measure => simp [intOf]; omega
        · as_aux_lemma =>
            go_wp2_with (first
              | (go_at_call 12; refine (pick_some hR.sc ht hN (fun i => plc_lt 3 _ (by decide)) (by decide)).mono ?_; rintro e w3 ⟨a, more, cs', t', rfl, hA3, ht', hB3⟩; have hR3 := hR.call hA3 hB3)
              | (go_at_call 14; refine (input_none hR3.sc rfl).mono ?_; rintro e w4 ⟨rfl, hA4, hB4⟩))
            go_roundw
            case rel => exact ⟨k + 1, t', cs', by omega, by go_num, ht', by rw [Nat.min_eq_right (by omega)]; exact hR3.call hA4 hB4⟩
            case measure => simp [intOf]; omega
    · go_wp2_with (go_at_call 9; refine (num_any _ _).mono ?_; rintro e wn ⟨rfl, rfl⟩)
      go_ret
      exact ⟨rfl, hR.bel⟩
end Go.Proofs.Ytlbemkmhkjllpaa
