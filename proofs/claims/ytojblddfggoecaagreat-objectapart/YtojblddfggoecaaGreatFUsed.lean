/- Used of a pool. -/
import Derived.Test.YtojblddfggoecaaGreatFMade
namespace Go.Proofs.YtojblddfggoecaaGreat
open Go.RowKit

/-- How many of the first i have a colour. -/
def cnt (C : Nat → Int) : Nat → Nat
  | 0 => 0
  | i + 1 => cnt C i + (if C i = 0 then 0 else 1)
theorem cnt_le (C : Nat → Int) (i : Nat) : cnt C i ≤ i := by induction i with | zero => exact Nat.le_refl _ | succ i ih => simp only [cnt]; split <;> omega
theorem cnt_mono (C : Nat → Int) {i j : Nat} (h : i ≤ j) : cnt C i ≤ cnt C j := by
  induction j with
  | zero => rw [Nat.le_zero.1 h]; exact Nat.le_refl _
  | succ j ih =>
    by_cases e : i = j + 1
    · subst e; exact Nat.le_refl _
    · have := ih (by omega); simp only [cnt]; omega
theorem cnt_lt (C : Nat → Int) {i j : Nat} (h : i < j) (hc : C i ≠ 0) : cnt C i < cnt C j := by
  have := cnt_mono C (show i + 1 ≤ j by omega)
  simp only [cnt, if_neg hc] at this
  omega
theorem cnt_all {C : Nat → Int} {n : Nat} (h : ∀ i, i < n → C i ≠ 0) : cnt C n = n := by
  induction n with
  | zero => rfl
  | succ n ih => simp only [cnt, if_neg (h n (by omega)), ih (fun i hi => h i (by omega))]
theorem cnt_none {C : Nat → Int} {n : Nat} (h : ∀ i, i < n → C i = 0) : cnt C n = 0 := by
  induction n with
  | zero => rfl
  | succ n ih => simp only [cnt, if_pos (h n (by omega)), ih (fun i hi => h i (by omega))]
/-- F lists those below i that have a colour, rising. -/
def Lists (C : Nat → Int) (F : Nat → Int) (i : Nat) : Prop := (∀ f, f < i → C f ≠ 0 → F (cnt C f) = f) ∧ ∀ j, j < cnt C i → ∃ f, f < i ∧ C f ≠ 0 ∧ F j = f
theorem Lists.skip {C F : Nat → Int} {i : Nat} (h : Lists C F i) (hc : C i = 0) : Lists C F (i + 1) := by
  refine ⟨fun f hf hu => ?_, fun j hj => ?_⟩
  · by_cases e : f = i
    · subst e; exact absurd hc hu
    · exact h.1 f (by omega) hu
  · simp only [cnt, if_pos hc, Nat.add_zero] at hj
    obtain ⟨f, h1, h2⟩ := h.2 j hj
    exact ⟨f, by omega, h2⟩
theorem Lists.more {C F : Nat → Int} {i : Nat} (h : Lists C F i) (hc : C i ≠ 0) : Lists C (cat (cnt C i) F (fun _ => (i : Int))) (i + 1) := by
  refine ⟨fun f hf hu => ?_, fun j hj => ?_⟩
  · by_cases e : f = i
    · subst e; unfold cat; rw [if_neg (by omega)]
    · have := cnt_lt C (show f < i by omega) hu
      unfold cat; rw [if_pos this]; exact h.1 f (by omega) hu
  · simp only [cnt, if_neg hc] at hj
    by_cases e : j < cnt C i
    · obtain ⟨f, h1, h2, h3⟩ := h.2 j e
      exact ⟨f, by omega, h2, by unfold cat; rw [if_pos e]; exact h3⟩
    · exact ⟨i, by omega, hc, by unfold cat; rw [if_neg e]⟩
set_option maxRecDepth 20000 in
set_option maxHeartbeats 2000000 in
theorem used_ok {w : World} {P : Nat → Prop} {p b W base n G : Nat} {cs : Nat → Int} {T : Int} {xs : List Int} {ws : Nat → Int} (h : Pl w P p b W base n G cs T xs ws) :
    Calls Tryz.prog 12 #[.pointer (some ⟨p, 0, none⟩)] w fun e w' => ∃ v F, e = .returned v ∧ Mine w' w.heap.size v (cnt (fun f => ws (base + 8 * n + f)) n) F ∧ Lists (fun f => ws (base + 8 * n + f)) F n ∧ Below w.heap.size w w' := by
  obtain ⟨Q, s, bc, pl, k, h⟩ := h
  have c0 := h.c8
  have hn2 := h.n2
  generalize hC : (fun f => ws (base + 8 * n + f)) = C
  go_enter Tryz.func12, Tryz.ntmps12
  go_wp2
  go_loopw [3, 12] (fun v3 v12 wr => ∃ (i : Nat) (F : Nat → Int), i ≤ n ∧ v12 = .int .i64 i ∧ Mine wr w.heap.size v3 (cnt C i) F ∧ Lists C F i ∧ Below w.heap.size w wr) (fun _ v12 _ => n - (intOf v12).toNat)
  case atStart => exact ⟨0, fun _ => 0, by omega, rfl, Mine.nil _ _ _, ⟨fun f hf => absurd hf (by omega), fun j hj => absurd hj (by simp [cnt])⟩, Below.refl _ _⟩
  case round =>
    obtain ⟨i, F, hi, rfl, hM, hF, hb⟩ := hrel
    have hr := h.below hb
    have c1 := hr.c8
    clear c0
    by_cases hlt : i < n
    · have ha := at_ok hr i hlt
      rw [show ws (base + 8 * n + i) = C i by rw [← hC]] at ha
      have hci := cnt_le C i
      have hlt' : (i : Int) < n := by omega
      by_cases hc : C i = 0
      · rw [hc] at ha
        have HL : Hid (Lists C F (i + 1)) := hF.skip hc
        have HM : Hid (∀ w2, Below wr.heap.size wr w2 → Mine w2 w.heap.size u3 (cnt C (i + 1)) F) := fun w2 q => by simp only [cnt, if_pos hc, Nat.add_zero]; exact hM.below q
        clear hc hF hM hr
        go_wp2_with (go_at_call 30; refine ha.mono ?_; rintro e w2 ⟨rfl, hb2⟩)
        go_roundw
        case rel => exact ⟨i + 1, F, by omega, by go_num, HM.out _ hb2, HL.out, hb.trans (hb2.mono hb.size)⟩
        case measure => simp [intOf]; omega
      · have hc' : (C i != 0) = true := by simpa using hc
        have HL : Hid (Lists C (cat (cnt C i) F (fun _ => (i : Int))) (i + 1)) := hF.more hc
        have HE : Hid (cnt C (i + 1) = cnt C i + 1) := (show _ = _ by simp only [cnt, if_neg hc])
        clear hc hF hr
        go_wp2_with (first | (at_builtin; refine wpList_app _ _ hrun rfl rfl rfl rfl rfl ?_; clear hrun) | (go_at_call 30; refine ha.mono ?_; rintro e w2 ⟨rfl, hb2⟩; obtain ⟨q, cp, w3, hrun, hM3, hg, hat⟩ := app1 (hM.below hb2) (i : Int) (Nat.le_trans hb.size hb2.size) (by omega)))
        go_roundw
        case rel => exact ⟨i + 1, _, by omega, by go_num, by rw [HE.out]; exact hM3, HL.out, hb.trans ((hb2.mono hb.size).trans (grown_below (hM.below hb2) hg (Nat.le_trans hb.size hb2.size)))⟩
        case measure => simp [intOf]; omega
    · obtain rfl : i = n := by omega
      go_wp2
      go_ret
      exact ⟨_, F, rfl, hM, hF, hb⟩
end Go.Proofs.YtojblddfggoecaaGreat
