/- HeapActs: word, refused. -/
import Derived.Test.YtnnjinkadcagdaaGreatMK1
namespace Go.Proofs.YtnnjinkadcagdaaGreat
open Go.RowKit
section
variable {B : Nat} {w0 w : World} {P : Nat → Prop} {h W G m : Nat} {c : Int → Int} {S : List (Option Cel)} {F : Nat → Nat → Int} {y : Nat} {va : Value} {L : List Lc}
theorem Fnd9.miss {t R : Int} (hR : Fnd9 L t R) (h0 : R < 0) : R = -1 ∧ ∀ x ∈ L, (x.ref : Int) + 1 ≠ t := by
  rcases hR with ⟨i, x, _, _, _, e⟩ | ⟨h1, h2⟩
  · omega
  · exact ⟨h2, h1⟩
theorem Fnd9.got {t R : Int} (hR : Fnd9 L t R) (h0 : ¬ R < 0) : ∃ (i : Nat) (x : Lc), L[i]? = some x ∧ (x.ref : Int) + 1 = t ∧ R = i := by
  rcases hR with ⟨i, x, h1, h2, _, e⟩ | ⟨h1, h2⟩
  · exact ⟨i, x, h1, h2, e⟩
  · omega
theorem Agr9.gone (hA : Agr9 S F L) {A t R : Int} (hR : Fnd9 L t R) (hn : ¬ (0 ≤ A ∧ A < G) ∨ R < 0) : Gone G S A t := by
  rintro ⟨ha, i, cl, e, hi⟩
  rcases hn with q | q
  · exact q ha
  · obtain ⟨x, hx, ex⟩ := hA.all i cl hi
    exact (hR.miss q).2 x hx (by omega)
theorem steps9 (A : Int) : ∃ b : Int, (∀ u Q, Hv B w0 u Q h W G m c S F → Calls Tryz.prog 21 #[.pointer (some ⟨h, 0, none⟩), .int .i64 A] u fun e w' => e = .returned (.int .i64 b) ∧ w' = u) ∧ (0 ≤ A ∧ A < G → b = c A) := by
  by_cases hA : 0 ≤ A ∧ A < (G : Int)
  · exact ⟨c A, fun u Q hu => z_steps hu A hA, fun _ => rfl⟩
  · exact ⟨0, fun u Q hu => z_steps_no hu A hA, fun q => absurd q hA⟩
set_option maxRecDepth 20000 in
set_option maxHeartbeats 2000000 in
theorem wl9_neg (H : Play9 B w0 w P h W G m c S F y va L) (hA : Agr9 S F L) (hm : m ≤ 3000) (hL : L.length ≤ 1000) (K A q C I V t R : Int) (hR : Fnd9 L t R) (hK : K < 5) (ha : A < 0) :
    Calls Tryz.prog 26 #[.pointer (some ⟨y, 0, none⟩), .agg #[.int .i64 K, .int .i64 A, .int .i64 q, .int .i64 C, .int .i64 I, .int .i64 V], .int .i64 t] w (ActPost9 B w0 h W G (m + 1) y) := by
  have hx0 := Pb9.start H K A q C I V
  have HA : Hid (Agr9 S F L) := hA
  have hat := at9_ok hx0.play hL t R hR
  obtain ⟨b0, hSt, _⟩ := steps9 (B := B) (w0 := w0) (h := h) (W := W) (G := G) (m := m) (c := c) (S := S) (F := F) A
  have HM : Hid (∀ u, Hv B w0 u P h W G m c S F → Calls Tryz.prog 17 #[.pointer (some ⟨h, 0, none⟩), .int .i64 A, .int .i64 t, .int .i64 I] u fun e w' => e = .returned (.tuple #[.int .i64 0, .int .i64 904]) ∧ Below u.heap.size u w') := fun u hu => z_load_no hu (by omega) A t I (hA.gone hR (.inl (by omega)))
  clear H hA hR hL
  go_enter Tryz.func26, Tryz.ntmps26
  have c1 := hx0.play.cells
  have f1 := hx0.six
  have l1 := hx0.apart.1
  have l2 := hx0.play.y_lt
  go_wp2_with (go_at_call 14; refine hat.mono ?_; rintro e w9 ⟨rfl, hw9⟩; replace hw9 := hw9.symm; subst hw9)
  generalize World.alloc _ _ = W1 at *
  clear hat
  have hSt1 := fun k => hSt _ _ (hx0.below (below_drewN W1 k _)).play.hv
  go_quiet ((go_at_call 21; exact Calls.quiet_of_same (hSt1 _)))
  have hx1 := hx0.below (below_drewN W1 nq _)
  generalize World.drewN _ _ = W2 at *
  clear hx0 c1 f1 l1 l2 hSt1
  have c1 := hx1.play.cells
  have f1 := hx1.six
  have l1 := hx1.apart.1
  have l2 := hx1.play.y_lt
  go_wp2
  have hd := hx1.below (below_drewN W2 1 _)
  have hM2 := HM.out _ hd.play.hv
  go_region_held3 (fun w' => w'.cell? ⟨y, 0, none⟩ = some (.pointer (some ⟨h, 0, none⟩)) ∧ w'.cell? ⟨w.heap.size, 1, none⟩ = some (.int .i64 A) ∧ w'.cell? ⟨w.heap.size, 4, none⟩ = some (.int .i64 I)) (go_keep) ((go_at_call 17; refine hM2.mono ?_; rintro e w6 ⟨rfl, hb6⟩; have hx6 := hd.below hb6; have f6 := hx6.six; have c6 := hx6.play.cells; clear hb6))
  clear hx1 hd c1 f1 hM2 HM l1 l2
  go_wp2_with (go_at_call 8; refine (num_any _ _).mono ?_; rintro e w9 ⟨rfl, hw9⟩; replace hw9 := hw9.symm; subst hw9)
  go_quiet (fail)
  all_goals
    have hx7 := hx6.below (below_drewN w6 nq _)
    generalize World.drewN _ _ = w7 at *
    have HX : Hid (Play9 B w0 w7 P h W G m c S F y va L) := hx7.play
    clear hx6 hx7 f6 c6
    go_wp2
    go_ret
    exact ⟨rfl, Edge9.same HX.out HA.out⟩
set_option maxRecDepth 20000 in
set_option maxHeartbeats 2000000 in
theorem wl9_far (H : Play9 B w0 w P h W G m c S F y va L) (hA : Agr9 S F L) (hm : m ≤ 3000) (hL : L.length ≤ 1000) (K A q C I V t R : Int) (hR : Fnd9 L t R) (hK : K < 5) (ha : (G : Int) ≤ A) :
    Calls Tryz.prog 26 #[.pointer (some ⟨y, 0, none⟩), .agg #[.int .i64 K, .int .i64 A, .int .i64 q, .int .i64 C, .int .i64 I, .int .i64 V], .int .i64 t] w (ActPost9 B w0 h W G (m + 1) y) := by
  have hx0 := Pb9.start H K A q C I V
  have HA : Hid (Agr9 S F L) := hA
  have hat := at9_ok hx0.play hL t R hR
  obtain ⟨b0, hSt, _⟩ := steps9 (B := B) (w0 := w0) (h := h) (W := W) (G := G) (m := m) (c := c) (S := S) (F := F) A
  have a2 : decide (A < 0) = false := by simp; omega
  have HM : Hid (∀ u, Hv B w0 u P h W G m c S F → Calls Tryz.prog 17 #[.pointer (some ⟨h, 0, none⟩), .int .i64 A, .int .i64 t, .int .i64 I] u fun e w' => e = .returned (.tuple #[.int .i64 0, .int .i64 904]) ∧ Below u.heap.size u w') := fun u hu => z_load_no hu (by omega) A t I (hA.gone hR (.inl (by omega)))
  clear H hA hR hL
  go_enter Tryz.func26, Tryz.ntmps26
  have c1 := hx0.play.cells
  have f1 := hx0.six
  have l1 := hx0.apart.1
  have l2 := hx0.play.y_lt
  go_wp2_with (go_at_call 14; refine hat.mono ?_; rintro e w9 ⟨rfl, hw9⟩; replace hw9 := hw9.symm; subst hw9)
  generalize World.alloc _ _ = W1 at *
  clear hat
  have hSt1 := fun k => hSt _ _ (hx0.below (below_drewN W1 k _)).play.hv
  go_quiet ((go_at_call 21; exact Calls.quiet_of_same (hSt1 _)))
  have hx1 := hx0.below (below_drewN W1 nq _)
  generalize World.drewN _ _ = W2 at *
  clear hx0 c1 f1 l1 l2 hSt1
  have c1 := hx1.play.cells
  have f1 := hx1.six
  have l1 := hx1.apart.1
  have l2 := hx1.play.y_lt
  go_wp2
  have hd := hx1.below (below_drewN W2 1 _)
  have hM2 := HM.out _ hd.play.hv
  go_region_held3 (fun w' => w'.cell? ⟨y, 0, none⟩ = some (.pointer (some ⟨h, 0, none⟩)) ∧ w'.cell? ⟨w.heap.size, 1, none⟩ = some (.int .i64 A) ∧ w'.cell? ⟨w.heap.size, 4, none⟩ = some (.int .i64 I)) (go_keep) ((go_at_call 17; refine hM2.mono ?_; rintro e w6 ⟨rfl, hb6⟩; have hx6 := hd.below hb6; have f6 := hx6.six; have c6 := hx6.play.cells; clear hb6))
  clear hx1 hd c1 f1 hM2 HM l1 l2
  go_wp2_with (go_at_call 8; refine (num_any _ _).mono ?_; rintro e w9 ⟨rfl, hw9⟩; replace hw9 := hw9.symm; subst hw9)
  go_quiet (fail)
  all_goals
    have hx7 := hx6.below (below_drewN w6 nq _)
    generalize World.drewN _ _ = w7 at *
    have HX : Hid (Play9 B w0 w7 P h W G m c S F y va L) := hx7.play
    clear hx6 hx7 f6 c6
    go_wp2
    go_ret
    exact ⟨rfl, Edge9.same HX.out HA.out⟩
set_option maxRecDepth 20000 in
set_option maxHeartbeats 2000000 in
theorem wl9_miss (H : Play9 B w0 w P h W G m c S F y va L) (hA : Agr9 S F L) (hm : m ≤ 3000) (hL : L.length ≤ 1000) (K A q C I V t R : Int) (hR : Fnd9 L t R) (hK : K < 5) (ha : 0 ≤ A ∧ A < G) (hr : R < 0) :
    Calls Tryz.prog 26 #[.pointer (some ⟨y, 0, none⟩), .agg #[.int .i64 K, .int .i64 A, .int .i64 q, .int .i64 C, .int .i64 I, .int .i64 V], .int .i64 t] w (ActPost9 B w0 h W G (m + 1) y) := by
  have hx0 := Pb9.start H K A q C I V
  have HA : Hid (Agr9 S F L) := hA
  have hat := at9_ok hx0.play hL t R hR
  obtain ⟨b0, hSt, _⟩ := steps9 (B := B) (w0 := w0) (h := h) (W := W) (G := G) (m := m) (c := c) (S := S) (F := F) A
  have a2 : decide (A < 0) = false := by simp; omega
  have a3 : decide ((G : Int) ≤ A) = false := by simp; omega
  have HM : Hid (∀ u, Hv B w0 u P h W G m c S F → Calls Tryz.prog 17 #[.pointer (some ⟨h, 0, none⟩), .int .i64 A, .int .i64 t, .int .i64 I] u fun e w' => e = .returned (.tuple #[.int .i64 0, .int .i64 904]) ∧ Below u.heap.size u w') := fun u hu => z_load_no hu (by omega) A t I (hA.gone hR (.inr hr))
  clear H hA hR hL
  go_enter Tryz.func26, Tryz.ntmps26
  have c1 := hx0.play.cells
  have f1 := hx0.six
  have l1 := hx0.apart.1
  have l2 := hx0.play.y_lt
  go_wp2_with (go_at_call 14; refine hat.mono ?_; rintro e w9 ⟨rfl, hw9⟩; replace hw9 := hw9.symm; subst hw9)
  generalize World.alloc _ _ = W1 at *
  clear hat
  have hSt1 := fun k => hSt _ _ (hx0.below (below_drewN W1 k _)).play.hv
  go_quiet ((go_at_call 21; exact Calls.quiet_of_same (hSt1 _)))
  have hx1 := hx0.below (below_drewN W1 nq _)
  generalize World.drewN _ _ = W2 at *
  clear hx0 c1 f1 l1 l2 hSt1
  have c1 := hx1.play.cells
  have f1 := hx1.six
  have l1 := hx1.apart.1
  have l2 := hx1.play.y_lt
  go_wp2
  have hd := hx1.below (below_drewN W2 1 _)
  have hM2 := HM.out _ hd.play.hv
  go_region_held3 (fun w' => w'.cell? ⟨y, 0, none⟩ = some (.pointer (some ⟨h, 0, none⟩)) ∧ w'.cell? ⟨w.heap.size, 1, none⟩ = some (.int .i64 A) ∧ w'.cell? ⟨w.heap.size, 4, none⟩ = some (.int .i64 I)) (go_keep) ((go_at_call 17; refine hM2.mono ?_; rintro e w6 ⟨rfl, hb6⟩; have hx6 := hd.below hb6; have f6 := hx6.six; have c6 := hx6.play.cells; clear hb6))
  clear hx1 hd c1 f1 hM2 HM l1 l2
  go_wp2_with (go_at_call 8; refine (num_any _ _).mono ?_; rintro e w9 ⟨rfl, hw9⟩; replace hw9 := hw9.symm; subst hw9)
  go_quiet (fail)
  all_goals
    have hx7 := hx6.below (below_drewN w6 nq _)
    generalize World.drewN _ _ = w7 at *
    have HX : Hid (Play9 B w0 w7 P h W G m c S F y va L) := hx7.play
    clear hx6 hx7 f6 c6
    go_wp2
    go_ret
    exact ⟨rfl, Edge9.same HX.out HA.out⟩
set_option maxRecDepth 20000 in
set_option maxHeartbeats 2000000 in
theorem wp9_neg (H : Play9 B w0 w P h W G m c S F y va L) (hA : Agr9 S F L) (hm : m ≤ 3000) (hL : L.length ≤ 1000) (K A q C I V t R : Int) (hR : Fnd9 L t R) (hK : ¬ K < 5) (ha : A < 0) :
    Calls Tryz.prog 26 #[.pointer (some ⟨y, 0, none⟩), .agg #[.int .i64 K, .int .i64 A, .int .i64 q, .int .i64 C, .int .i64 I, .int .i64 V], .int .i64 t] w (ActPost9 B w0 h W G (m + 1) y) := by
  have hx0 := Pb9.start H K A q C I V
  have HA : Hid (Agr9 S F L) := hA
  have hat := at9_ok hx0.play hL t R hR
  obtain ⟨b0, hSt, _⟩ := steps9 (B := B) (w0 := w0) (h := h) (W := W) (G := G) (m := m) (c := c) (S := S) (F := F) A
  have HM : Hid (∀ u, Hv B w0 u P h W G m c S F → Calls Tryz.prog 18 #[.pointer (some ⟨h, 0, none⟩), .int .i64 A, .int .i64 t, .int .i64 I, .int .i64 V] u fun e w' => e = .returned (.int .i64 904) ∧ Below u.heap.size u w') := fun u hu => z_put_no hu (by omega) A t I V (hA.gone hR (.inl (by omega)))
  have hK : decide (K < 5) = false := by simp; omega
  clear H hA hR hL
  go_enter Tryz.func26, Tryz.ntmps26
  have c1 := hx0.play.cells
  have f1 := hx0.six
  have l1 := hx0.apart.1
  have l2 := hx0.play.y_lt
  go_wp2_with (go_at_call 14; refine hat.mono ?_; rintro e w9 ⟨rfl, hw9⟩; replace hw9 := hw9.symm; subst hw9)
  generalize World.alloc _ _ = W1 at *
  clear hat
  have hSt1 := fun k => hSt _ _ (hx0.below (below_drewN W1 k _)).play.hv
  go_quiet ((go_at_call 21; exact Calls.quiet_of_same (hSt1 _)))
  have hx1 := hx0.below (below_drewN W1 nq _)
  generalize World.drewN _ _ = W2 at *
  clear hx0 c1 f1 l1 l2 hSt1
  have c1 := hx1.play.cells
  have f1 := hx1.six
  have l1 := hx1.apart.1
  have l2 := hx1.play.y_lt
  go_wp2
  have hd := hx1.below (below_drewN W2 1 _)
  have hM2 := HM.out _ hd.play.hv
  go_region_held3 (fun w' => w'.cell? ⟨y, 0, none⟩ = some (.pointer (some ⟨h, 0, none⟩)) ∧ w'.cell? ⟨w.heap.size, 1, none⟩ = some (.int .i64 A) ∧ w'.cell? ⟨w.heap.size, 4, none⟩ = some (.int .i64 I) ∧ w'.cell? ⟨w.heap.size, 5, none⟩ = some (.int .i64 V)) (go_keep) ((go_at_call 18; refine hM2.mono ?_; rintro e w6 ⟨rfl, hb6⟩; have hx6 := hd.below hb6; have f6 := hx6.six; have c6 := hx6.play.cells; clear hb6))
  clear hx1 hd c1 f1 hM2 HM l1 l2
  go_wp2_with (go_at_call 8; refine (num_any _ _).mono ?_; rintro e w9 ⟨rfl, hw9⟩; replace hw9 := hw9.symm; subst hw9)
  go_quiet (fail)
  all_goals
    have hx7 := hx6.below (below_drewN w6 nq _)
    generalize World.drewN _ _ = w7 at *
    have HX : Hid (Play9 B w0 w7 P h W G m c S F y va L) := hx7.play
    clear hx6 hx7 f6 c6
    go_wp2
    go_ret
    exact ⟨rfl, Edge9.same HX.out HA.out⟩
set_option maxRecDepth 20000 in
set_option maxHeartbeats 2000000 in
theorem wp9_far (H : Play9 B w0 w P h W G m c S F y va L) (hA : Agr9 S F L) (hm : m ≤ 3000) (hL : L.length ≤ 1000) (K A q C I V t R : Int) (hR : Fnd9 L t R) (hK : ¬ K < 5) (ha : (G : Int) ≤ A) :
    Calls Tryz.prog 26 #[.pointer (some ⟨y, 0, none⟩), .agg #[.int .i64 K, .int .i64 A, .int .i64 q, .int .i64 C, .int .i64 I, .int .i64 V], .int .i64 t] w (ActPost9 B w0 h W G (m + 1) y) := by
  have hx0 := Pb9.start H K A q C I V
  have HA : Hid (Agr9 S F L) := hA
  have hat := at9_ok hx0.play hL t R hR
  obtain ⟨b0, hSt, _⟩ := steps9 (B := B) (w0 := w0) (h := h) (W := W) (G := G) (m := m) (c := c) (S := S) (F := F) A
  have a2 : decide (A < 0) = false := by simp; omega
  have HM : Hid (∀ u, Hv B w0 u P h W G m c S F → Calls Tryz.prog 18 #[.pointer (some ⟨h, 0, none⟩), .int .i64 A, .int .i64 t, .int .i64 I, .int .i64 V] u fun e w' => e = .returned (.int .i64 904) ∧ Below u.heap.size u w') := fun u hu => z_put_no hu (by omega) A t I V (hA.gone hR (.inl (by omega)))
  have hK : decide (K < 5) = false := by simp; omega
  clear H hA hR hL
  go_enter Tryz.func26, Tryz.ntmps26
  have c1 := hx0.play.cells
  have f1 := hx0.six
  have l1 := hx0.apart.1
  have l2 := hx0.play.y_lt
  go_wp2_with (go_at_call 14; refine hat.mono ?_; rintro e w9 ⟨rfl, hw9⟩; replace hw9 := hw9.symm; subst hw9)
  generalize World.alloc _ _ = W1 at *
  clear hat
  have hSt1 := fun k => hSt _ _ (hx0.below (below_drewN W1 k _)).play.hv
  go_quiet ((go_at_call 21; exact Calls.quiet_of_same (hSt1 _)))
  have hx1 := hx0.below (below_drewN W1 nq _)
  generalize World.drewN _ _ = W2 at *
  clear hx0 c1 f1 l1 l2 hSt1
  have c1 := hx1.play.cells
  have f1 := hx1.six
  have l1 := hx1.apart.1
  have l2 := hx1.play.y_lt
  go_wp2
  have hd := hx1.below (below_drewN W2 1 _)
  have hM2 := HM.out _ hd.play.hv
  go_region_held3 (fun w' => w'.cell? ⟨y, 0, none⟩ = some (.pointer (some ⟨h, 0, none⟩)) ∧ w'.cell? ⟨w.heap.size, 1, none⟩ = some (.int .i64 A) ∧ w'.cell? ⟨w.heap.size, 4, none⟩ = some (.int .i64 I) ∧ w'.cell? ⟨w.heap.size, 5, none⟩ = some (.int .i64 V)) (go_keep) ((go_at_call 18; refine hM2.mono ?_; rintro e w6 ⟨rfl, hb6⟩; have hx6 := hd.below hb6; have f6 := hx6.six; have c6 := hx6.play.cells; clear hb6))
  clear hx1 hd c1 f1 hM2 HM l1 l2
  go_wp2_with (go_at_call 8; refine (num_any _ _).mono ?_; rintro e w9 ⟨rfl, hw9⟩; replace hw9 := hw9.symm; subst hw9)
  go_quiet (fail)
  all_goals
    have hx7 := hx6.below (below_drewN w6 nq _)
    generalize World.drewN _ _ = w7 at *
    have HX : Hid (Play9 B w0 w7 P h W G m c S F y va L) := hx7.play
    clear hx6 hx7 f6 c6
    go_wp2
    go_ret
    exact ⟨rfl, Edge9.same HX.out HA.out⟩
set_option maxRecDepth 20000 in
set_option maxHeartbeats 2000000 in
theorem wp9_miss (H : Play9 B w0 w P h W G m c S F y va L) (hA : Agr9 S F L) (hm : m ≤ 3000) (hL : L.length ≤ 1000) (K A q C I V t R : Int) (hR : Fnd9 L t R) (hK : ¬ K < 5) (ha : 0 ≤ A ∧ A < G) (hr : R < 0) :
    Calls Tryz.prog 26 #[.pointer (some ⟨y, 0, none⟩), .agg #[.int .i64 K, .int .i64 A, .int .i64 q, .int .i64 C, .int .i64 I, .int .i64 V], .int .i64 t] w (ActPost9 B w0 h W G (m + 1) y) := by
  have hx0 := Pb9.start H K A q C I V
  have HA : Hid (Agr9 S F L) := hA
  have hat := at9_ok hx0.play hL t R hR
  obtain ⟨b0, hSt, _⟩ := steps9 (B := B) (w0 := w0) (h := h) (W := W) (G := G) (m := m) (c := c) (S := S) (F := F) A
  have a2 : decide (A < 0) = false := by simp; omega
  have a3 : decide ((G : Int) ≤ A) = false := by simp; omega
  have HM : Hid (∀ u, Hv B w0 u P h W G m c S F → Calls Tryz.prog 18 #[.pointer (some ⟨h, 0, none⟩), .int .i64 A, .int .i64 t, .int .i64 I, .int .i64 V] u fun e w' => e = .returned (.int .i64 904) ∧ Below u.heap.size u w') := fun u hu => z_put_no hu (by omega) A t I V (hA.gone hR (.inr hr))
  have hK : decide (K < 5) = false := by simp; omega
  clear H hA hR hL
  go_enter Tryz.func26, Tryz.ntmps26
  have c1 := hx0.play.cells
  have f1 := hx0.six
  have l1 := hx0.apart.1
  have l2 := hx0.play.y_lt
  go_wp2_with (go_at_call 14; refine hat.mono ?_; rintro e w9 ⟨rfl, hw9⟩; replace hw9 := hw9.symm; subst hw9)
  generalize World.alloc _ _ = W1 at *
  clear hat
  have hSt1 := fun k => hSt _ _ (hx0.below (below_drewN W1 k _)).play.hv
  go_quiet ((go_at_call 21; exact Calls.quiet_of_same (hSt1 _)))
  have hx1 := hx0.below (below_drewN W1 nq _)
  generalize World.drewN _ _ = W2 at *
  clear hx0 c1 f1 l1 l2 hSt1
  have c1 := hx1.play.cells
  have f1 := hx1.six
  have l1 := hx1.apart.1
  have l2 := hx1.play.y_lt
  go_wp2
  have hd := hx1.below (below_drewN W2 1 _)
  have hM2 := HM.out _ hd.play.hv
  go_region_held3 (fun w' => w'.cell? ⟨y, 0, none⟩ = some (.pointer (some ⟨h, 0, none⟩)) ∧ w'.cell? ⟨w.heap.size, 1, none⟩ = some (.int .i64 A) ∧ w'.cell? ⟨w.heap.size, 4, none⟩ = some (.int .i64 I) ∧ w'.cell? ⟨w.heap.size, 5, none⟩ = some (.int .i64 V)) (go_keep) ((go_at_call 18; refine hM2.mono ?_; rintro e w6 ⟨rfl, hb6⟩; have hx6 := hd.below hb6; have f6 := hx6.six; have c6 := hx6.play.cells; clear hb6))
  clear hx1 hd c1 f1 hM2 HM l1 l2
  go_wp2_with (go_at_call 8; refine (num_any _ _).mono ?_; rintro e w9 ⟨rfl, hw9⟩; replace hw9 := hw9.symm; subst hw9)
  go_quiet (fail)
  all_goals
    have hx7 := hx6.below (below_drewN w6 nq _)
    generalize World.drewN _ _ = w7 at *
    have HX : Hid (Play9 B w0 w7 P h W G m c S F y va L) := hx7.play
    clear hx6 hx7 f6 c6
    go_wp2
    go_ret
    exact ⟨rfl, Edge9.same HX.out HA.out⟩
end
end Go.Proofs.YtnnjinkadcagdaaGreat
/- HeapActs: word, out of bounds. -/
namespace Go.Proofs.YtnnjinkadcagdaaGreat
open Go.RowKit
section
variable {B : Nat} {w0 w : World} {P : Nat → Prop} {h W G m : Nat} {c : Int → Int} {S : List (Option Cel)} {F : Nat → Nat → Int} {y : Nat} {va : Value} {L : List Lc}
set_option maxRecDepth 20000 in
set_option maxHeartbeats 2000000 in
theorem wl9_low (H : Play9 B w0 w P h W G m c S F y va L) (hA : Agr9 S F L) (hm : m ≤ 3000) (hL : L.length ≤ 1000) (K A q C I V t R : Int) (hR : Fnd9 L t R) (hK : K < 5) (ha : 0 ≤ A ∧ A < G) (hr : ¬ R < 0) (hi : I < 0) :
    Calls Tryz.prog 26 #[.pointer (some ⟨y, 0, none⟩), .agg #[.int .i64 K, .int .i64 A, .int .i64 q, .int .i64 C, .int .i64 I, .int .i64 V], .int .i64 t] w (ActPost9 B w0 h W G (m + 1) y) := by
  have hx0 := Pb9.start H K A q C I V
  have HA : Hid (Agr9 S F L) := hA
  have hat := at9_ok hx0.play hL t R hR
  obtain ⟨b0, hSt, _⟩ := steps9 (B := B) (w0 := w0) (h := h) (W := W) (G := G) (m := m) (c := c) (S := S) (F := F) A
  have a2 : decide (A < 0) = false := by simp; omega
  have a3 : decide ((G : Int) ≤ A) = false := by simp; omega
  obtain ⟨i, x, hx, ex, rfl⟩ := hR.got hr
  have HL : Hid (L.length ≤ 1000) := hL
  have r1 : decide ((i : Int) < 0) = false := by simp
  obtain ⟨⟨ad, hlv⟩, _⟩ := hA.live x (List.mem_of_getElem? hx)
  have ex' : t = (x.ref : Int) + 1 := ex.symm
  have HM : Hid (∀ u, Hv B w0 u P h W G m c S F → Calls Tryz.prog 17 #[.pointer (some ⟨h, 0, none⟩), .int .i64 A, .int .i64 t, .int .i64 I] u fun e w' => e = .returned (.tuple #[.int .i64 0, .int .i64 903]) ∧ Below u.heap.size u w') := fun u hu => by rw [ex']; exact z_load_out hu (by omega) hlv A I ha (by show ¬ (0 ≤ I ∧ I < (x.n : Int)); omega)
  clear H hA hR hL hr ex ex' hlv
  go_enter Tryz.func26, Tryz.ntmps26
  have c1 := hx0.play.cells
  have f1 := hx0.six
  have l1 := hx0.apart.1
  have l2 := hx0.play.y_lt
  go_wp2_with (go_at_call 14; refine hat.mono ?_; rintro e w9 ⟨rfl, hw9⟩; replace hw9 := hw9.symm; subst hw9)
  generalize World.alloc _ _ = W1 at *
  clear hat
  have hSt1 := fun k => hSt _ _ (hx0.below (below_drewN W1 k _)).play.hv
  go_quiet ((go_at_call 21; exact Calls.quiet_of_same (hSt1 _)))
  have hx1 := hx0.below (below_drewN W1 nq _)
  generalize World.drewN _ _ = W2 at *
  clear hx0 c1 f1 l1 l2 hSt1
  have c1 := hx1.play.cells
  have f1 := hx1.six
  have l1 := hx1.apart.1
  have l2 := hx1.play.y_lt
  go_wp2
  have hd := hx1.below (below_drewN W2 1 _)
  have hM2 := HM.out _ hd.play.hv
  go_region_held3 (fun w' => w'.cell? ⟨y, 0, none⟩ = some (.pointer (some ⟨h, 0, none⟩)) ∧ w'.cell? ⟨w.heap.size, 1, none⟩ = some (.int .i64 A) ∧ w'.cell? ⟨w.heap.size, 4, none⟩ = some (.int .i64 I)) (go_keep) ((go_at_call 17; refine hM2.mono ?_; rintro e w6 ⟨rfl, hb6⟩; have hx6 := hd.below hb6; have f6 := hx6.six; have c6 := hx6.play.cells; clear hb6))
  clear hx1 hd c1 f1 hM2 HM l1 l2
  go_wp2_with (go_at_call 8; refine (num_any _ _).mono ?_; rintro e w9 ⟨rfl, hw9⟩; replace hw9 := hw9.symm; subst hw9)
  go_quiet (fail)
  all_goals
    have hx7 := hx6.below (below_drewN w6 nq _)
    generalize World.drewN _ _ = w7 at *
    have f7 := hx7.six
    have c7 := hx7.play.cells
    obtain ⟨ao, cap, rfl, hFm⟩ := hx7.play.form
    obtain ⟨p, rfl, hp, e0, e1, e2, e3⟩ := hFm i x hx
    have hil : i < L.length := (List.getElem?_eq_some_iff.1 hx).1
    have hil2 : (i : Int) < (L.length : Int) := by omega
    have hL1 := HL.out
    generalize L.length = n at *
    have HX : Hid (Play9 B w0 w7 P h W G m c S F y (.slice (some ⟨p, 0, none⟩) n cap) L) := hx7.play
    clear hx6 hx7 f6 c6 hFm
    go_wp2
    go_quiet (fail)
    all_goals
      have HX2 : Hid (Play9 B w0 _ P h W G m c S F y (.slice (some ⟨p, 0, none⟩) n cap) L) := HX.out.below (below_drewN w7 nq _)
      generalize World.drewN _ _ = w8 at *
      go_wp2
      go_ret
      exact ⟨rfl, Edge9.same HX2.out HA.out⟩
set_option maxRecDepth 20000 in
set_option maxHeartbeats 2000000 in
theorem wl9_high (H : Play9 B w0 w P h W G m c S F y va L) (hA : Agr9 S F L) (hm : m ≤ 3000) (hL : L.length ≤ 1000) (K A q C I V t R : Int) (hR : Fnd9 L t R) (hK : K < 5) (ha : 0 ≤ A ∧ A < G) (hr : ¬ R < 0) (hi0 : 0 ≤ I) (hi : ∀ (i : Nat) (x : Lc), R = i → L[i]? = some x → (x.n : Int) ≤ I) :
    Calls Tryz.prog 26 #[.pointer (some ⟨y, 0, none⟩), .agg #[.int .i64 K, .int .i64 A, .int .i64 q, .int .i64 C, .int .i64 I, .int .i64 V], .int .i64 t] w (ActPost9 B w0 h W G (m + 1) y) := by
  have hx0 := Pb9.start H K A q C I V
  have HA : Hid (Agr9 S F L) := hA
  have hat := at9_ok hx0.play hL t R hR
  obtain ⟨b0, hSt, _⟩ := steps9 (B := B) (w0 := w0) (h := h) (W := W) (G := G) (m := m) (c := c) (S := S) (F := F) A
  have a2 : decide (A < 0) = false := by simp; omega
  have a3 : decide ((G : Int) ≤ A) = false := by simp; omega
  obtain ⟨i, x, hx, ex, rfl⟩ := hR.got hr
  have HL : Hid (L.length ≤ 1000) := hL
  have r1 : decide ((i : Int) < 0) = false := by simp
  obtain ⟨⟨ad, hlv⟩, _⟩ := hA.live x (List.mem_of_getElem? hx)
  have ex' : t = (x.ref : Int) + 1 := ex.symm
  have hi1 := hi i x rfl hx
  have i0 : decide (I < 0) = false := by simp; omega
  clear hi
  have HM : Hid (∀ u, Hv B w0 u P h W G m c S F → Calls Tryz.prog 17 #[.pointer (some ⟨h, 0, none⟩), .int .i64 A, .int .i64 t, .int .i64 I] u fun e w' => e = .returned (.tuple #[.int .i64 0, .int .i64 903]) ∧ Below u.heap.size u w') := fun u hu => by rw [ex']; exact z_load_out hu (by omega) hlv A I ha (by show ¬ (0 ≤ I ∧ I < (x.n : Int)); omega)
  clear H hA hR hL hr ex ex' hlv
  go_enter Tryz.func26, Tryz.ntmps26
  have c1 := hx0.play.cells
  have f1 := hx0.six
  have l1 := hx0.apart.1
  have l2 := hx0.play.y_lt
  go_wp2_with (go_at_call 14; refine hat.mono ?_; rintro e w9 ⟨rfl, hw9⟩; replace hw9 := hw9.symm; subst hw9)
  generalize World.alloc _ _ = W1 at *
  clear hat
  have hSt1 := fun k => hSt _ _ (hx0.below (below_drewN W1 k _)).play.hv
  go_quiet ((go_at_call 21; exact Calls.quiet_of_same (hSt1 _)))
  have hx1 := hx0.below (below_drewN W1 nq _)
  generalize World.drewN _ _ = W2 at *
  clear hx0 c1 f1 l1 l2 hSt1
  have c1 := hx1.play.cells
  have f1 := hx1.six
  have l1 := hx1.apart.1
  have l2 := hx1.play.y_lt
  go_wp2
  have hd := hx1.below (below_drewN W2 1 _)
  have hM2 := HM.out _ hd.play.hv
  go_region_held3 (fun w' => w'.cell? ⟨y, 0, none⟩ = some (.pointer (some ⟨h, 0, none⟩)) ∧ w'.cell? ⟨w.heap.size, 1, none⟩ = some (.int .i64 A) ∧ w'.cell? ⟨w.heap.size, 4, none⟩ = some (.int .i64 I)) (go_keep) ((go_at_call 17; refine hM2.mono ?_; rintro e w6 ⟨rfl, hb6⟩; have hx6 := hd.below hb6; have f6 := hx6.six; have c6 := hx6.play.cells; clear hb6))
  clear hx1 hd c1 f1 hM2 HM l1 l2
  go_wp2_with (go_at_call 8; refine (num_any _ _).mono ?_; rintro e w9 ⟨rfl, hw9⟩; replace hw9 := hw9.symm; subst hw9)
  go_quiet (fail)
  all_goals
    have hx7 := hx6.below (below_drewN w6 nq _)
    generalize World.drewN _ _ = w7 at *
    have f7 := hx7.six
    have c7 := hx7.play.cells
    obtain ⟨ao, cap, rfl, hFm⟩ := hx7.play.form
    obtain ⟨p, rfl, hp, e0, e1, e2, e3⟩ := hFm i x hx
    have hil : i < L.length := (List.getElem?_eq_some_iff.1 hx).1
    have hil2 : (i : Int) < (L.length : Int) := by omega
    have hL1 := HL.out
    generalize L.length = n at *
    have HX : Hid (Play9 B w0 w7 P h W G m c S F y (.slice (some ⟨p, 0, none⟩) n cap) L) := hx7.play
    clear hx6 hx7 f6 c6 hFm
    go_wp2
    go_quiet (fail)
    all_goals
      have HX2 : Hid (Play9 B w0 _ P h W G m c S F y (.slice (some ⟨p, 0, none⟩) n cap) L) := HX.out.below (below_drewN w7 nq _)
      generalize World.drewN _ _ = w8 at *
      go_wp2
      go_ret
      exact ⟨rfl, Edge9.same HX2.out HA.out⟩
set_option maxRecDepth 20000 in
set_option maxHeartbeats 2000000 in
theorem wp9_low (H : Play9 B w0 w P h W G m c S F y va L) (hA : Agr9 S F L) (hm : m ≤ 3000) (hL : L.length ≤ 1000) (K A q C I V t R : Int) (hR : Fnd9 L t R) (hK : ¬ K < 5) (ha : 0 ≤ A ∧ A < G) (hr : ¬ R < 0) (hi : I < 0) :
    Calls Tryz.prog 26 #[.pointer (some ⟨y, 0, none⟩), .agg #[.int .i64 K, .int .i64 A, .int .i64 q, .int .i64 C, .int .i64 I, .int .i64 V], .int .i64 t] w (ActPost9 B w0 h W G (m + 1) y) := by
  have hx0 := Pb9.start H K A q C I V
  have HA : Hid (Agr9 S F L) := hA
  have hat := at9_ok hx0.play hL t R hR
  obtain ⟨b0, hSt, _⟩ := steps9 (B := B) (w0 := w0) (h := h) (W := W) (G := G) (m := m) (c := c) (S := S) (F := F) A
  have a2 : decide (A < 0) = false := by simp; omega
  have a3 : decide ((G : Int) ≤ A) = false := by simp; omega
  obtain ⟨i, x, hx, ex, rfl⟩ := hR.got hr
  have HL : Hid (L.length ≤ 1000) := hL
  have r1 : decide ((i : Int) < 0) = false := by simp
  obtain ⟨⟨ad, hlv⟩, _⟩ := hA.live x (List.mem_of_getElem? hx)
  have ex' : t = (x.ref : Int) + 1 := ex.symm
  have HM : Hid (∀ u, Hv B w0 u P h W G m c S F → Calls Tryz.prog 18 #[.pointer (some ⟨h, 0, none⟩), .int .i64 A, .int .i64 t, .int .i64 I, .int .i64 V] u fun e w' => e = .returned (.int .i64 903) ∧ Below u.heap.size u w') := fun u hu => by rw [ex']; exact z_put_out hu (by omega) hlv A I V ha (by show ¬ (0 ≤ I ∧ I < (x.n : Int)); omega)
  have hK : decide (K < 5) = false := by simp; omega
  clear H hA hR hL hr ex ex' hlv
  go_enter Tryz.func26, Tryz.ntmps26
  have c1 := hx0.play.cells
  have f1 := hx0.six
  have l1 := hx0.apart.1
  have l2 := hx0.play.y_lt
  go_wp2_with (go_at_call 14; refine hat.mono ?_; rintro e w9 ⟨rfl, hw9⟩; replace hw9 := hw9.symm; subst hw9)
  generalize World.alloc _ _ = W1 at *
  clear hat
  have hSt1 := fun k => hSt _ _ (hx0.below (below_drewN W1 k _)).play.hv
  go_quiet ((go_at_call 21; exact Calls.quiet_of_same (hSt1 _)))
  have hx1 := hx0.below (below_drewN W1 nq _)
  generalize World.drewN _ _ = W2 at *
  clear hx0 c1 f1 l1 l2 hSt1
  have c1 := hx1.play.cells
  have f1 := hx1.six
  have l1 := hx1.apart.1
  have l2 := hx1.play.y_lt
  go_wp2
  have hd := hx1.below (below_drewN W2 1 _)
  have hM2 := HM.out _ hd.play.hv
  go_region_held3 (fun w' => w'.cell? ⟨y, 0, none⟩ = some (.pointer (some ⟨h, 0, none⟩)) ∧ w'.cell? ⟨w.heap.size, 1, none⟩ = some (.int .i64 A) ∧ w'.cell? ⟨w.heap.size, 4, none⟩ = some (.int .i64 I) ∧ w'.cell? ⟨w.heap.size, 5, none⟩ = some (.int .i64 V)) (go_keep) ((go_at_call 18; refine hM2.mono ?_; rintro e w6 ⟨rfl, hb6⟩; have hx6 := hd.below hb6; have f6 := hx6.six; have c6 := hx6.play.cells; clear hb6))
  clear hx1 hd c1 f1 hM2 HM l1 l2
  go_wp2_with (go_at_call 8; refine (num_any _ _).mono ?_; rintro e w9 ⟨rfl, hw9⟩; replace hw9 := hw9.symm; subst hw9)
  go_quiet (fail)
  all_goals
    have hx7 := hx6.below (below_drewN w6 nq _)
    generalize World.drewN _ _ = w7 at *
    have f7 := hx7.six
    have c7 := hx7.play.cells
    obtain ⟨ao, cap, rfl, hFm⟩ := hx7.play.form
    obtain ⟨p, rfl, hp, e0, e1, e2, e3⟩ := hFm i x hx
    have hil : i < L.length := (List.getElem?_eq_some_iff.1 hx).1
    have hil2 : (i : Int) < (L.length : Int) := by omega
    have hL1 := HL.out
    generalize L.length = n at *
    have HX : Hid (Play9 B w0 w7 P h W G m c S F y (.slice (some ⟨p, 0, none⟩) n cap) L) := hx7.play
    clear hx6 hx7 f6 c6 hFm
    go_wp2
    go_quiet (fail)
    all_goals
      have HX2 : Hid (Play9 B w0 _ P h W G m c S F y (.slice (some ⟨p, 0, none⟩) n cap) L) := HX.out.below (below_drewN w7 nq _)
      generalize World.drewN _ _ = w8 at *
      go_wp2
      go_ret
      exact ⟨rfl, Edge9.same HX2.out HA.out⟩
set_option maxRecDepth 20000 in
set_option maxHeartbeats 2000000 in
theorem wp9_high (H : Play9 B w0 w P h W G m c S F y va L) (hA : Agr9 S F L) (hm : m ≤ 3000) (hL : L.length ≤ 1000) (K A q C I V t R : Int) (hR : Fnd9 L t R) (hK : ¬ K < 5) (ha : 0 ≤ A ∧ A < G) (hr : ¬ R < 0) (hi0 : 0 ≤ I) (hi : ∀ (i : Nat) (x : Lc), R = i → L[i]? = some x → (x.n : Int) ≤ I) :
    Calls Tryz.prog 26 #[.pointer (some ⟨y, 0, none⟩), .agg #[.int .i64 K, .int .i64 A, .int .i64 q, .int .i64 C, .int .i64 I, .int .i64 V], .int .i64 t] w (ActPost9 B w0 h W G (m + 1) y) := by
  have hx0 := Pb9.start H K A q C I V
  have HA : Hid (Agr9 S F L) := hA
  have hat := at9_ok hx0.play hL t R hR
  obtain ⟨b0, hSt, _⟩ := steps9 (B := B) (w0 := w0) (h := h) (W := W) (G := G) (m := m) (c := c) (S := S) (F := F) A
  have a2 : decide (A < 0) = false := by simp; omega
  have a3 : decide ((G : Int) ≤ A) = false := by simp; omega
  obtain ⟨i, x, hx, ex, rfl⟩ := hR.got hr
  have HL : Hid (L.length ≤ 1000) := hL
  have r1 : decide ((i : Int) < 0) = false := by simp
  obtain ⟨⟨ad, hlv⟩, _⟩ := hA.live x (List.mem_of_getElem? hx)
  have ex' : t = (x.ref : Int) + 1 := ex.symm
  have hi1 := hi i x rfl hx
  have i0 : decide (I < 0) = false := by simp; omega
  clear hi
  have HM : Hid (∀ u, Hv B w0 u P h W G m c S F → Calls Tryz.prog 18 #[.pointer (some ⟨h, 0, none⟩), .int .i64 A, .int .i64 t, .int .i64 I, .int .i64 V] u fun e w' => e = .returned (.int .i64 903) ∧ Below u.heap.size u w') := fun u hu => by rw [ex']; exact z_put_out hu (by omega) hlv A I V ha (by show ¬ (0 ≤ I ∧ I < (x.n : Int)); omega)
  have hK : decide (K < 5) = false := by simp; omega
  clear H hA hR hL hr ex ex' hlv
  go_enter Tryz.func26, Tryz.ntmps26
  have c1 := hx0.play.cells
  have f1 := hx0.six
  have l1 := hx0.apart.1
  have l2 := hx0.play.y_lt
  go_wp2_with (go_at_call 14; refine hat.mono ?_; rintro e w9 ⟨rfl, hw9⟩; replace hw9 := hw9.symm; subst hw9)
  generalize World.alloc _ _ = W1 at *
  clear hat
  have hSt1 := fun k => hSt _ _ (hx0.below (below_drewN W1 k _)).play.hv
  go_quiet ((go_at_call 21; exact Calls.quiet_of_same (hSt1 _)))
  have hx1 := hx0.below (below_drewN W1 nq _)
  generalize World.drewN _ _ = W2 at *
  clear hx0 c1 f1 l1 l2 hSt1
  have c1 := hx1.play.cells
  have f1 := hx1.six
  have l1 := hx1.apart.1
  have l2 := hx1.play.y_lt
  go_wp2
  have hd := hx1.below (below_drewN W2 1 _)
  have hM2 := HM.out _ hd.play.hv
  go_region_held3 (fun w' => w'.cell? ⟨y, 0, none⟩ = some (.pointer (some ⟨h, 0, none⟩)) ∧ w'.cell? ⟨w.heap.size, 1, none⟩ = some (.int .i64 A) ∧ w'.cell? ⟨w.heap.size, 4, none⟩ = some (.int .i64 I) ∧ w'.cell? ⟨w.heap.size, 5, none⟩ = some (.int .i64 V)) (go_keep) ((go_at_call 18; refine hM2.mono ?_; rintro e w6 ⟨rfl, hb6⟩; have hx6 := hd.below hb6; have f6 := hx6.six; have c6 := hx6.play.cells; clear hb6))
  clear hx1 hd c1 f1 hM2 HM l1 l2
  go_wp2_with (go_at_call 8; refine (num_any _ _).mono ?_; rintro e w9 ⟨rfl, hw9⟩; replace hw9 := hw9.symm; subst hw9)
  go_quiet (fail)
  all_goals
    have hx7 := hx6.below (below_drewN w6 nq _)
    generalize World.drewN _ _ = w7 at *
    have f7 := hx7.six
    have c7 := hx7.play.cells
    obtain ⟨ao, cap, rfl, hFm⟩ := hx7.play.form
    obtain ⟨p, rfl, hp, e0, e1, e2, e3⟩ := hFm i x hx
    have hil : i < L.length := (List.getElem?_eq_some_iff.1 hx).1
    have hil2 : (i : Int) < (L.length : Int) := by omega
    have hL1 := HL.out
    generalize L.length = n at *
    have HX : Hid (Play9 B w0 w7 P h W G m c S F y (.slice (some ⟨p, 0, none⟩) n cap) L) := hx7.play
    clear hx6 hx7 f6 c6 hFm
    go_wp2
    go_quiet (fail)
    all_goals
      have HX2 : Hid (Play9 B w0 _ P h W G m c S F y (.slice (some ⟨p, 0, none⟩) n cap) L) := HX.out.below (below_drewN w7 nq _)
      generalize World.drewN _ _ = w8 at *
      go_wp2
      go_ret
      exact ⟨rfl, Edge9.same HX2.out HA.out⟩
end
end Go.Proofs.YtnnjinkadcagdaaGreat
