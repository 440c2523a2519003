/- HeapActs: make, refused. -/
import Derived.Test.YtnnjinkadcagdaaGreatMHPlay
import Derived.BigRegion
import Derived.BigQuiet
import Derived.Deep.RegionHeld3
import Derived.Test.YtnnjinkadcagdaaGreatMH1
namespace Go.Proofs.YtnnjinkadcagdaaGreat
open Go.RowKit
/-- What an act leaves. -/
def ActPost9 (B : Nat) (w0 : World) (h W G m y : Nat) (e : Ending) (w' : World) : Prop := e = .returned (.bool true) ∧ Edge9 B w0 w' h W G m y
section
variable {B : Nat} {w0 w : World} {P : Nat → Prop} {h W G m : Nat} {c : Int → Int} {S : List (Option Cel)} {F : Nat → Nat → Int} {y : Nat} {va : Value} {L : List Lc}
set_option maxRecDepth 20000 in
set_option maxHeartbeats 2000000 in
theorem mk9_neg (H : Play9 B w0 w P h W G m c S F y va L) (hA : Agr9 S F L) (K A q C I V : Int) (ha : A < 0) :
    Calls Tryz.prog 25 #[.pointer (some ⟨y, 0, none⟩), .agg #[.int .i64 K, .int .i64 A, .int .i64 q, .int .i64 C, .int .i64 I, .int .i64 V]] w (ActPost9 B w0 h W G (m + 1) y) := by
  have hx0 := Pb9.start H K A q C I V
  have HA : Hid (Agr9 S F L) := hA
  have hfx := H.hv.facts
  have hro0 : (0 : Int) ≤ (roomW W : Int) - sumS S ∧ (roomW W : Int) - sumS S ≤ 6000 := by have e : roomW W = (W + 3) / 4 := rfl; omega
  have HM : Hid (∀ u, Hv B w0 u P h W G m c S F → Calls Tryz.prog 16 #[.pointer (some ⟨h, 0, none⟩), .int .i64 A, .int .i64 C, .int .i64 I, .int .i64 V] u fun e w' => e = .returned (.tuple #[.int .i64 0, .int .i64 904]) ∧ Below u.heap.size u w') := fun u hu => z_agent hu A C I V (by omega)
  have hFt := fun u : World => fits9_ok 1 0 u (by omega) true (by decide)
  obtain ⟨ro, hro⟩ : ∃ ro : Int, ro = (roomW W : Int) - sumS S := ⟨_, rfl⟩
  have hRm : ∀ u, Hv B w0 u P h W G m c S F → Calls Tryz.prog 11 #[.pointer (some ⟨h, 0, none⟩)] u fun e w' => e = .returned (.int .i64 ro) ∧ w' = u := fun u hu => by rw [hro]; exact z_room hu
  rw [← hro] at hro0
  clear H hA hfx hro
  go_enter Tryz.func25, Tryz.ntmps25
  have c1 := hx0.play.cells
  have f1 := hx0.six
  have l1 := hx0.apart.1
  have l2 := hx0.play.y_lt
  go_wp2_with (go_at_call 11; refine (hRm _ hx0.play.hv).mono ?_; rintro e w9 ⟨rfl, hw9⟩; replace hw9 := hw9.symm; subst hw9)
  generalize World.alloc _ _ = W1 at *
  have hd := hx0.below (below_drewN W1 1 _)
  have hM2 := HM.out _ hd.play.hv
  go_region_held3 (fun w' => w'.cell? ⟨y, 0, none⟩ = some (.pointer (some ⟨h, 0, none⟩)) ∧ w'.cell? ⟨w.heap.size, 1, none⟩ = some (.int .i64 A) ∧ w'.cell? ⟨w.heap.size, 3, none⟩ = some (.int .i64 C) ∧ w'.cell? ⟨w.heap.size, 4, none⟩ = some (.int .i64 I) ∧ w'.cell? ⟨w.heap.size, 5, none⟩ = some (.int .i64 V)) (go_keep) ((go_at_call 16; refine hM2.mono ?_; rintro e w6 ⟨rfl, hb6⟩; have hx6 := hd.below hb6; have f6 := hx6.six; have c6 := hx6.play.cells; clear hb6))
  clear hx0 hd c1 f1 hM2 HM l1 l2
  go_wp2
  go_quiet (fail)
  all_goals
    have hx7 := hx6.below (below_drewN w6 nq _)
    generalize World.drewN _ _ = w7 at *
    have f7 := hx7.six
    have c7 := hx7.play.cells
    have HX : Hid (Play9 B w0 w7 P h W G m c S F y va L) := hx7.play
    clear hx6 hx7 f6 c6
    go_wp2_with (first
      | (go_at_call 8; refine (num_any _ _).mono ?_; rintro e w9 ⟨rfl, hw9⟩; replace hw9 := hw9.symm; subst hw9)
      | (go_at_call 41; refine (hFt _).mono ?_; rintro e w9 ⟨rfl, hw9⟩; replace hw9 := hw9.symm; subst hw9))
    go_ret
    exact ⟨rfl, Edge9.same HX.out HA.out⟩
set_option maxRecDepth 20000 in
set_option maxHeartbeats 2000000 in
theorem mk9_far (H : Play9 B w0 w P h W G m c S F y va L) (hA : Agr9 S F L) (K A q C I V : Int) (ha : (G : Int) ≤ A) :
    Calls Tryz.prog 25 #[.pointer (some ⟨y, 0, none⟩), .agg #[.int .i64 K, .int .i64 A, .int .i64 q, .int .i64 C, .int .i64 I, .int .i64 V]] w (ActPost9 B w0 h W G (m + 1) y) := by
  have hx0 := Pb9.start H K A q C I V
  have HA : Hid (Agr9 S F L) := hA
  have hfx := H.hv.facts
  have hro0 : (0 : Int) ≤ (roomW W : Int) - sumS S ∧ (roomW W : Int) - sumS S ≤ 6000 := by have e : roomW W = (W + 3) / 4 := rfl; omega
  have HM : Hid (∀ u, Hv B w0 u P h W G m c S F → Calls Tryz.prog 16 #[.pointer (some ⟨h, 0, none⟩), .int .i64 A, .int .i64 C, .int .i64 I, .int .i64 V] u fun e w' => e = .returned (.tuple #[.int .i64 0, .int .i64 904]) ∧ Below u.heap.size u w') := fun u hu => z_agent hu A C I V (by omega)
  have a2 : decide (A < 0) = false := by simp; omega
  have hFt := fun u : World => fits9_ok 1 0 u (by omega) true (by decide)
  obtain ⟨ro, hro⟩ : ∃ ro : Int, ro = (roomW W : Int) - sumS S := ⟨_, rfl⟩
  have hRm : ∀ u, Hv B w0 u P h W G m c S F → Calls Tryz.prog 11 #[.pointer (some ⟨h, 0, none⟩)] u fun e w' => e = .returned (.int .i64 ro) ∧ w' = u := fun u hu => by rw [hro]; exact z_room hu
  rw [← hro] at hro0
  clear H hA hfx hro
  go_enter Tryz.func25, Tryz.ntmps25
  have c1 := hx0.play.cells
  have f1 := hx0.six
  have l1 := hx0.apart.1
  have l2 := hx0.play.y_lt
  go_wp2_with (go_at_call 11; refine (hRm _ hx0.play.hv).mono ?_; rintro e w9 ⟨rfl, hw9⟩; replace hw9 := hw9.symm; subst hw9)
  generalize World.alloc _ _ = W1 at *
  have hd := hx0.below (below_drewN W1 1 _)
  have hM2 := HM.out _ hd.play.hv
  go_region_held3 (fun w' => w'.cell? ⟨y, 0, none⟩ = some (.pointer (some ⟨h, 0, none⟩)) ∧ w'.cell? ⟨w.heap.size, 1, none⟩ = some (.int .i64 A) ∧ w'.cell? ⟨w.heap.size, 3, none⟩ = some (.int .i64 C) ∧ w'.cell? ⟨w.heap.size, 4, none⟩ = some (.int .i64 I) ∧ w'.cell? ⟨w.heap.size, 5, none⟩ = some (.int .i64 V)) (go_keep) ((go_at_call 16; refine hM2.mono ?_; rintro e w6 ⟨rfl, hb6⟩; have hx6 := hd.below hb6; have f6 := hx6.six; have c6 := hx6.play.cells; clear hb6))
  clear hx0 hd c1 f1 hM2 HM l1 l2
  go_wp2
  go_quiet (fail)
  all_goals
    have hx7 := hx6.below (below_drewN w6 nq _)
    generalize World.drewN _ _ = w7 at *
    have f7 := hx7.six
    have c7 := hx7.play.cells
    have HX : Hid (Play9 B w0 w7 P h W G m c S F y va L) := hx7.play
    clear hx6 hx7 f6 c6
    go_wp2_with (first
      | (go_at_call 8; refine (num_any _ _).mono ?_; rintro e w9 ⟨rfl, hw9⟩; replace hw9 := hw9.symm; subst hw9)
      | (go_at_call 41; refine (hFt _).mono ?_; rintro e w9 ⟨rfl, hw9⟩; replace hw9 := hw9.symm; subst hw9))
    go_ret
    exact ⟨rfl, Edge9.same HX.out HA.out⟩
set_option maxRecDepth 20000 in
set_option maxHeartbeats 2000000 in
theorem mk9_kneg (H : Play9 B w0 w P h W G m c S F y va L) (hA : Agr9 S F L) (K A q C I V : Int) (ha : 0 ≤ A ∧ A < G) (hk : C < 1) :
    Calls Tryz.prog 25 #[.pointer (some ⟨y, 0, none⟩), .agg #[.int .i64 K, .int .i64 A, .int .i64 q, .int .i64 C, .int .i64 I, .int .i64 V]] w (ActPost9 B w0 h W G (m + 1) y) := by
  have hx0 := Pb9.start H K A q C I V
  have HA : Hid (Agr9 S F L) := hA
  have hfx := H.hv.facts
  have hro0 : (0 : Int) ≤ (roomW W : Int) - sumS S ∧ (roomW W : Int) - sumS S ≤ 6000 := by have e : roomW W = (W + 3) / 4 := rfl; omega
  have HM : Hid (∀ u, Hv B w0 u P h W G m c S F → Calls Tryz.prog 16 #[.pointer (some ⟨h, 0, none⟩), .int .i64 A, .int .i64 C, .int .i64 I, .int .i64 V] u fun e w' => e = .returned (.tuple #[.int .i64 0, .int .i64 902]) ∧ Below u.heap.size u w') := fun u hu => z_kind hu A C I V ha (by omega)
  have a2 : decide (A < 0) = false := by simp; omega
  have a3 : decide ((G : Int) ≤ A) = false := by simp; omega
  have hFt := fun u : World => fits9_ok 1 0 u (by omega) true (by decide)
  obtain ⟨ro, hro⟩ : ∃ ro : Int, ro = (roomW W : Int) - sumS S := ⟨_, rfl⟩
  have hRm : ∀ u, Hv B w0 u P h W G m c S F → Calls Tryz.prog 11 #[.pointer (some ⟨h, 0, none⟩)] u fun e w' => e = .returned (.int .i64 ro) ∧ w' = u := fun u hu => by rw [hro]; exact z_room hu
  rw [← hro] at hro0
  clear H hA hfx hro
  go_enter Tryz.func25, Tryz.ntmps25
  have c1 := hx0.play.cells
  have f1 := hx0.six
  have l1 := hx0.apart.1
  have l2 := hx0.play.y_lt
  go_wp2_with (go_at_call 11; refine (hRm _ hx0.play.hv).mono ?_; rintro e w9 ⟨rfl, hw9⟩; replace hw9 := hw9.symm; subst hw9)
  generalize World.alloc _ _ = W1 at *
  have hd := hx0.below (below_drewN W1 1 _)
  have hM2 := HM.out _ hd.play.hv
  go_region_held3 (fun w' => w'.cell? ⟨y, 0, none⟩ = some (.pointer (some ⟨h, 0, none⟩)) ∧ w'.cell? ⟨w.heap.size, 1, none⟩ = some (.int .i64 A) ∧ w'.cell? ⟨w.heap.size, 3, none⟩ = some (.int .i64 C) ∧ w'.cell? ⟨w.heap.size, 4, none⟩ = some (.int .i64 I) ∧ w'.cell? ⟨w.heap.size, 5, none⟩ = some (.int .i64 V)) (go_keep) ((go_at_call 16; refine hM2.mono ?_; rintro e w6 ⟨rfl, hb6⟩; have hx6 := hd.below hb6; have f6 := hx6.six; have c6 := hx6.play.cells; clear hb6))
  clear hx0 hd c1 f1 hM2 HM l1 l2
  go_wp2
  go_quiet (fail)
  all_goals
    have hx7 := hx6.below (below_drewN w6 nq _)
    generalize World.drewN _ _ = w7 at *
    have f7 := hx7.six
    have c7 := hx7.play.cells
    have HX : Hid (Play9 B w0 w7 P h W G m c S F y va L) := hx7.play
    clear hx6 hx7 f6 c6
    go_wp2_with (first
      | (go_at_call 8; refine (num_any _ _).mono ?_; rintro e w9 ⟨rfl, hw9⟩; replace hw9 := hw9.symm; subst hw9)
      | (go_at_call 41; refine (hFt _).mono ?_; rintro e w9 ⟨rfl, hw9⟩; replace hw9 := hw9.symm; subst hw9))
    go_ret
    exact ⟨rfl, Edge9.same HX.out HA.out⟩
set_option maxRecDepth 20000 in
set_option maxHeartbeats 2000000 in
theorem mk9_kfar (H : Play9 B w0 w P h W G m c S F y va L) (hA : Agr9 S F L) (K A q C I V : Int) (ha : 0 ≤ A ∧ A < G) (hk : 4 < C) :
    Calls Tryz.prog 25 #[.pointer (some ⟨y, 0, none⟩), .agg #[.int .i64 K, .int .i64 A, .int .i64 q, .int .i64 C, .int .i64 I, .int .i64 V]] w (ActPost9 B w0 h W G (m + 1) y) := by
  have hx0 := Pb9.start H K A q C I V
  have HA : Hid (Agr9 S F L) := hA
  have hfx := H.hv.facts
  have hro0 : (0 : Int) ≤ (roomW W : Int) - sumS S ∧ (roomW W : Int) - sumS S ≤ 6000 := by have e : roomW W = (W + 3) / 4 := rfl; omega
  have HM : Hid (∀ u, Hv B w0 u P h W G m c S F → Calls Tryz.prog 16 #[.pointer (some ⟨h, 0, none⟩), .int .i64 A, .int .i64 C, .int .i64 I, .int .i64 V] u fun e w' => e = .returned (.tuple #[.int .i64 0, .int .i64 902]) ∧ Below u.heap.size u w') := fun u hu => z_kind hu A C I V ha (by omega)
  have a2 : decide (A < 0) = false := by simp; omega
  have a3 : decide ((G : Int) ≤ A) = false := by simp; omega
  have k1 : decide (C < 1) = false := by simp; omega
  have hFt := fun u : World => fits9_ok 1 0 u (by omega) true (by decide)
  obtain ⟨ro, hro⟩ : ∃ ro : Int, ro = (roomW W : Int) - sumS S := ⟨_, rfl⟩
  have hRm : ∀ u, Hv B w0 u P h W G m c S F → Calls Tryz.prog 11 #[.pointer (some ⟨h, 0, none⟩)] u fun e w' => e = .returned (.int .i64 ro) ∧ w' = u := fun u hu => by rw [hro]; exact z_room hu
  rw [← hro] at hro0
  clear H hA hfx hro
  go_enter Tryz.func25, Tryz.ntmps25
  have c1 := hx0.play.cells
  have f1 := hx0.six
  have l1 := hx0.apart.1
  have l2 := hx0.play.y_lt
  go_wp2_with (go_at_call 11; refine (hRm _ hx0.play.hv).mono ?_; rintro e w9 ⟨rfl, hw9⟩; replace hw9 := hw9.symm; subst hw9)
  generalize World.alloc _ _ = W1 at *
  have hd := hx0.below (below_drewN W1 1 _)
  have hM2 := HM.out _ hd.play.hv
  go_region_held3 (fun w' => w'.cell? ⟨y, 0, none⟩ = some (.pointer (some ⟨h, 0, none⟩)) ∧ w'.cell? ⟨w.heap.size, 1, none⟩ = some (.int .i64 A) ∧ w'.cell? ⟨w.heap.size, 3, none⟩ = some (.int .i64 C) ∧ w'.cell? ⟨w.heap.size, 4, none⟩ = some (.int .i64 I) ∧ w'.cell? ⟨w.heap.size, 5, none⟩ = some (.int .i64 V)) (go_keep) ((go_at_call 16; refine hM2.mono ?_; rintro e w6 ⟨rfl, hb6⟩; have hx6 := hd.below hb6; have f6 := hx6.six; have c6 := hx6.play.cells; clear hb6))
  clear hx0 hd c1 f1 hM2 HM l1 l2
  go_wp2
  go_quiet (fail)
  all_goals
    have hx7 := hx6.below (below_drewN w6 nq _)
    generalize World.drewN _ _ = w7 at *
    have f7 := hx7.six
    have c7 := hx7.play.cells
    have HX : Hid (Play9 B w0 w7 P h W G m c S F y va L) := hx7.play
    clear hx6 hx7 f6 c6
    go_wp2_with (first
      | (go_at_call 8; refine (num_any _ _).mono ?_; rintro e w9 ⟨rfl, hw9⟩; replace hw9 := hw9.symm; subst hw9)
      | (go_at_call 41; refine (hFt _).mono ?_; rintro e w9 ⟨rfl, hw9⟩; replace hw9 := hw9.symm; subst hw9))
    go_ret
    exact ⟨rfl, Edge9.same HX.out HA.out⟩
set_option maxRecDepth 20000 in
set_option maxHeartbeats 2000000 in
theorem mk9_size (H : Play9 B w0 w P h W G m c S F y va L) (hA : Agr9 S F L) (K A q C I V : Int) (ha : 0 ≤ A ∧ A < G) (hk : 1 ≤ C ∧ C ≤ 4) (hn : ¬ (kmin C ≤ V ∧ V ≤ kmax C)) :
    Calls Tryz.prog 25 #[.pointer (some ⟨y, 0, none⟩), .agg #[.int .i64 K, .int .i64 A, .int .i64 q, .int .i64 C, .int .i64 I, .int .i64 V]] w (ActPost9 B w0 h W G (m + 1) y) := by
  have hx0 := Pb9.start H K A q C I V
  have HA : Hid (Agr9 S F L) := hA
  have hfx := H.hv.facts
  have hro0 : (0 : Int) ≤ (roomW W : Int) - sumS S ∧ (roomW W : Int) - sumS S ≤ 6000 := by have e : roomW W = (W + 3) / 4 := rfl; omega
  have HM : Hid (∀ u, Hv B w0 u P h W G m c S F → Calls Tryz.prog 16 #[.pointer (some ⟨h, 0, none⟩), .int .i64 A, .int .i64 C, .int .i64 I, .int .i64 V] u fun e w' => e = .returned (.tuple #[.int .i64 0, .int .i64 900]) ∧ Below u.heap.size u w') := fun u hu => z_size hu A C I V ha hk (fun r => hn r.1)
  have a2 : decide (A < 0) = false := by simp; omega
  have a3 : decide ((G : Int) ≤ A) = false := by simp; omega
  have k1 : decide (C < 1) = false := by simp; omega
  have k2 : decide (4 < C) = false := by simp; omega
  have hFt := fun u : World => fits9_ok C V u hk false (by simpa using hn)
  obtain ⟨ro, hro⟩ : ∃ ro : Int, ro = (roomW W : Int) - sumS S := ⟨_, rfl⟩
  have hRm : ∀ u, Hv B w0 u P h W G m c S F → Calls Tryz.prog 11 #[.pointer (some ⟨h, 0, none⟩)] u fun e w' => e = .returned (.int .i64 ro) ∧ w' = u := fun u hu => by rw [hro]; exact z_room hu
  rw [← hro] at hro0
  clear H hA hfx hro hn
  go_enter Tryz.func25, Tryz.ntmps25
  have c1 := hx0.play.cells
  have f1 := hx0.six
  have l1 := hx0.apart.1
  have l2 := hx0.play.y_lt
  go_wp2_with (go_at_call 11; refine (hRm _ hx0.play.hv).mono ?_; rintro e w9 ⟨rfl, hw9⟩; replace hw9 := hw9.symm; subst hw9)
  generalize World.alloc _ _ = W1 at *
  have hd := hx0.below (below_drewN W1 1 _)
  have hM2 := HM.out _ hd.play.hv
  go_region_held3 (fun w' => w'.cell? ⟨y, 0, none⟩ = some (.pointer (some ⟨h, 0, none⟩)) ∧ w'.cell? ⟨w.heap.size, 1, none⟩ = some (.int .i64 A) ∧ w'.cell? ⟨w.heap.size, 3, none⟩ = some (.int .i64 C) ∧ w'.cell? ⟨w.heap.size, 4, none⟩ = some (.int .i64 I) ∧ w'.cell? ⟨w.heap.size, 5, none⟩ = some (.int .i64 V)) (go_keep) ((go_at_call 16; refine hM2.mono ?_; rintro e w6 ⟨rfl, hb6⟩; have hx6 := hd.below hb6; have f6 := hx6.six; have c6 := hx6.play.cells; clear hb6))
  clear hx0 hd c1 f1 hM2 HM l1 l2
  go_wp2
  go_quiet (fail)
  all_goals
    have hx7 := hx6.below (below_drewN w6 nq _)
    generalize World.drewN _ _ = w7 at *
    have f7 := hx7.six
    have c7 := hx7.play.cells
    have HX : Hid (Play9 B w0 w7 P h W G m c S F y va L) := hx7.play
    clear hx6 hx7 f6 c6
    go_wp2_with (first
      | (go_at_call 8; refine (num_any _ _).mono ?_; rintro e w9 ⟨rfl, hw9⟩; replace hw9 := hw9.symm; subst hw9)
      | (go_at_call 41; refine (hFt _).mono ?_; rintro e w9 ⟨rfl, hw9⟩; replace hw9 := hw9.symm; subst hw9))
    go_ret
    exact ⟨rfl, Edge9.same HX.out HA.out⟩
set_option maxRecDepth 20000 in
set_option maxHeartbeats 2000000 in
theorem mk9_class (H : Play9 B w0 w P h W G m c S F y va L) (hA : Agr9 S F L) (K A q C I V : Int) (ha : 0 ≤ A ∧ A < G) (hk : 1 ≤ C ∧ C ≤ 4) (hn : kmin C ≤ V ∧ V ≤ kmax C) (hi : I < 0) :
    Calls Tryz.prog 25 #[.pointer (some ⟨y, 0, none⟩), .agg #[.int .i64 K, .int .i64 A, .int .i64 q, .int .i64 C, .int .i64 I, .int .i64 V]] w (ActPost9 B w0 h W G (m + 1) y) := by
  have hx0 := Pb9.start H K A q C I V
  have HA : Hid (Agr9 S F L) := hA
  have hfx := H.hv.facts
  have hro0 : (0 : Int) ≤ (roomW W : Int) - sumS S ∧ (roomW W : Int) - sumS S ≤ 6000 := by have e : roomW W = (W + 3) / 4 := rfl; omega
  have HM : Hid (∀ u, Hv B w0 u P h W G m c S F → Calls Tryz.prog 16 #[.pointer (some ⟨h, 0, none⟩), .int .i64 A, .int .i64 C, .int .i64 I, .int .i64 V] u fun e w' => e = .returned (.tuple #[.int .i64 0, .int .i64 900]) ∧ Below u.heap.size u w') := fun u hu => z_size hu A C I V ha hk (fun r => by have := r.2; omega)
  have a2 : decide (A < 0) = false := by simp; omega
  have a3 : decide ((G : Int) ≤ A) = false := by simp; omega
  have k1 : decide (C < 1) = false := by simp; omega
  have k2 : decide (4 < C) = false := by simp; omega
  have hFt := fun u : World => fits9_ok C V u hk true (by simpa using hn)
  obtain ⟨ro, hro⟩ : ∃ ro : Int, ro = (roomW W : Int) - sumS S := ⟨_, rfl⟩
  have hRm : ∀ u, Hv B w0 u P h W G m c S F → Calls Tryz.prog 11 #[.pointer (some ⟨h, 0, none⟩)] u fun e w' => e = .returned (.int .i64 ro) ∧ w' = u := fun u hu => by rw [hro]; exact z_room hu
  rw [← hro] at hro0
  clear H hA hfx hro hn
  go_enter Tryz.func25, Tryz.ntmps25
  have c1 := hx0.play.cells
  have f1 := hx0.six
  have l1 := hx0.apart.1
  have l2 := hx0.play.y_lt
  go_wp2_with (go_at_call 11; refine (hRm _ hx0.play.hv).mono ?_; rintro e w9 ⟨rfl, hw9⟩; replace hw9 := hw9.symm; subst hw9)
  generalize World.alloc _ _ = W1 at *
  have hd := hx0.below (below_drewN W1 1 _)
  have hM2 := HM.out _ hd.play.hv
  go_region_held3 (fun w' => w'.cell? ⟨y, 0, none⟩ = some (.pointer (some ⟨h, 0, none⟩)) ∧ w'.cell? ⟨w.heap.size, 1, none⟩ = some (.int .i64 A) ∧ w'.cell? ⟨w.heap.size, 3, none⟩ = some (.int .i64 C) ∧ w'.cell? ⟨w.heap.size, 4, none⟩ = some (.int .i64 I) ∧ w'.cell? ⟨w.heap.size, 5, none⟩ = some (.int .i64 V)) (go_keep) ((go_at_call 16; refine hM2.mono ?_; rintro e w6 ⟨rfl, hb6⟩; have hx6 := hd.below hb6; have f6 := hx6.six; have c6 := hx6.play.cells; clear hb6))
  clear hx0 hd c1 f1 hM2 HM l1 l2
  go_wp2
  go_quiet (fail)
  all_goals
    have hx7 := hx6.below (below_drewN w6 nq _)
    generalize World.drewN _ _ = w7 at *
    have f7 := hx7.six
    have c7 := hx7.play.cells
    have HX : Hid (Play9 B w0 w7 P h W G m c S F y va L) := hx7.play
    clear hx6 hx7 f6 c6
    go_wp2_with (first
      | (go_at_call 8; refine (num_any _ _).mono ?_; rintro e w9 ⟨rfl, hw9⟩; replace hw9 := hw9.symm; subst hw9)
      | (go_at_call 41; refine (hFt _).mono ?_; rintro e w9 ⟨rfl, hw9⟩; replace hw9 := hw9.symm; subst hw9))
    go_ret
    exact ⟨rfl, Edge9.same HX.out HA.out⟩
set_option maxRecDepth 20000 in
set_option maxHeartbeats 2000000 in
theorem mk9_full (H : Play9 B w0 w P h W G m c S F y va L) (hA : Agr9 S F L) (K A q C I V : Int) (ha : 0 ≤ A ∧ A < G) (hk : 1 ≤ C ∧ C ≤ 4) (hn : kmin C ≤ V ∧ V ≤ kmax C) (hi : 0 ≤ I) (hf : (roomW W : Int) - sumS S < V + 16) :
    Calls Tryz.prog 25 #[.pointer (some ⟨y, 0, none⟩), .agg #[.int .i64 K, .int .i64 A, .int .i64 q, .int .i64 C, .int .i64 I, .int .i64 V]] w (ActPost9 B w0 h W G (m + 1) y) := by
  have hx0 := Pb9.start H K A q C I V
  have HA : Hid (Agr9 S F L) := hA
  have hfx := H.hv.facts
  have hro0 : (0 : Int) ≤ (roomW W : Int) - sumS S ∧ (roomW W : Int) - sumS S ≤ 6000 := by have e : roomW W = (W + 3) / 4 := rfl; omega
  have HM : Hid (∀ u, Hv B w0 u P h W G m c S F → Calls Tryz.prog 16 #[.pointer (some ⟨h, 0, none⟩), .int .i64 A, .int .i64 C, .int .i64 I, .int .i64 V] u fun e w' => e = .returned (.tuple #[.int .i64 0, .int .i64 901]) ∧ Below u.heap.size u w') := fun u hu => z_full hu A C I V ha hk ⟨hn, hi⟩ hf
  have a2 : decide (A < 0) = false := by simp; omega
  have a3 : decide ((G : Int) ≤ A) = false := by simp; omega
  have k1 : decide (C < 1) = false := by simp; omega
  have k2 : decide (4 < C) = false := by simp; omega
  have hFt := fun u : World => fits9_ok C V u hk true (by simpa using hn)
  have i1 : decide (I < 0) = false := by simp; omega
  have hVb : 0 ≤ V ∧ V ≤ 1000 := by
    have h1 : 0 ≤ kmin C := by unfold kmin; split <;> omega
    have h2 : kmax C ≤ 1000 := by unfold kmax; split <;> (try split) <;> omega
    omega
  obtain ⟨ro, hro⟩ : ∃ ro : Int, ro = (roomW W : Int) - sumS S := ⟨_, rfl⟩
  have hRm : ∀ u, Hv B w0 u P h W G m c S F → Calls Tryz.prog 11 #[.pointer (some ⟨h, 0, none⟩)] u fun e w' => e = .returned (.int .i64 ro) ∧ w' = u := fun u hu => by rw [hro]; exact z_room hu
  rw [← hro] at hro0
  have hf2 : ro < V + 16 := by rw [hro]; exact hf
  clear hf
  clear H hA hfx hro hn
  go_enter Tryz.func25, Tryz.ntmps25
  have c1 := hx0.play.cells
  have f1 := hx0.six
  have l1 := hx0.apart.1
  have l2 := hx0.play.y_lt
  go_wp2_with (go_at_call 11; refine (hRm _ hx0.play.hv).mono ?_; rintro e w9 ⟨rfl, hw9⟩; replace hw9 := hw9.symm; subst hw9)
  generalize World.alloc _ _ = W1 at *
  have hd := hx0.below (below_drewN W1 1 _)
  have hM2 := HM.out _ hd.play.hv
  go_region_held3 (fun w' => w'.cell? ⟨y, 0, none⟩ = some (.pointer (some ⟨h, 0, none⟩)) ∧ w'.cell? ⟨w.heap.size, 1, none⟩ = some (.int .i64 A) ∧ w'.cell? ⟨w.heap.size, 3, none⟩ = some (.int .i64 C) ∧ w'.cell? ⟨w.heap.size, 4, none⟩ = some (.int .i64 I) ∧ w'.cell? ⟨w.heap.size, 5, none⟩ = some (.int .i64 V)) (go_keep) ((go_at_call 16; refine hM2.mono ?_; rintro e w6 ⟨rfl, hb6⟩; have hx6 := hd.below hb6; have f6 := hx6.six; have c6 := hx6.play.cells; clear hb6))
  clear hx0 hd c1 f1 hM2 HM l1 l2
  go_wp2
  go_quiet (fail)
  all_goals
    have hx7 := hx6.below (below_drewN w6 nq _)
    generalize World.drewN _ _ = w7 at *
    have f7 := hx7.six
    have c7 := hx7.play.cells
    have HX : Hid (Play9 B w0 w7 P h W G m c S F y va L) := hx7.play
    clear hx6 hx7 f6 c6
    go_wp2_with (first
      | (go_at_call 8; refine (num_any _ _).mono ?_; rintro e w9 ⟨rfl, hw9⟩; replace hw9 := hw9.symm; subst hw9)
      | (go_at_call 41; refine (hFt _).mono ?_; rintro e w9 ⟨rfl, hw9⟩; replace hw9 := hw9.symm; subst hw9))
    go_ret
    exact ⟨rfl, Edge9.same HX.out HA.out⟩
end
end Go.Proofs.YtnnjinkadcagdaaGreat
/- HeapActs: make, where there is room. -/
namespace Go.Proofs.YtnnjinkadcagdaaGreat
open Go.RowKit
theorem infoLc : (Tryz.prog.info? 68).map (fun i => (i.zero, i.size, i.bytes)) = some (some (.agg #[.int .i64 0, .int .i64 0, .int .i64 0, .slice none 0 0]), 4, 48) := by kernel_rfl
section
variable {B : Nat} {w0 w : World} {P : Nat → Prop} {h W G m : Nat} {c : Int → Int} {S : List (Option Cel)} {F : Nat → Nat → Int} {y : Nat} {va : Value} {L : List Lc}
/-- A cell more, its words 0. -/
theorem Play9.add (H : Play9 B w0 w P h W G m c S F y va L) (i : Nat) (C I : Int) (n : Nat) (hn : L.length ≤ 1000) : ∃ ao cap w1, (appC #[30, 30] 30 #[va, .slice (some ⟨w.heap.size + 1, 0, none⟩) 1 1]).run Tryz.prog (((w.alloc (.cells (madeCells #[.int .i64 0] n) 3)).alloc (.cells #[.int .i64 ((i : Int) + 1), .int .i64 C, .int .i64 I, .slice (some ⟨w.heap.size, 0, none⟩) n n] 68)).drew) = .ok (.slice ao (L.length + 1) cap) w1 ∧
    w1.heap[y]? = w.heap[y]? ∧ Play9 B w0 (w1.setCell ⟨y, 3, none⟩ (.slice ao (L.length + 1) cap)) P h W G m c S F y (.slice ao (L.length + 1) cap) (L ++ [⟨i, C, I, n, w.heap.size, fun _ => 0⟩]) := by
  obtain ⟨i0, hi0, hzz⟩ := Option.map_eq_some_iff.1 infoLc
  simp only [Prod.mk.injEq] at hzz
  obtain ⟨hz0, hz1, hz2⟩ := hzz
  have hlen : (L.map rowL).length = L.length := List.length_map _
  have ha := (Below.refl w.heap.size w).alloc (Nat.le_refl _) (.cells (madeCells #[.int .i64 0] n) 3)
  have hsz : (w.alloc (.cells (madeCells #[.int .i64 0] n) 3)).heap.size = w.heap.size + 1 := Go.Deep.nblk_alloc _ _
  have hrow := World.rowIs_made w (.int .i64 0) n 3
  have H1 := H.below ha
  generalize w.alloc (.cells (madeCells #[.int .i64 0] n) 3) = W1 at *
  have hW : (W1.alloc (.cells #[.int .i64 ((i : Int) + 1), .int .i64 C, .int .i64 I, .slice (some ⟨w.heap.size, 0, none⟩) n n] 68)).drew.heap[w.heap.size + 1]? = some (.cells (rowL ⟨i, C, I, n, w.heap.size, fun _ => 0⟩).toArray 68 (0, 0)) := by
    have e := heap_alloc_new W1 (.cells #[.int .i64 ((i : Int) + 1), .int .i64 C, .int .i64 I, .slice (some ⟨w.heap.size, 0, none⟩) n n] 68)
    rw [hsz] at e
    exact e
  have hbW : Below W1.heap.size W1 (W1.alloc (.cells #[.int .i64 ((i : Int) + 1), .int .i64 C, .int .i64 I, .slice (some ⟨w.heap.size, 0, none⟩) n n] 68)).drew := ((Below.refl _ _).alloc (Nat.le_refl _) _).drew
  obtain ⟨v', w1, hrun, hR, hg, hat⟩ := H1.row.app (P := Tryz.prog) (t := 30) (ty := 30) Tryz.underlying30 hi0 hz0 hz1 hz2 rfl (by decide) (rowL ⟨i, C, I, n, w.heap.size, fun _ => 0⟩) rfl (by simp [rowL, Value.oneCell']) H1.hv.size (by rw [hlen]; unfold maxLen; omega) (by rw [hlen]; omega) hW hbW
  obtain ⟨ao, cap, e⟩ := hR.form
  rw [List.length_append, List.length_singleton, hlen] at e
  subst e
  have hy1 : w1.heap[y]? = W1.heap[y]? := hg.block y H1.y_lt (fun q => H1.y_v q.symm rfl)
  have hnP : ¬ P w.heap.size := fun r => by have := H.hv.lt _ r; omega
  have hne : ∀ k, (Value.slice ao (L.length + 1) cap).ownBlock = some k → ¬ P k ∧ k ≠ y := fun k hk => by
    rcases hat with q | ⟨j, q1, q2⟩
    · exact ⟨H1.pv k (by rw [← q]; exact hk), H1.y_v (by rw [← q]; exact hk)⟩
    · rw [hk] at q1
      obtain rfl : k = j := by simpa using q1
      exact ⟨fun r => by have := H1.hv.lt _ r; omega, fun r => by have := H1.y_lt; omega⟩
  refine ⟨ao, cap, w1, hrun, hy1.trans (ha.block y H.y_lt), ?_⟩
  refine H1.remake (r := fun k => k = y ∨ va.ownBlock = some k) (by simpa [World.setCell] using hg.size) ⟨hg.os, hg.tape, hg.output⟩ (fun k hk hn => (heap_put _ _ (fun q => hn (.inl q))).trans (hg.block k hk (fun q => hn (.inr q.symm)))) (fun k hk => ?_) (set_blk (hy1.trans H1.here) 3 _) ?_ (fun x hx => ?_) ?_ (fun k hk => (hne k hk).1)
  · rcases hk with rfl | hk
    · exact H1.py
    · exact ⟨H1.pv k hk, (H1.row.lt hk).1⟩
  · rw [List.map_append]
    exact hR.of_block fun k hk => heap_put _ _ (hne k hk).2
  · rcases List.mem_append.1 hx with hx | hx
    · obtain ⟨a1, a2, a3⟩ := H1.words x hx
      exact ⟨a1.of_block ((heap_put _ _ (H1.y_x hx)).trans (hg.block _ a1.lt (fun q => H1.v_x hx q.symm))), a2, a3⟩
    · rw [List.mem_singleton.1 hx]
      refine ⟨hrow.of_block ((heap_put _ _ (fun q => ?_)).trans (hg.block _ (by omega) (fun q => ?_))), hnP, H.hv.size⟩
      · have q' : w.heap.size = y := q
        have := H.y_lt; omega
      · have := (H.row.lt q.symm).2; omega
  · refine List.pairwise_append.2 ⟨H.apart, List.pairwise_singleton _ _, fun x hx z hz => ?_⟩
    rw [List.mem_singleton.1 hz]
    have := (H.words x hx).1.lt
    show x.blk ≠ w.heap.size
    omega
theorem sumL_append : ∀ L M : List Lc, sumL (L ++ M) = sumL L + sumL M
  | [], M => by simp [sumL]
  | x :: r, M => by simp only [List.cons_append, sumL, sumL_append r M]; omega
theorem Agr9.made (hA : Agr9 S F L) {S' : List (Option Cel)} {i : Nat} {C I a : Int} {n : Nat} (ha : Added S S' i ⟨C, I, n, a⟩) (blk : Nat) : Agr9 S' (setF F i (fun _ => 0)) (L ++ [⟨i, C, I, n, blk, fun _ => 0⟩]) := by
  have hne : ∀ x ∈ L, x.ref ≠ i := fun x hx e => by
    obtain ⟨⟨a, h1⟩, _⟩ := hA.live x hx
    rw [e] at h1
    exact ha.free _ h1
  refine ⟨fun x hx => ?_, ?_, fun k cl hk => ?_, ?_, ?_⟩
  · rcases List.mem_append.1 hx with hx | hx
    · obtain ⟨⟨a, h1⟩, h2⟩ := hA.live x hx
      exact ⟨⟨a, by rw [ha.old _ (hne x hx)]; exact h1⟩, fun j hj => by rw [setF_else _ _ (hne x hx)]; exact h2 j hj⟩
    · rw [List.mem_singleton.1 hx]
      exact ⟨⟨a, ha.new⟩, fun j _ => setF_at _ _ _ _⟩
  · refine List.pairwise_append.2 ⟨hA.nodup, List.pairwise_singleton _ _, fun x hx z hz => ?_⟩
    rw [List.mem_singleton.1 hz]
    exact hne x hx
  · by_cases e : k = i
    · exact ⟨⟨i, C, I, n, blk, fun _ => 0⟩, by simp, e.symm⟩
    · rw [ha.old k e] at hk
      obtain ⟨x, hx, h1⟩ := hA.all k cl hk
      exact ⟨x, by simp [hx], h1⟩
  · rw [List.length_append, ha.cnt, hA.cnt]; rfl
  · rw [sumL_append, ha.sum, hA.sum]; rfl
end
attribute [local go_sem ↓] app_C
section
variable {B : Nat} {w0 w : World} {P : Nat → Prop} {h W G m : Nat} {c : Int → Int} {S : List (Option Cel)} {F : Nat → Nat → Int} {y : Nat} {va : Value} {L : List Lc}
set_option maxRecDepth 20000 in
set_option maxHeartbeats 4000000 in
theorem mk9_ok (H : Play9 B w0 w P h W G m c S F y va L) (hA : Agr9 S F L) (hm : m ≤ 3000) (hL : L.length ≤ 1000) (K A q C I : Int) (n : Nat) (ha : 0 ≤ A ∧ A < G) (hk : 1 ≤ C ∧ C ≤ 4) (hn : kmin C ≤ n ∧ n ≤ kmax C) (hi : 0 ≤ I) (hf : sumS S + (n + 16) ≤ roomW W) :
    Calls Tryz.prog 25 #[.pointer (some ⟨y, 0, none⟩), .agg #[.int .i64 K, .int .i64 A, .int .i64 q, .int .i64 C, .int .i64 I, .int .i64 n]] w (ActPost9 B w0 h W G (m + 1) y) := by
  have hx0 := Pb9.start H K A q C I n
  have HA : Hid (Agr9 S F L) := hA
  have HL : Hid (L.length ≤ 1000) := hL
  have hfx := H.hv.facts
  have hro0 : (0 : Int) ≤ (roomW W : Int) - sumS S ∧ (roomW W : Int) - sumS S ≤ 6000 := by have e : roomW W = (W + 3) / 4 := rfl; omega
  have a2 : decide (A < 0) = false := by simp; omega
  have a3 : decide ((G : Int) ≤ A) = false := by simp; omega
  have k1 : decide (C < 1) = false := by simp; omega
  have k2 : decide (4 < C) = false := by simp; omega
  have hFt := fun u : World => fits9_ok C n u hk true (by simpa using hn)
  have i1 : decide (I < 0) = false := by simp; omega
  have hVb : n ≤ 1000 := by
    have h2 : kmax C ≤ 1000 := by unfold kmax; split <;> (try split) <;> omega
    omega
  have HM : Hid (∀ u Q, Hv B w0 u Q h W G m c S F → Calls Tryz.prog 16 #[.pointer (some ⟨h, 0, none⟩), .int .i64 A, .int .i64 C, .int .i64 I, .int .i64 n] u (ZMk B w0 u Q h W G m S F C I n)) := fun u Q hu => z_make hu (by omega) A C I n n rfl ha hk hn hi hf
  obtain ⟨ro, hro⟩ : ∃ ro : Int, ro = (roomW W : Int) - sumS S := ⟨_, rfl⟩
  have hRm : ∀ u, Hv B w0 u P h W G m c S F → Calls Tryz.prog 11 #[.pointer (some ⟨h, 0, none⟩)] u fun e w' => e = .returned (.int .i64 ro) ∧ w' = u := fun u hu => by rw [hro]; exact z_room hu
  rw [← hro] at hro0
  have hf2 : decide (ro < (n : Int) + 16) = false := by simp; omega
  clear H hA hfx hro hn hf hL
  go_enter Tryz.func25, Tryz.ntmps25
  have c1 := hx0.play.cells
  have f1 := hx0.six
  have l1 := hx0.apart.1
  have l2 := hx0.play.y_lt
  go_wp2_with (go_at_call 11; refine (hRm _ hx0.play.hv).mono ?_; rintro e w9 ⟨rfl, hw9⟩; replace hw9 := hw9.symm; subst hw9)
  generalize World.alloc _ _ = W1 at *
  have hd := hx0.below (below_drewN W1 1 _)
  have hM2 := HM.out _ _ hd.play.hv
  go_region_held3 (fun w' => w'.cell? ⟨y, 0, none⟩ = some (.pointer (some ⟨h, 0, none⟩)) ∧ w'.cell? ⟨w.heap.size, 1, none⟩ = some (.int .i64 A) ∧ w'.cell? ⟨w.heap.size, 3, none⟩ = some (.int .i64 C) ∧ w'.cell? ⟨w.heap.size, 4, none⟩ = some (.int .i64 I) ∧ w'.cell? ⟨w.heap.size, 5, none⟩ = some (.int .i64 n)) (go_keep) ((go_at_call 16; refine hM2.mono ?_; rintro e w6 ⟨ix, S6, ad, c6', rfl, hAd, hT6⟩; obtain ⟨P6, hx6⟩ := hd.turn hT6; have f6 := hx6.six; have c6 := hx6.play.cells; have HAd : Hid (Added S S6 ix ⟨C, I, n, ad⟩) := hAd; clear hT6 hAd))
  clear hx0 hd c1 f1 hM2 HM l1 l2
  go_wp2
  go_quiet (fail)
  all_goals
    have hx7 := hx6.below (below_drewN w6 nq _)
    generalize World.drewN _ _ = w7 at *
    have f7 := hx7.six
    have c7 := hx7.play.cells
    have l7 := hx7.apart.1
    have l8 := hx7.play.y_lt
    have z7 := hx7.play.frozen 3
    have hFn : Fnd9 L ((ix : Int) + 1) (-1) := .inr ⟨fun x hx e => by
      obtain ⟨⟨a, h1⟩, _⟩ := HA.out.live x hx
      rw [show x.ref = ix by omega] at h1
      exact HAd.out.free _ h1, rfl⟩
    have hat := at9_ok hx7.play HL.out ((ix : Int) + 1) (-1) hFn
    obtain ⟨ao8, cap8, w8, hrun, hy8, hP8⟩ := hx7.play.add ix C I n HL.out
    have HP8 : Hid (Play9 B w0 (w8.setCell ⟨y, 3, none⟩ (.slice ao8 (L.length + 1) cap8)) P6 h W G (m + 1) c6' S6 (setF F ix (fun _ => 0)) y (.slice ao8 (L.length + 1) cap8) (L ++ [⟨ix, C, I, n, w7.heap.size, fun _ => 0⟩])) := hP8
    have k8 : w8.cell? ⟨y, 3, none⟩ = some va := (cell_of1 (a := ⟨y, 3, none⟩) hy8).trans c7.2.2.2
    have z8 : w8.frozen? ⟨y, 3, none⟩ = false := (World.frozen?_of_block (a := ⟨y, 3, none⟩) hy8).trans z7
    have hmk := run_make_row' (P := Tryz.prog) 37 3 (.int .i64 0) 8 Tryz.underlying37 infoZ rfl .i64 .i64 n (by omega) (by omega)
    clear hx6 f6 c6 hFn hP8 hx7
    go_wp2_with (first
      | (go_at_call 8; refine (num_any _ _).mono ?_; rintro e w9 ⟨rfl, hw9⟩; replace hw9 := hw9.symm; subst hw9)
      | (go_at_call 14; refine hat.mono ?_; rintro e w9 ⟨rfl, hw9⟩; replace hw9 := hw9.symm; subst hw9)
      | (go_at_call 41; refine (hFt _).mono ?_; rintro e w9 ⟨rfl, hw9⟩; replace hw9 := hw9.symm; subst hw9))
    clear hat hFt
    go_region
    go_wp2
    go_ret
    exact ⟨rfl, P6, c6', S6, _, _, _, HP8.out, HA.out.made HAd.out _⟩
end
end Go.Proofs.YtnnjinkadcagdaaGreat
