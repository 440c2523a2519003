/- (*play).act: Paint. -/
import Derived.Test.YtlkomjapfcmpkaaFPlay
import Derived.BigRegion
import Derived.Deep.DeepCutAuto
import Derived.BigQuiet
namespace Go.Proofs.Ytlkomjapfcmpkaa
open Go.RowKit
attribute [local go_sem ↓] st_U

set_option maxRecDepth 20000 in
set_option maxHeartbeats 4000000 in
theorem paint_no {B : Nat} {w0 w : World} {P : Nat → Prop} {p b W base n : Nat} {cs : Nat → Int} {T : Int} {xs : List Int} {ws : Nat → Int} {y q : Nat} {I : Nat → Bool} {V : Nat → Nat → Int} {many : Int} (h : Gm B w0 w P p b W base n cs T xs ws y q I V many) (hagr : Agree ws base n I V) (hmany : many + xs.length = n) (m : Nat) (hT : T ≤ (m : Int) ∧ m ≤ 100000) (K A F J v : Int) (ag inn : Bool) (hg : ag = decide (0 ≤ A ∧ A < 3)) (hi : inn = decide (0 ≤ F ∧ F < (n : Int) ∧ I F.toNat = true)) (hK : K = 7) (hn : ¬ (ag = true ∧ inn = true)) :
    Calls Try.prog 22 #[.pointer (some ⟨y, 0, none⟩), .agg #[.int .i64 K, .int .i64 A, .int .i64 F, .int .i64 J, .int .i64 v], .bool ag, .bool inn] w (ActPost B w0 p b W base n (m + 1) y q) := by
  have hx0 : Gx B w0 (w.alloc (.cells #[.int .i64 K, .int .i64 A, .int .i64 F, .int .i64 J, .int .i64 v] 33)) P p b W base n cs T xs ws y q I V many w.heap.size K A F J v := ⟨h.below ((Below.refl _ _).alloc (Nat.le_refl _) _), heap_alloc_new _ _, fun r => by have := h.pl.lt _ r; omega⟩
  have Hg : Hid (ag = decide (0 ≤ A ∧ A < 3)) := hg
  have Hi : Hid (inn = decide (0 ≤ F ∧ F < (n : Int) ∧ I F.toNat = true)) := hi
  have Hag : Hid (Agree ws base n I V) := hagr
  have Hm : Hid (many + xs.length = n) := hmany
  have HT : Hid (T ≤ (m : Int) ∧ m ≤ 100000) := hT
  clear hg hi hagr hmany hT h
  have hno : ∀ u, Gx B w0 u P p b W base n cs T xs ws y q I V many w.heap.size K A F J v → Calls Try.prog 19 #[.pointer (some ⟨p, 0, none⟩), .int .i64 A, .int .i64 F, .int .i64 v] u fun e w' => e = .returned (.int .i64 602) ∧ Below u.heap.size u w' := fun u hu => by
    refine ppaint_no hu.1.pl A F v (fun r => hn ⟨?_, ?_⟩)
    · rw [Hg.out]; exact decide_eq_true r.1
    · rw [Hi.out]; exact decide_eq_true ⟨r.2.1, r.2.2.1, (Hag.out F.toNat (by have := r.2.1; have := r.2.2.1; omega)).1.2 r.2.2.2⟩
  subst hK
  go_enter Try.func22, Try.ntmps22
  go_upto_region 1 with fail
  generalize w.alloc _ = w5 at hx0 ⊢
  have c0 := hx0.cells
  have hd := hx0.below (below_drewN w5 1 _)
  go_wp2_with fail
  go_region_held3 (fun w' => w'.cell? ⟨y, 0, none⟩ = some (.pointer (some ⟨p, 0, none⟩)) ∧ w'.cell? ⟨w.heap.size, 1, none⟩ = some (.int .i64 A) ∧ w'.cell? ⟨w.heap.size, 2, none⟩ = some (.int .i64 F) ∧ w'.cell? ⟨w.heap.size, 4, none⟩ = some (.int .i64 v)) (go_keep) ((go_at_call 19; refine (hno _ hd).mono ?_; rintro e w4 ⟨rfl, hb4⟩; have hx4 := hd.below hb4; have c4 := hx4.cells))
  clear hno c0 hx0 hd
  cases ag
  · go_wp2_with (go_at_call 14; refine (num_any _ _).mono ?_; rintro e w9 ⟨rfl, rfl⟩)
    go_ret
    exact ⟨rfl, P, cs, T, xs, ws, I, V, many, hx4.1, by have := HT.out; omega, Hag.out, Hm.out⟩
  · cases inn
    · go_wp2_with (go_at_call 14; refine (num_any _ _).mono ?_; rintro e w9 ⟨rfl, rfl⟩)
      go_ret
      exact ⟨rfl, P, cs, T, xs, ws, I, V, many, hx4.1, by have := HT.out; omega, Hag.out, Hm.out⟩
    · exact absurd ⟨rfl, rfl⟩ hn
set_option maxRecDepth 20000 in
set_option maxHeartbeats 4000000 in
theorem paint_colour {B : Nat} {w0 w : World} {P : Nat → Prop} {p b W base n : Nat} {cs : Nat → Int} {T : Int} {xs : List Int} {ws : Nat → Int} {y q : Nat} {I : Nat → Bool} {V : Nat → Nat → Int} {many : Int} (h : Gm B w0 w P p b W base n cs T xs ws y q I V many) (hagr : Agree ws base n I V) (hmany : many + xs.length = n) (m : Nat) (hT : T ≤ (m : Int) ∧ m ≤ 100000) (K A F J v : Int) (ag inn : Bool) (hg : ag = decide (0 ≤ A ∧ A < 3)) (hi : inn = decide (0 ≤ F ∧ F < (n : Int) ∧ I F.toNat = true)) (hK : K = 7) (ha : ag = true) (hb : inn = true) (hv : ¬ (1 ≤ v ∧ v ≤ 3)) :
    Calls Try.prog 22 #[.pointer (some ⟨y, 0, none⟩), .agg #[.int .i64 K, .int .i64 A, .int .i64 F, .int .i64 J, .int .i64 v], .bool ag, .bool inn] w (ActPost B w0 p b W base n (m + 1) y q) := by
  have hx0 : Gx B w0 (w.alloc (.cells #[.int .i64 K, .int .i64 A, .int .i64 F, .int .i64 J, .int .i64 v] 33)) P p b W base n cs T xs ws y q I V many w.heap.size K A F J v := ⟨h.below ((Below.refl _ _).alloc (Nat.le_refl _) _), heap_alloc_new _ _, fun r => by have := h.pl.lt _ r; omega⟩
  have Hg : Hid (ag = decide (0 ≤ A ∧ A < 3)) := hg
  have Hi : Hid (inn = decide (0 ≤ F ∧ F < (n : Int) ∧ I F.toNat = true)) := hi
  have Hag : Hid (Agree ws base n I V) := hagr
  have Hm : Hid (many + xs.length = n) := hmany
  have HT : Hid (T ≤ (m : Int) ∧ m ≤ 100000) := hT
  clear hg hi hagr hmany hT h
  have hno : ∀ u, Gx B w0 u P p b W base n cs T xs ws y q I V many w.heap.size K A F J v → Calls Try.prog 19 #[.pointer (some ⟨p, 0, none⟩), .int .i64 A, .int .i64 F, .int .i64 v] u fun e w' => e = .returned (.int .i64 603) ∧ Below u.heap.size u w' := fun u hu => by
    have e1 := of_decide_eq_true (Hg.out.symm.trans ha)
    have e2 := of_decide_eq_true (Hi.out.symm.trans hb)
    refine ppaint_colour hu.1.pl A F v e1 ⟨e2.1, e2.2.1, ?_⟩ hv
    exact (Hag.out F.toNat (by omega)).1.1 e2.2.2
  subst hK ha hb
  go_enter Try.func22, Try.ntmps22
  go_upto_region 1 with fail
  generalize w.alloc _ = w5 at hx0 ⊢
  have c0 := hx0.cells
  have hd := hx0.below (below_drewN w5 1 _)
  go_wp2_with fail
  go_region_held3 (fun w' => w'.cell? ⟨y, 0, none⟩ = some (.pointer (some ⟨p, 0, none⟩)) ∧ w'.cell? ⟨w.heap.size, 1, none⟩ = some (.int .i64 A) ∧ w'.cell? ⟨w.heap.size, 2, none⟩ = some (.int .i64 F) ∧ w'.cell? ⟨w.heap.size, 4, none⟩ = some (.int .i64 v)) (go_keep) ((go_at_call 19; refine (hno _ hd).mono ?_; rintro e w4 ⟨rfl, hb4⟩; have hx4 := hd.below hb4; have c4 := hx4.cells))
  clear hno c0 hx0 hd
  by_cases v1 : v < 1
  · go_wp2_with (go_at_call 14; refine (num_any _ _).mono ?_; rintro e w9 ⟨rfl, rfl⟩)
    go_ret
    exact ⟨rfl, P, cs, T, xs, ws, I, V, many, hx4.1, by have := HT.out; omega, Hag.out, Hm.out⟩
  · have v1' : decide (v < 1) = false := by simp; omega
    have v3 : 3 < v := by omega
    clear hv v1
    go_wp2_with (go_at_call 14; refine (num_any _ _).mono ?_; rintro e w9 ⟨rfl, rfl⟩)
    go_ret
    exact ⟨rfl, P, cs, T, xs, ws, I, V, many, hx4.1, by have := HT.out; omega, Hag.out, Hm.out⟩
set_option maxRecDepth 20000 in
set_option maxHeartbeats 4000000 in
theorem paint_yes {B : Nat} {w0 w : World} {P : Nat → Prop} {p b W base n : Nat} {cs : Nat → Int} {T : Int} {xs : List Int} {ws : Nat → Int} {y q : Nat} {I : Nat → Bool} {V : Nat → Nat → Int} {many : Int} (h : Gm B w0 w P p b W base n cs T xs ws y q I V many) (hagr : Agree ws base n I V) (hmany : many + xs.length = n) (m : Nat) (hT : T ≤ (m : Int) ∧ m ≤ 100000) (K A F J v : Int) (ag inn : Bool) (hg : ag = decide (0 ≤ A ∧ A < 3)) (hi : inn = decide (0 ≤ F ∧ F < (n : Int) ∧ I F.toNat = true)) (hK : K = 7) (ha : ag = true) (hb : inn = true) (hv : 1 ≤ v ∧ v ≤ 3) :
    Calls Try.prog 22 #[.pointer (some ⟨y, 0, none⟩), .agg #[.int .i64 K, .int .i64 A, .int .i64 F, .int .i64 J, .int .i64 v], .bool ag, .bool inn] w (ActPost B w0 p b W base n (m + 1) y q) := by
  have hx0 : Gx B w0 (w.alloc (.cells #[.int .i64 K, .int .i64 A, .int .i64 F, .int .i64 J, .int .i64 v] 33)) P p b W base n cs T xs ws y q I V many w.heap.size K A F J v := ⟨h.below ((Below.refl _ _).alloc (Nat.le_refl _) _), heap_alloc_new _ _, fun r => by have := h.pl.lt _ r; omega⟩
  have Hg : Hid (ag = decide (0 ≤ A ∧ A < 3)) := hg
  have Hi : Hid (inn = decide (0 ≤ F ∧ F < (n : Int) ∧ I F.toNat = true)) := hi
  have Hag : Hid (Agree ws base n I V) := hagr
  have Hm : Hid (many + xs.length = n) := hmany
  have HT : Hid (T ≤ (m : Int) ∧ m ≤ 100000) := hT
  clear hg hi hagr hmany hT h
  have e1 := of_decide_eq_true (Hg.out.symm.trans ha)
  have e2 := of_decide_eq_true (Hi.out.symm.trans hb)
  obtain ⟨a, rfl⟩ : ∃ a : Nat, A = a := ⟨A.toNat, by omega⟩
  obtain ⟨f, rfl⟩ : ∃ f : Nat, F = f := ⟨F.toNat, by omega⟩
  have hf : f < n := by omega
  have hIf : I f = true := by simpa using e2.2.2
  have hyes : ∀ u, Gx B w0 u P p b W base n cs T xs ws y q I V many w.heap.size K a f J v → Calls Try.prog 19 #[.pointer (some ⟨p, 0, none⟩), .int .i64 (a : Int), .int .i64 (f : Int), .int .i64 v] u fun e w' => e = .returned (.int .i64 0) ∧ ∃ P' cs', Gx B w0 w' P' p b W base n cs' T xs (upd ws (base + 8 * n + f) v) y q I V many w.heap.size K a f J v := fun u hu => by
    refine (ppaint_ok hu.1.pl a f v (by omega) (Hag.out.inuse hf hIf) hv).mono ?_
    rintro e w' ⟨rfl, hT'⟩
    obtain ⟨P', hx'⟩ := hu.turn hT'
    exact ⟨rfl, P', _, hx'⟩
  have HI : Hid (I f = true) := hIf
  have v1' : decide (v < 1) = false := by simp; omega
  have v3' : decide (3 < v) = false := by simp; omega
  have hf' : (f : Int) < n := by omega
  subst hK ha hb
  clear e1 e2 hIf
  go_enter Try.func22, Try.ntmps22
  go_upto_region 1 with fail
  generalize w.alloc _ = w5 at hx0 ⊢
  have c0 := hx0.cells
  have hd := hx0.below (below_drewN w5 1 _)
  go_wp2_with fail
  go_region_held3 (fun w' => w'.cell? ⟨y, 0, none⟩ = some (.pointer (some ⟨p, 0, none⟩)) ∧ w'.cell? ⟨w.heap.size, 1, none⟩ = some (.int .i64 (a : Int)) ∧ w'.cell? ⟨w.heap.size, 2, none⟩ = some (.int .i64 (f : Int)) ∧ w'.cell? ⟨w.heap.size, 4, none⟩ = some (.int .i64 v)) (go_keep) ((go_at_call 19; refine (hyes _ hd).mono ?_; rintro e w4 ⟨rfl, P4, cs4, hx4⟩; have c4 := hx4.cells))
  clear hyes c0 hx0 hd
  go_wp2_with fail
  have g1 := hx4.1.at_ hf (j := 1) (by omega) (by omega)
  have gf := hx4.1.row.frozen (f * 10 + 1)
  have hx6 := hx4.one f (j := 1) (by omega) (by omega) v
  have c6 := hx6.cells
  go_region_held3 (fun w' => w'.cell? ⟨y, 2, none⟩ = some (.slice (some ⟨q, 0, none⟩) n n) ∧ w'.cell? ⟨w.heap.size, 2, none⟩ = some (.int .i64 (f : Int)) ∧ w'.cell? ⟨w.heap.size, 4, none⟩ = some (.int .i64 v)) (go_keep) (fail)
  go_wp2_with (go_at_call 14; refine (num_any _ _).mono ?_; rintro e w9 ⟨rfl, rfl⟩)
  go_ret
  exact ⟨rfl, P4, cs4, T, xs, _, I, _, many, (hx6.below (below_drewN _ 1 _)).1, by have := HT.out; omega, Hag.out.paint hf HI.out (by omega), Hm.out⟩
set_option maxRecDepth 20000 in
set_option maxHeartbeats 4000000 in
theorem colour_none {B : Nat} {w0 w : World} {P : Nat → Prop} {p b W base n : Nat} {cs : Nat → Int} {T : Int} {xs : List Int} {ws : Nat → Int} {y q : Nat} {I : Nat → Bool} {V : Nat → Nat → Int} {many : Int} (h : Gm B w0 w P p b W base n cs T xs ws y q I V many) (hagr : Agree ws base n I V) (hmany : many + xs.length = n) (m : Nat) (hT : T ≤ (m : Int) ∧ m ≤ 100000) (K A F J v : Int) (ag inn : Bool) (hg : ag = decide (0 ≤ A ∧ A < 3)) (hi : inn = decide (0 ≤ F ∧ F < (n : Int) ∧ I F.toNat = true)) (hK : ¬ K = 7) (hF : ¬ (0 ≤ F ∧ F < (n : Int))) :
    Calls Try.prog 22 #[.pointer (some ⟨y, 0, none⟩), .agg #[.int .i64 K, .int .i64 A, .int .i64 F, .int .i64 J, .int .i64 v], .bool ag, .bool inn] w (ActPost B w0 p b W base n (m + 1) y q) := by
  have hx0 : Gx B w0 (w.alloc (.cells #[.int .i64 K, .int .i64 A, .int .i64 F, .int .i64 J, .int .i64 v] 33)) P p b W base n cs T xs ws y q I V many w.heap.size K A F J v := ⟨h.below ((Below.refl _ _).alloc (Nat.le_refl _) _), heap_alloc_new _ _, fun r => by have := h.pl.lt _ r; omega⟩
  have Hg : Hid (ag = decide (0 ≤ A ∧ A < 3)) := hg
  have Hi : Hid (inn = decide (0 ≤ F ∧ F < (n : Int) ∧ I F.toNat = true)) := hi
  have Hag : Hid (Agree ws base n I V) := hagr
  have Hm : Hid (many + xs.length = n) := hmany
  have HT : Hid (T ≤ (m : Int) ∧ m ≤ 100000) := hT
  clear hg hi hagr hmany hT h
  have hc : ∀ u, Gx B w0 u P p b W base n cs T xs ws y q I V many w.heap.size K A F J v → Calls Try.prog 24 #[.pointer (some ⟨p, 0, none⟩), .int .i64 F] u fun e w' => e = .returned (.tuple #[.int .i64 0, .int .i64 602]) ∧ Below u.heap.size u w' := fun u hu => colour_out hu.1.pl F hF
  have hK' : (K == 7) = false := by simpa using hK
  clear hK
  go_enter Try.func22, Try.ntmps22
  go_upto_region 1 with fail
  generalize w.alloc _ = w5 at hx0 ⊢
  have c0 := hx0.cells
  have hd := hx0.below (below_drewN w5 1 _)
  go_wp2_with fail
  go_region_held3 (fun w' => w'.cell? ⟨y, 0, none⟩ = some (.pointer (some ⟨p, 0, none⟩)) ∧ w'.cell? ⟨w.heap.size, 2, none⟩ = some (.int .i64 F)) (go_keep) ((go_at_call 24; refine (hc _ hd).mono ?_; rintro e w4 ⟨rfl, hb4⟩; have hx4 := hd.below hb4; have c4 := hx4.cells))
  clear hc c0 hx0 hd
  go_wp2_with fail
  by_cases f0 : F < 0
  · go_quiet (fail)
    go_wp2_with (go_at_call 14; refine (num_any _ _).mono ?_; rintro e w9 ⟨rfl, rfl⟩)
    go_ret
    exact ⟨rfl, P, cs, T, xs, ws, I, V, many, (hx4.below (below_drewN _ _ _)).1, by have := HT.out; omega, Hag.out, Hm.out⟩
  · have f0' : decide (F < 0) = false := by simp; omega
    have f1 : (n : Int) ≤ F := by omega
    clear hF f0
    go_quiet (fail)
    go_wp2_with (go_at_call 14; refine (num_any _ _).mono ?_; rintro e w9 ⟨rfl, rfl⟩)
    go_ret
    exact ⟨rfl, P, cs, T, xs, ws, I, V, many, (hx4.below (below_drewN _ _ _)).1, by have := HT.out; omega, Hag.out, Hm.out⟩
set_option maxRecDepth 20000 in
set_option maxHeartbeats 4000000 in
theorem colour_some {B : Nat} {w0 w : World} {P : Nat → Prop} {p b W base n : Nat} {cs : Nat → Int} {T : Int} {xs : List Int} {ws : Nat → Int} {y q : Nat} {I : Nat → Bool} {V : Nat → Nat → Int} {many : Int} (h : Gm B w0 w P p b W base n cs T xs ws y q I V many) (hagr : Agree ws base n I V) (hmany : many + xs.length = n) (m : Nat) (hT : T ≤ (m : Int) ∧ m ≤ 100000) (K A F J v : Int) (ag inn : Bool) (hg : ag = decide (0 ≤ A ∧ A < 3)) (hi : inn = decide (0 ≤ F ∧ F < (n : Int) ∧ I F.toNat = true)) (hK : ¬ K = 7) (hF : 0 ≤ F ∧ F < (n : Int)) :
    Calls Try.prog 22 #[.pointer (some ⟨y, 0, none⟩), .agg #[.int .i64 K, .int .i64 A, .int .i64 F, .int .i64 J, .int .i64 v], .bool ag, .bool inn] w (ActPost B w0 p b W base n (m + 1) y q) := by
  have hx0 : Gx B w0 (w.alloc (.cells #[.int .i64 K, .int .i64 A, .int .i64 F, .int .i64 J, .int .i64 v] 33)) P p b W base n cs T xs ws y q I V many w.heap.size K A F J v := ⟨h.below ((Below.refl _ _).alloc (Nat.le_refl _) _), heap_alloc_new _ _, fun r => by have := h.pl.lt _ r; omega⟩
  have Hg : Hid (ag = decide (0 ≤ A ∧ A < 3)) := hg
  have Hi : Hid (inn = decide (0 ≤ F ∧ F < (n : Int) ∧ I F.toNat = true)) := hi
  have Hag : Hid (Agree ws base n I V) := hagr
  have Hm : Hid (many + xs.length = n) := hmany
  have HT : Hid (T ≤ (m : Int) ∧ m ≤ 100000) := hT
  clear hg hi hagr hmany hT h
  obtain ⟨f, rfl⟩ : ∃ f : Nat, F = f := ⟨F.toNat, by omega⟩
  have hf : f < n := by omega
  have hf' : (f : Int) < n := by omega
  have f1' : decide ((n : Int) ≤ (f : Int)) = false := by simp; omega
  obtain ⟨c, hc0⟩ : ∃ c, c = ws (base + 8 * n + f) := ⟨_, rfl⟩
  have hc : ∀ u, Gx B w0 u P p b W base n cs T xs ws y q I V many w.heap.size K A f J v → Calls Try.prog 24 #[.pointer (some ⟨p, 0, none⟩), .int .i64 (f : Int)] u fun e w' => e = .returned (.tuple #[.int .i64 c, .int .i64 0]) ∧ Below u.heap.size u w' := fun u hu => hc0 ▸ colour_in hu.1.pl f hf
  have e1 : inn = I f := by
    rw [Hi.out]
    cases hI : I f
    · exact decide_eq_false (fun r => by have := r.2.2; simp [hI] at this)
    · exact decide_eq_true ⟨by omega, hf', by simpa using hI⟩
  have Hc : Hid ((inn = true → V f 1 = c) ∧ (inn = false → c = 0)) := ⟨fun r => (((Hag.out f hf).2 (e1 ▸ r)).1).trans hc0.symm, fun r => hc0 ▸ Classical.byContradiction (fun z => by have := (Hag.out f hf).1.2 z; rw [← e1, r] at this; cases this)⟩
  have hK' : (K == 7) = false := by simpa using hK
  clear hK hc0 e1
  go_enter Try.func22, Try.ntmps22
  go_upto_region 1 with fail
  generalize w.alloc _ = w5 at hx0 ⊢
  have c0 := hx0.cells
  have hd := hx0.below (below_drewN w5 1 _)
  go_wp2_with fail
  go_region_held3 (fun w' => w'.cell? ⟨y, 0, none⟩ = some (.pointer (some ⟨p, 0, none⟩)) ∧ w'.cell? ⟨w.heap.size, 2, none⟩ = some (.int .i64 (f : Int))) (go_keep) ((go_at_call 24; refine (hc _ hd).mono ?_; rintro e w4 ⟨rfl, hb4⟩; have hx4 := hd.below hb4; have c4 := hx4.cells))
  clear hc c0 hx0 hd
  go_wp2_with fail
  go_quiet (fail)
  generalize hU : World.drewN _ _ = w9
  have hx5 : Gx B w0 w9 P p b W base n cs T xs ws y q I V many w.heap.size K A f J v := hU ▸ hx4.below (below_drewN _ _ _)
  clear hU hx4 c4 hb4
  have c5 := hx5.cells
  cases inn
  · have c00 : c = 0 := Hc.out.2 rfl
    subst c00
    go_wp2_with (go_at_call 14; refine (num_any _ _).mono ?_; rintro e w9 ⟨rfl, rfl⟩)
    go_ret
    exact ⟨rfl, P, cs, T, xs, ws, I, V, many, hx5.1, by have := HT.out; omega, Hag.out, Hm.out⟩
  · have g1 := hx5.1.at_ hf (j := 1) (by omega) (by omega)
    rw [Hc.out.1 rfl] at g1
    go_wp2_with fail
    go_quiet (fail)
    generalize hU : World.drewN _ _ = w9
    have hx6 : Gx B w0 w9 P p b W base n cs T xs ws y q I V many w.heap.size K A f J v := hU ▸ hx5.below (below_drewN _ _ _)
    clear hU hx5 c5
    go_wp2_with (go_at_call 14; refine (num_any _ _).mono ?_; rintro e w9 ⟨rfl, rfl⟩)
    go_ret
    exact ⟨by simp, P, cs, T, xs, ws, I, V, many, hx6.1, by have := HT.out; omega, Hag.out, Hm.out⟩
theorem paint_any {B : Nat} {w0 w : World} {P : Nat → Prop} {p b W base n : Nat} {cs : Nat → Int} {T : Int} {xs : List Int} {ws : Nat → Int} {y q : Nat} {I : Nat → Bool} {V : Nat → Nat → Int} {many : Int} (h : Gm B w0 w P p b W base n cs T xs ws y q I V many) (hagr : Agree ws base n I V) (hmany : many + xs.length = n) (m : Nat) (hT : T ≤ (m : Int) ∧ m ≤ 100000) (K A F J v : Int) (ag inn : Bool) (hg : ag = decide (0 ≤ A ∧ A < 3)) (hi : inn = decide (0 ≤ F ∧ F < (n : Int) ∧ I F.toNat = true)) :
    Calls Try.prog 22 #[.pointer (some ⟨y, 0, none⟩), .agg #[.int .i64 K, .int .i64 A, .int .i64 F, .int .i64 J, .int .i64 v], .bool ag, .bool inn] w (ActPost B w0 p b W base n (m + 1) y q) := by
  by_cases hK : K = 7
  · by_cases hn : ag = true ∧ inn = true
    · by_cases hv : 1 ≤ v ∧ v ≤ 3
      · exact paint_yes h hagr hmany m hT K A F J v ag inn hg hi hK hn.1 hn.2 hv
      · exact paint_colour h hagr hmany m hT K A F J v ag inn hg hi hK hn.1 hn.2 hv
    · exact paint_no h hagr hmany m hT K A F J v ag inn hg hi hK hn
  · by_cases hF : 0 ≤ F ∧ F < (n : Int)
    · exact colour_some h hagr hmany m hT K A F J v ag inn hg hi hK hF
    · exact colour_none h hagr hmany m hT K A F J v ag inn hg hi hK hF
end Go.Proofs.Ytlkomjapfcmpkaa
