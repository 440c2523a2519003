/- (*play).act: Paint, Colour. -/
import Derived.Test.YtlkomjapfcmpkaaFPaint
import Derived.BigRegion
import Derived.Deep.DeepCutAuto
import Derived.BigQuiet
namespace Go.Proofs.Ytlkomjapfcmpkaa
open Go.RowKit
attribute [local go_sem ↓] st_U

set_option maxRecDepth 20000 in
set_option maxHeartbeats 8000000 in
theorem act_other {B : Nat} {w0 w : World} {P : Nat → Prop} {p b W base n : Nat} {cs : Nat → Int} {T : Int} {xs : List Int} {ws : Nat → Int} {y q : Nat} {I : Nat → Bool} {V : Nat → Nat → Int} {many : Int} (h : Gm B w0 w P p b W base n cs T xs ws y q I V many) (hagr : Agree ws base n I V) (hmany : many + xs.length = n) (m : Nat) (hT : T ≤ (m : Int) ∧ m ≤ 100000) (K A F J v : Int) (hK : ¬ (0 ≤ K ∧ K ≤ 6)) :
    Calls Try.prog 7 #[.pointer (some ⟨y, 0, none⟩), .agg #[.int .i64 K, .int .i64 A, .int .i64 F, .int .i64 J, .int .i64 v]] w (ActPost B w0 p b W base n (m + 1) y q) := by
  have hx0 : Gx B w0 (w.alloc (.cells #[.int .i64 K, .int .i64 A, .int .i64 F, .int .i64 J, .int .i64 v] 33)) P p b W base n cs T xs ws y q I V many w.heap.size K A F J v := ⟨h.below ((Below.refl _ _).alloc (Nat.le_refl _) _), heap_alloc_new _ _, fun r => by have := h.pl.lt _ r; omega⟩
  have c0 := hx0.cells
  obtain ⟨ag, hg⟩ : ∃ ag : Bool, ag = decide (0 ≤ A ∧ A < 3) := ⟨_, rfl⟩
  obtain ⟨inn, hi⟩ : ∃ inn : Bool, inn = decide (0 ≤ F ∧ F < (n : Int) ∧ I F.toNat = true) := ⟨_, rfl⟩
  obtain ⟨pla, hp⟩ : ∃ pla : Bool, pla = (inn && decide (0 ≤ J ∧ J < 8)) := ⟨_, rfl⟩
  have Hg : Hid (ag = decide (0 ≤ A ∧ A < 3)) := hg
  have Hi : Hid (inn = decide (0 ≤ F ∧ F < (n : Int) ∧ I F.toNat = true)) := hi
  have Hp : Hid (pla = (inn && decide (0 ≤ J ∧ J < 8))) := hp
  have Hag : Hid (Agree ws base n I V) := hagr
  have Hm : Hid (many + xs.length = n) := hmany
  have HT : Hid (T ≤ (m : Int) ∧ m ≤ 100000) := hT
  have HK : Hid (¬ (0 ≤ K ∧ K ≤ 6)) := hK
  clear hg hi hp hagr hmany hT h hK
  go_enter Try.func7, Try.ntmps7
  go_upto_region 1 with fail
  go_cut [5] from 16 to 23 (fun s5 wx => s5 = .bool ag ∧ Gx B w0 wx P p b W base n cs T xs ws y q I V many w.heap.size K A F J v)
  case first =>
    by_cases a0 : 0 ≤ A
    · by_cases a1 : A < 3
      · as_aux_lemma =>
          go_wp2_with fail
          go_meet
          exact ⟨by rw [Hg.out, decide_eq_true ⟨a0, a1⟩], hx0⟩
      · have a1' : decide (A < 3) = false := by simp; omega
        as_aux_lemma =>
          go_wp2_with fail
          go_meet
          exact ⟨by rw [Hg.out, decide_eq_false (by omega)], hx0⟩
    · have a0' : decide (0 ≤ A) = false := by simp; omega
      as_aux_lemma =>
        go_wp2_with fail
        go_meet
        exact ⟨by rw [Hg.out, decide_eq_false (by omega)], hx0⟩
  case rest =>
  obtain ⟨rfl, hx1⟩ := hcut
  clear hx0 c0
  have c0 := hx1.cells
  go_upto_region 2 with fail
  go_cut [6] from 24 to 47 (fun s6 wx => s6 = .bool inn ∧ Gx B w0 wx P p b W base n cs T xs ws y q I V many w.heap.size K A F J v)
  case first =>
    by_cases f0 : 0 ≤ F
    · by_cases f1 : F < (n : Int)
      · obtain ⟨f, rfl⟩ : ∃ f : Nat, F = f := ⟨F.toNat, by omega⟩
        have ci := hx1.1.is (f := f) (by omega)
        have e1 : inn = I f := by
          rw [Hi.out]
          cases hI : I f
          · exact decide_eq_false (fun r => by have := r.2.2; simp [hI] at this)
          · exact decide_eq_true ⟨f0, f1, by simpa using hI⟩
        subst e1
        as_aux_lemma =>
         go_quiet (fail)
         all_goals (go_wp2_with fail; go_meet; exact ⟨by first | rfl | simp, hx1.below (below_drewN _ _ _)⟩)
      · have f1' : decide (F < (n : Int)) = false := by simp; omega
        as_aux_lemma =>
         go_quiet (fail)
         all_goals (go_wp2_with fail; go_meet; exact ⟨by rw [Hi.out, decide_eq_false (by omega)], hx1.below (below_drewN _ _ _)⟩)
    · have f0' : decide (0 ≤ F) = false := by simp; omega
      as_aux_lemma =>
       go_quiet (fail)
       all_goals (go_wp2_with fail; go_meet; exact ⟨by rw [Hi.out, decide_eq_false (by omega)], hx1.below (below_drewN _ _ _)⟩)
  case rest =>
  obtain ⟨rfl, hx2⟩ := hcut
  clear hx1 c0
  have c0 := hx2.cells
  go_upto_region 3 with fail
  go_cut [7] from 48 to 58 (fun s7 wx => s7 = .bool pla ∧ Gx B w0 wx P p b W base n cs T xs ws y q I V many w.heap.size K A F J v)
  case first =>
    cases inn with
    | false =>
      as_aux_lemma =>
        go_wp2_with fail
        go_meet
        exact ⟨by rw [Hp.out]; rfl, hx2⟩
    | true =>
      by_cases j0 : 0 ≤ J
      · by_cases j1 : J < 8
        · as_aux_lemma =>
            go_wp2_with fail
            go_meet
            exact ⟨by rw [Hp.out, decide_eq_true ⟨j0, j1⟩]; rfl, hx2⟩
        · have j1' : decide (J < 8) = false := by simp; omega
          as_aux_lemma =>
            go_wp2_with fail
            go_meet
            exact ⟨by rw [Hp.out, decide_eq_false (by omega)]; rfl, hx2⟩
      · have j0' : decide (0 ≤ J) = false := by simp; omega
        as_aux_lemma =>
          go_wp2_with fail
          go_meet
          exact ⟨by rw [Hp.out, decide_eq_false (by omega)]; rfl, hx2⟩
  case rest =>
  obtain ⟨rfl, hx3⟩ := hcut
  clear hx2 c0
  have c0 := hx3.cells
  have hpa := paint_any hx3.1 Hag.out Hm.out m HT.out K A F J v ag inn Hg.out Hi.out
  have hk := HK.out
  have k0 : (K == 0) = false := by simp; omega
  have k1 : (K == 1) = false := by simp; omega
  have k2 : (K == 2) = false := by simp; omega
  have k3 : (K == 3) = false := by simp; omega
  have k4 : (K == 4) = false := by simp; omega
  have k5 : (K == 5) = false := by simp; omega
  have k6 : (K == 6) = false := by simp; omega
  clear hk
  as_aux_lemma =>
    go_wp2_with (go_at_call 22; refine hpa.mono ?_; rintro e w4 ⟨rfl, hP⟩)
    go_ret
    exact ⟨rfl, hP⟩
end Go.Proofs.Ytlkomjapfcmpkaa
