/- (*play).act: Alloc. -/
import Derived.Test.YtlkomjapfcmpkaaFPlay
import Derived.BigRegion
import Derived.Deep.DeepCutAuto
import Derived.BigQuiet
namespace Go.Proofs.Ytlkomjapfcmpkaa
open Go.RowKit
attribute [local go_sem ↓] st_U

set_option maxRecDepth 20000 in
set_option maxHeartbeats 8000000 in
theorem act_alloc {B : Nat} {w0 w : World} {P : Nat → Prop} {p b W base n : Nat} {cs : Nat → Int} {T : Int} {xs : List Int} {ws : Nat → Int} {y q : Nat} {I : Nat → Bool} {V : Nat → Nat → Int} {many : Int} (h : Gm B w0 w P p b W base n cs T xs ws y q I V many) (hagr : Agree ws base n I V) (hmany : many + xs.length = n) (m : Nat) (hT : T ≤ (m : Int) ∧ m ≤ 100000) (K A F J v : Int) (hK : K = 0 ∨ K = 1 ∨ K = 2) :
    Calls Try.prog 7 #[.pointer (some ⟨y, 0, none⟩), .agg #[.int .i64 K, .int .i64 A, .int .i64 F, .int .i64 J, .int .i64 v]] w (ActPost B w0 p b W base n (m + 1) y q) := by
  have hx0 : Gx B w0 (w.alloc (.cells #[.int .i64 K, .int .i64 A, .int .i64 F, .int .i64 J, .int .i64 v] 33)) P p b W base n cs T xs ws y q I V many w.heap.size K A F J v := ⟨h.below ((Below.refl _ _).alloc (Nat.le_refl _) _), heap_alloc_new _ _, fun r => by have := h.pl.lt _ r; omega⟩
  have c0 := hx0.cells
  obtain ⟨ag, hg⟩ : ∃ ag : Bool, ag = decide (0 ≤ A ∧ A < 3) := ⟨_, rfl⟩
  obtain ⟨inn, hi⟩ : ∃ inn : Bool, inn = decide (0 ≤ F ∧ F < (n : Int) ∧ I F.toNat = true) := ⟨_, rfl⟩
  obtain ⟨pla, hp⟩ : ∃ pla : Bool, pla = (inn && decide (0 ≤ J ∧ J < 8)) := ⟨_, rfl⟩
  have Hg : Hid (ag = decide (0 ≤ A ∧ A < 3)) := hg
  have Hi : Hid (inn = decide (0 ≤ F ∧ F < (n : Int) ∧ I F.toNat = true)) := hi
  have Hp : Hid (pla = (inn && decide (0 ≤ J ∧ J < 8))) := hp
  have Hag : Hid (Agree ws base n I V) := hagr
  have Hm : Hid (many + xs.length = n) := hmany
  have HT : Hid (T ≤ (m : Int) ∧ m ≤ 100000) := hT
  have HK : Hid (K = 0 ∨ K = 1 ∨ K = 2) := hK
  clear hg hi hp hagr hmany hT h hK
  go_enter Try.func7, Try.ntmps7
  go_upto_region 1 with fail
  go_cut [5] from 16 to 23 (fun s5 wx => s5 = .bool ag ∧ Gx B w0 wx P p b W base n cs T xs ws y q I V many w.heap.size K A F J v)
  case first =>
    by_cases a0 : 0 ≤ A
    · by_cases a1 : A < 3
      · as_aux_lemma =>
          go_wp2_with fail
          go_meet
          exact ⟨by rw [Hg.out, decide_eq_true ⟨a0, a1⟩], hx0⟩
      · have a1' : decide (A < 3) = false := by simp; omega
        as_aux_lemma =>
          go_wp2_with fail
          go_meet
          exact ⟨by rw [Hg.out, decide_eq_false (by omega)], hx0⟩
    · have a0' : decide (0 ≤ A) = false := by simp; omega
      as_aux_lemma =>
        go_wp2_with fail
        go_meet
        exact ⟨by rw [Hg.out, decide_eq_false (by omega)], hx0⟩
  case rest =>
  obtain ⟨rfl, hx1⟩ := hcut
  clear hx0 c0
  have c0 := hx1.cells
  go_upto_region 2 with fail
  go_cut [6] from 24 to 47 (fun s6 wx => s6 = .bool inn ∧ Gx B w0 wx P p b W base n cs T xs ws y q I V many w.heap.size K A F J v)
  case first =>
    by_cases f0 : 0 ≤ F
    · by_cases f1 : F < (n : Int)
      · obtain ⟨f, rfl⟩ : ∃ f : Nat, F = f := ⟨F.toNat, by omega⟩
        have ci := hx1.1.is (f := f) (by omega)
        have e1 : inn = I f := by
          rw [Hi.out]
          cases hI : I f
          · exact decide_eq_false (fun r => by have := r.2.2; simp [hI] at this)
          · exact decide_eq_true ⟨f0, f1, by simpa using hI⟩
        subst e1
        as_aux_lemma =>
         go_quiet (fail)
         all_goals (go_wp2_with fail; go_meet; exact ⟨by first | rfl | simp, hx1.below (below_drewN _ _ _)⟩)
      · have f1' : decide (F < (n : Int)) = false := by simp; omega
        as_aux_lemma =>
         go_quiet (fail)
         all_goals (go_wp2_with fail; go_meet; exact ⟨by rw [Hi.out, decide_eq_false (by omega)], hx1.below (below_drewN _ _ _)⟩)
    · have f0' : decide (0 ≤ F) = false := by simp; omega
      as_aux_lemma =>
       go_quiet (fail)
       all_goals (go_wp2_with fail; go_meet; exact ⟨by rw [Hi.out, decide_eq_false (by omega)], hx1.below (below_drewN _ _ _)⟩)
  case rest =>
  obtain ⟨rfl, hx2⟩ := hcut
  clear hx1 c0
  have c0 := hx2.cells
  go_upto_region 3 with fail
  go_cut [7] from 48 to 58 (fun s7 wx => s7 = .bool pla ∧ Gx B w0 wx P p b W base n cs T xs ws y q I V many w.heap.size K A F J v)
  case first =>
    cases inn with
    | false =>
      as_aux_lemma =>
        go_wp2_with fail
        go_meet
        exact ⟨by rw [Hp.out]; rfl, hx2⟩
    | true =>
      by_cases j0 : 0 ≤ J
      · by_cases j1 : J < 8
        · as_aux_lemma =>
            go_wp2_with fail
            go_meet
            exact ⟨by rw [Hp.out, decide_eq_true ⟨j0, j1⟩]; rfl, hx2⟩
        · have j1' : decide (J < 8) = false := by simp; omega
          as_aux_lemma =>
            go_wp2_with fail
            go_meet
            exact ⟨by rw [Hp.out, decide_eq_false (by omega)]; rfl, hx2⟩
      · have j0' : decide (0 ≤ J) = false := by simp; omega
        as_aux_lemma =>
          go_wp2_with fail
          go_meet
          exact ⟨by rw [Hp.out, decide_eq_false (by omega)]; rfl, hx2⟩
  case rest =>
  obtain ⟨rfl, hx3⟩ := hcut
  clear hx2 c0
  have c0 := hx3.cells
  have hfac := hx3.1.pl.facts
  have hb0 : 0 ≤ many ∧ many ≤ 1000 := by have := Hm.out; omega
  have hd := hx3.below (below_drewN wc 1 _)
  have n1000 : n ≤ 1000 := by omega
  have cd := hd.cells
  clear hfac
  cases ag with
  | false =>
    have hA : ¬ (0 ≤ A ∧ A < 3) := fun r => by have := Hg.out; rw [decide_eq_true r] at this; cases this
    have hno := palloc_no hd.1.pl A hA
    clear hA
    rcases HK.out with rfl | rfl | rfl
    all_goals
      as_aux_lemma =>
        go_wp2_with fail
        go_region_held3 (fun w' => (w'.cell? ⟨y, 0, none⟩ = some (.pointer (some ⟨p, 0, none⟩)) ∧ w'.cell? ⟨y, 1, none⟩ = some (.pointer (some ⟨b, 0, none⟩)) ∧ w'.cell? ⟨y, 2, none⟩ = some (.slice (some ⟨q, 0, none⟩) n n) ∧ w'.cell? ⟨y, 3, none⟩ = some (.int .i64 many)) ∧ (w'.cell? ⟨w.heap.size, 1, none⟩ = some (.int .i64 A) ∧ w'.cell? ⟨w.heap.size, 2, none⟩ = some (.int .i64 F) ∧ w'.cell? ⟨w.heap.size, 3, none⟩ = some (.int .i64 J) ∧ w'.cell? ⟨w.heap.size, 4, none⟩ = some (.int .i64 v))) (go_keep) ((go_at_call 15; refine hno.mono ?_; rintro e w4 ⟨rfl, rfl⟩))
        go_wp2_with (go_at_call 14; refine (num_any _ _).mono ?_; rintro e w9 ⟨rfl, rfl⟩)
        go_ret
        exact ⟨rfl, P, cs, T, xs, ws, I, V, many, hd.1, by have := HT.out; omega, Hag.out, Hm.out⟩
  | true =>
    have hA : 0 ≤ A ∧ A < 3 := of_decide_eq_true Hg.out.symm
    obtain ⟨a, rfl⟩ : ∃ a : Nat, A = a := ⟨A.toNat, by omega⟩
    have Hd : Hid (Gx B w0 (wc.drewN 1) P p b W base n cs T xs ws y q I V many w.heap.size K a F J v) := hd
    cases xs with
    | nil =>
      have hal := palloc_none hd.1.pl (by have := HT.out; omega) (a : Int) hA
      have hmn : (many == (n : Int)) = true := by have := Hm.out; simp at this ⊢; omega
      clear hA
      rcases HK.out with rfl | rfl | rfl
      all_goals
        as_aux_lemma =>
          go_wp2_with fail
          go_region_held3 (fun w' => (w'.cell? ⟨y, 0, none⟩ = some (.pointer (some ⟨p, 0, none⟩)) ∧ w'.cell? ⟨y, 1, none⟩ = some (.pointer (some ⟨b, 0, none⟩)) ∧ w'.cell? ⟨y, 2, none⟩ = some (.slice (some ⟨q, 0, none⟩) n n) ∧ w'.cell? ⟨y, 3, none⟩ = some (.int .i64 many)) ∧ (w'.cell? ⟨w.heap.size, 1, none⟩ = some (.int .i64 a) ∧ w'.cell? ⟨w.heap.size, 2, none⟩ = some (.int .i64 F) ∧ w'.cell? ⟨w.heap.size, 3, none⟩ = some (.int .i64 J) ∧ w'.cell? ⟨w.heap.size, 4, none⟩ = some (.int .i64 v))) (go_keep) ((go_at_call 15; refine hal.mono ?_; rintro e w4 ⟨rfl, hb4⟩; have hx4 := hd.below hb4; have c4 := hx4.cells))
          clear c0 hx3 hd
          go_wp2_with fail
          go_quiet (fail)
          go_wp2_with (go_at_call 14; refine (num_any _ _).mono ?_; rintro e w9 ⟨rfl, rfl⟩)
          go_ret
          exact ⟨rfl, P, cs, T, [], ws, I, V, many, (hx4.below (below_drewN _ _ _)).1, by have := HT.out; omega, Hag.out, Hm.out⟩
    | cons x xs =>
      have hal : Calls Try.prog 15 #[.pointer (some ⟨p, 0, none⟩), .int .i64 (a : Int)] (wc.drewN 1) fun e w' => ∃ f : Nat, f < n ∧ ws (base + 8 * n + f) = 0 ∧ e = .returned (.tuple #[.int .i64 f, .int .i64 0]) ∧ ∃ (P' : Nat → Prop) (cs' : Nat → Int), Gx B w0 w' P' p b W base n cs' (T + 1) xs (upd (zap ws (base + 8 * f) 8) (base + 8 * n + f) 1) y q I V many w.heap.size K a F J v := by
        refine (palloc_ok hd.1.pl (by have := HT.out; omega) a (by omega)).mono ?_
        rintro e w' ⟨f, _, h2, h3, rfl, cs', hT'⟩
        obtain ⟨P', hx'⟩ := hd.turn hT'
        exact ⟨f, h2, h3, rfl, P', cs', hx'⟩
      have hmn : (many == (n : Int)) = false := by have := Hm.out; simp at this ⊢; omega
      have hif : ∀ f, f < n → ws (base + 8 * n + f) = 0 → I f = false := fun f hf hz => by
        cases hI : I f
        · rfl
        · exact absurd hz ((Hag.out f hf).1.1 hI)
      clear hA
      rcases HK.out with rfl | rfl | rfl
      all_goals
        as_aux_lemma =>
          go_wp2_with fail
          go_region_held3 (fun w' => (w'.cell? ⟨y, 0, none⟩ = some (.pointer (some ⟨p, 0, none⟩)) ∧ w'.cell? ⟨y, 1, none⟩ = some (.pointer (some ⟨b, 0, none⟩)) ∧ w'.cell? ⟨y, 2, none⟩ = some (.slice (some ⟨q, 0, none⟩) n n) ∧ w'.cell? ⟨y, 3, none⟩ = some (.int .i64 many)) ∧ (w'.cell? ⟨w.heap.size, 1, none⟩ = some (.int .i64 a) ∧ w'.cell? ⟨w.heap.size, 2, none⟩ = some (.int .i64 F) ∧ w'.cell? ⟨w.heap.size, 3, none⟩ = some (.int .i64 J) ∧ w'.cell? ⟨w.heap.size, 4, none⟩ = some (.int .i64 v))) (go_keep) ((go_at_call 15; refine hal.mono ?_; rintro e w4 ⟨f, hf, hz, rfl, P4, cs4, hx4⟩; have c4 := hx4.cells))
          clear c0 hx3 hd hal
          go_wp2_with fail
          go_quiet (fail)
          generalize hU : World.drewN _ _ = w9
          have hx5 : Gx B w0 w9 P4 p b W base n cs4 (T + 1) xs (upd (zap ws (base + 8 * f) 8) (base + 8 * n + f) 1) y q I V many w.heap.size _ a F J v := hU ▸ hx4.below (below_drewN _ _ _)
          clear hU hx4 c4
          have c5 := hx5.cells
          have g0 := hx5.1.is hf
          rw [hif f hf hz] at g0
          have hf' : (f : Int) < n := by omega
          obtain ⟨U2, hst, hx6, _, _⟩ := hx5.1.stored hf true 1
          have c6 := blk4' hx6.blk
          have f6 := frz hx6.blk
          clear hx5
          go_wp2_with (go_at_call 14; refine (num_any _ _).mono ?_; rintro e w9 ⟨rfl, rfl⟩)
          go_ret
          exact ⟨rfl, P4, cs4, T + 1, xs, _, _, _, many + 1, hx6.count (many + 1), by have := HT.out; omega, Hag.out.alloc hf, by have := Hm.out; simp at this; omega⟩
end Go.Proofs.Ytlkomjapfcmpkaa
