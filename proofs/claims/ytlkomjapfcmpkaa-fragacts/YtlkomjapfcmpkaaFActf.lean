/- (*play).act: Free. -/
import Derived.Test.YtlkomjapfcmpkaaFPlay
import Derived.BigRegion
import Derived.Deep.DeepCutAuto
import Derived.BigQuiet
namespace Go.Proofs.Ytlkomjapfcmpkaa
open Go.RowKit
attribute [local go_sem ↓] st_U

set_option maxRecDepth 20000 in
set_option maxHeartbeats 8000000 in
theorem act_free {B : Nat} {w0 w : World} {P : Nat → Prop} {p b W base n : Nat} {cs : Nat → Int} {T : Int} {xs : List Int} {ws : Nat → Int} {y q : Nat} {I : Nat → Bool} {V : Nat → Nat → Int} {many : Int} (h : Gm B w0 w P p b W base n cs T xs ws y q I V many) (hagr : Agree ws base n I V) (hmany : many + xs.length = n) (m : Nat) (hT : T ≤ (m : Int) ∧ m ≤ 100000) (K A F J v : Int) (hK : K = 3) :
    Calls Try.prog 7 #[.pointer (some ⟨y, 0, none⟩), .agg #[.int .i64 K, .int .i64 A, .int .i64 F, .int .i64 J, .int .i64 v]] w (ActPost B w0 p b W base n (m + 1) y q) := by
  have hx0 : Gx B w0 (w.alloc (.cells #[.int .i64 K, .int .i64 A, .int .i64 F, .int .i64 J, .int .i64 v] 33)) P p b W base n cs T xs ws y q I V many w.heap.size K A F J v := ⟨h.below ((Below.refl _ _).alloc (Nat.le_refl _) _), heap_alloc_new _ _, fun r => by have := h.pl.lt _ r; omega⟩
  have c0 := hx0.cells
  obtain ⟨ag, hg⟩ : ∃ ag : Bool, ag = decide (0 ≤ A ∧ A < 3) := ⟨_, rfl⟩
  obtain ⟨inn, hi⟩ : ∃ inn : Bool, inn = decide (0 ≤ F ∧ F < (n : Int) ∧ I F.toNat = true) := ⟨_, rfl⟩
  obtain ⟨pla, hp⟩ : ∃ pla : Bool, pla = (inn && decide (0 ≤ J ∧ J < 8)) := ⟨_, rfl⟩
  have Hg : Hid (ag = decide (0 ≤ A ∧ A < 3)) := hg
  have Hi : Hid (inn = decide (0 ≤ F ∧ F < (n : Int) ∧ I F.toNat = true)) := hi
  have Hp : Hid (pla = (inn && decide (0 ≤ J ∧ J < 8))) := hp
  have Hag : Hid (Agree ws base n I V) := hagr
  have Hm : Hid (many + xs.length = n) := hmany
  have HT : Hid (T ≤ (m : Int) ∧ m ≤ 100000) := hT
  have HK : Hid (K = 3) := hK
  clear hg hi hp hagr hmany hT h hK
  go_enter Try.func7, Try.ntmps7
  go_upto_region 1 with fail
  go_cut [5] from 16 to 23 (fun s5 wx => s5 = .bool ag ∧ Gx B w0 wx P p b W base n cs T xs ws y q I V many w.heap.size K A F J v)
  case first =>
    by_cases a0 : 0 ≤ A
    · by_cases a1 : A < 3
      · as_aux_lemma =>
          go_wp2_with fail
          go_meet
          exact ⟨by rw [Hg.out, decide_eq_true ⟨a0, a1⟩], hx0⟩
      · have a1' : decide (A < 3) = false := by simp; omega
        as_aux_lemma =>
          go_wp2_with fail
          go_meet
          exact ⟨by rw [Hg.out, decide_eq_false (by omega)], hx0⟩
    · have a0' : decide (0 ≤ A) = false := by simp; omega
      as_aux_lemma =>
        go_wp2_with fail
        go_meet
        exact ⟨by rw [Hg.out, decide_eq_false (by omega)], hx0⟩
  case rest =>
  obtain ⟨rfl, hx1⟩ := hcut
  clear hx0 c0
  have c0 := hx1.cells
  go_upto_region 2 with fail
  go_cut [6] from 24 to 47 (fun s6 wx => s6 = .bool inn ∧ Gx B w0 wx P p b W base n cs T xs ws y q I V many w.heap.size K A F J v)
  case first =>
    by_cases f0 : 0 ≤ F
    · by_cases f1 : F < (n : Int)
      · obtain ⟨f, rfl⟩ : ∃ f : Nat, F = f := ⟨F.toNat, by omega⟩
        have ci := hx1.1.is (f := f) (by omega)
        have e1 : inn = I f := by
          rw [Hi.out]
          cases hI : I f
          · exact decide_eq_false (fun r => by have := r.2.2; simp [hI] at this)
          · exact decide_eq_true ⟨f0, f1, by simpa using hI⟩
        subst e1
        as_aux_lemma =>
         go_quiet (fail)
         all_goals (go_wp2_with fail; go_meet; exact ⟨by first | rfl | simp, hx1.below (below_drewN _ _ _)⟩)
      · have f1' : decide (F < (n : Int)) = false := by simp; omega
        as_aux_lemma =>
         go_quiet (fail)
         all_goals (go_wp2_with fail; go_meet; exact ⟨by rw [Hi.out, decide_eq_false (by omega)], hx1.below (below_drewN _ _ _)⟩)
    · have f0' : decide (0 ≤ F) = false := by simp; omega
      as_aux_lemma =>
       go_quiet (fail)
       all_goals (go_wp2_with fail; go_meet; exact ⟨by rw [Hi.out, decide_eq_false (by omega)], hx1.below (below_drewN _ _ _)⟩)
  case rest =>
  obtain ⟨rfl, hx2⟩ := hcut
  clear hx1 c0
  have c0 := hx2.cells
  go_upto_region 3 with fail
  go_cut [7] from 48 to 58 (fun s7 wx => s7 = .bool pla ∧ Gx B w0 wx P p b W base n cs T xs ws y q I V many w.heap.size K A F J v)
  case first =>
    cases inn with
    | false =>
      as_aux_lemma =>
        go_wp2_with fail
        go_meet
        exact ⟨by rw [Hp.out]; rfl, hx2⟩
    | true =>
      by_cases j0 : 0 ≤ J
      · by_cases j1 : J < 8
        · as_aux_lemma =>
            go_wp2_with fail
            go_meet
            exact ⟨by rw [Hp.out, decide_eq_true ⟨j0, j1⟩]; rfl, hx2⟩
        · have j1' : decide (J < 8) = false := by simp; omega
          as_aux_lemma =>
            go_wp2_with fail
            go_meet
            exact ⟨by rw [Hp.out, decide_eq_false (by omega)]; rfl, hx2⟩
      · have j0' : decide (0 ≤ J) = false := by simp; omega
        as_aux_lemma =>
          go_wp2_with fail
          go_meet
          exact ⟨by rw [Hp.out, decide_eq_false (by omega)]; rfl, hx2⟩
  case rest =>
  obtain ⟨rfl, hx3⟩ := hcut
  clear hx2 c0
  have c0 := hx3.cells
  have hfac := hx3.1.pl.facts
  have hb0 : 0 ≤ many ∧ many ≤ 1000 := by have := Hm.out; omega
  have hd := hx3.below (below_drewN wc 1 _)
  clear hfac
  obtain rfl := HK.out
  by_cases hn : ag = true ∧ inn = true
  · have e1 := of_decide_eq_true (Hg.out.symm.trans hn.1)
    have e2 := of_decide_eq_true (Hi.out.symm.trans hn.2)
    obtain ⟨a, rfl⟩ : ∃ a : Nat, A = a := ⟨A.toNat, by omega⟩
    obtain ⟨f, rfl⟩ : ∃ f : Nat, F = f := ⟨F.toNat, by omega⟩
    have hf : f < n := by omega
    have hf' : (f : Int) < n := by omega
    have hIf : I f = true := by simpa using e2.2.2
    have hyes : Calls Try.prog 20 #[.pointer (some ⟨p, 0, none⟩), .int .i64 (a : Int), .int .i64 (f : Int)] (wc.drewN 1) fun e w' => e = .returned (.int .i64 0) ∧ ∃ P' cs', Gx B w0 w' P' p b W base n cs' (T + 1) (((f : Int) + 1) :: xs) (upd ws (base + 8 * n + f) 0) y q I V many w.heap.size 3 a f J v := by
      refine (pfree_ok hd.1.pl (by have := HT.out; omega) a f (by omega) (Hag.out.inuse hf hIf)).mono ?_
      rintro e w' ⟨rfl, cs', hT'⟩
      obtain ⟨P', hx'⟩ := hd.turn hT'
      exact ⟨rfl, P', _, hx'⟩
    obtain ⟨rfl, rfl⟩ := hn
    clear e1 e2 hIf
    as_aux_lemma =>
      go_wp2_with fail
      go_region_held3 (fun w' => w'.cell? ⟨y, 0, none⟩ = some (.pointer (some ⟨p, 0, none⟩)) ∧ w'.cell? ⟨w.heap.size, 1, none⟩ = some (.int .i64 (a : Int)) ∧ w'.cell? ⟨w.heap.size, 2, none⟩ = some (.int .i64 (f : Int))) (go_keep) ((go_at_call 20; refine hyes.mono ?_; rintro e w4 ⟨rfl, P4, cs4, hx4⟩; have c4 := hx4.cells))
      clear hyes c0 hx3 hd
      go_wp2_with fail
      have hx5 := hx4.below (below_drewN w4 1 _)
      obtain ⟨U2, hst, hx6⟩ := hx5.stored hf false 0
      have hst' : (stU (.pointer (some ⟨q, f * 10, none⟩)) (.agg #[.bool false, .int .i64 0, .int .i64 0, .int .i64 0, .int .i64 0, .int .i64 0, .int .i64 0, .int .i64 0, .int .i64 0, .int .i64 0])).run Try.prog w4.drew = .ok () U2 := hst
      have c6 := hx6.cells
      have f6 := frz hx6.1.blk
      clear hx5
      go_region_held3 (fun w' => w'.cell? ⟨y, 2, none⟩ = some (.slice (some ⟨q, 0, none⟩) n n) ∧ w'.cell? ⟨w.heap.size, 2, none⟩ = some (.int .i64 (f : Int))) (go_keep) (fail)
      go_wp2_with (go_at_call 14; refine (num_any _ _).mono ?_; rintro e w9 ⟨rfl, rfl⟩)
      go_ret
      exact ⟨rfl, P4, cs4, T + 1, _, _, _, _, many - 1, hx6.1.count (many - 1), by have := HT.out; omega, by
        have := Hag.out.free hf
        have e : (fun j => if j = 1 then (0 : Int) else 0) = fun _ => 0 := by funext j; split <;> rfl
        rw [e]; exact this, by have := Hm.out; simp; omega⟩
  · have hno := pfree_no hd.1.pl A F (fun r => hn ⟨by rw [Hg.out]; exact decide_eq_true r.1, by rw [Hi.out]; exact decide_eq_true ⟨r.2.1, r.2.2.1, (Hag.out F.toNat (by have := r.2.1; have := r.2.2.1; omega)).1.2 r.2.2.2⟩⟩)
    as_aux_lemma =>
      go_wp2_with fail
      go_region_held3 (fun w' => w'.cell? ⟨y, 0, none⟩ = some (.pointer (some ⟨p, 0, none⟩)) ∧ w'.cell? ⟨w.heap.size, 1, none⟩ = some (.int .i64 A) ∧ w'.cell? ⟨w.heap.size, 2, none⟩ = some (.int .i64 F)) (go_keep) ((go_at_call 20; refine hno.mono ?_; rintro e w4 ⟨rfl, hb4⟩; have hx4 := hd.below hb4; have c4 := hx4.cells))
      clear hno c0 hx3 hd
      cases ag
      · go_wp2_with (go_at_call 14; refine (num_any _ _).mono ?_; rintro e w9 ⟨rfl, rfl⟩)
        go_ret
        exact ⟨rfl, P, cs, T, xs, ws, I, V, many, hx4.1, by have := HT.out; omega, Hag.out, Hm.out⟩
      · cases inn
        · go_wp2_with (go_at_call 14; refine (num_any _ _).mono ?_; rintro e w9 ⟨rfl, rfl⟩)
          go_ret
          exact ⟨rfl, P, cs, T, xs, ws, I, V, many, hx4.1, by have := HT.out; omega, Hag.out, Hm.out⟩
        · exact absurd ⟨rfl, rfl⟩ hn
end Go.Proofs.Ytlkomjapfcmpkaa
