/- (*play).act: Load. -/
import Derived.Test.YtlkomjapfcmpkaaFPlay
import Derived.BigRegion
import Derived.Deep.DeepCutAuto
import Derived.BigQuiet
namespace Go.Proofs.Ytlkomjapfcmpkaa
open Go.RowKit
attribute [local go_sem ↓] st_U

theorem psteps_in {w : World} {P : Nat → Prop} {p b W base n G : Nat} {cs : Nat → Int} {T : Int} {xs : List Int} {ws : Nat → Int} (h : Pl w P p b W base n G cs T xs ws) (g : Nat) (hg : g < G) : Calls Try.prog 21 #[.pointer (some ⟨b, 0, none⟩), .int .i64 g] w fun e w' => e = .returned (.int .i64 (cs g)) ∧ w' = w := by
  obtain ⟨Q, s, bc, pl, k, h⟩ := h
  exact gi_steps h.good g hg
theorem psteps_any {w : World} {P : Nat → Prop} {p b W base n G : Nat} {cs : Nat → Int} {T : Int} {xs : List Int} {ws : Nat → Int} (h : Pl w P p b W base n G cs T xs ws) (x : Int) : Calls Try.prog 21 #[.pointer (some ⟨b, 0, none⟩), .int .i64 x] w fun e w' => ∃ v : Int, e = .returned (.int .i64 v) ∧ w' = w := by
  by_cases hx : 0 ≤ x ∧ x < (G : Int)
  · obtain ⟨a, rfl⟩ : ∃ a : Nat, x = a := ⟨x.toNat, by omega⟩
    refine (psteps_in h a (by omega)).mono ?_
    rintro e w' ⟨h1, h2⟩
    exact ⟨_, h1, h2⟩
  · obtain ⟨Q, s, bc, pl, k, h⟩ := h
    refine (gi_steps_out h.good x hx).mono ?_
    rintro e w' ⟨h1, h2⟩
    exact ⟨_, h1, h2⟩
set_option maxRecDepth 20000 in
set_option maxHeartbeats 8000000 in
theorem act_load {B : Nat} {w0 w : World} {P : Nat → Prop} {p b W base n : Nat} {cs : Nat → Int} {T : Int} {xs : List Int} {ws : Nat → Int} {y q : Nat} {I : Nat → Bool} {V : Nat → Nat → Int} {many : Int} (h : Gm B w0 w P p b W base n cs T xs ws y q I V many) (hagr : Agree ws base n I V) (hmany : many + xs.length = n) (m : Nat) (hT : T ≤ (m : Int) ∧ m ≤ 100000) (K A F J v : Int) (hK : K = 4) :
    Calls Try.prog 7 #[.pointer (some ⟨y, 0, none⟩), .agg #[.int .i64 K, .int .i64 A, .int .i64 F, .int .i64 J, .int .i64 v]] w (ActPost B w0 p b W base n (m + 1) y q) := by
  have hx0 : Gx B w0 (w.alloc (.cells #[.int .i64 K, .int .i64 A, .int .i64 F, .int .i64 J, .int .i64 v] 33)) P p b W base n cs T xs ws y q I V many w.heap.size K A F J v := ⟨h.below ((Below.refl _ _).alloc (Nat.le_refl _) _), heap_alloc_new _ _, fun r => by have := h.pl.lt _ r; omega⟩
  have c0 := hx0.cells
  obtain ⟨ag, hg⟩ : ∃ ag : Bool, ag = decide (0 ≤ A ∧ A < 3) := ⟨_, rfl⟩
  obtain ⟨inn, hi⟩ : ∃ inn : Bool, inn = decide (0 ≤ F ∧ F < (n : Int) ∧ I F.toNat = true) := ⟨_, rfl⟩
  obtain ⟨pla, hp⟩ : ∃ pla : Bool, pla = (inn && decide (0 ≤ J ∧ J < 8)) := ⟨_, rfl⟩
  have Hg : Hid (ag = decide (0 ≤ A ∧ A < 3)) := hg
  have Hi : Hid (inn = decide (0 ≤ F ∧ F < (n : Int) ∧ I F.toNat = true)) := hi
  have Hp : Hid (pla = (inn && decide (0 ≤ J ∧ J < 8))) := hp
  have Hag : Hid (Agree ws base n I V) := hagr
  have Hm : Hid (many + xs.length = n) := hmany
  have HT : Hid (T ≤ (m : Int) ∧ m ≤ 100000) := hT
  have HK : Hid (K = 4) := hK
  clear hg hi hp hagr hmany hT h hK
  go_enter Try.func7, Try.ntmps7
  go_upto_region 1 with fail
  go_cut [5] from 16 to 23 (fun s5 wx => s5 = .bool ag ∧ Gx B w0 wx P p b W base n cs T xs ws y q I V many w.heap.size K A F J v)
  case first =>
    by_cases a0 : 0 ≤ A
    · by_cases a1 : A < 3
      · as_aux_lemma =>
          go_wp2_with fail
          go_meet
          exact ⟨by rw [Hg.out, decide_eq_true ⟨a0, a1⟩], hx0⟩
      · have a1' : decide (A < 3) = false := by simp; omega
        as_aux_lemma =>
          go_wp2_with fail
          go_meet
          exact ⟨by rw [Hg.out, decide_eq_false (by omega)], hx0⟩
    · have a0' : decide (0 ≤ A) = false := by simp; omega
      as_aux_lemma =>
        go_wp2_with fail
        go_meet
        exact ⟨by rw [Hg.out, decide_eq_false (by omega)], hx0⟩
  case rest =>
  obtain ⟨rfl, hx1⟩ := hcut
  clear hx0 c0
  have c0 := hx1.cells
  go_upto_region 2 with fail
  go_cut [6] from 24 to 47 (fun s6 wx => s6 = .bool inn ∧ Gx B w0 wx P p b W base n cs T xs ws y q I V many w.heap.size K A F J v)
  case first =>
    by_cases f0 : 0 ≤ F
    · by_cases f1 : F < (n : Int)
      · obtain ⟨f, rfl⟩ : ∃ f : Nat, F = f := ⟨F.toNat, by omega⟩
        have ci := hx1.1.is (f := f) (by omega)
        have e1 : inn = I f := by
          rw [Hi.out]
          cases hI : I f
          · exact decide_eq_false (fun r => by have := r.2.2; simp [hI] at this)
          · exact decide_eq_true ⟨f0, f1, by simpa using hI⟩
        subst e1
        as_aux_lemma =>
         go_quiet (fail)
         all_goals (go_wp2_with fail; go_meet; exact ⟨by first | rfl | simp, hx1.below (below_drewN _ _ _)⟩)
      · have f1' : decide (F < (n : Int)) = false := by simp; omega
        as_aux_lemma =>
         go_quiet (fail)
         all_goals (go_wp2_with fail; go_meet; exact ⟨by rw [Hi.out, decide_eq_false (by omega)], hx1.below (below_drewN _ _ _)⟩)
    · have f0' : decide (0 ≤ F) = false := by simp; omega
      as_aux_lemma =>
       go_quiet (fail)
       all_goals (go_wp2_with fail; go_meet; exact ⟨by rw [Hi.out, decide_eq_false (by omega)], hx1.below (below_drewN _ _ _)⟩)
  case rest =>
  obtain ⟨rfl, hx2⟩ := hcut
  clear hx1 c0
  have c0 := hx2.cells
  go_upto_region 3 with fail
  go_cut [7] from 48 to 58 (fun s7 wx => s7 = .bool pla ∧ Gx B w0 wx P p b W base n cs T xs ws y q I V many w.heap.size K A F J v)
  case first =>
    cases inn with
    | false =>
      as_aux_lemma =>
        go_wp2_with fail
        go_meet
        exact ⟨by rw [Hp.out]; rfl, hx2⟩
    | true =>
      by_cases j0 : 0 ≤ J
      · by_cases j1 : J < 8
        · as_aux_lemma =>
            go_wp2_with fail
            go_meet
            exact ⟨by rw [Hp.out, decide_eq_true ⟨j0, j1⟩]; rfl, hx2⟩
        · have j1' : decide (J < 8) = false := by simp; omega
          as_aux_lemma =>
            go_wp2_with fail
            go_meet
            exact ⟨by rw [Hp.out, decide_eq_false (by omega)]; rfl, hx2⟩
      · have j0' : decide (0 ≤ J) = false := by simp; omega
        as_aux_lemma =>
          go_wp2_with fail
          go_meet
          exact ⟨by rw [Hp.out, decide_eq_false (by omega)]; rfl, hx2⟩
  case rest =>
  obtain ⟨rfl, hx3⟩ := hcut
  clear hx2 c0
  have c0 := hx3.cells
  obtain rfl := HK.out
  by_cases hn : ag = true ∧ pla = true
  · have e1 := of_decide_eq_true (Hg.out.symm.trans hn.1)
    have ep : inn = true ∧ decide (0 ≤ J ∧ J < 8) = true := by have := Hp.out.symm.trans hn.2; simpa using this
    have e2 := of_decide_eq_true (Hi.out.symm.trans ep.1)
    have e3 := of_decide_eq_true ep.2
    obtain ⟨a, rfl⟩ : ∃ a : Nat, A = a := ⟨A.toNat, by omega⟩
    obtain ⟨f, rfl⟩ : ∃ f : Nat, F = f := ⟨F.toNat, by omega⟩
    obtain ⟨j, rfl⟩ : ∃ j : Nat, J = j := ⟨J.toNat, by omega⟩
    have hf : f < n := by omega
    have hf' : (f : Int) < n := by omega
    have hj : j < 8 := by omega
    have hj' : (j : Int) < 8 := by omega
    have hIf : I f = true := by simpa using e2.2.2
    have HI : Hid (I f = true) := hIf
    obtain ⟨s0, hs0⟩ : ∃ s0, s0 = cs a := ⟨_, rfl⟩
    have hd := hx3.below (below_drewN wc 1 _)
    have hs : Calls Try.prog 21 #[.pointer (some ⟨b, 0, none⟩), .int .i64 (a : Int)] (wc.drewN 1) fun e w' => e = .returned (.int .i64 s0) ∧ w' = wc.drewN 1 := hs0 ▸ psteps_in hd.1.pl a (by omega)
    have hs2 : ∀ (u : World) (P' : Nat → Prop) (ws' : Nat → Int) (V' : Nat → Nat → Int), Gx B w0 u P' p b W base n (upd cs a (wrap64 (cs a + 1))) T xs ws' y q I V' many w.heap.size 4 a f j v → Calls Try.prog 21 #[.pointer (some ⟨b, 0, none⟩), .int .i64 (a : Int)] u fun e w' => e = .returned (.int .i64 (wrap64 (s0 + 1))) ∧ w' = u := fun u P' ws' V' hu => by
      have := psteps_in hu.1.pl a (by omega)
      rw [upd_at, ← hs0] at this
      exact this
    obtain ⟨z, hz⟩ : ∃ z, z = ws (base + 8 * f + j) := ⟨_, rfl⟩
    have hyes : ∀ u, Gx B w0 u P p b W base n cs T xs ws y q I V many w.heap.size 4 a f j v → Calls Try.prog 18 #[.pointer (some ⟨p, 0, none⟩), .int .i64 (a : Int), .int .i64 (f : Int), .int .i64 (j : Int)] u fun e w' => e = .returned (.tuple #[.int .i64 z, .int .i64 0]) ∧ ∃ P', Gx B w0 w' P' p b W base n (upd cs a (wrap64 (cs a + 1))) T xs ws y q I V many w.heap.size 4 a f j v := fun u hu => by
      refine (pload_ok hu.1.pl a f j (by omega) (Hag.out.inuse hf hIf) hj).mono ?_
      rintro e w' ⟨rfl, hT'⟩
      obtain ⟨P', hx'⟩ := hu.turn hT'
      exact ⟨by rw [hz], P', hx'⟩
    have HV : Hid (V f (2 + j) = z) := (show _ = _ from (((Hag.out f hf).2 hIf).2 j hj).trans hz.symm)
    obtain ⟨rfl, rfl⟩ := hn
    have hww : (wrap64 (s0 + 1) == IntKind.i64.wrap (s0 + 1)) = true := by rw [IntWalk.i64_left]; simp
    clear e1 e2 e3 ep hIf hs0 hz
    as_aux_lemma =>
      go_wp2_with fail
      go_region_held3 (fun w' => w'.cell? ⟨y, 1, none⟩ = some (.pointer (some ⟨b, 0, none⟩)) ∧ w'.cell? ⟨w.heap.size, 1, none⟩ = some (.int .i64 (a : Int))) (go_keep) ((go_at_call 21; refine hs.mono ?_; rintro e w5 ⟨rfl, hw5⟩; have hx5 : Gx B w0 w5 P p b W base n cs T xs ws y q I V many w.heap.size 4 a f j v := hw5 ▸ hd; have c5 := hx5.cells; clear hw5))
      clear c0 hx3 hd hs
      have hd := hx5.below (below_drewN w5 1 _)
      go_wp2_with fail
      go_region_held3 (fun w' => w'.cell? ⟨y, 0, none⟩ = some (.pointer (some ⟨p, 0, none⟩)) ∧ w'.cell? ⟨w.heap.size, 1, none⟩ = some (.int .i64 (a : Int)) ∧ w'.cell? ⟨w.heap.size, 2, none⟩ = some (.int .i64 (f : Int)) ∧ w'.cell? ⟨w.heap.size, 3, none⟩ = some (.int .i64 (j : Int))) (go_keep) ((go_at_call 18; refine (hyes _ hd).mono ?_; rintro e w4 ⟨rfl, P4, hx4⟩; have c4 := hx4.cells))
      clear hyes c5 hx5 hd
      have g2 : w4.cell? ⟨q, f * 10 + 2 + j, none⟩ = some (.int .i64 z) := by rw [Nat.add_assoc, hx4.1.at_ hf (by omega) (by omega), HV.out]
      have hs4 := fun k => hs2 (w4.drewN k) P4 _ _ (hx4.below (below_drewN _ _ _))
      clear hs2
      go_wp2_with fail
      go_quiet ((first | (go_at_call 14; exact Calls.quiet_of_same (num_any _ _)) | (go_at_call 21; exact Calls.quiet_of_same (hs4 _))))
      go_wp2
      go_ret
      exact ⟨by first | rfl | simp [IntWalk.i64_left], P4, _, T, xs, ws, I, V, many, (hx4.below (below_drewN _ _ _)).1, by have := HT.out; omega, Hag.out, Hm.out⟩
  · have hd := hx3.below (below_drewN wc 1 _)
    have hs := psteps_any hd.1.pl A
    have hno : ∀ u, Gx B w0 u P p b W base n cs T xs ws y q I V many w.heap.size 4 A F J v → Calls Try.prog 18 #[.pointer (some ⟨p, 0, none⟩), .int .i64 A, .int .i64 F, .int .i64 J] u fun e w' => e = .returned (.tuple #[.int .i64 0, .int .i64 602]) ∧ Below u.heap.size u w' := fun u hu => pload_no hu.1.pl A F J (fun r => hn ⟨by rw [Hg.out]; exact decide_eq_true r.1, by rw [Hp.out, Hi.out, decide_eq_true (show 0 ≤ F ∧ F < (n : Int) ∧ I F.toNat = true from ⟨r.2.1.1, r.2.1.2.1, (Hag.out F.toNat (by have := r.2.1.1; have := r.2.1.2.1; omega)).1.2 r.2.1.2.2⟩), decide_eq_true r.2.2]; rfl⟩)
    as_aux_lemma =>
      go_wp2_with fail
      go_region_held3 (fun w' => w'.cell? ⟨y, 1, none⟩ = some (.pointer (some ⟨b, 0, none⟩)) ∧ w'.cell? ⟨w.heap.size, 1, none⟩ = some (.int .i64 A)) (go_keep) ((go_at_call 21; refine hs.mono ?_; rintro e w5 ⟨s5, rfl, hw5⟩; have hx5 : Gx B w0 w5 P p b W base n cs T xs ws y q I V many w.heap.size 4 A F J v := hw5 ▸ hd; have c5 := hx5.cells; clear hw5))
      clear c0 hx3 hd hs
      have hd := hx5.below (below_drewN w5 1 _)
      go_wp2_with fail
      go_region_held3 (fun w' => w'.cell? ⟨y, 0, none⟩ = some (.pointer (some ⟨p, 0, none⟩)) ∧ w'.cell? ⟨w.heap.size, 1, none⟩ = some (.int .i64 A) ∧ w'.cell? ⟨w.heap.size, 2, none⟩ = some (.int .i64 F) ∧ w'.cell? ⟨w.heap.size, 3, none⟩ = some (.int .i64 J)) (go_keep) ((go_at_call 18; refine (hno _ hd).mono ?_; rintro e w4 ⟨rfl, hb4⟩; have hx4 := hd.below hb4; have c4 := hx4.cells))
      clear hno c5 hx5 hd
      cases ag
      · go_wp2_with (go_at_call 14; refine (num_any _ _).mono ?_; rintro e w9 ⟨rfl, rfl⟩)
        go_ret
        exact ⟨rfl, P, cs, T, xs, ws, I, V, many, hx4.1, by have := HT.out; omega, Hag.out, Hm.out⟩
      · cases pla
        · go_wp2_with (go_at_call 14; refine (num_any _ _).mono ?_; rintro e w9 ⟨rfl, rfl⟩)
          go_ret
          exact ⟨rfl, P, cs, T, xs, ws, I, V, many, hx4.1, by have := HT.out; omega, Hag.out, Hm.out⟩
        · exact absurd ⟨rfl, rfl⟩ hn
end Go.Proofs.Ytlkomjapfcmpkaa
