/- ObjectActs: word, Load. -/
import Derived.Test.YtojblddfggoecaaGreatOWd
import Derived.BigRegion
import Derived.BigQuiet
namespace Go.Proofs.YtojblddfggoecaaGreat
open Go.RowKit
set_option maxRecDepth 20000 in
set_option maxHeartbeats 8000000 in
theorem word_load {B : Nat} {w0 w : World} {P : Nat → Prop} {so p b W N m : Nat} {cs ws : Nat → Int} {O : List Ob} {y : Nat} {vr vo : Value} {L : List Rc} (h : Play8 B w0 w P so p b W N m cs ws O y vr vo (rowR L) L) (hA : Agr8 ws O L) (hm : m ≤ 5000) (K A q I n t : Int) (hw : (Lit.int .i64 t).wf = true) (hK : K < 4) :
    Calls Tryz.prog 21 #[.pointer (some ⟨y, 0, none⟩), .agg #[.int .i64 K, .int .i64 A, .int .i64 q, .int .i64 I, .int .i64 n], .int .i64 t] w (ActPost8 B w0 so p b W N (m + 1) y) := by
  have hx0 := Pb8.start h K A q I n
  have HA : Hid (Agr8 ws O L) := hA
  have hL : L.length ≤ 1000 := by
    have h1 := tot_len O
    have h2 := h.ev.fit
    obtain ⟨_, _, e⟩ := h.ev.inv
    rw [hA.1, List.length_map, ← hA.1] at h1
    omega
  obtain ⟨R, hR⟩ := fnd_any t L
  have HR : Hid (Fnd L t R) := hR
  have hat := at8_ok hx0.play hL t R hR
  have k1 : K < 4 := hK
  clear hK
  have Hw : Hid ((Lit.int .i64 t).wf = true) := hw
  clear h hR hw hA
  go_enter Tryz.func21, Tryz.ntmps21
  go_wp2_with (go_at_call 8; refine hat.mono ?_; rintro e w9 ⟨rfl, hw9⟩; replace hw9 := hw9.symm; subst hw9)
  clear hat
  generalize World.alloc _ _ = W1 at *
  have c1 := hx0.play.cells
  have f1 := hx0.five
  obtain ⟨bf, hbf, hS⟩ := hx0.steps_any
  have Hbf : Hid (0 ≤ A ∧ A < 3 → bf = cs A.toNat) := hbf
  clear hbf
  go_quiet ((go_at_call 45; exact Calls.quiet_of_same (hS _)))
  have hx3 := hx0.below (below_drewN _ nq _)
  clear hx0 hS c1 f1
  generalize World.drewN _ nq = u3 at *
  have c3 := hx3.play.cells
  have f3 := hx3.five
  by_cases hag : 0 ≤ A ∧ A < 3
  · have a2 : decide (A < 0) = false := by simp; omega
    have a3 : decide (3 ≤ A) = false := by simp; omega
    by_cases hRn : R < 0
    · obtain ⟨hR1, hmis⟩ := HR.out.miss hRn
      subst hR1
      as_aux_lemma =>
        have hd := hx3.below (below_drewN u3 1 _)
        have hG := v_load_no hd.play.ev A t I Hw.out (HA.out.bad hmis)
        go_wp2
        go_region_held3 (fun w' => w'.cell? ⟨y, 0, none⟩ = some (.pointer (some ⟨so, 0, none⟩)) ∧ w'.cell? ⟨w.heap.size, 1, none⟩ = some (.int .i64 A) ∧ w'.cell? ⟨w.heap.size, 3, none⟩ = some (.int .i64 I)) (go_keep) ((go_at_call 16; refine hG.mono ?_; rintro e w6 ⟨rfl, hw6⟩; have hx6 : Pb8 B w0 w6 P so p b W N m cs ws O y vr vo (rowR L) L w.heap.size K A q I n := hw6 ▸ hd; have c6 := hx6.play.cells; have f6 := hx6.five; clear hw6))
        go_wp2_with (go_at_call 11; refine (num_any _ _).mono ?_; rintro e w9 ⟨rfl, hw9⟩; replace hw9 := hw9.symm; subst hw9)
        go_ret
        exact ⟨rfl, Edge8.same hx6.play HA.out⟩
    · obtain ⟨i, x, hx, ht, hRi⟩ := HR.out.got hRn
      subst hRi
      subst ht
      obtain ⟨ao, cap, rfl⟩ := hx3.play.oform
      obtain ⟨g, rfl⟩ := hx3.play.oaddr hx
      have HX : Hid (L[i]? = some x) := hx
      have HO : Hid (x.o ∈ O ∧ O[i]? = some x.o) := ⟨HA.out.mem hx, HA.out.get hx⟩
      have hiN : i < L.length := (List.getElem?_eq_some_iff.1 hx).1
      have hi0 : decide ((i : Int) < 0) = false := by simp
      clear hx hRn Hw
      generalize hLe : L.length = M at *
      have HLe : Hid (L.length = M) := hLe
      clear hLe
      by_cases hlo : I < 0
      · as_aux_lemma =>
          have hd := hx3.below (below_drewN u3 1 _)
          have hG := x_load_bounds hd.play.ev HO.out.1 A I hag (by omega)
          go_wp2
          go_region_held3 (fun w' => w'.cell? ⟨y, 0, none⟩ = some (.pointer (some ⟨so, 0, none⟩)) ∧ w'.cell? ⟨w.heap.size, 1, none⟩ = some (.int .i64 A) ∧ w'.cell? ⟨w.heap.size, 3, none⟩ = some (.int .i64 I)) (go_keep) ((go_at_call 16; refine hG.mono ?_; rintro e w6 ⟨rfl, hw6⟩; have hx6 : Pb8 B w0 w6 P so p b W N m cs ws O y vr (.slice (some ⟨g, 0, none⟩) M cap) (rowR L) L w.heap.size K A q I n := hw6 ▸ hd; have c6 := hx6.play.cells; have f6 := hx6.five; clear hw6))
          have r6 : w6.cell? ⟨g, i, none⟩ = some (.slice (some ⟨x.blk, 0, none⟩) x.o.n x.o.n) := Play8.orow (HLe.out ▸ hx6.play) HX.out
          go_wp2_with (go_at_call 11; refine (num_any _ _).mono ?_; rintro e w9 ⟨rfl, hw9⟩; replace hw9 := hw9.symm; subst hw9)
          go_quiet (fail)
          go_wp2
          go_ret
          exact ⟨rfl, Edge8.same (hx6.below (below_drewN _ nq _)).play HA.out⟩
      · obtain ⟨In, rfl⟩ := Int.eq_ofNat_of_zero_le (show 0 ≤ I by omega)
        have hlo2 : decide ((In : Int) < 0) = false := by simp
        clear hlo
        by_cases hhi : x.o.n ≤ In
        · have hhi2 : (x.o.n : Int) ≤ (In : Int) := by omega
          as_aux_lemma =>
            have hd := hx3.below (below_drewN u3 1 _)
            have hG := x_load_bounds hd.play.ev HO.out.1 A In hag (by omega)
            go_wp2
            go_region_held3 (fun w' => w'.cell? ⟨y, 0, none⟩ = some (.pointer (some ⟨so, 0, none⟩)) ∧ w'.cell? ⟨w.heap.size, 1, none⟩ = some (.int .i64 A) ∧ w'.cell? ⟨w.heap.size, 3, none⟩ = some (.int .i64 In)) (go_keep) ((go_at_call 16; refine hG.mono ?_; rintro e w6 ⟨rfl, hw6⟩; have hx6 : Pb8 B w0 w6 P so p b W N m cs ws O y vr (.slice (some ⟨g, 0, none⟩) M cap) (rowR L) L w.heap.size K A q In n := hw6 ▸ hd; have c6 := hx6.play.cells; have f6 := hx6.five; clear hw6))
            have r6 : w6.cell? ⟨g, i, none⟩ = some (.slice (some ⟨x.blk, 0, none⟩) x.o.n x.o.n) := Play8.orow (HLe.out ▸ hx6.play) HX.out
            go_wp2_with (go_at_call 11; refine (num_any _ _).mono ?_; rintro e w9 ⟨rfl, hw9⟩; replace hw9 := hw9.symm; subst hw9)
            go_quiet (fail)
            go_wp2
            go_ret
            exact ⟨rfl, Edge8.same (hx6.below (below_drewN _ nq _)).play HA.out⟩
        · have hhi2 : decide ((x.o.n : Int) ≤ (In : Int)) = false := by simp; omega
          have hlt : In < x.o.n := by omega
          clear hhi
          as_aux_lemma =>
            have hd := hx3.below (below_drewN u3 1 _)
            have hG := x_load hd.play.ev (by omega) HO.out.1 A In hag (by omega)
            go_wp2
            go_region_held3 (fun w' => w'.cell? ⟨y, 0, none⟩ = some (.pointer (some ⟨so, 0, none⟩)) ∧ w'.cell? ⟨w.heap.size, 1, none⟩ = some (.int .i64 A) ∧ w'.cell? ⟨w.heap.size, 3, none⟩ = some (.int .i64 In)) (go_keep) ((go_at_call 16; refine hG.mono ?_; rintro e w6 ⟨rfl, cs6, hcs6, hT6⟩; obtain ⟨P6, hx6⟩ := hd.turn hT6; have c6 := hx6.play.cells; have f6 := hx6.five; have HC6 : Hid (cs6 A.toNat = cs A.toNat + (hop In x.o.n + 1 : Nat)) := hcs6; clear hcs6 hT6))
            have r6 : w6.cell? ⟨g, i, none⟩ = some (.slice (some ⟨x.blk, 0, none⟩) x.o.n x.o.n) := Play8.orow (HLe.out ▸ hx6.play) HX.out
            have hve : ws (x.o.ad 0 In) = x.F In := HA.out.2 x (List.mem_of_getElem? HX.out) In hlt
            rw [hve]
            have hn64 : x.o.n ≤ 64 := by
              obtain ⟨_, e, _⟩ := hx6.play.ev.inv
              exact e.size x.o HO.out.1
            have hbr : 0 ≤ bf ∧ bf ≤ 10000000 := by
              have h9 := hd.play.ev.few A.toNat
              rw [Hbf.out hag]; omega
            obtain ⟨sv, hsv⟩ : ∃ sv, sv = cs6 A.toNat := ⟨_, rfl⟩
            have hle : decide (bf + 3 + ((x.o.n : Int) + 5) / 6 < sv) = false := by
              have e1 := HC6.out
              have e2 := hop_lt In x.o.n
              have e3 := frg_le x.o.n
              rw [Hbf.out hag, hsv, e1]
              simp; omega
            have HLE : Hid (decide (bf + 3 + ((x.o.n : Int) + 5) / 6 < sv) = false) := hle
            have HBR : Hid (0 ≤ bf ∧ bf ≤ 10000000) := hbr
            have H64 : Hid (x.o.n ≤ 64) := hn64
            clear hle hbr hn64
            go_wp2_with (go_at_call 11; refine (num_any _ _).mono ?_; rintro e w9 ⟨rfl, hw9⟩; replace hw9 := hw9.symm; subst hw9)
            go_quiet (fail)
            have hx7 := hx6.below (below_drewN _ nq _)
            clear hx6 c6 f6 r6 hx3 c3 f3 hd
            generalize World.drewN _ nq = u7 at *
            have c7 := hx7.play.cells
            have f7 := hx7.five
            have r7 : u7.cell? ⟨g, i, none⟩ = some (.slice (some ⟨x.blk, 0, none⟩) x.o.n x.o.n) := Play8.orow (HLe.out ▸ hx7.play) HX.out
            have hS7 : ∀ k, Calls Tryz.prog 45 #[.pointer (some ⟨b, 0, none⟩), .int .i64 A] (u7.drewN k) fun e w' => e = .returned (.int .i64 sv) ∧ w' = u7.drewN k := by
              obtain ⟨sv2, e1, e2⟩ := hx7.steps_any
              rw [hsv, ← e1 hag]; exact e2
            clear hsv
            go_upto_region 13 with fail
            have hle := HLE.out
            have hbr := HBR.out
            have hn64 := H64.out
            go_quiet ((go_at_call 45; exact Calls.quiet_of_same (hS7 _)))
            have hx8 := hx7.below (below_drewN _ nq _)
            clear hx7 c7 f7 r7 hS7
            generalize World.drewN _ nq = u8 at *
            have c8 := hx8.play.cells
            have f8 := hx8.five
            have r8 : u8.cell? ⟨g, i, none⟩ = some (.slice (some ⟨x.blk, 0, none⟩) x.o.n x.o.n) := Play8.orow (HLe.out ▸ hx8.play) HX.out
            have d8 := hx8.play.wd HX.out hlt
            go_wp2
            go_quiet (fail)
            go_wp2
            go_ret
            exact ⟨rfl, P6, cs6, ws, O, _, _, L, (hx8.below (below_drewN _ nq _)).play, HA.out⟩
  · by_cases a0 : A < 0
    · as_aux_lemma =>
        have hd := hx3.below (below_drewN u3 1 _)
        have hG := v_load_no hd.play.ev A t I Hw.out (fun r => hag r.1)
        go_wp2
        go_region_held3 (fun w' => w'.cell? ⟨y, 0, none⟩ = some (.pointer (some ⟨so, 0, none⟩)) ∧ w'.cell? ⟨w.heap.size, 1, none⟩ = some (.int .i64 A) ∧ w'.cell? ⟨w.heap.size, 3, none⟩ = some (.int .i64 I)) (go_keep) ((go_at_call 16; refine hG.mono ?_; rintro e w6 ⟨rfl, hw6⟩; have hx6 : Pb8 B w0 w6 P so p b W N m cs ws O y vr vo (rowR L) L w.heap.size K A q I n := hw6 ▸ hd; have c6 := hx6.play.cells; have f6 := hx6.five; clear hw6))
        go_wp2_with (go_at_call 11; refine (num_any _ _).mono ?_; rintro e w9 ⟨rfl, hw9⟩; replace hw9 := hw9.symm; subst hw9)
        go_ret
        exact ⟨rfl, Edge8.same hx6.play HA.out⟩
    · have a1 : 3 ≤ A := by omega
      have a2 : decide (A < 0) = false := by simp; omega
      clear a0
      as_aux_lemma =>
        have hd := hx3.below (below_drewN u3 1 _)
        have hG := v_load_no hd.play.ev A t I Hw.out (fun r => hag r.1)
        go_wp2
        go_region_held3 (fun w' => w'.cell? ⟨y, 0, none⟩ = some (.pointer (some ⟨so, 0, none⟩)) ∧ w'.cell? ⟨w.heap.size, 1, none⟩ = some (.int .i64 A) ∧ w'.cell? ⟨w.heap.size, 3, none⟩ = some (.int .i64 I)) (go_keep) ((go_at_call 16; refine hG.mono ?_; rintro e w6 ⟨rfl, hw6⟩; have hx6 : Pb8 B w0 w6 P so p b W N m cs ws O y vr vo (rowR L) L w.heap.size K A q I n := hw6 ▸ hd; have c6 := hx6.play.cells; have f6 := hx6.five; clear hw6))
        go_wp2_with (go_at_call 11; refine (num_any _ _).mono ?_; rintro e w9 ⟨rfl, hw9⟩; replace hw9 := hw9.symm; subst hw9)
        go_ret
        exact ⟨rfl, Edge8.same hx6.play HA.out⟩
end Go.Proofs.YtojblddfggoecaaGreat
