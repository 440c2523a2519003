/- HeapActs: what a store into a word, and into the law's own row, leaves. -/
import Derived.Test.YtnnjinkadcagdaaGreatMHPlay
import Derived.Test.YtnnjinkadcagdaaGreatMK2
import Derived.BigRegion
import Derived.BigQuiet
namespace Go.Proofs.YtnnjinkadcagdaaGreat
open Go.RowKit
theorem set_map9 {α : Type} {g : Lc → α} {x x' : Lc} (hg : g x' = g x) : ∀ {L : List Lc} {i : Nat}, L[i]? = some x → (L.set i x').map g = L.map g
  | [], i, h => by simp at h
  | a :: r, 0, h => by simp at h; subst h; simp [hg]
  | a :: r, i + 1, h => by simp only [List.set_cons_succ, List.map_cons]; rw [set_map9 hg (by simpa using h)]
theorem sumL_map : ∀ {L L' : List Lc}, L.map Lc.n = L'.map Lc.n → sumL L = sumL L'
  | [], [], _ => rfl
  | [], z :: r, h => by simp at h
  | z :: r, [], h => by simp at h
  | z :: r, z' :: r', h => by
    simp only [List.map_cons, List.cons.injEq] at h
    simp only [sumL, h.1, sumL_map h.2]
section
variable {B : Nat} {w0 w : World} {P : Nat → Prop} {h W G m : Nat} {c : Int → Int} {S : List (Option Cel)} {F : Nat → Nat → Int} {y : Nat} {va : Value} {L : List Lc}
def Lc.put (x : Lc) (j : Nat) (z : Int) : Lc := { x with f := fun l => if l = j then z else x.f l }
theorem Play9.word (H : Play9 B w0 w P h W G m c S F y va L) {i : Nat} {x : Lc} (hx : L[i]? = some x) (j : Nat) (z : Int) :
    Play9 B w0 (w.setCell ⟨x.blk, j, none⟩ (.int .i64 z)) P h W G m c S F y va (L.set i (x.put j z)) := by
  have hxm : x ∈ L := List.mem_of_getElem? hx
  have hil : i < L.length := (List.getElem?_eq_some_iff.1 hx).1
  have hw := H.words x hxm
  refine H.remake (r := fun k => k = x.blk) (by simp [World.setCell]) ⟨rfl, rfl, rfl⟩ (fun k _ hk => Below.heap_setCell _ _ _ _ hk) (fun k hk => hk ▸ hw.2) ?_ ?_ (fun a ha => ?_) ?_ H.pv
  · rw [Below.heap_setCell _ _ _ _ (fun r => H.y_x hxm r.symm)]; exact H.here
  · rw [set_map9 (x := x) (x' := x.put j z) rfl hx]
    exact H.row.of_block fun k hk => Below.heap_setCell _ _ _ _ (fun q => H.v_x hxm (by have q' : k = x.blk := q; rw [← q']; exact hk))
  · obtain ⟨t, ht, e⟩ := List.getElem_of_mem ha
    have ht' : t < L.length := by simpa using ht
    by_cases e2 : i = t
    · subst e2
      simp only [List.getElem_set_self] at e
      subst e
      refine ⟨(hw.1.set j (.int .i64 z)).congr fun s _ => ?_, hw.2⟩
      show (if s = j then _ else _) = Value.int .i64 (if s = j then z else x.f s)
      split <;> rfl
    · rw [List.getElem_set_ne e2] at e
      subst e
      have hne : L[t].blk ≠ x.blk := by
        have hxe : L[i] = x := by rw [List.getElem?_eq_getElem hil] at hx; exact Option.some.inj hx
        rw [← hxe]
        rcases Nat.lt_or_gt_of_ne e2 with r | r
        · exact fun q => List.pairwise_iff_getElem.1 H.apart i t hil ht' r q.symm
        · exact List.pairwise_iff_getElem.1 H.apart t i ht' hil r
      exact ⟨(H.words _ (List.getElem_mem ht')).1.setOther (a := ⟨x.blk, j, none⟩) hne _, (H.words _ (List.getElem_mem ht')).2⟩
  · have h0 := H.apart
    rw [← List.pairwise_map (f := fun a : Lc => a.blk) (R := fun a b => a ≠ b)] at h0 ⊢
    rw [set_map9 (x := x) (x' := x.put j z) rfl hx]; exact h0
theorem Play9.four {p n cap : Nat} (H : Play9 B w0 w P h W G m c S F y (.slice (some ⟨p, 0, none⟩) n cap) L) {i : Nat} {x : Lc} (hx : L[i]? = some x) : w.cell? ⟨p, i * 4, none⟩ = some (.int .i64 ((x.ref : Int) + 1)) ∧ w.cell? ⟨p, i * 4 + 1, none⟩ = some (.int .i64 x.kind) ∧ w.cell? ⟨p, i * 4 + 2, none⟩ = some (.int .i64 x.cls) ∧ w.cell? ⟨p, i * 4 + 3, none⟩ = some (.slice (some ⟨x.blk, 0, none⟩) x.n x.n) := by
  obtain ⟨ao, cap2, e, hF⟩ := H.form
  obtain ⟨p2, rfl, _, h1⟩ := hF i x hx
  simp only [Value.slice.injEq, Option.some.injEq, Addr.mk.injEq, and_true] at e
  obtain ⟨rfl, _⟩ := e
  exact h1
theorem Play9.wd (H : Play9 B w0 w P h W G m c S F y va L) {i : Nat} {x : Lc} (hx : L[i]? = some x) {j : Nat} (hj : j < x.n) : w.cell? ⟨x.blk, j, none⟩ = some (.int .i64 (x.f j)) ∧ w.frozen? ⟨x.blk, j, none⟩ = false :=
  ⟨(H.words x (List.mem_of_getElem? hx)).1.cell hj, (H.words x (List.mem_of_getElem? hx)).1.frozen j⟩
theorem mem_set9 {i : Nat} {x' z : Lc} (hz : z ∈ L.set i x') : z = x' ∨ z ∈ L := by
  rcases List.mem_or_eq_of_mem_set hz with q | q
  · exact .inr q
  · exact .inl q
theorem Agr9.ref_ne (hA : Agr9 S F L) {i k : Nat} {x z : Lc} (hx : L[i]? = some x) (hz : L[k]? = some z) (hik : i ≠ k) : z.ref ≠ x.ref := by
  obtain ⟨h1, e1⟩ := List.getElem?_eq_some_iff.1 hx
  obtain ⟨h2, e2⟩ := List.getElem?_eq_some_iff.1 hz
  rw [← e1, ← e2]
  rcases Nat.lt_or_gt_of_ne hik with r | r
  · exact fun q => List.pairwise_iff_getElem.1 hA.nodup i k h1 h2 r q.symm
  · exact List.pairwise_iff_getElem.1 hA.nodup k i h2 h1 r
theorem Agr9.put (hA : Agr9 S F L) {i : Nat} {x : Lc} (hx : L[i]? = some x) (j : Nat) (v : Int) : Agr9 S (setF F x.ref (fun l => if l = j then v else F x.ref l)) (L.set i (x.put j v)) := by
  have hil : i < L.length := (List.getElem?_eq_some_iff.1 hx).1
  have hlx := hA.live x (List.mem_of_getElem? hx)
  refine ⟨fun z hz => ?_, ?_, fun k cl hk => ?_, by rw [List.length_set]; exact hA.cnt, ?_⟩
  · obtain ⟨a, ha, e⟩ := List.getElem_of_mem hz
    have ha' : a < L.length := by simpa using ha
    by_cases e2 : i = a
    · subst e2
      simp only [List.getElem_set_self] at e
      subst e
      refine ⟨hlx.1, fun l hl => ?_⟩
      show setF F x.ref _ x.ref l = if l = j then v else x.f l
      simp only [setF, if_true]
      split
      · rfl
      · exact hlx.2 l hl
    · rw [List.getElem_set_ne e2] at e
      subst e
      have hz2 : L[a]? = some L[a] := List.getElem?_eq_getElem ha'
      have hl := hA.live _ (List.getElem_mem ha')
      refine ⟨hl.1, fun l hl2 => ?_⟩
      rw [← hl.2 l hl2]
      simp only [setF, if_neg (hA.ref_ne hx hz2 e2)]
  · have h0 := hA.nodup
    rw [← List.pairwise_map (f := fun a : Lc => a.ref) (R := fun a b => a ≠ b)] at h0 ⊢
    rw [set_map9 (x := x) (x' := x.put j v) rfl hx]; exact h0
  · obtain ⟨z, hz, e⟩ := hA.all k cl hk
    obtain ⟨a, ha, e2⟩ := List.getElem_of_mem hz
    by_cases q : i = a
    · subst q
      have hxe : L[i] = x := by rw [List.getElem?_eq_getElem hil] at hx; exact Option.some.inj hx
      refine ⟨x.put j v, List.mem_set hil _, ?_⟩
      rw [← e, ← e2, hxe]; rfl
    · refine ⟨z, ?_, e⟩
      rw [← e2]
      exact List.mem_of_getElem? (i := a) (by rw [List.getElem?_set_ne q]; exact List.getElem?_eq_getElem ha)
  · rw [← hA.sum]
    exact sumL_map (set_map9 (x := x) (x' := x.put j v) rfl hx)
end
end Go.Proofs.YtnnjinkadcagdaaGreat
/- HeapActs: word, Load. -/
namespace Go.Proofs.YtnnjinkadcagdaaGreat
open Go.RowKit
section
variable {B : Nat} {w0 w : World} {P : Nat → Prop} {h W G m : Nat} {c : Int → Int} {S : List (Option Cel)} {F : Nat → Nat → Int} {y : Nat} {va : Value} {L : List Lc}
set_option maxRecDepth 20000 in
set_option maxHeartbeats 4000000 in
theorem wl9_obj (H : Play9 B w0 w P h W G m c S F y va L) (hA : Agr9 S F L) (hm : m ≤ 3000) (hL : L.length ≤ 1000) (K A q C I V t R : Int) (hR : Fnd9 L t R) (hK : K < 5) (ha : 0 ≤ A ∧ A < G) (hr : ¬ R < 0) (i : Nat) (x : Lc) (hRi : R = i) (hx : L[i]? = some x) (ex : (x.ref : Int) + 1 = t) (j : Nat) (hIj : I = j) (hj : j < x.n) (hkd : x.kind = 1) :
    Calls Tryz.prog 26 #[.pointer (some ⟨y, 0, none⟩), .agg #[.int .i64 K, .int .i64 A, .int .i64 q, .int .i64 C, .int .i64 I, .int .i64 V], .int .i64 t] w (ActPost9 B w0 h W G (m + 1) y) := by
  have hx0 := Pb9.start H K A q C I V
  have HA : Hid (Agr9 S F L) := hA
  have hat := at9_ok hx0.play hL t R hR
  obtain ⟨b0, hSt, hb0⟩ := steps9 (B := B) (w0 := w0) (h := h) (W := W) (G := G) (m := m) (c := c) (S := S) (F := F) A
  have Hb0 : Hid (b0 = c A) := hb0 ha
  have Hbr : Hid (0 ≤ b0 ∧ b0 ≤ 600000000) := by
    have h9 := (H.hv.facts).2.2.2 A.toNat
    have e9 : ((A.toNat : Nat) : Int) = A := Int.toNat_of_nonneg ha.1
    rw [e9] at h9
    have := Hb0.out
    exact ⟨by omega, by omega⟩
  clear hb0
  have a2 : decide (A < 0) = false := by simp; omega
  have a3 : decide ((G : Int) ≤ A) = false := by simp; omega
  subst hRi
  have HL : Hid (L.length ≤ 1000) := hL
  have r1 : decide ((i : Int) < 0) = false := by simp
  obtain ⟨⟨ad, hlv⟩, hlf⟩ := hA.live x (List.mem_of_getElem? hx)
  have ex' : t = (x.ref : Int) + 1 := ex.symm
  have HJ : Hid (j < x.n) := hj
  have hn9 : x.n ≤ 100000 := by
    have h9 := H.hv.facts
    have h8 := (sumS_gone S _ _ hlv).1
    have h7 : roomW W = (W + 3) / 4 := rfl
    simp only at h8
    omega
  have hk2 : (x.kind == 1) = true := by simpa using hkd
  clear hkd
  have HM : Hid (∀ u, Hv B w0 u P h W G m c S F → Calls Tryz.prog 17 #[.pointer (some ⟨h, 0, none⟩), .int .i64 A, .int .i64 t, .int .i64 I] u (ZLd B w0 u P h W G m c S F A (x.f j))) := fun u hu => by rw [ex', ← hlf j hj]; exact z_load hu (by omega) hlv A I j ha hIj hj
  clear H hA hR hL hr ex ex' hlv hlf
  subst hIj
  have i0 : decide ((j : Int) < 0) = false := by simp
  have i1 : decide ((x.n : Int) ≤ (j : Int)) = false := by simp; omega
  go_enter Tryz.func26, Tryz.ntmps26
  have c1 := hx0.play.cells
  have f1 := hx0.six
  have l1 := hx0.apart.1
  have l2 := hx0.play.y_lt
  go_wp2_with (go_at_call 14; refine hat.mono ?_; rintro e w9 ⟨rfl, hw9⟩; replace hw9 := hw9.symm; subst hw9)
  generalize World.alloc _ _ = W1 at *
  clear hat
  have hSt1 := fun k => hSt _ _ (hx0.below (below_drewN W1 k _)).play.hv
  go_quiet ((go_at_call 21; exact Calls.quiet_of_same (hSt1 _)))
  have hx1 := hx0.below (below_drewN W1 nq _)
  generalize World.drewN _ _ = W2 at *
  clear hx0 c1 f1 l1 l2 hSt1 hSt
  have c1 := hx1.play.cells
  have f1 := hx1.six
  have l1 := hx1.apart.1
  have l2 := hx1.play.y_lt
  go_wp2
  have hd := hx1.below (below_drewN W2 1 _)
  have hM2 := HM.out _ hd.play.hv
  go_region_held3 (fun w' => w'.cell? ⟨y, 0, none⟩ = some (.pointer (some ⟨h, 0, none⟩)) ∧ w'.cell? ⟨w.heap.size, 1, none⟩ = some (.int .i64 A) ∧ w'.cell? ⟨w.heap.size, 4, none⟩ = some (.int .i64 j)) (go_keep) ((go_at_call 17; refine hM2.mono ?_; rintro e w6 ⟨rfl, c6', u1, u2, hT6⟩; obtain ⟨P6, hx6⟩ := hd.turn hT6; have f6 := hx6.six; have c6 := hx6.play.cells; have HC6 : Hid (c6' A ≤ c A + 12 ∧ c A ≤ c6' A) := ⟨u1, u2⟩; clear u1 u2 hT6))
  clear hx1 hd c1 f1 hM2 HM l1 l2
  go_wp2_with (go_at_call 8; refine (num_any _ _).mono ?_; rintro e w9 ⟨rfl, hw9⟩; replace hw9 := hw9.symm; subst hw9)
  go_quiet (fail)
  have hx7 := hx6.below (below_drewN w6 nq _)
  generalize World.drewN _ _ = w7 at *
  have f7 := hx7.six
  have c7 := hx7.play.cells
  obtain ⟨ao, cap, rfl, hFm⟩ := hx7.play.form
  obtain ⟨p, rfl, hp, e0, e1, e2, e3⟩ := hFm i x hx
  have hil : i < L.length := (List.getElem?_eq_some_iff.1 hx).1
  have hil2 : (i : Int) < (L.length : Int) := by omega
  have hL1 := HL.out
  have HX : Hid (L[i]? = some x) := hx
  clear hx
  obtain ⟨n, hn⟩ : ∃ n, n = L.length := ⟨_, rfl⟩
  have HN : Hid (n = L.length) := hn
  rw [← hn] at hil hil2 hL1 c7 HL
  have hx7' : Pb9 B w0 w7 P6 h W G (m + 1) c6' S F y (.slice (some ⟨p, 0, none⟩) n cap) L w.heap.size K A q C j V := by rw [hn]; exact hx7
  clear hx6 hx7 f6 c6 hFm hn
  go_wp2
  go_quiet (fail)
  have hx8 := hx7'.below (below_drewN w7 nq _)
  generalize World.drewN _ _ = w8 at *
  clear hx7' f7 c7 e0 e1 e2 e3
  have f8 := hx8.six
  have c8 := hx8.play.cells
  obtain ⟨e0, e1, e2, e3⟩ := hx8.play.four HX.out
  go_upto_region 16 with fail
  have hSt8 := fun k => z_steps (hx8.below (below_drewN w8 k _)).play.hv A ha
  obtain ⟨sv, hsv⟩ : ∃ sv, sv = c6' A := ⟨_, rfl⟩
  rw [← hsv] at hSt8
  have hle : decide (b0 + (12 + (x.n : Int) / 4) < sv) = false := by
    have q1 := HC6.out
    have q2 := Hb0.out
    rw [hsv, q2]
    simp; omega
  have hbr := Hbr.out
  clear hsv
  go_quiet ((go_at_call 21; exact Calls.quiet_of_same (hSt8 _)))
  have hx9 := hx8.below (below_drewN w8 nq _)
  generalize World.drewN _ _ = w9 at *
  clear hx8 f8 c8 e0 e1 e2 e3 hSt8 hle
  have f9 := hx9.six
  have c9 := hx9.play.cells
  obtain ⟨e0, e1, e2, e3⟩ := hx9.play.four HX.out
  obtain ⟨d0, d1⟩ := hx9.play.wd HX.out HJ.out
  have hj := HJ.out
  go_wp2
  go_quiet (fail)
  go_wp2
  go_ret
  exact ⟨rfl, P6, c6', S, F, _, L, (hx9.below (below_drewN _ nq _)).play, HA.out⟩
set_option maxRecDepth 20000 in
set_option maxHeartbeats 4000000 in
theorem wl9_arr (H : Play9 B w0 w P h W G m c S F y va L) (hA : Agr9 S F L) (hm : m ≤ 3000) (hL : L.length ≤ 1000) (K A q C I V t R : Int) (hR : Fnd9 L t R) (hK : K < 5) (ha : 0 ≤ A ∧ A < G) (hr : ¬ R < 0) (i : Nat) (x : Lc) (hRi : R = i) (hx : L[i]? = some x) (ex : (x.ref : Int) + 1 = t) (j : Nat) (hIj : I = j) (hj : j < x.n) (hkd : ¬ x.kind = 1) :
    Calls Tryz.prog 26 #[.pointer (some ⟨y, 0, none⟩), .agg #[.int .i64 K, .int .i64 A, .int .i64 q, .int .i64 C, .int .i64 I, .int .i64 V], .int .i64 t] w (ActPost9 B w0 h W G (m + 1) y) := by
  have hx0 := Pb9.start H K A q C I V
  have HA : Hid (Agr9 S F L) := hA
  have hat := at9_ok hx0.play hL t R hR
  obtain ⟨b0, hSt, hb0⟩ := steps9 (B := B) (w0 := w0) (h := h) (W := W) (G := G) (m := m) (c := c) (S := S) (F := F) A
  have Hb0 : Hid (b0 = c A) := hb0 ha
  have Hbr : Hid (0 ≤ b0 ∧ b0 ≤ 600000000) := by
    have h9 := (H.hv.facts).2.2.2 A.toNat
    have e9 : ((A.toNat : Nat) : Int) = A := Int.toNat_of_nonneg ha.1
    rw [e9] at h9
    have := Hb0.out
    exact ⟨by omega, by omega⟩
  clear hb0
  have a2 : decide (A < 0) = false := by simp; omega
  have a3 : decide ((G : Int) ≤ A) = false := by simp; omega
  subst hRi
  have HL : Hid (L.length ≤ 1000) := hL
  have r1 : decide ((i : Int) < 0) = false := by simp
  obtain ⟨⟨ad, hlv⟩, hlf⟩ := hA.live x (List.mem_of_getElem? hx)
  have ex' : t = (x.ref : Int) + 1 := ex.symm
  have HJ : Hid (j < x.n) := hj
  have hn9 : x.n ≤ 100000 := by
    have h9 := H.hv.facts
    have h8 := (sumS_gone S _ _ hlv).1
    have h7 : roomW W = (W + 3) / 4 := rfl
    simp only at h8
    omega
  have hk2 : (x.kind == 1) = false := by simpa using hkd
  clear hkd
  have HM : Hid (∀ u, Hv B w0 u P h W G m c S F → Calls Tryz.prog 17 #[.pointer (some ⟨h, 0, none⟩), .int .i64 A, .int .i64 t, .int .i64 I] u (ZLd B w0 u P h W G m c S F A (x.f j))) := fun u hu => by rw [ex', ← hlf j hj]; exact z_load hu (by omega) hlv A I j ha hIj hj
  clear H hA hR hL hr ex ex' hlv hlf
  subst hIj
  have i0 : decide ((j : Int) < 0) = false := by simp
  have i1 : decide ((x.n : Int) ≤ (j : Int)) = false := by simp; omega
  go_enter Tryz.func26, Tryz.ntmps26
  have c1 := hx0.play.cells
  have f1 := hx0.six
  have l1 := hx0.apart.1
  have l2 := hx0.play.y_lt
  go_wp2_with (go_at_call 14; refine hat.mono ?_; rintro e w9 ⟨rfl, hw9⟩; replace hw9 := hw9.symm; subst hw9)
  generalize World.alloc _ _ = W1 at *
  clear hat
  have hSt1 := fun k => hSt _ _ (hx0.below (below_drewN W1 k _)).play.hv
  go_quiet ((go_at_call 21; exact Calls.quiet_of_same (hSt1 _)))
  have hx1 := hx0.below (below_drewN W1 nq _)
  generalize World.drewN _ _ = W2 at *
  clear hx0 c1 f1 l1 l2 hSt1 hSt
  have c1 := hx1.play.cells
  have f1 := hx1.six
  have l1 := hx1.apart.1
  have l2 := hx1.play.y_lt
  go_wp2
  have hd := hx1.below (below_drewN W2 1 _)
  have hM2 := HM.out _ hd.play.hv
  go_region_held3 (fun w' => w'.cell? ⟨y, 0, none⟩ = some (.pointer (some ⟨h, 0, none⟩)) ∧ w'.cell? ⟨w.heap.size, 1, none⟩ = some (.int .i64 A) ∧ w'.cell? ⟨w.heap.size, 4, none⟩ = some (.int .i64 j)) (go_keep) ((go_at_call 17; refine hM2.mono ?_; rintro e w6 ⟨rfl, c6', u1, u2, hT6⟩; obtain ⟨P6, hx6⟩ := hd.turn hT6; have f6 := hx6.six; have c6 := hx6.play.cells; have HC6 : Hid (c6' A ≤ c A + 12 ∧ c A ≤ c6' A) := ⟨u1, u2⟩; clear u1 u2 hT6))
  clear hx1 hd c1 f1 hM2 HM l1 l2
  go_wp2_with (go_at_call 8; refine (num_any _ _).mono ?_; rintro e w9 ⟨rfl, hw9⟩; replace hw9 := hw9.symm; subst hw9)
  go_quiet (fail)
  have hx7 := hx6.below (below_drewN w6 nq _)
  generalize World.drewN _ _ = w7 at *
  have f7 := hx7.six
  have c7 := hx7.play.cells
  obtain ⟨ao, cap, rfl, hFm⟩ := hx7.play.form
  obtain ⟨p, rfl, hp, e0, e1, e2, e3⟩ := hFm i x hx
  have hil : i < L.length := (List.getElem?_eq_some_iff.1 hx).1
  have hil2 : (i : Int) < (L.length : Int) := by omega
  have hL1 := HL.out
  have HX : Hid (L[i]? = some x) := hx
  clear hx
  obtain ⟨n, hn⟩ : ∃ n, n = L.length := ⟨_, rfl⟩
  have HN : Hid (n = L.length) := hn
  rw [← hn] at hil hil2 hL1 c7 HL
  have hx7' : Pb9 B w0 w7 P6 h W G (m + 1) c6' S F y (.slice (some ⟨p, 0, none⟩) n cap) L w.heap.size K A q C j V := by rw [hn]; exact hx7
  clear hx6 hx7 f6 c6 hFm hn
  go_wp2
  go_quiet (fail)
  have hx8 := hx7'.below (below_drewN w7 nq _)
  generalize World.drewN _ _ = w8 at *
  clear hx7' f7 c7 e0 e1 e2 e3
  have f8 := hx8.six
  have c8 := hx8.play.cells
  obtain ⟨e0, e1, e2, e3⟩ := hx8.play.four HX.out
  go_upto_region 16 with fail
  have hSt8 := fun k => z_steps (hx8.below (below_drewN w8 k _)).play.hv A ha
  obtain ⟨sv, hsv⟩ : ∃ sv, sv = c6' A := ⟨_, rfl⟩
  rw [← hsv] at hSt8
  have hle : decide (b0 + 12 < sv) = false := by
    have q1 := HC6.out
    have q2 := Hb0.out
    rw [hsv, q2]
    simp; omega
  have hbr := Hbr.out
  clear hsv
  go_quiet ((go_at_call 21; exact Calls.quiet_of_same (hSt8 _)))
  have hx9 := hx8.below (below_drewN w8 nq _)
  generalize World.drewN _ _ = w9 at *
  clear hx8 f8 c8 e0 e1 e2 e3 hSt8 hle
  have f9 := hx9.six
  have c9 := hx9.play.cells
  obtain ⟨e0, e1, e2, e3⟩ := hx9.play.four HX.out
  obtain ⟨d0, d1⟩ := hx9.play.wd HX.out HJ.out
  have hj := HJ.out
  go_wp2
  go_quiet (fail)
  go_wp2
  go_ret
  exact ⟨rfl, P6, c6', S, F, _, L, (hx9.below (below_drewN _ nq _)).play, HA.out⟩
end
end Go.Proofs.YtnnjinkadcagdaaGreat
/- HeapActs: word, Put. -/
namespace Go.Proofs.YtnnjinkadcagdaaGreat
open Go.RowKit
section
variable {B : Nat} {w0 w : World} {P : Nat → Prop} {h W G m : Nat} {c : Int → Int} {S : List (Option Cel)} {F : Nat → Nat → Int} {y : Nat} {va : Value} {L : List Lc}
set_option maxRecDepth 20000 in
set_option maxHeartbeats 4000000 in
theorem wp9_obj (H : Play9 B w0 w P h W G m c S F y va L) (hA : Agr9 S F L) (hm : m ≤ 3000) (hL : L.length ≤ 1000) (K A q C I V t R : Int) (hR : Fnd9 L t R) (hK : ¬ K < 5) (ha : 0 ≤ A ∧ A < G) (hr : ¬ R < 0) (i : Nat) (x : Lc) (hRi : R = i) (hx : L[i]? = some x) (ex : (x.ref : Int) + 1 = t) (j : Nat) (hIj : I = j) (hj : j < x.n) (hkd : x.kind = 1) :
    Calls Tryz.prog 26 #[.pointer (some ⟨y, 0, none⟩), .agg #[.int .i64 K, .int .i64 A, .int .i64 q, .int .i64 C, .int .i64 I, .int .i64 V], .int .i64 t] w (ActPost9 B w0 h W G (m + 1) y) := by
  have hx0 := Pb9.start H K A q C I V
  have HA : Hid (Agr9 S F L) := hA
  have hat := at9_ok hx0.play hL t R hR
  obtain ⟨b0, hSt, hb0⟩ := steps9 (B := B) (w0 := w0) (h := h) (W := W) (G := G) (m := m) (c := c) (S := S) (F := F) A
  have Hb0 : Hid (b0 = c A) := hb0 ha
  have Hbr : Hid (0 ≤ b0 ∧ b0 ≤ 600000000) := by
    have h9 := (H.hv.facts).2.2.2 A.toNat
    have e9 : ((A.toNat : Nat) : Int) = A := Int.toNat_of_nonneg ha.1
    rw [e9] at h9
    have := Hb0.out
    exact ⟨by omega, by omega⟩
  clear hb0
  have a2 : decide (A < 0) = false := by simp; omega
  have a3 : decide ((G : Int) ≤ A) = false := by simp; omega
  subst hRi
  have HL : Hid (L.length ≤ 1000) := hL
  have r1 : decide ((i : Int) < 0) = false := by simp
  obtain ⟨⟨ad, hlv⟩, hlf⟩ := hA.live x (List.mem_of_getElem? hx)
  have ex' : t = (x.ref : Int) + 1 := ex.symm
  have HJ : Hid (j < x.n) := hj
  have hn9 : x.n ≤ 100000 := by
    have h9 := H.hv.facts
    have h8 := (sumS_gone S _ _ hlv).1
    have h7 : roomW W = (W + 3) / 4 := rfl
    simp only at h8
    omega
  have hk2 : (x.kind == 1) = true := by simpa using hkd
  clear hkd
  have HM : Hid (∀ u, Hv B w0 u P h W G m c S F → Calls Tryz.prog 18 #[.pointer (some ⟨h, 0, none⟩), .int .i64 A, .int .i64 t, .int .i64 I, .int .i64 V] u (ZPt B w0 u P h W G m c S (setF F x.ref (fun l => if l = j then V else F x.ref l)) A)) := fun u hu => by rw [ex']; exact z_put hu (by omega) hlv A I V j ha hIj hj
  have hK : decide (K < 5) = false := by simp; omega
  have hK2 : 5 ≤ K := by omega
  clear H hA hR hL hr ex ex' hlv hlf
  subst hIj
  have i0 : decide ((j : Int) < 0) = false := by simp
  have i1 : decide ((x.n : Int) ≤ (j : Int)) = false := by simp; omega
  go_enter Tryz.func26, Tryz.ntmps26
  have c1 := hx0.play.cells
  have f1 := hx0.six
  have l1 := hx0.apart.1
  have l2 := hx0.play.y_lt
  go_wp2_with (go_at_call 14; refine hat.mono ?_; rintro e w9 ⟨rfl, hw9⟩; replace hw9 := hw9.symm; subst hw9)
  generalize World.alloc _ _ = W1 at *
  clear hat
  have hSt1 := fun k => hSt _ _ (hx0.below (below_drewN W1 k _)).play.hv
  go_quiet ((go_at_call 21; exact Calls.quiet_of_same (hSt1 _)))
  have hx1 := hx0.below (below_drewN W1 nq _)
  generalize World.drewN _ _ = W2 at *
  clear hx0 c1 f1 l1 l2 hSt1 hSt
  have c1 := hx1.play.cells
  have f1 := hx1.six
  have l1 := hx1.apart.1
  have l2 := hx1.play.y_lt
  go_wp2
  have hd := hx1.below (below_drewN W2 1 _)
  have hM2 := HM.out _ hd.play.hv
  go_region_held3 (fun w' => w'.cell? ⟨y, 0, none⟩ = some (.pointer (some ⟨h, 0, none⟩)) ∧ w'.cell? ⟨w.heap.size, 1, none⟩ = some (.int .i64 A) ∧ w'.cell? ⟨w.heap.size, 4, none⟩ = some (.int .i64 j) ∧ w'.cell? ⟨w.heap.size, 5, none⟩ = some (.int .i64 V)) (go_keep) ((go_at_call 18; refine hM2.mono ?_; rintro e w6 ⟨rfl, c6', u1, u2, hT6⟩; obtain ⟨P6, hx6⟩ := hd.turn hT6; have f6 := hx6.six; have c6 := hx6.play.cells; have HC6 : Hid (c6' A ≤ c A + 12 ∧ c A ≤ c6' A) := ⟨u1, u2⟩; clear u1 u2 hT6))
  clear hx1 hd c1 f1 hM2 HM l1 l2
  go_wp2_with (go_at_call 8; refine (num_any _ _).mono ?_; rintro e w9 ⟨rfl, hw9⟩; replace hw9 := hw9.symm; subst hw9)
  go_quiet (fail)
  have hx7 := hx6.below (below_drewN w6 nq _)
  generalize World.drewN _ _ = w7 at *
  have f7 := hx7.six
  have c7 := hx7.play.cells
  obtain ⟨ao, cap, rfl, hFm⟩ := hx7.play.form
  obtain ⟨p, rfl, hp, e0, e1, e2, e3⟩ := hFm i x hx
  have hil : i < L.length := (List.getElem?_eq_some_iff.1 hx).1
  have hil2 : (i : Int) < (L.length : Int) := by omega
  have hL1 := HL.out
  have HX : Hid (L[i]? = some x) := hx
  clear hx
  obtain ⟨n, hn⟩ : ∃ n, n = L.length := ⟨_, rfl⟩
  have HN : Hid (n = L.length) := hn
  rw [← hn] at hil hil2 hL1 c7 HL
  have hx7' : Pb9 B w0 w7 P6 h W G (m + 1) c6' S (setF F x.ref (fun l => if l = j then V else F x.ref l)) y (.slice (some ⟨p, 0, none⟩) n cap) L w.heap.size K A q C j V := by rw [hn]; exact hx7
  clear hx6 hx7 f6 c6 hFm hn
  go_wp2
  go_quiet (fail)
  have hx8 := hx7'.below (below_drewN w7 nq _)
  generalize World.drewN _ _ = w8 at *
  clear hx7' f7 c7 e0 e1 e2 e3
  have f8 := hx8.six
  have c8 := hx8.play.cells
  obtain ⟨e0, e1, e2, e3⟩ := hx8.play.four HX.out
  go_upto_region 16 with fail
  have hSt8 := fun k => z_steps (hx8.below (below_drewN w8 k _)).play.hv A ha
  obtain ⟨sv, hsv⟩ : ∃ sv, sv = c6' A := ⟨_, rfl⟩
  rw [← hsv] at hSt8
  have hle : decide (b0 + (12 + (x.n : Int) / 4) < sv) = false := by
    have q1 := HC6.out
    have q2 := Hb0.out
    rw [hsv, q2]
    simp; omega
  have hbr := Hbr.out
  clear hsv
  go_quiet ((go_at_call 21; exact Calls.quiet_of_same (hSt8 _)))
  have hx9 := hx8.below (below_drewN w8 nq _)
  generalize World.drewN _ _ = w9 at *
  clear hx8 f8 c8 e0 e1 e2 e3 hSt8 hle
  have f9 := hx9.six
  have c9 := hx9.play.cells
  obtain ⟨e0, e1, e2, e3⟩ := hx9.play.four HX.out
  obtain ⟨d0, d1⟩ := hx9.play.wd HX.out HJ.out
  have hj := HJ.out
  go_wp2
  go_region
  go_wp2
  go_ret
  have h9 := (hx9.play.word HX.out j V).below (Below.refl _ _).drew
  exact ⟨rfl, P6, c6', S, _, _, _, h9, HA.out.put HX.out j V⟩
set_option maxRecDepth 20000 in
set_option maxHeartbeats 4000000 in
theorem wp9_arr (H : Play9 B w0 w P h W G m c S F y va L) (hA : Agr9 S F L) (hm : m ≤ 3000) (hL : L.length ≤ 1000) (K A q C I V t R : Int) (hR : Fnd9 L t R) (hK : ¬ K < 5) (ha : 0 ≤ A ∧ A < G) (hr : ¬ R < 0) (i : Nat) (x : Lc) (hRi : R = i) (hx : L[i]? = some x) (ex : (x.ref : Int) + 1 = t) (j : Nat) (hIj : I = j) (hj : j < x.n) (hkd : ¬ x.kind = 1) :
    Calls Tryz.prog 26 #[.pointer (some ⟨y, 0, none⟩), .agg #[.int .i64 K, .int .i64 A, .int .i64 q, .int .i64 C, .int .i64 I, .int .i64 V], .int .i64 t] w (ActPost9 B w0 h W G (m + 1) y) := by
  have hx0 := Pb9.start H K A q C I V
  have HA : Hid (Agr9 S F L) := hA
  have hat := at9_ok hx0.play hL t R hR
  obtain ⟨b0, hSt, hb0⟩ := steps9 (B := B) (w0 := w0) (h := h) (W := W) (G := G) (m := m) (c := c) (S := S) (F := F) A
  have Hb0 : Hid (b0 = c A) := hb0 ha
  have Hbr : Hid (0 ≤ b0 ∧ b0 ≤ 600000000) := by
    have h9 := (H.hv.facts).2.2.2 A.toNat
    have e9 : ((A.toNat : Nat) : Int) = A := Int.toNat_of_nonneg ha.1
    rw [e9] at h9
    have := Hb0.out
    exact ⟨by omega, by omega⟩
  clear hb0
  have a2 : decide (A < 0) = false := by simp; omega
  have a3 : decide ((G : Int) ≤ A) = false := by simp; omega
  subst hRi
  have HL : Hid (L.length ≤ 1000) := hL
  have r1 : decide ((i : Int) < 0) = false := by simp
  obtain ⟨⟨ad, hlv⟩, hlf⟩ := hA.live x (List.mem_of_getElem? hx)
  have ex' : t = (x.ref : Int) + 1 := ex.symm
  have HJ : Hid (j < x.n) := hj
  have hn9 : x.n ≤ 100000 := by
    have h9 := H.hv.facts
    have h8 := (sumS_gone S _ _ hlv).1
    have h7 : roomW W = (W + 3) / 4 := rfl
    simp only at h8
    omega
  have hk2 : (x.kind == 1) = false := by simpa using hkd
  clear hkd
  have HM : Hid (∀ u, Hv B w0 u P h W G m c S F → Calls Tryz.prog 18 #[.pointer (some ⟨h, 0, none⟩), .int .i64 A, .int .i64 t, .int .i64 I, .int .i64 V] u (ZPt B w0 u P h W G m c S (setF F x.ref (fun l => if l = j then V else F x.ref l)) A)) := fun u hu => by rw [ex']; exact z_put hu (by omega) hlv A I V j ha hIj hj
  have hK : decide (K < 5) = false := by simp; omega
  have hK2 : 5 ≤ K := by omega
  clear H hA hR hL hr ex ex' hlv hlf
  subst hIj
  have i0 : decide ((j : Int) < 0) = false := by simp
  have i1 : decide ((x.n : Int) ≤ (j : Int)) = false := by simp; omega
  go_enter Tryz.func26, Tryz.ntmps26
  have c1 := hx0.play.cells
  have f1 := hx0.six
  have l1 := hx0.apart.1
  have l2 := hx0.play.y_lt
  go_wp2_with (go_at_call 14; refine hat.mono ?_; rintro e w9 ⟨rfl, hw9⟩; replace hw9 := hw9.symm; subst hw9)
  generalize World.alloc _ _ = W1 at *
  clear hat
  have hSt1 := fun k => hSt _ _ (hx0.below (below_drewN W1 k _)).play.hv
  go_quiet ((go_at_call 21; exact Calls.quiet_of_same (hSt1 _)))
  have hx1 := hx0.below (below_drewN W1 nq _)
  generalize World.drewN _ _ = W2 at *
  clear hx0 c1 f1 l1 l2 hSt1 hSt
  have c1 := hx1.play.cells
  have f1 := hx1.six
  have l1 := hx1.apart.1
  have l2 := hx1.play.y_lt
  go_wp2
  have hd := hx1.below (below_drewN W2 1 _)
  have hM2 := HM.out _ hd.play.hv
  go_region_held3 (fun w' => w'.cell? ⟨y, 0, none⟩ = some (.pointer (some ⟨h, 0, none⟩)) ∧ w'.cell? ⟨w.heap.size, 1, none⟩ = some (.int .i64 A) ∧ w'.cell? ⟨w.heap.size, 4, none⟩ = some (.int .i64 j) ∧ w'.cell? ⟨w.heap.size, 5, none⟩ = some (.int .i64 V)) (go_keep) ((go_at_call 18; refine hM2.mono ?_; rintro e w6 ⟨rfl, c6', u1, u2, hT6⟩; obtain ⟨P6, hx6⟩ := hd.turn hT6; have f6 := hx6.six; have c6 := hx6.play.cells; have HC6 : Hid (c6' A ≤ c A + 12 ∧ c A ≤ c6' A) := ⟨u1, u2⟩; clear u1 u2 hT6))
  clear hx1 hd c1 f1 hM2 HM l1 l2
  go_wp2_with (go_at_call 8; refine (num_any _ _).mono ?_; rintro e w9 ⟨rfl, hw9⟩; replace hw9 := hw9.symm; subst hw9)
  go_quiet (fail)
  have hx7 := hx6.below (below_drewN w6 nq _)
  generalize World.drewN _ _ = w7 at *
  have f7 := hx7.six
  have c7 := hx7.play.cells
  obtain ⟨ao, cap, rfl, hFm⟩ := hx7.play.form
  obtain ⟨p, rfl, hp, e0, e1, e2, e3⟩ := hFm i x hx
  have hil : i < L.length := (List.getElem?_eq_some_iff.1 hx).1
  have hil2 : (i : Int) < (L.length : Int) := by omega
  have hL1 := HL.out
  have HX : Hid (L[i]? = some x) := hx
  clear hx
  obtain ⟨n, hn⟩ : ∃ n, n = L.length := ⟨_, rfl⟩
  have HN : Hid (n = L.length) := hn
  rw [← hn] at hil hil2 hL1 c7 HL
  have hx7' : Pb9 B w0 w7 P6 h W G (m + 1) c6' S (setF F x.ref (fun l => if l = j then V else F x.ref l)) y (.slice (some ⟨p, 0, none⟩) n cap) L w.heap.size K A q C j V := by rw [hn]; exact hx7
  clear hx6 hx7 f6 c6 hFm hn
  go_wp2
  go_quiet (fail)
  have hx8 := hx7'.below (below_drewN w7 nq _)
  generalize World.drewN _ _ = w8 at *
  clear hx7' f7 c7 e0 e1 e2 e3
  have f8 := hx8.six
  have c8 := hx8.play.cells
  obtain ⟨e0, e1, e2, e3⟩ := hx8.play.four HX.out
  go_upto_region 16 with fail
  have hSt8 := fun k => z_steps (hx8.below (below_drewN w8 k _)).play.hv A ha
  obtain ⟨sv, hsv⟩ : ∃ sv, sv = c6' A := ⟨_, rfl⟩
  rw [← hsv] at hSt8
  have hle : decide (b0 + 12 < sv) = false := by
    have q1 := HC6.out
    have q2 := Hb0.out
    rw [hsv, q2]
    simp; omega
  have hbr := Hbr.out
  clear hsv
  go_quiet ((go_at_call 21; exact Calls.quiet_of_same (hSt8 _)))
  have hx9 := hx8.below (below_drewN w8 nq _)
  generalize World.drewN _ _ = w9 at *
  clear hx8 f8 c8 e0 e1 e2 e3 hSt8 hle
  have f9 := hx9.six
  have c9 := hx9.play.cells
  obtain ⟨e0, e1, e2, e3⟩ := hx9.play.four HX.out
  obtain ⟨d0, d1⟩ := hx9.play.wd HX.out HJ.out
  have hj := HJ.out
  go_wp2
  go_region
  go_wp2
  go_ret
  have h9 := (hx9.play.word HX.out j V).below (Below.refl _ _).drew
  exact ⟨rfl, P6, c6', S, _, _, _, h9, HA.out.put HX.out j V⟩
end
end Go.Proofs.YtnnjinkadcagdaaGreat
