/- The document's own Load: layout, whatever the class: by how far its supers lead. -/
import Derived.Test.YtbbmgjcabmjjdaaGreatDoorMGJ7
namespace Go.Proofs.YtbbmgjcabmjjdaaGreatDoor
open Go.RowKit

/-- Going up from k comes to an end within f steps. -/
def chn (p : Pg) : Nat → Int → Prop
  | 0, _ => False
  | f + 1, k => isJ p k = true ∧ (supJ p k < 0 ∨ chn p f (supJ p k))
theorem face_user {p : Pg} {k : Int} (h : userJ p k = false) : faceJ p k = false := by simp [faceJ, h]
theorem blt_sup {p : Pg} {k : Int} (hk : isJ p k = true) (hu : userJ p k = false) : k < 11 := by
  simp [userJ, hk] at hu; omega
theorem sup_neg {p : Pg} (hok : ∀ i, i < p.cls.length → bad1 p i = false) {k : Int} (hk : isJ p k = true) (hs : supJ p k < 0) : k = 0 := by
  by_cases h1 : k < 11
  · rw [show supJ p k = bltJ k by simp [supJ, h1]] at hs
    unfold bltJ at hs
    split at hs
    · assumption
    · split at hs <;> omega
  · rw [show supJ p k = (ofJ p k).sup by simp [supJ, h1]] at hs
    have hk2 : 0 ≤ k ∧ k < (11 + p.cls.length : Nat) := by simpa [isJ] using hk
    have hb := hok (k - 11).toNat (by omega)
    rw [bad1, show (11 : Int) + ((k - 11).toNat : Int) = k by omega] at hb
    simp at hb
    have := hb.1.1.1
    simp [isJ] at this
    omega
/-- How long a layout's rows are. -/
theorem lay_len {p : Pg} (hz : Okz p) : ∀ (f : Nat) (k : Int), (layJ p f k).vir.length ≤ f * 1001 ∧ (layJ p f k).flds.length ≤ f * 1000
  | 0, _ => ⟨Nat.le_refl _, Nat.le_refl _⟩
  | f + 1, k => by
    have ih := lay_len hz f (supJ p k)
    have hoc : (ofJ p k).mds.length ≤ 1000 ∧ (ofJ p k).flds.length ≤ 1000 := by
      unfold ofJ
      rw [List.getD_eq_getElem?_getD]
      rcases he : p.cls[(k - 11).toNat]? with _ | c
      · exact ⟨by decide, by decide⟩
      · have := hz.cls c (List.mem_of_getElem? he)
        exact ⟨this.nmds, this.nflds⟩
    rw [layJ]
    split
    · refine ⟨?_, Nat.zero_le _⟩
      show ((ofJ p k).mds.mapIdx _).length ≤ _
      rw [List.length_mapIdx]; omega
    · have hup : (if 0 ≤ supJ p k then layJ p f (supJ p k) else ly0).vir.length ≤ f * 1001 ∧ (if 0 ≤ supJ p k then layJ p f (supJ p k) else ly0).flds.length ≤ f * 1000 := by
        split
        · exact ih
        · exact ⟨Nat.zero_le _, Nat.zero_le _⟩
      simp only
      generalize (if 0 ≤ supJ p k then layJ p f (supJ p k) else ly0) = up at hup ⊢
      have hv : (if k = 9 then up.vir ++ [runE] else up.vir).length ≤ up.vir.length + 1 := by
        split
        · simp
        · omega
      generalize (if k = 9 then up.vir ++ [runE] else up.vir) = vir at hv ⊢
      split
      · refine ⟨?_, ?_⟩
        · have := virJ_len vir k (ofJ p k).mds (ofJ p k).mds.length
          show (virJ _ _ _ _).length ≤ _
          by_cases h9 : k = 9
          · omega
          · omega
        · show (up.flds ++ _).length ≤ _
          rw [List.length_append]; omega
      · exact ⟨by show vir.length ≤ _; omega, by show up.flds.length ≤ _; omega⟩
theorem jlayout_ok {p : Pg} (hok : ∀ i, i < p.cls.length → bad1 p i = false) (hFc : FaceOk p) {cb : Nat} {S : Nat → Prop} {v : Value} {s : Fs} : ∀ (f : Nat) (w : World) (k : Int), f ≤ 5000 → Jc w cb p S v s → chn p f k →
    Calls Tryz.prog 24 #[.pointer (some ⟨cb, 0, none⟩), .int .i64 k] w (LyP (layJ p f k) w)
  | 0, _, _, _, _, h => h.elim
  | f + 1, w, k, hf, h, hc => by
    obtain ⟨hk, hc⟩ := hc
    have hSup := sup_ok hok
    have hln := lay_len h.ok f (supJ p k)
    have hv : (layJ p f (supJ p k)).vir.length ≤ 100000000 := by
      have : f * 1001 ≤ 5000 * 1001 := Nat.mul_le_mul_right _ (by omega)
      omega
    have hl : (layJ p f (supJ p k)).flds.length ≤ 100000000 := by
      have : f * 1000 ≤ 5000 * 1000 := Nat.mul_le_mul_right _ (by omega)
      omega
    rw [layJ]
    rcases hfa : faceJ p k with _ | _
    · rw [if_neg (by decide)]
      simp only
      rcases hus : userJ p k with _ | _
      · rw [if_neg (by decide)]
        rcases hc with hs | hc
        · have h0 := sup_neg hok hk hs
          subst h0
          rw [if_neg (by omega), if_neg (by decide)]
          exact jlayB_ok hSup hFc h hk hfa hus rfl hs
        · have hs : 0 ≤ supJ p k := by
            cases f with
            | zero => exact hc.elim
            | succ f => have := hc.1; simp [isJ] at this; omega
          rw [if_pos hs]
          have hIH := fun u (hj : Jc u cb p S v s) => jlayout_ok hok hFc f u (supJ p k) (by omega) hj hc
          by_cases h9 : k = 9
          · rw [if_pos h9]
            exact jlayC_ok hSup hFc h hk _ hIH hs hfa hus (by simp [h9]) (by omega)
          · rw [if_neg h9]
            exact jlayD_ok hSup hFc h hk _ hIH hs hfa hus (by simp [h9])
      · rw [if_pos rfl]
        have h11 : 11 ≤ k := by simp [userJ] at hus; exact hus.1
        rcases hc with hs | hc
        · have h0 := sup_neg hok hk hs
          omega
        · have hs : 0 ≤ supJ p k := by
            cases f with
            | zero => exact hc.elim
            | succ f => have := hc.1; simp [isJ] at this; omega
          rw [if_pos hs, if_neg (by omega)]
          have hIH := fun u (hj : Jc u cb p S v s) => jlayout_ok hok hFc f u (supJ p k) (by omega) hj hc
          exact jlayE_ok hSup hFc h hk _ hIH hs hfa hus (by simp; omega) hv hl
    · rw [if_pos rfl]
      exact jlayA_ok hSup hFc h hk hfa
end Go.Proofs.YtbbmgjcabmjjdaaGreatDoor
/- The document's own Load: finals, main. -/
namespace Go.Proofs.YtbbmgjcabmjjdaaGreatDoor
open Go.RowKit

/-- What the first rules see to. -/
structure Gp (p : Pg) : Prop where
  b1 : ∀ i, i < p.cls.length → bad1 p i = false
  fc : FaceOk p
  ch : ∀ k, isJ p k = true → chn p (nJ p + 1) k
theorem jly_ok {p : Pg} (hG : Gp p) {w : World} {cb : Nat} {S : Nat → Prop} {v : Value} {s : Fs} (h : Jc w cb p S v s) {k : Int} (hk : isJ p k = true) : Calls Tryz.prog 24 #[.pointer (some ⟨cb, 0, none⟩), .int .i64 k] w (LyP (lyJ p k) w) :=
  jlayout_ok hG.b1 hG.fc (nJ p + 1) w k (by have := h.ok.n; unfold nJ; omega) h (hG.ch k hk)
/-- A layout that lies in a box beside the struct. -/
structure JL (u : World) (cb : Nat) (p : Pg) (S : Nat → Prop) (v : Value) (s : Fs) (lb : Nat) (y : Ly) (a0 a2 a3 : Option Addr) (c0 c2 c3 : Nat) : Prop where
  jc : Jc u cb p S v s
  box : u.heap[lb]? = some (.cells #[.slice a0 y.flds.length c0, .int .i64 y.off, .slice a2 y.vir.length c2, .slice a3 y.abv.length c3] 58 (0, 0))
  vir : ∃ L, Sl kEn u L (.slice a2 y.vir.length c2) y.vir ∧ ∀ b, L b → b ≠ cb ∧ b < u.heap.size
  abv : ∃ L, Sl kI u L (.slice a3 y.abv.length c3) y.abv ∧ ∀ b, L b → b ≠ cb ∧ b < u.heap.size
  ne : lb ≠ cb
section
variable {u u' : World} {cb : Nat} {p : Pg} {S : Nat → Prop} {v : Value} {s s' : Fs} {lb : Nat} {y : Ly} {a0 a2 a3 : Option Addr} {c0 c2 c3 : Nat}
theorem JL.lt (h : JL u cb p S v s lb y a0 a2 a3 c0 c2 c3) : lb < u.heap.size := (Array.getElem?_eq_some_iff.1 h.box).1
theorem JL.bx (h : JL u cb p S v s lb y a0 a2 a3 c0 c2 c3) (hb : Bx cb u u') (hj : Jc u' cb p S v s') : JL u' cb p S v s' lb y a0 a2 a3 c0 c2 c3 := by
  obtain ⟨L, h1, h2⟩ := h.vir
  obtain ⟨M, h3, h4⟩ := h.abv
  exact ⟨hj, (hb.block lb h.lt h.ne).trans h.box, ⟨L, h1.keep (fun b q => hb.block b (h2 b q).2 (h2 b q).1), fun b q => ⟨(h2 b q).1, Nat.lt_of_lt_of_le (h2 b q).2 hb.size⟩⟩, ⟨M, h3.keep (fun b q => hb.block b (h4 b q).2 (h4 b q).1), fun b q => ⟨(h4 b q).1, Nat.lt_of_lt_of_le (h4 b q).2 hb.size⟩⟩, h.ne⟩
theorem JL.below (h : JL u cb p S v s lb y a0 a2 a3 c0 c2 c3) (hb : Below u.heap.size u u') : JL u' cb p S v s lb y a0 a2 a3 c0 c2 c3 := h.bx (Bx.of_below hb) (h.jc.below hb)
theorem JL.of {w u1 : World} (hj : Jc w cb p S v s) (hg : Gro kEnU 79 w.heap.size u1 (.slice a2 y.vir.length c2) y.vir) (ha : Sl kIU u1 (Sx w.heap.size u1 (.slice a2 y.vir.length c2)) (.slice a3 y.abv.length c3) y.abv) (hb : Below w.heap.size w u1) :
    JL (u1.alloc (.cells #[.slice a0 y.flds.length c0, .int .i64 y.off, .slice a2 y.vir.length c2, .slice a3 y.abv.length c3] 58)) cb p S v s u1.heap.size y a0 a2 a3 c0 c2 c3 ∧ Below w.heap.size w (u1.alloc (.cells #[.slice a0 y.flds.length c0, .int .i64 y.off, .slice a2 y.vir.length c2, .slice a3 y.abv.length c3] 58)) := by
  have hA : Below u1.heap.size u1 (u1.alloc (.cells #[.slice a0 y.flds.length c0, .int .i64 y.off, .slice a2 y.vir.length c2, .slice a3 y.abv.length c3] 58)) := (Below.refl _ _).alloc (Nat.le_refl _) _
  have hAz := hA.size
  have hl := hj.lt
  refine ⟨⟨(hj.below hb).below hA, heap_alloc_new _ _, ⟨fun b => w.heap.size ≤ b ∧ b < u1.heap.size, (soft_En hg.sl).keep (fun b q => hA.block b q.2), fun b q => ⟨by have := q.1; omega, by have := q.2; omega⟩⟩, ⟨fun b => w.heap.size ≤ b ∧ b < u1.heap.size, ((soft_I ha).mono (fun b q => ⟨q.1, q.2.1⟩)).keep (fun b q => hA.block b q.2), fun b q => ⟨by have := q.1; omega, by have := q.2; omega⟩⟩, by have := hb.size; omega⟩, hb.trans (hA.mono hb.size)⟩
end
theorem ofI_neg (r : Option Nat) : decide (ofI r < 0) = r.isNone := by
  cases r with
  | none => rfl
  | some a => exact decide_eq_false (show ¬ (a : Int) < 0 by omega)

set_option maxHeartbeats 8000000 in
set_option maxRecDepth 20000 in
theorem jfinals_ok {w : World} {cb : Nat} {p : Pg} {S : Nat → Prop} {v : Value} {s : Fs} (h : Jc w cb p S v s) (hs : s.1 = 0 → Gp p) : Calls Tryz.prog 22 #[.pointer (some ⟨cb, 0, none⟩)] w fun e w' => e = .returned (.tuple #[]) ∧ Jc w' cb p S v (runJ (bad7 p) 1506 s p.cls.length) ∧ Bx cb w w' := by
  have H0 : Hid (Jc w cb p S v s) := h
  have hn := h.ok.n
  have HS : Hid (s.1 = 0 → Gp p) := hs
  clear h hs
  go_enter Tryz.func22, Tryz.ntmps22
  go_wp2
  go_loopg [2] (p.cls.length + 1) (fun kx s2 wr => ∃ i : Nat, s2 = .int .i64 i ∧ i ≤ p.cls.length ∧ p.cls.length - i ≤ kx ∧ Hid (Jc wr cb p S v (runJ (bad7 p) 1506 s i)) ∧ Hid (Bx cb w wr))
  case atStart => exact ⟨0, rfl, by omega, by omega, H0.out, Bx.refl _ _⟩
  case round =>
    obtain ⟨i, rfl, hi, hk, HJ, HB⟩ := hrel
    clear H0
    have c1 := HJ.out.c1
    have c2 := HJ.out.c2
    by_cases hlt : i < p.cls.length
    · have hl : (i : Int) < (p.cls.length : Int) := by omega
      obtain ⟨sb, so, cap, f1, f2, f3, f4, g1, g2, g3, g4, hv, ⟨-, -, t2, -⟩, -⟩ := HJ.out.cls hlt
      subst hv
      by_cases h0 : (runJ (bad7 p) 1506 s i).1 = 0
      · have e0 : ((runJ (bad7 p) 1506 s i).1 == 0) = true := by simp [h0]
        have HSU : Hid (Gp p) := HS.out (runJ_ok (by decide) h0).1
        obtain ⟨hu1, hu2, hu3⟩ := user_of hlt
        have hLy := jly_ok HSU.out HJ.out hu3
        have HR : Hid (runJ (bad7 p) 1506 s (i + 1) = ftJ (runJ (bad7 p) 1506 s i) ((ofJ p (11 + i)).fin && (OfJ (lyJ p (11 + i)).vir finN [] 0).isNone) 1506 (11 + (i : Int))) := rfl
        have HVL : Hid ((lyJ p (11 + (i : Int))).vir.length ≤ 1073741824) := by
          have h1 := (lay_len HJ.out.ok (nJ p + 1) (11 + (i : Int))).1
          have h2 : nJ p + 1 ≤ 5000 := by unfold nJ; omega
          have h3 : (nJ p + 1) * 1001 ≤ 5000 * 1001 := Nat.mul_le_mul_right _ h2
          show (layJ p (nJ p + 1) _).vir.length ≤ _
          omega
        clear h0 hu1 hu2 hu3 HS
        generalize runJ (bad7 p) 1506 s i = s1 at *
        generalize lyJ p (11 + (i : Int)) = y at *
        generalize ofJ p (11 + (i : Int)) = c at *
        rcases hfn : c.fin with _ | _
        · rw [hfn] at t2
          have HE : Hid (runJ (bad7 p) 1506 s (i + 1) = s1) := by show _ = _; rw [HR.out, hfn, Bool.false_and, ftJ_false]
          clear hfn
          go_wp2_with (fail)
          go_roundg (p.cls.length - (i + 1))
          case measure => omega
          case rel => exact ⟨i + 1, by go_num, by omega, by omega, by rw [HE.out]; exact HJ.out, HB.out⟩
        · rw [hfn] at t2
          have HE : Hid (runJ (bad7 p) 1506 s (i + 1) = ftJ s1 ((OfJ y.vir finN [] 0).isNone) 1506 (11 + (i : Int))) := by show _ = _; rw [HR.out, hfn, Bool.true_and]
          clear hfn HR
          go_upto_region 6 with (go_at_call 24; refine hLy.mono ?_; rintro e u1 ⟨b0, e0', b2, e2, b3, e3, rfl, hg, -, ha, hb1⟩; have hJL := JL.of (y := y) (a0 := b0) (c0 := e0') HJ.out hg ha hb1; clear hLy hg ha hb1)
          have HB2 : Hid (Bx cb w (u1.alloc (.cells #[.slice b0 y.flds.length e0', .int .i64 y.off, .slice b2 y.vir.length e2, .slice b3 y.abv.length e3] 58))) := HB.out.low hJL.2
          replace hJL := hJL.1
          generalize u1.alloc (.cells #[.slice b0 y.flds.length e0', .int .i64 y.off, .slice b2 y.vir.length e2, .slice b3 y.abv.length e3] 58) = U at *
          generalize u1.heap.size = lb at *
          have HJL : Hid (JL U cb p S (.slice (some ⟨sb, so, none⟩) p.cls.length cap) s1 lb y b0 b2 b3 e0' e2 e3) := hJL
          have l2 : U.cell? ⟨lb, 2, none⟩ = some (.slice b2 y.vir.length e2) := by have := hJL.box; simp [World.cell?, this]
          obtain ⟨L, hL, -⟩ := hJL.vir
          have hOf := jOf_ok hL HVL.out finN (Sl.nil kI U (fun _ => False)) 0
          obtain ⟨R, hR⟩ : ∃ R, ofI (OfJ y.vir finN [] 0) = R := ⟨_, rfl⟩
          have HRR : Hid (decide (R < 0) = (OfJ y.vir finN [] 0).isNone) := by show _ = _; rw [← hR]; exact ofI_neg _
          rw [hR] at hOf
          clear hR hJL hL HVL HJ HB
          go_wp2_with (first
            | (go_at_call 50; refine hOf.mono ?_; rintro e u3 ⟨rfl, hm3⟩; have hb3 : Below U.heap.size U u3 := (by obtain ⟨m, rfl⟩ := hm3; exact below_drewN _ _ _); have HJ3 : Hid _ := HJL.out.below hb3; have HB3 : Hid (Bx cb w u3) := HB2.out.low hb3; clear hOf hm3 hb3 HJL HB2)
            | (go_at_call 42; refine (jfault_ok HJ3.out.jc _ _ _).mono ?_; rintro e u4 ⟨rfl, hj4, hbx⟩; have HF4 : Hid _ := hj4; have HB4 : Hid (Bx cb w u4) := HB3.out.trans hbx; clear hj4 hbx HJ3 HB3))
          go_roundg (p.cls.length - (i + 1))
          case measure => omega
          case rel => exact ⟨i + 1, by go_num, by omega, by omega, by rw [HE.out, ← HRR.out]; exact HF4.out, HB4.out⟩
      · have e0 : ((runJ (bad7 p) 1506 s i).1 == 0) = false := by simp [h0]
        have HE : Hid (runJ (bad7 p) 1506 s p.cls.length = runJ (bad7 p) 1506 s i) := runJ_stop h0 hi
        clear h0
        go_wp2
        go_end0
        exact ⟨rfl, by rw [HE.out]; exact HJ.out, HB.out⟩
    · have hn2 : i = p.cls.length := by omega
      subst hn2
      have hl : ¬ ((p.cls.length : Nat) : Int) < ((p.cls.length : Nat) : Int) := by omega
      obtain ⟨a, cap, hv, -⟩ := HJ.out.slice
      subst hv
      go_wp2
      go_end0
      exact ⟨rfl, HJ.out, HB.out⟩
end Go.Proofs.YtbbmgjcabmjjdaaGreatDoor
/- The document's own Load: main. -/
namespace Go.Proofs.YtbbmgjcabmjjdaaGreatDoor
open Go.RowKit

set_option maxHeartbeats 8000000 in
set_option maxRecDepth 20000 in
theorem jmain_ok {w : World} {cb : Nat} {p : Pg} {S : Nat → Prop} {v : Value} {s : Fs} (h : Jc w cb p S v s) : Calls Tryz.prog 23 #[.pointer (some ⟨cb, 0, none⟩)] w fun e w' => e = .returned (.tuple #[]) ∧ Jc w' cb p S v (ftJ s (bad8 p) 1505 p.main) ∧ Bx cb w w' := by
  have H0 : Hid (Jc w cb p S v s) := h
  have c0 := h.c0
  have hU := juser_ok h p.main
  have hF := jface_ok h p.main
  have HBD : Hid (bad8 p = (!userJ p p.main || faceJ p p.main || match (ofJ p p.main).mds with
    | [] => true
    | m :: _ => !m.stc || decide (0 < m.args.length) || m.ret != 0)) := rfl
  rcases hu : userJ p p.main with _ | _
  · rw [hu] at hU
    have HE : Hid (bad8 p = true) := by show _ = _; rw [HBD.out, hu]; rfl
    clear h hu hF HBD
    go_enter Tryz.func23, Tryz.ntmps23
    go_wp2_with (first
      | (go_at_call 51; refine hU.mono ?_; rintro e w9 ⟨rfl, hw9⟩; replace hw9 := hw9.symm; subst hw9)
      | (go_at_call 42; refine (jfault_ok H0.out _ _ _).mono ?_; rintro e u4 ⟨rfl, hj4, hbx⟩))
    refine bodyPost_ret (results_none rfl _ _ _) rfl ?_
    exact ⟨rfl, by rw [HE.out]; exact hj4, hbx⟩
  · rw [hu] at hU
    have hO := jof_ok h hu
    rcases hf : faceJ p p.main with _ | _
    · rw [hf] at hF
      have HUS : Hid (userJ p p.main = true) := hu
      have HOC : Hid (OkC (ofJ p p.main)) := by
        obtain ⟨i, -, -, hi⟩ := user_at hu
        exact badOk h.ok hi
      rcases hm : (ofJ p p.main).mds with _ | ⟨m, ms⟩
      · have HE : Hid (bad8 p = true) := by show _ = _; rw [HBD.out, hu, hf, hm]; rfl
        have hml : (ofJ p p.main).mds.length = 0 := by rw [hm]; rfl
        have HO : Hid (∀ u, Jc u cb p S v s → Calls Tryz.prog 49 #[.pointer (some ⟨cb, 0, none⟩), .int .i64 p.main] u fun e w' => ∃ a1 c1 a2 c2 a3 c3 a4 c4, e = .returned (.agg #[.string (ofJ p p.main).nm, .bool (ofJ p p.main).face, .bool (ofJ p p.main).fin, .int .i64 (ofJ p p.main).sup, .slice a1 (ofJ p p.main).faces.length c1, .slice a2 (ofJ p p.main).flds.length c2, .slice a3 (ofJ p p.main).stcs.length c3, .slice a4 0 c4]) ∧ Below u.heap.size u w') := fun u hj => (jof_ok hj HUS.out).mono fun e w' ⟨a1, c1, a2, c2, a3, c3, a4, c4, he, _, hb⟩ => ⟨a1, c1, a2, c2, a3, c3, a4, c4, by rw [he, hml], hb⟩
        clear h hu hf hm hml hO HBD
        generalize ofJ p p.main = c at *
        go_enter Tryz.func23, Tryz.ntmps23
        go_wp2_with (first
          | (go_at_call 51; refine hU.mono ?_; rintro e w9 ⟨rfl, hw9⟩; replace hw9 := hw9.symm; subst hw9)
          | (go_at_call 44; refine hF.mono ?_; rintro e u1 ⟨rfl, hb1⟩; have HJ1 : Hid _ := H0.out.below hb1; have HB1 : Hid _ := hb1; clear hF hb1)
          | (go_at_call 49; refine (HO.out u1 HJ1.out).mono ?_; rintro e u2 ⟨a1, c1, a2, c2, a3, c3, a4, c4, rfl, hb2⟩; have hfl := fld7 c.nm c.face c.fin c.sup (.slice a1 c.faces.length c1) (.slice a2 c.flds.length c2) (.slice a3 c.stcs.length c3) a4 0 c4 u2; have HJ2 : Hid _ := HJ1.out.below hb2; have HB2 : Hid (Below w.heap.size w u2) := HB1.out.trans (hb2.mono HB1.out.size); clear hb2 HJ1)
          | (go_at_call 42; refine (jfault_ok HJ2.out _ _ _).mono ?_; rintro e u4 ⟨rfl, hj4, hbx⟩))
        refine bodyPost_ret (results_none rfl _ _ _) rfl ?_
        exact ⟨rfl, by rw [HE.out]; exact hj4, (Bx.of_below HB2.out).trans hbx⟩
      · obtain ⟨B, hB⟩ : ∃ B, (!m.stc || decide (0 < m.args.length) || m.ret != 0) = B := ⟨_, rfl⟩
        have HT : Hid ((!m.stc || decide (0 < m.args.length) || m.ret != 0) = B) := hB
        have HE : Hid (bad8 p = B) := by show _ = _; rw [HBD.out, hu, hf, hm]; exact hB
        have hml : (ofJ p p.main).mds.length = ms.length + 1 := by rw [hm]; rfl
        have HML : Hid ((ofJ p p.main).mds[0]? = some m) := by show _ = _; rw [hm]; rfl
        have HO : Hid (∀ u, Jc u cb p S v s → Calls Tryz.prog 49 #[.pointer (some ⟨cb, 0, none⟩), .int .i64 p.main] u fun e w' => ∃ a1 c1 a2 c2 a3 c3 a4 c4, e = .returned (.agg #[.string (ofJ p p.main).nm, .bool (ofJ p p.main).face, .bool (ofJ p p.main).fin, .int .i64 (ofJ p p.main).sup, .slice a1 (ofJ p p.main).faces.length c1, .slice a2 (ofJ p p.main).flds.length c2, .slice a3 (ofJ p p.main).stcs.length c3, .slice a4 (ms.length + 1) c4]) ∧ Sl kMd w' S (.slice a4 (ms.length + 1) c4) (ofJ p p.main).mds ∧ Below u.heap.size u w') := fun u hj => (jof_ok hj HUS.out).mono fun e w' ⟨a1, c1, a2, c2, a3, c3, a4, c4, he, hs, hb⟩ => ⟨a1, c1, a2, c2, a3, c3, a4, c4, by rw [he, hml], by rw [← hml]; exact hs.2.2.2, hb⟩
        have e7 : ((ms.length : Int) + 1 == 0) = false := by rw [beq_eq_false_iff_ne]; omega
        have e8 : (0 : Int) < (ms.length : Int) + 1 := by omega
        have hmx : ms.length ≤ 1000 := by have := HOC.out.nmds; omega
        clear h hu hf hm hml hO HBD hB
        generalize ofJ p p.main = c at *
        go_enter Tryz.func23, Tryz.ntmps23
        go_upto_region 4 with (first
          | (go_at_call 51; refine hU.mono ?_; rintro e w9 ⟨rfl, hw9⟩; replace hw9 := hw9.symm; subst hw9)
          | (go_at_call 44; refine hF.mono ?_; rintro e u1 ⟨rfl, hb1⟩; have HJ1 : Hid _ := H0.out.below hb1; have HB1 : Hid _ := hb1; have hO1 := HO.out u1 HJ1.out; clear hF hb1)
          | (go_at_call 49; refine hO1.mono ?_; rintro e u2 ⟨a1, c1, a2, c2, a3, c3, a4, c4, rfl, -, hb2⟩; have hfl := fld7 c.nm c.face c.fin c.sup (.slice a1 c.faces.length c1) (.slice a2 c.flds.length c2) (.slice a3 c.stcs.length c3) a4 (ms.length + 1) c4 u2; have HJ2 : Hid _ := HJ1.out.below hb2; have HB2 : Hid (Below w.heap.size w u2) := HB1.out.trans (hb2.mono HB1.out.size); have hO2 := HO.out u2 HJ2.out; clear hb2 HJ1 hO1)
          | (go_at_call 49; refine hO2.mono ?_; rintro e u3 ⟨g1, d1, g2, d2, g3, d3, g4, d4, rfl, hsl, hb3⟩; have hfl3 := fld7 c.nm c.face c.fin c.sup (.slice g1 c.faces.length d1) (.slice g2 c.flds.length d2) (.slice g3 c.stcs.length d3) g4 (ms.length + 1) d4 u3; have HJ3 : Hid _ := HJ2.out.below hb3; have HB3 : Hid (Below w.heap.size w u3) := HB2.out.trans (hb3.mono HB2.out.size); obtain ⟨mb, mo, q1, q2, q3, q4, r1, r2, r3, r4, rfl, ⟨t0, t1, t2, t3, t4, t5, t6, t7, t8⟩, -, HM⟩ := mth_at hsl HJ3.out.low HML.out; rw [Nat.zero_mul, Nat.add_zero] at t0 t1 t2 t3 t4 t5 t6 t7 t8; clear hb3 HJ2 hO2 hsl))
        have hMx := HM.out
        generalize u3.alloc (.cells #[.string m.nm, .bool m.stc, .slice q1 m.args.length r1, .int .i64 m.ret, .int .i64 m.lo, .int .i64 m.st, .slice q2 m.code.length r2, .slice q3 m.tab.length r3, .slice q4 m.maps.length r4] 30) = y5 at hMx ⊢
        have HJ5 : Hid (Jc y5 cb p S v s) := HJ3.out.below hMx.2
        have HB5 : Hid (Bx cb w y5) := Bx.of_below (HB3.out.trans (hMx.2.mono HB3.out.size))
        obtain ⟨-, n1, n2, n3, -, -, -, -⟩ := hMx.1.cells
        obtain ⟨mbx, hmbx⟩ : ∃ mbx, mbx = u3.heap.size := ⟨_, rfl⟩
        rw [← hmbx] at n1 n2 n3 ⊢
        generalize Value.agg #[.string m.nm, .bool m.stc, .slice q1 m.args.length r1, .int .i64 m.ret, .int .i64 m.lo, .int .i64 m.st, .slice q2 m.code.length r2, .slice q3 m.tab.length r3, .slice q4 m.maps.length r4] = V34
        clear t0 t1 t2 t3 t4 t5 t6 t7 t8 hMx HM hmbx HJ3 HB3 hfl hfl3
        rcases e1 : m.stc with _ | _
        · have HE2 : Hid (B = true) := by show _ = _; rw [← HT.out, e1]; rfl
          rw [e1] at n1
          clear e1
          go_wp2_with (go_at_call 42; refine (jfault_ok HJ5.out _ _ _).mono ?_; rintro e u6 ⟨rfl, hj6, hbx⟩)
          go_end0
          exact ⟨rfl, by rw [HE.out, HE2.out]; exact hj6, HB5.out.trans hbx⟩
        · rw [e1] at n1
          by_cases e2 : 0 < m.args.length
          · have HE2 : Hid (B = true) := by show _ = _; rw [← HT.out, e1]; simp [e2]
            obtain ⟨n9, e3⟩ : ∃ n9, m.args.length = n9 + 1 := ⟨m.args.length - 1, by omega⟩
            have z9 : (0 : Int) < (n9 : Int) + 1 := by omega
            rw [e3] at n2
            clear e1 e2 e3
            go_wp2_with (go_at_call 42; refine (jfault_ok HJ5.out _ _ _).mono ?_; rintro e u6 ⟨rfl, hj6, hbx⟩)
            go_end0
            exact ⟨rfl, by rw [HE.out, HE2.out]; exact hj6, HB5.out.trans hbx⟩
          · have HE2 : Hid (B = (m.ret != 0)) := by show _ = _; rw [← HT.out, e1, decide_eq_false e2]; rfl
            have e3 : m.args.length = 0 := by omega
            rw [e3] at n2
            clear e1 e2 e3
            go_wp2_with (go_at_call 42; refine (jfault_ok HJ5.out _ _ _).mono ?_; rintro e u6 ⟨rfl, hj6, hbx⟩)
            go_end0
            exact ⟨rfl, by rw [HE.out, HE2.out]; exact hj6, HB5.out.trans hbx⟩
    · rw [hf] at hF
      have HE : Hid (bad8 p = true) := by show _ = _; rw [HBD.out, hu, hf]; rfl
      clear h hu hf HBD hO
      go_enter Tryz.func23, Tryz.ntmps23
      go_wp2_with (first
        | (go_at_call 51; refine hU.mono ?_; rintro e w9 ⟨rfl, hw9⟩; replace hw9 := hw9.symm; subst hw9)
        | (go_at_call 44; refine hF.mono ?_; rintro e u1 ⟨rfl, hb1⟩; have HJ1 : Hid _ := H0.out.below hb1; have HB1 : Hid _ := hb1; clear hF hb1)
        | (go_at_call 42; refine (jfault_ok HJ1.out _ _ _).mono ?_; rintro e u4 ⟨rfl, hj4, hbx⟩))
      refine bodyPost_ret (results_none rfl _ _ _) rfl ?_
      exact ⟨rfl, by rw [HE.out]; exact hj4, (Bx.of_below HB1.out).trans hbx⟩
end Go.Proofs.YtbbmgjcabmjjdaaGreatDoor
/- The document's own Load: missing. -/
namespace Go.Proofs.YtbbmgjcabmjjdaaGreatDoor
open Go.RowKit

def lackM (vir : List En) (m : Md) : Bool := (OfJ vir m.nm m.args m.ret).isNone
def lackF (p : Pg) (vir : List En) (x : Int) : Bool := faceJ p x && (ofJ p x).mds.any (lackM vir)
theorem face_is {p : Pg} {x : Int} (h : faceJ p x = true) : userJ p x = true := by simp [faceJ] at h; exact h.1
set_option maxHeartbeats 16000000 in
set_option maxRecDepth 20000 in
theorem jmissing_ok {w : World} {cb : Nat} {p : Pg} {S : Nat → Prop} {v : Value} {s : Fs} (h : Jc w cb p S v s) (hs : s.1 = 0 → Gp p) : Calls Tryz.prog 21 #[.pointer (some ⟨cb, 0, none⟩)] w fun e w' => e = .returned (.tuple #[]) ∧ Jc w' cb p S v (runJ (bad6 p) 1507 s p.cls.length) ∧ Bx cb w w' := by
  have H0 : Hid (Jc w cb p S v s) := h
  have hn := h.ok.n
  have HS : Hid (s.1 = 0 → Gp p) := hs
  have HZ : Hid (Okz p) := h.ok
  obtain ⟨a, cap, hv, -⟩ := h.slice
  subst hv
  clear h hs
  go_enter Tryz.func21, Tryz.ntmps21
  go_wp2
  go_loopg [2] (p.cls.length + 1) (fun kx s2 wr => ∃ i : Nat, s2 = .int .i64 i ∧ i ≤ p.cls.length ∧ p.cls.length - i ≤ kx ∧ Hid (Jc wr cb p S (.slice a p.cls.length cap) (runJ (bad6 p) 1507 s i)) ∧ Hid (Bx cb w wr))
  case atStart => exact ⟨0, rfl, by omega, by omega, H0.out, Bx.refl _ _⟩
  case round =>
    obtain ⟨i, rfl, hi, hk, HJ, HB⟩ := hrel
    clear H0
    have c1 := HJ.out.c1
    have c2 := HJ.out.c2
    by_cases hlt : i < p.cls.length
    · have hl : (i : Int) < (p.cls.length : Int) := by omega
      by_cases h0 : (runJ (bad6 p) 1507 s i).1 = 0
      · have e0 : ((runJ (bad6 p) 1507 s i).1 == 0) = true := by simp [h0]
        have HSU : Hid (Gp p) := HS.out (runJ_ok (by decide) h0).1
        obtain ⟨hu1, hu2, hu3⟩ := user_of hlt
        have HLy : Hid (∀ u s1, Jc u cb p S (.slice a p.cls.length cap) s1 → Calls Tryz.prog 24 #[.pointer (some ⟨cb, 0, none⟩), .int .i64 (11 + (i : Int))] u (LyP (lyJ p (11 + (i : Int))) u)) := fun u s1 hj => jly_ok HSU.out hj hu3
        have hF := jface_ok HJ.out (11 + (i : Int))
        have HR : Hid (runJ (bad6 p) 1507 s (i + 1) = ftJ (runJ (bad6 p) 1507 s i) (!faceJ p (11 + i) && (lyJ p (11 + i)).abv.any (lackF p (lyJ p (11 + i)).vir)) 1507 (11 + (i : Int))) := rfl
        have HVL : Hid ((lyJ p (11 + (i : Int))).vir.length ≤ 1073741824) := by
          have h1 := (lay_len HJ.out.ok (nJ p + 1) (11 + (i : Int))).1
          have h2 : nJ p + 1 ≤ 5000 := by unfold nJ; omega
          have h3 : (nJ p + 1) * 1001 ≤ 5000 * 1001 := Nat.mul_le_mul_right _ h2
          show (layJ p (nJ p + 1) _).vir.length ≤ _
          omega
        clear h0 hu1 hu2 hu3 HS
        generalize runJ (bad6 p) 1507 s i = s1 at *
        generalize lyJ p (11 + (i : Int)) = y at *
        rcases hfa : faceJ p (11 + (i : Int)) with _ | _
        · rw [hfa] at hF
          have HE : Hid (runJ (bad6 p) 1507 s (i + 1) = ftJ s1 (y.abv.any (lackF p y.vir)) 1507 (11 + (i : Int))) := by show _ = _; rw [HR.out, hfa]; rfl
          clear hfa HR
          go_upto_region 6 with (first
            | (go_at_call 44; refine hF.mono ?_; rintro e u0 ⟨rfl, hb0⟩; have HJ0 : Hid _ := HJ.out.below hb0; have HB0 : Hid (Bx cb w u0) := HB.out.low hb0; have hLy := HLy.out u0 _ HJ0.out; clear hF hb0 HLy)
            | (go_at_call 24; refine hLy.mono ?_; rintro e u1 ⟨b0, e0', b2, e2, b3, e3, rfl, hg, -, ha, hb1⟩; have hJL := JL.of (y := y) (a0 := b0) (c0 := e0') HJ0.out hg ha hb1; clear hLy hg ha hb1))
          have HB2 : Hid (Bx cb w (u1.alloc (.cells #[.slice b0 y.flds.length e0', .int .i64 y.off, .slice b2 y.vir.length e2, .slice b3 y.abv.length e3] 58))) := HB0.out.low hJL.2
          replace hJL := hJL.1
          generalize u1.alloc (.cells #[.slice b0 y.flds.length e0', .int .i64 y.off, .slice b2 y.vir.length e2, .slice b3 y.abv.length e3] 58) = U at *
          generalize u1.heap.size = lb at *
          generalize Value.agg #[.slice b0 y.flds.length e0', .int .i64 y.off, .slice b2 y.vir.length e2, .slice b3 y.abv.length e3] = V32
          have HJL : Hid (JL U cb p S (.slice a p.cls.length cap) s1 lb y b0 b2 b3 e0' e2 e3) := hJL
          have HAM : Hid (y.abv.length ≤ 9223372036854775807) := by obtain ⟨M, hM, -⟩ := hJL.abv; obtain ⟨x1, x2, x3, x4, -⟩ := hM; exact x4
          have ham := HAM.out
          clear hJL HJ HB HJ0 HB0 c1 c2
          go_wp2_with (fail)
          go_loopg [5] (y.abv.length + 1) (fun kx s5 wr => ∃ j : Nat, s5 = .int .i64 j ∧ j ≤ y.abv.length ∧ y.abv.length - j ≤ kx ∧ Hid (JL wr cb p S (.slice a p.cls.length cap) (ftJ s1 ((y.abv.take j).any (lackF p y.vir)) 1507 (11 + (i : Int))) lb y b0 b2 b3 e0' e2 e3) ∧ Hid (Bx cb w wr))
          case atStart => exact ⟨0, rfl, by omega, by omega, by simp only [List.take_zero, List.any_nil, ftJ_false]; exact HJL.out, HB2.out⟩
          case round =>
            obtain ⟨j, rfl, hj, hkj, HJK, HB⟩ := hrel
            clear HJL HB2
            have l3 : wr.cell? ⟨lb, 3, none⟩ = some (.slice b3 y.abv.length e3) := by have := HJK.out.box; simp [World.cell?, this]
            by_cases hjl : j < y.abv.length
            · have hl2 : (j : Int) < (y.abv.length : Int) := by omega
              obtain ⟨x, hx⟩ : ∃ x, y.abv[j]? = some x := ⟨_, List.getElem?_eq_getElem hjl⟩
              obtain ⟨M, hM, hM2⟩ := HJK.out.abv
              obtain ⟨ab, ao, hab, a0⟩ := hM.int hx
              have HAB : Hid (ab ≠ cb ∧ ab < wr.heap.size) := by
                obtain ⟨ab', ao', e, hs, -⟩ := hM.atJ hx
                rw [hab] at e
                injection e with e
                injection e with e1 e2
                subst e1
                exact hM2 ab hs
              subst hab
              have hF := jface_ok HJK.out.jc x
              have HA : Hid ((y.abv.take (j + 1)).any (lackF p y.vir) = ((y.abv.take j).any (lackF p y.vir) || lackF p y.vir x)) := any_take hx
              clear hM hM2 hx
              rcases hfx : faceJ p x with _ | _
              · rw [hfx] at hF
                have HLF : Hid (lackF p y.vir x = false) := by show _ = _; simp [lackF, hfx]
                clear hfx
                go_wp2_with (go_at_call 44; refine hF.mono ?_; rintro e u2 ⟨rfl, hb2⟩; have HJ2 : Hid _ := HJK.out.below hb2; have HB2 : Hid (Bx cb w u2) := HB.out.low hb2; clear hF hb2 HJK HB)
                go_roundg (y.abv.length - (j + 1))
                case measure => omega
                case rel => exact ⟨j + 1, by go_num, by omega, by omega, by rw [HA.out, HLF.out, Bool.or_false]; exact HJ2.out, HB2.out⟩
              · rw [hfx] at hF
                have HUS : Hid (userJ p x = true) := face_is hfx
                have HLF : Hid (lackF p y.vir x = (ofJ p x).mds.any (lackM y.vir)) := by show _ = _; simp [lackF, hfx]
                have HOC : Hid (OkC (ofJ p x)) := by
                  obtain ⟨i, -, -, hi⟩ := user_at HUS.out
                  exact badOk HZ.out hi
                have hnm := HOC.out.nmds
                clear hfx
                go_wp2_with (first
                  | (go_at_call 44; refine hF.mono ?_; rintro e u2 ⟨rfl, hb2⟩; have HJ2 : Hid _ := HJK.out.below hb2; have HB2 : Hid (Bx cb w u2) := HB.out.low hb2; have l32 := (cell_same (hb2.block lb HJK.out.lt) 3).trans l3; have a02 := (cell_same (hb2.block ab HAB.out.2) (ao + j)).trans a0; have hO := jof_ok HJ2.out.jc HUS.out; clear hF hb2 HJK HB l3 a0)
                  | (go_at_call 49; refine hO.mono ?_; rintro e u3 ⟨g1, d1, g2, d2, g3, d3, g4, d4, rfl, hsl, hb3⟩; have hfl := fld7 (ofJ p x).nm (ofJ p x).face (ofJ p x).fin (ofJ p x).sup (.slice g1 (ofJ p x).faces.length d1) (.slice g2 (ofJ p x).flds.length d2) (.slice g3 (ofJ p x).stcs.length d3) g4 (ofJ p x).mds.length d4 u3; have HJ3 : Hid _ := HJ2.out.below hb3; have HB3 : Hid (Bx cb w u3) := HB2.out.low hb3; have HMS : Hid (Sl kMd u3 S (.slice g4 (ofJ p x).mds.length d4) (ofJ p x).mds) := hsl.2.2.2; clear hO hsl hb3 HJ2 HB2))
                generalize ofJ p x = c at *
                go_loopg [7] (c.mds.length + 1) (fun kx s7 wr => ∃ q : Nat, s7 = .int .i64 q ∧ q ≤ c.mds.length ∧ c.mds.length - q ≤ kx ∧ Hid (JL wr cb p S (.slice a p.cls.length cap) (ftJ s1 ((y.abv.take j).any (lackF p y.vir) || (c.mds.take q).any (lackM y.vir)) 1507 (11 + (i : Int))) lb y b0 b2 (some ⟨ab, ao, none⟩) e0' e2 e3) ∧ Hid (Bx cb w wr) ∧ Hid (Sl kMd wr S (.slice g4 c.mds.length d4) c.mds))
                case atStart => exact ⟨0, rfl, by omega, by omega, by simp only [List.take_zero, List.any_nil, Bool.or_false]; exact HJ3.out, HB3.out, HMS.out⟩
                case round =>
                  obtain ⟨q, rfl, hq, hkq, HJq, HBq, HMq⟩ := hrel
                  clear HJ3 HB3 HMS hfl l32 a02
                  have l2 : wr.cell? ⟨lb, 2, none⟩ = some (.slice b2 y.vir.length e2) := by have := HJq.out.box; simp [World.cell?, this]
                  by_cases hql : q < c.mds.length
                  · have hl3 : (q : Int) < (c.mds.length : Int) := by omega
                    obtain ⟨m, hm⟩ : ∃ c1, c.mds[q]? = some c1 := ⟨_, List.getElem?_eq_getElem hql⟩
                    obtain ⟨mb, mo, x1, x2, x3, x4, h1, h2, h3, h4, hgx, ⟨t0, -, t2, t3, -⟩, hargs, -⟩ := mth_at HMq.out HJq.out.jc.low hm
                    have HMB : Hid (mb ≠ cb ∧ mb < wr.heap.size) := by
                      obtain ⟨mb', mo', e, hs, -⟩ := HMq.out.atJ hm
                      rw [hgx] at e
                      injection e with e
                      injection e with e1 e2
                      subst e1
                      exact ⟨fun q => HJq.out.jc.far (q ▸ hs), HJq.out.jc.low _ hs⟩
                    subst hgx
                    have HAM2 : Hid ((c.mds.take (q + 1)).any (lackM y.vir) = ((c.mds.take q).any (lackM y.vir) || lackM y.vir m)) := any_take hm
                    obtain ⟨L, hL, -⟩ := HJq.out.vir
                    obtain ⟨R, hR⟩ : ∃ R, ofI (OfJ y.vir m.nm m.args m.ret) = R := ⟨_, rfl⟩
                    have HRR : Hid (decide (R < 0) = lackM y.vir m) := by show _ = _; rw [← hR]; exact ofI_neg _
                    have HOF : Hid (Calls Tryz.prog 50 #[.slice b2 y.vir.length e2, .string m.nm, .slice x1 m.args.length h1, .int .i64 m.ret] wr.drew fun e w' => e = .returned (.int .i64 R) ∧ ∃ n, w' = wr.drew.drewN n) := by rw [← hR]; exact jOf_ok (w := wr.drew) (hL.keep (fun _ _ => rfl)) HVL.out m.nm (hargs.keep (fun _ _ => rfl)) m.ret
                    have HLB : Hid (lb ≠ cb ∧ lb < wr.heap.size) := ⟨HJq.out.ne, HJq.out.lt⟩
                    clear hR hm hL hargs
                    go_upto_region 14 with (fail)
                    go_region_held3 (fun w' => w'.cell? ⟨lb, 2, none⟩ = some (.slice b2 y.vir.length e2) ∧ w'.cell? ⟨mb, mo + q * 9, none⟩ = some (.string m.nm) ∧ w'.cell? ⟨mb, mo + q * 9 + 2, none⟩ = some (.slice x1 m.args.length h1) ∧ w'.cell? ⟨mb, mo + q * 9 + 3, none⟩ = some (.int .i64 m.ret)) (go_keep) ((first
                      | (go_at_call 50; refine HOF.out.mono ?_; rintro e u5 ⟨rfl, hm5⟩; have HB5 : Hid (Below wr.heap.size wr u5 ∧ ∀ b : Nat, u5.heap[b]? = wr.heap[b]?) := (by obtain ⟨n, rfl⟩ := hm5; exact ⟨⟨rfl, rfl, rfl, Nat.le_refl _, fun _ _ => rfl⟩, fun _ => rfl⟩); have HJ5 : Hid _ := HJq.out.below HB5.out.1; have y2 := (cell_same (HB5.out.2 lb) 2).trans l2; have y0 := (cell_same (HB5.out.2 mb) (mo + q * 9)).trans t0; have y3 := (cell_same (HB5.out.2 mb) (mo + q * 9 + 2)).trans t2; have y4 := (cell_same (HB5.out.2 mb) (mo + q * 9 + 3)).trans t3; clear hm5)
                      | (go_at_call 42; refine (jfault_ok HJ5.out.jc _ _ _).mono ?_; rintro e u6 ⟨rfl, hj6, hbx⟩; have HJ6 : Hid _ := HJ5.out.bx hbx hj6; have HB6 : Hid (Bx cb w u6) := (HBq.out.low HB5.out.1).trans hbx; have HM6 : Hid (Sl kMd u6 S (.slice (some ⟨mb, mo, none⟩) c.mds.length d4) c.mds) := (HMq.out.keep (fun b hb => HB5.out.2 b)).keep (fun b hb => hbx.block b (HJ5.out.jc.low b hb) (fun e => HJ5.out.jc.far (e ▸ hb))); have w2 := (cell_same (hbx.block lb HJ5.out.lt HLB.out.1) 2).trans y2; have hmb6 := hbx.block mb (Nat.lt_of_lt_of_le HMB.out.2 HB5.out.1.size) HMB.out.1; have w0 := (cell_same hmb6 (mo + q * 9)).trans y0; have w3 := (cell_same hmb6 (mo + q * 9 + 2)).trans y3; have w4 := (cell_same hmb6 (mo + q * 9 + 3)).trans y4; clear hj6 hbx hmb6)))
                    all_goals
                      go_wp2_with (fail)
                      go_roundg (c.mds.length - (q + 1))
                      case measure => omega
                      case rel => exact ⟨q + 1, by go_num, by omega, by omega, by rw [HAM2.out, ← HRR.out, ← Bool.or_assoc, ← ftJ_or]; exact HJ6.out, HB6.out, HM6.out⟩
                  · have hq2 : q = c.mds.length := by omega
                    subst hq2
                    have hl3 : ¬ ((c.mds.length : Nat) : Int) < ((c.mds.length : Nat) : Int) := by omega
                    have HK4 : Hid (JL wr cb p S (.slice a p.cls.length cap) (ftJ s1 ((y.abv.take (j + 1)).any (lackF p y.vir)) 1507 (11 + (i : Int))) lb y b0 b2 (some ⟨ab, ao, none⟩) e0' e2 e3) := by have := HJq.out; rw [any_full, ← HLF.out, ← HA.out] at this; exact this
                    clear HJq
                    go_wp2_with (fail)
                    go_roundg (y.abv.length - (j + 1))
                    case measure => omega
                    case rel => exact ⟨j + 1, by go_num, by omega, by omega, HK4.out, HBq.out⟩
            · have hj2 : j = y.abv.length := by omega
              subst hj2
              have hl2 : ¬ ((y.abv.length : Nat) : Int) < ((y.abv.length : Nat) : Int) := by omega
              have HK4 : Hid (Jc wr cb p S (.slice a p.cls.length cap) (runJ (bad6 p) 1507 s (i + 1))) := by have := HJK.out.jc; rw [any_full] at this; show Jc _ _ _ _ _ _; rw [HE.out]; exact this
              clear HJK
              go_wp2_with (fail)
              go_roundg (p.cls.length - (i + 1))
              case measure => omega
              case rel => exact ⟨i + 1, by go_num, by omega, by omega, HK4.out, HB.out⟩
        · rw [hfa] at hF
          have HE : Hid (runJ (bad6 p) 1507 s (i + 1) = s1) := by show _ = _; rw [HR.out, hfa]; exact ftJ_false _ _ _
          clear hfa HR
          go_wp2_with (go_at_call 44; refine hF.mono ?_; rintro e u0 ⟨rfl, hb0⟩; have HJ0 : Hid _ := HJ.out.below hb0; have HB0 : Hid (Bx cb w u0) := HB.out.low hb0; clear hF hb0)
          go_roundg (p.cls.length - (i + 1))
          case measure => omega
          case rel => exact ⟨i + 1, by go_num, by omega, by omega, by rw [HE.out]; exact HJ0.out, HB0.out⟩
      · have e0 : ((runJ (bad6 p) 1507 s i).1 == 0) = false := by simp [h0]
        have HE : Hid (runJ (bad6 p) 1507 s p.cls.length = runJ (bad6 p) 1507 s i) := runJ_stop h0 hi
        clear h0
        go_wp2
        go_end0
        exact ⟨rfl, by rw [HE.out]; exact HJ.out, HB.out⟩
    · have hn2 : i = p.cls.length := by omega
      subst hn2
      have hl : ¬ ((p.cls.length : Nat) : Int) < ((p.cls.length : Nat) : Int) := by omega
      go_wp2
      go_end0
      exact ⟨rfl, HJ.out, HB.out⟩
end Go.Proofs.YtbbmgjcabmjjdaaGreatDoor
