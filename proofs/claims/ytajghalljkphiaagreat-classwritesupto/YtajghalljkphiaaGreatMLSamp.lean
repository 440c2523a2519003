/- SameProgram, where both sides tell the same. -/
import Derived.Test.YtajghalljkphiaaGreatMLSamm
import Derived.Test.YtajghalljkphiaaGreatMLRPg
import Derived.Deep.RegionHeld3
import Derived.Deep.DeepCutAuto
namespace Go.Proofs.YtajghalljkphiaaGreat
open Go.RowKit

theorem box2 (w : World) (o1 o2 : Obj) : w.heap.size ≠ w.heap.size + 1 ∧ ((w.alloc o1).alloc o2).drew.heap[w.heap.size]? = some o1 ∧ ((w.alloc o1).alloc o2).drew.heap[w.heap.size + 1]? = some o2 ∧ Below w.heap.size w ((w.alloc o1).alloc o2).drew := by
  have s1 : (w.alloc o1).heap.size = w.heap.size + 1 := by simp
  have h1 := heap_alloc_new w o1
  have h2 := heap_alloc_new (w.alloc o1) o2
  rw [s1] at h2
  refine ⟨by omega, ?_, h2, (((Below.refl _ _).alloc (Nat.le_refl _) _).alloc (by omega) _).drew⟩
  show ((w.alloc o1).alloc o2).heap[w.heap.size]? = _
  rw [Below.heap_alloc _ _ _ (by omega)]; exact h1
theorem box2' (w : World) (o1 o2 : Obj) : w.heap.size + 1 ≠ w.heap.size ∧ ((w.alloc o1).alloc o2).drew.heap[w.heap.size + 1]? = some o2 ∧ ((w.alloc o1).alloc o2).drew.heap[w.heap.size]? = some o1 ∧ Below w.heap.size w ((w.alloc o1).alloc o2).drew := by
  obtain ⟨a, b, c, d⟩ := box2 w o1 o2
  exact ⟨by omega, c, b, d⟩
theorem cell_lt {w : World} {b o : Nat} {v : Value} (h : w.cell? ⟨b, o, none⟩ = some v) : b < w.heap.size := by
  apply Nat.lt_of_not_le
  intro hn
  have e : w.heap[b]? = none := Array.getElem?_eq_none hn
  simp only [World.cell?, e] at h
  cases h
theorem below_un {B : Nat} {w w' : World} (h : Below B w.drew w') : Below B w w' := ⟨h.os, h.tape, h.output, h.size, h.block⟩
set_option maxHeartbeats 8000000 in
set_option maxRecDepth 20000 in
theorem SameProgram_eq {Sp Sq : Nat → Prop} {x : Pg} {ca cb : List Value} {w : World} (al0 : ∀ k, Sp k → k < w.heap.size) (bl0 : ∀ k, Sq k → k < w.heap.size) (aR : kPg.R w Sp x ca) (bR : kPg.R w Sq x cb) :
    Calls Tryz.prog 7 #[.agg ca.toArray, .agg cb.toArray] w fun e w' => e = .returned (.bool true) ∧ Below w.heap.size w w' := by
  obtain ⟨pv, rfl, pS⟩ := aR
  obtain ⟨qv, rfl, qS⟩ := bR
  obtain ⟨pa, pc, rfl, am⟩ : ∃ a c, pv = .slice a x.cls.length c ∧ x.cls.length ≤ maxLen := by obtain ⟨a, c, e, e2, _⟩ := pS; exact ⟨a, c, e, e2⟩
  obtain ⟨qa, qc, rfl, -⟩ : ∃ a c, qv = .slice a x.cls.length c ∧ x.cls.length ≤ maxLen := by obtain ⟨a, c, e, e2, _⟩ := qS; exact ⟨a, c, e, e2⟩
  have hz1 : (w.alloc (.cells #[.int .i64 x.main, .slice pa x.cls.length pc] 24)).heap.size = w.heap.size + 1 := by simp
  have HZ : Hid (Below w.heap.size w ((w.alloc (.cells #[.int .i64 x.main, .slice pa x.cls.length pc] 24)).alloc (.cells #[.int .i64 x.main, .slice qa x.cls.length qc] 24))) := ((Below.refl _ _).alloc (Nat.le_refl _) _).alloc (by omega) _
  have HA : Hid (Sl kCs ((w.alloc (.cells #[.int .i64 x.main, .slice pa x.cls.length pc] 24)).alloc (.cells #[.int .i64 x.main, .slice qa x.cls.length qc] 24)) Sp (.slice pa x.cls.length pc) x.cls) := pS.keep fun b hb => HZ.out.block b (al0 b hb)
  have HB : Hid (Sl kCs ((w.alloc (.cells #[.int .i64 x.main, .slice pa x.cls.length pc] 24)).alloc (.cells #[.int .i64 x.main, .slice qa x.cls.length qc] 24)) Sq (.slice qa x.cls.length qc) x.cls) := qS.keep fun b hb => HZ.out.block b (bl0 b hb)
  have hp : ((w.alloc (.cells #[.int .i64 x.main, .slice pa x.cls.length pc] 24)).alloc (.cells #[.int .i64 x.main, .slice qa x.cls.length qc] 24)).heap[w.heap.size]? = some (.cells #[.int .i64 x.main, .slice pa x.cls.length pc] 24) := by rw [Below.heap_alloc _ _ _ (by omega)]; exact heap_alloc_new w _
  have hq : ((w.alloc (.cells #[.int .i64 x.main, .slice pa x.cls.length pc] 24)).alloc (.cells #[.int .i64 x.main, .slice qa x.cls.length qc] 24)).heap[w.heap.size + 1]? = some (.cells #[.int .i64 x.main, .slice qa x.cls.length qc] 24) := by have := heap_alloc_new (w.alloc (.cells #[.int .i64 x.main, .slice pa x.cls.length pc] 24)) (.cells #[.int .i64 x.main, .slice qa x.cls.length qc] 24); rw [hz1] at this; exact this
  have al : ∀ k, Sp k → k < ((w.alloc (.cells #[.int .i64 x.main, .slice pa x.cls.length pc] 24)).alloc (.cells #[.int .i64 x.main, .slice qa x.cls.length qc] 24)).heap.size := fun k hk => Nat.lt_of_lt_of_le (al0 k hk) HZ.out.size
  have bl : ∀ k, Sq k → k < ((w.alloc (.cells #[.int .i64 x.main, .slice pa x.cls.length pc] 24)).alloc (.cells #[.int .i64 x.main, .slice qa x.cls.length qc] 24)).heap.size := fun k hk => Nat.lt_of_lt_of_le (bl0 k hk) HZ.out.size
  have HP : Hid (((w.alloc (.cells #[.int .i64 x.main, .slice pa x.cls.length pc] 24)).alloc (.cells #[.int .i64 x.main, .slice qa x.cls.length qc] 24)).heap[w.heap.size]? = some (.cells #[.int .i64 x.main, .slice pa x.cls.length pc] 24)) := hp
  have HQ : Hid (((w.alloc (.cells #[.int .i64 x.main, .slice pa x.cls.length pc] 24)).alloc (.cells #[.int .i64 x.main, .slice qa x.cls.length qc] 24)).heap[w.heap.size + 1]? = some (.cells #[.int .i64 x.main, .slice qa x.cls.length qc] 24)) := hq
  unfold maxLen at am
  clear pS qS hp hq hz1 al0 bl0
  go_enter Tryz.func7, Tryz.ntmps7
  go_wp2
  generalize hW : ((w.alloc (.cells #[.int .i64 x.main, .slice pa x.cls.length pc] 24)).alloc (.cells #[.int .i64 x.main, .slice qa x.cls.length qc] 24)) = W at *
  clear hW
  go_loopg [5] (x.cls.length + 1) (fun kx s wr => ∃ i : Nat, s = .int .i64 i ∧ i ≤ x.cls.length ∧ x.cls.length - i ≤ kx ∧ Hid (Below W.heap.size W wr))
  case atStart => exact ⟨0, rfl, by omega, by omega, Below.refl _ _⟩
  case round =>
    obtain ⟨i, rfl, hi, hk, HM⟩ := hrel
    have wp : wr.heap[w.heap.size]? = some (.cells #[.int .i64 x.main, .slice pa x.cls.length pc] 24) := by rw [HM.out.block _ (Array.getElem?_eq_some_iff.1 HP.out).1]; exact HP.out
    have wq : wr.heap[w.heap.size + 1]? = some (.cells #[.int .i64 x.main, .slice qa x.cls.length qc] 24) := by rw [HM.out.block _ (Array.getElem?_eq_some_iff.1 HQ.out).1]; exact HQ.out
    have pz : wr.cell? ⟨w.heap.size, 1, none⟩ = some (.slice pa x.cls.length pc) := by simp [World.cell?, wp]
    have qz : wr.cell? ⟨w.heap.size + 1, 1, none⟩ = some (.slice qa x.cls.length qc) := by simp [World.cell?, wq]
    clear wp wq
    by_cases hlt : i < x.cls.length
    · skip
      obtain ⟨c, hc⟩ : ∃ c, x.cls[i]? = some c := ⟨_, List.getElem?_eq_getElem hlt⟩
      obtain ⟨ap, ao, ea, cs1, r1, ha⟩ := (HA.out.keep (w' := wr) (fun b hb => HM.out.block b (al b hb))).at_ hc
      obtain ⟨bp, bo, eb, cs2, r2, hb⟩ := (HB.out.keep (w' := wr) (fun b hb => HM.out.block b (bl b hb))).at_ hc
      have hws := HM.out.size
      obtain ⟨pv1, pv2, pv3, pv4, rfl, ps1, ps2, ps3, ps4⟩ := r1
      obtain ⟨qv1, qv2, qv3, qv4, rfl, qs1, qs2, qs3, qs4⟩ := r2
      obtain ⟨pa1, pc1, rfl, mx1⟩ : ∃ a n, pv1 = .slice a c.faces.length n ∧ c.faces.length ≤ maxLen := by obtain ⟨a, n, e, e2, _⟩ := ps1; exact ⟨a, n, e, e2⟩
      obtain ⟨pa2, pc2, rfl, mx2⟩ : ∃ a n, pv2 = .slice a c.flds.length n ∧ c.flds.length ≤ maxLen := by obtain ⟨a, n, e, e2, _⟩ := ps2; exact ⟨a, n, e, e2⟩
      obtain ⟨pa3, pc3, rfl, mx3⟩ : ∃ a n, pv3 = .slice a c.stcs.length n ∧ c.stcs.length ≤ maxLen := by obtain ⟨a, n, e, e2, _⟩ := ps3; exact ⟨a, n, e, e2⟩
      obtain ⟨pa4, pc4, rfl, mx4⟩ : ∃ a n, pv4 = .slice a c.mds.length n ∧ c.mds.length ≤ maxLen := by obtain ⟨a, n, e, e2, _⟩ := ps4; exact ⟨a, n, e, e2⟩
      obtain ⟨qa1, qc1, rfl, -⟩ : ∃ a n, qv1 = .slice a c.faces.length n ∧ c.faces.length ≤ maxLen := by obtain ⟨a, n, e, e2, _⟩ := qs1; exact ⟨a, n, e, e2⟩
      obtain ⟨qa2, qc2, rfl, -⟩ : ∃ a n, qv2 = .slice a c.flds.length n ∧ c.flds.length ≤ maxLen := by obtain ⟨a, n, e, e2, _⟩ := qs2; exact ⟨a, n, e, e2⟩
      obtain ⟨qa3, qc3, rfl, -⟩ : ∃ a n, qv3 = .slice a c.stcs.length n ∧ c.stcs.length ≤ maxLen := by obtain ⟨a, n, e, e2, _⟩ := qs3; exact ⟨a, n, e, e2⟩
      obtain ⟨qa4, qc4, rfl, -⟩ : ∃ a n, qv4 = .slice a c.mds.length n ∧ c.mds.length ≤ maxLen := by obtain ⟨a, n, e, e2, _⟩ := qs4; exact ⟨a, n, e, e2⟩
      have a0 : wr.cell? ⟨ap, ao + i * 8, none⟩ = some (.string c.nm) := by have := ha 0 _ rfl; rw [show kCs.k = 8 from rfl] at this; rw [show ao + (i * 8 + 0) = ao + i * 8 by omega] at this; exact this
      have a1 : wr.cell? ⟨ap, ao + i * 8 + 1, none⟩ = some (.bool c.face) := by have := ha 1 _ rfl; rw [show kCs.k = 8 from rfl] at this; rw [show ao + (i * 8 + 1) = ao + i * 8 + 1 by omega] at this; exact this
      have a2 : wr.cell? ⟨ap, ao + i * 8 + 2, none⟩ = some (.bool c.fin) := by have := ha 2 _ rfl; rw [show kCs.k = 8 from rfl] at this; rw [show ao + (i * 8 + 2) = ao + i * 8 + 2 by omega] at this; exact this
      have a3 : wr.cell? ⟨ap, ao + i * 8 + 3, none⟩ = some (.int .i64 c.sup) := by have := ha 3 _ rfl; rw [show kCs.k = 8 from rfl] at this; rw [show ao + (i * 8 + 3) = ao + i * 8 + 3 by omega] at this; exact this
      have a4 : wr.cell? ⟨ap, ao + i * 8 + 4, none⟩ = some (.slice pa1 c.faces.length pc1) := by have := ha 4 _ rfl; rw [show kCs.k = 8 from rfl] at this; rw [show ao + (i * 8 + 4) = ao + i * 8 + 4 by omega] at this; exact this
      have a5 : wr.cell? ⟨ap, ao + i * 8 + 5, none⟩ = some (.slice pa2 c.flds.length pc2) := by have := ha 5 _ rfl; rw [show kCs.k = 8 from rfl] at this; rw [show ao + (i * 8 + 5) = ao + i * 8 + 5 by omega] at this; exact this
      have a6 : wr.cell? ⟨ap, ao + i * 8 + 6, none⟩ = some (.slice pa3 c.stcs.length pc3) := by have := ha 6 _ rfl; rw [show kCs.k = 8 from rfl] at this; rw [show ao + (i * 8 + 6) = ao + i * 8 + 6 by omega] at this; exact this
      have a7 : wr.cell? ⟨ap, ao + i * 8 + 7, none⟩ = some (.slice pa4 c.mds.length pc4) := by have := ha 7 _ rfl; rw [show kCs.k = 8 from rfl] at this; rw [show ao + (i * 8 + 7) = ao + i * 8 + 7 by omega] at this; exact this
      have b0 : wr.cell? ⟨bp, bo + i * 8, none⟩ = some (.string c.nm) := by have := hb 0 _ rfl; rw [show kCs.k = 8 from rfl] at this; rw [show bo + (i * 8 + 0) = bo + i * 8 by omega] at this; exact this
      have b1 : wr.cell? ⟨bp, bo + i * 8 + 1, none⟩ = some (.bool c.face) := by have := hb 1 _ rfl; rw [show kCs.k = 8 from rfl] at this; rw [show bo + (i * 8 + 1) = bo + i * 8 + 1 by omega] at this; exact this
      have b2 : wr.cell? ⟨bp, bo + i * 8 + 2, none⟩ = some (.bool c.fin) := by have := hb 2 _ rfl; rw [show kCs.k = 8 from rfl] at this; rw [show bo + (i * 8 + 2) = bo + i * 8 + 2 by omega] at this; exact this
      have b3 : wr.cell? ⟨bp, bo + i * 8 + 3, none⟩ = some (.int .i64 c.sup) := by have := hb 3 _ rfl; rw [show kCs.k = 8 from rfl] at this; rw [show bo + (i * 8 + 3) = bo + i * 8 + 3 by omega] at this; exact this
      have b4 : wr.cell? ⟨bp, bo + i * 8 + 4, none⟩ = some (.slice qa1 c.faces.length qc1) := by have := hb 4 _ rfl; rw [show kCs.k = 8 from rfl] at this; rw [show bo + (i * 8 + 4) = bo + i * 8 + 4 by omega] at this; exact this
      have b5 : wr.cell? ⟨bp, bo + i * 8 + 5, none⟩ = some (.slice qa2 c.flds.length qc2) := by have := hb 5 _ rfl; rw [show kCs.k = 8 from rfl] at this; rw [show bo + (i * 8 + 5) = bo + i * 8 + 5 by omega] at this; exact this
      have b6 : wr.cell? ⟨bp, bo + i * 8 + 6, none⟩ = some (.slice qa3 c.stcs.length qc3) := by have := hb 6 _ rfl; rw [show kCs.k = 8 from rfl] at this; rw [show bo + (i * 8 + 6) = bo + i * 8 + 6 by omega] at this; exact this
      have b7 : wr.cell? ⟨bp, bo + i * 8 + 7, none⟩ = some (.slice qa4 c.mds.length qc4) := by have := hb 7 _ rfl; rw [show kCs.k = 8 from rfl] at this; rw [show bo + (i * 8 + 7) = bo + i * 8 + 7 by omega] at this; exact this
      have hl2 : (i : Int) < (x.cls.length : Int) := by omega
      have l1 := cell_lt a0
      have l2 := cell_lt b0
      have l3 := cell_lt pz
      have l4 := cell_lt qz
      have e1 : ap ≠ wr.heap.size := by omega
      have e2 : bp ≠ wr.heap.size := by omega
      have e3 : ap ≠ wr.heap.size + 1 := by omega
      have e4 : bp ≠ wr.heap.size + 1 := by omega
      have e5 : w.heap.size ≠ wr.heap.size := by omega
      have e6 : w.heap.size ≠ wr.heap.size + 1 := by omega
      have e7 : w.heap.size + 1 ≠ wr.heap.size := by omega
      have e8 : w.heap.size ≠ wr.heap.size := by omega
      have HA1 : Hid (Sl kI wr Sp (.slice pa1 c.faces.length pc1) c.faces) := ps1
      have HA2 : Hid (Sl kFd wr Sp (.slice pa2 c.flds.length pc2) c.flds) := ps2
      have HA3 : Hid (Sl kFd wr Sp (.slice pa3 c.stcs.length pc3) c.stcs) := ps3
      have HA4 : Hid (Sl kMd wr Sp (.slice pa4 c.mds.length pc4) c.mds) := ps4
      have HB1 : Hid (Sl kI wr Sq (.slice qa1 c.faces.length qc1) c.faces) := qs1
      have HB2 : Hid (Sl kFd wr Sq (.slice qa2 c.flds.length qc2) c.flds) := qs2
      have HB3 : Hid (Sl kFd wr Sq (.slice qa3 c.stcs.length qc3) c.stcs) := qs3
      have HB4 : Hid (Sl kMd wr Sq (.slice qa4 c.mds.length qc4) c.mds) := qs4
      clear ha hb hc ps1 ps2 ps3 ps4 qs1 qs2 qs3 qs4 hws
      subst ea eb
      go_wp2_with (fail)
      go_cut [6, 7] from 23 to 39 (fun s6 s7 wc => ∃ bx by_ : Nat, s6 = .pointer (some ⟨bx, 0, none⟩) ∧ s7 = .pointer (some ⟨by_, 0, none⟩) ∧ Hid (bx ≠ by_ ∧ wc.heap[bx]? = some (.cells #[.string c.nm, .bool c.face, .bool c.fin, .int .i64 c.sup, .slice pa1 c.faces.length pc1, .slice pa2 c.flds.length pc2, .slice pa3 c.stcs.length pc3, .slice pa4 c.mds.length pc4] 53 (0, 0)) ∧ wc.heap[by_]? = some (.cells #[.string c.nm, .bool c.face, .bool c.fin, .int .i64 c.sup, .slice qa1 c.faces.length qc1, .slice qa2 c.flds.length qc2, .slice qa3 c.stcs.length qc3, .slice qa4 c.mds.length qc4] 53 (0, 0)) ∧ Below wr.heap.size wr wc))
      case first =>
        go_region_held3 (fun w' => w'.cell? ⟨w.heap.size, 1, none⟩ = some (.slice (some ⟨ap, ao, none⟩) x.cls.length pc) ∧ w'.cell? ⟨w.heap.size + 1, 1, none⟩ = some (.slice (some ⟨bp, bo, none⟩) x.cls.length qc) ∧ w'.cell? ⟨ap, ao + i * 8, none⟩ = some (.string c.nm) ∧ w'.cell? ⟨ap, ao + i * 8 + 1, none⟩ = some (.bool c.face) ∧ w'.cell? ⟨ap, ao + i * 8 + 2, none⟩ = some (.bool c.fin) ∧ w'.cell? ⟨ap, ao + i * 8 + 3, none⟩ = some (.int .i64 c.sup) ∧ w'.cell? ⟨ap, ao + i * 8 + 4, none⟩ = some (.slice pa1 c.faces.length pc1) ∧ w'.cell? ⟨ap, ao + i * 8 + 5, none⟩ = some (.slice pa2 c.flds.length pc2) ∧ w'.cell? ⟨ap, ao + i * 8 + 6, none⟩ = some (.slice pa3 c.stcs.length pc3) ∧ w'.cell? ⟨ap, ao + i * 8 + 7, none⟩ = some (.slice pa4 c.mds.length pc4) ∧ w'.cell? ⟨bp, bo + i * 8, none⟩ = some (.string c.nm) ∧ w'.cell? ⟨bp, bo + i * 8 + 1, none⟩ = some (.bool c.face) ∧ w'.cell? ⟨bp, bo + i * 8 + 2, none⟩ = some (.bool c.fin) ∧ w'.cell? ⟨bp, bo + i * 8 + 3, none⟩ = some (.int .i64 c.sup) ∧ w'.cell? ⟨bp, bo + i * 8 + 4, none⟩ = some (.slice qa1 c.faces.length qc1) ∧ w'.cell? ⟨bp, bo + i * 8 + 5, none⟩ = some (.slice qa2 c.flds.length qc2) ∧ w'.cell? ⟨bp, bo + i * 8 + 6, none⟩ = some (.slice qa3 c.stcs.length qc3) ∧ w'.cell? ⟨bp, bo + i * 8 + 7, none⟩ = some (.slice qa4 c.mds.length qc4)) (go_keep) (fail)
        · go_wp2_with (fail)
          go_meet
          exact ⟨wr.heap.size, wr.heap.size + 1, rfl, rfl, box2 wr _ _⟩
        · go_wp2_with (fail)
          go_meet
          exact ⟨wr.heap.size + 1, wr.heap.size, rfl, rfl, box2' wr _ _⟩
      case rest =>
      obtain ⟨bx, by_, rfl, rfl, HX⟩ := hcut
      have hne := HX.out.1
      have hX := HX.out.2.1
      have hY := HX.out.2.2.1
      have x0 : wc.cell? ⟨bx, 0, none⟩ = some (.string c.nm) := by simp [World.cell?, hX]
      have y0 : wc.cell? ⟨by_, 0, none⟩ = some (.string c.nm) := by simp [World.cell?, hY]
      have x1 : wc.cell? ⟨bx, 1, none⟩ = some (.bool c.face) := by simp [World.cell?, hX]
      have y1 : wc.cell? ⟨by_, 1, none⟩ = some (.bool c.face) := by simp [World.cell?, hY]
      have x2 : wc.cell? ⟨bx, 2, none⟩ = some (.bool c.fin) := by simp [World.cell?, hX]
      have y2 : wc.cell? ⟨by_, 2, none⟩ = some (.bool c.fin) := by simp [World.cell?, hY]
      have x3 : wc.cell? ⟨bx, 3, none⟩ = some (.int .i64 c.sup) := by simp [World.cell?, hX]
      have y3 : wc.cell? ⟨by_, 3, none⟩ = some (.int .i64 c.sup) := by simp [World.cell?, hY]
      have x4 : wc.cell? ⟨bx, 4, none⟩ = some (.slice pa1 c.faces.length pc1) := by simp [World.cell?, hX]
      have y4 : wc.cell? ⟨by_, 4, none⟩ = some (.slice qa1 c.faces.length qc1) := by simp [World.cell?, hY]
      have x5 : wc.cell? ⟨bx, 5, none⟩ = some (.slice pa2 c.flds.length pc2) := by simp [World.cell?, hX]
      have y5 : wc.cell? ⟨by_, 5, none⟩ = some (.slice qa2 c.flds.length qc2) := by simp [World.cell?, hY]
      have x6 : wc.cell? ⟨bx, 6, none⟩ = some (.slice pa3 c.stcs.length pc3) := by simp [World.cell?, hX]
      have y6 : wc.cell? ⟨by_, 6, none⟩ = some (.slice qa3 c.stcs.length qc3) := by simp [World.cell?, hY]
      have x7 : wc.cell? ⟨bx, 7, none⟩ = some (.slice pa4 c.mds.length pc4) := by simp [World.cell?, hX]
      have y7 : wc.cell? ⟨by_, 7, none⟩ = some (.slice qa4 c.mds.length qc4) := by simp [World.cell?, hY]
      have HBW : Hid (Below W.heap.size W wc) := HM.out.trans (HX.out.2.2.2.mono HM.out.size)
      have KA1 : Hid (Sl kI wc Sp (.slice pa1 c.faces.length pc1) c.faces) := HA1.out.keep fun b hb => HX.out.2.2.2.block b (Nat.lt_of_lt_of_le (al b hb) HM.out.size)
      have KA2 : Hid (Sl kFd wc Sp (.slice pa2 c.flds.length pc2) c.flds) := HA2.out.keep fun b hb => HX.out.2.2.2.block b (Nat.lt_of_lt_of_le (al b hb) HM.out.size)
      have KA3 : Hid (Sl kFd wc Sp (.slice pa3 c.stcs.length pc3) c.stcs) := HA3.out.keep fun b hb => HX.out.2.2.2.block b (Nat.lt_of_lt_of_le (al b hb) HM.out.size)
      have KA4 : Hid (Sl kMd wc Sp (.slice pa4 c.mds.length pc4) c.mds) := HA4.out.keep fun b hb => HX.out.2.2.2.block b (Nat.lt_of_lt_of_le (al b hb) HM.out.size)
      have KB1 : Hid (Sl kI wc Sq (.slice qa1 c.faces.length qc1) c.faces) := HB1.out.keep fun b hb => HX.out.2.2.2.block b (Nat.lt_of_lt_of_le (bl b hb) HM.out.size)
      have KB2 : Hid (Sl kFd wc Sq (.slice qa2 c.flds.length qc2) c.flds) := HB2.out.keep fun b hb => HX.out.2.2.2.block b (Nat.lt_of_lt_of_le (bl b hb) HM.out.size)
      have KB3 : Hid (Sl kFd wc Sq (.slice qa3 c.stcs.length qc3) c.stcs) := HB3.out.keep fun b hb => HX.out.2.2.2.block b (Nat.lt_of_lt_of_le (bl b hb) HM.out.size)
      have KB4 : Hid (Sl kMd wc Sq (.slice qa4 c.mds.length qc4) c.mds) := HB4.out.keep fun b hb => HX.out.2.2.2.block b (Nat.lt_of_lt_of_le (bl b hb) HM.out.size)
      have hI : Calls Tryz.prog 21 #[.slice pa1 c.faces.length pc1, .slice qa1 c.faces.length qc1] wc fun e w' => e = .returned (.bool true) ∧ ∃ k, w' = wc.drewN k := SameInts_eq KA1.out KB1.out
      have HF2 : Hid (∀ n, Calls Tryz.prog 22 #[.slice pa2 c.flds.length pc2, .slice qa2 c.flds.length qc2] (wc.drewN n) fun e w' => e = .returned (.bool true) ∧ ∃ k, w' = (wc.drewN n).drewN k) := fun n => SameFields_eq (KA2.out.keep fun _ _ => rfl) (KB2.out.keep fun _ _ => rfl)
      have HF3 : Hid (∀ n, Calls Tryz.prog 22 #[.slice pa3 c.stcs.length pc3, .slice qa3 c.stcs.length qc3] (wc.drewN n) fun e w' => e = .returned (.bool true) ∧ ∃ k, w' = (wc.drewN n).drewN k) := fun n => SameFields_eq (KA3.out.keep fun _ _ => rfl) (KB3.out.keep fun _ _ => rfl)
      clear a0 a1 a2 a3 a4 a5 a6 a7 b0 b1 b2 b3 b4 b5 b6 b7 l1 l2 l3 l4 e1 e2 e3 e4 e5 e6 e7 e8 hX hY HA1 HA2 HA3 HA4 HB1 HB2 KA1 KA2 KA3 KB1 KB2 KB3 pz qz mx1 mx2 mx3
      unfold maxLen at mx4
      go_wp2_with (first
        | (go_at_call 21; refine hI.mono ?_; rintro e w9 ⟨rfl, m0, rfl⟩; clear hI; have hF2 := HF2.out m0; clear HF2)
        | (go_at_call 22; refine hF2.mono ?_; rintro e w9 ⟨rfl, m1, hw9⟩; rw [World.drewN_drewN] at hw9; generalize m0 + m1 = m2 at hw9; subst hw9; clear hF2; have hF3 := HF3.out m2; clear HF3)
        | (go_at_call 22; refine hF3.mono ?_; rintro e w9 ⟨rfl, m3, hw9⟩; rw [World.drewN_drewN] at hw9; generalize m2 + m3 = m4 at hw9; subst hw9; clear hF3))
      go_loopg [8] (c.mds.length + 1) (fun kx s wr => ∃ j : Nat, s = .int .i64 j ∧ j ≤ c.mds.length ∧ c.mds.length - j ≤ kx ∧ Hid (Below wc.heap.size wc wr))
      case atStart => exact ⟨0, rfl, by omega, by omega, below_drewN _ _ _⟩
      case round =>
        obtain ⟨j, rfl, hj, hk2, HN⟩ := hrel
        have wp : wr.heap[bx]? = some (.cells #[.string c.nm, .bool c.face, .bool c.fin, .int .i64 c.sup, .slice pa1 c.faces.length pc1, .slice pa2 c.flds.length pc2, .slice pa3 c.stcs.length pc3, .slice pa4 c.mds.length pc4] 53 (0, 0)) := by rw [HN.out.block _ (cell_lt x0)]; exact HX.out.2.1
        have wq : wr.heap[by_]? = some (.cells #[.string c.nm, .bool c.face, .bool c.fin, .int .i64 c.sup, .slice qa1 c.faces.length qc1, .slice qa2 c.flds.length qc2, .slice qa3 c.stcs.length qc3, .slice qa4 c.mds.length qc4] 53 (0, 0)) := by rw [HN.out.block _ (cell_lt y0)]; exact HX.out.2.2.1
        have pz : wr.cell? ⟨bx, 7, none⟩ = some (.slice pa4 c.mds.length pc4) := by simp [World.cell?, wp]
        have qz : wr.cell? ⟨by_, 7, none⟩ = some (.slice qa4 c.mds.length qc4) := by simp [World.cell?, wq]
        clear wp wq
        by_cases hlt2 : j < c.mds.length
        · skip
          obtain ⟨d, hd⟩ : ∃ d, c.mds[j]? = some d := ⟨_, List.getElem?_eq_getElem hlt2⟩
          obtain ⟨ap, ao, ea, cs1, r1, ha⟩ := (KA4.out.keep (w' := wr) (fun b hb => HN.out.block b (Nat.lt_of_lt_of_le (al b hb) HBW.out.size))).at_ hd
          obtain ⟨bp, bo, eb, cs2, r2, hb⟩ := (KB4.out.keep (w' := wr) (fun b hb => HN.out.block b (Nat.lt_of_lt_of_le (bl b hb) HBW.out.size))).at_ hd
          have hS := SameMethod_eq (w := wr.drew) (x := d) (fun k hk => Nat.lt_of_lt_of_le (Nat.lt_of_lt_of_le (al k hk) HBW.out.size) HN.out.size) (fun k hk => Nat.lt_of_lt_of_le (Nat.lt_of_lt_of_le (bl k hk) HBW.out.size) HN.out.size) (kMd.keep (fun _ _ => rfl) r1) (kMd.keep (fun _ _ => rfl) r2)
          have HS : Hid (∀ w2, Below wr.drew.heap.size wr.drew w2 → Below wc.heap.size wc w2) := fun w2 h2 => HN.out.trans (below_un (Below.mono h2 HN.out.size))
          obtain ⟨pu1, pu2, pu3, pu4, rfl, pt1, pt2, pt3, pt4⟩ := r1
          obtain ⟨qu1, qu2, qu3, qu4, rfl, qt1, qt2, qt3, qt4⟩ := r2
          obtain ⟨pb1, pd1, rfl, -⟩ := pt1
          obtain ⟨pb2, pd2, rfl, -⟩ := pt2
          obtain ⟨pb3, pd3, rfl, -⟩ := pt3
          obtain ⟨pb4, pd4, rfl, -⟩ := pt4
          obtain ⟨qb1, qd1, rfl, -⟩ := qt1
          obtain ⟨qb2, qd2, rfl, -⟩ := qt2
          obtain ⟨qb3, qd3, rfl, -⟩ := qt3
          obtain ⟨qb4, qd4, rfl, -⟩ := qt4
          have a0 : wr.cell? ⟨ap, ao + j * 9, none⟩ = some (.string d.nm) := by have := ha 0 _ rfl; rw [show kMd.k = 9 from rfl] at this; rw [show ao + (j * 9 + 0) = ao + j * 9 by omega] at this; exact this
          have a1 : wr.cell? ⟨ap, ao + j * 9 + 1, none⟩ = some (.bool d.stc) := by have := ha 1 _ rfl; rw [show kMd.k = 9 from rfl] at this; rw [show ao + (j * 9 + 1) = ao + j * 9 + 1 by omega] at this; exact this
          have a2 : wr.cell? ⟨ap, ao + j * 9 + 2, none⟩ = some (.slice pb1 d.args.length pd1) := by have := ha 2 _ rfl; rw [show kMd.k = 9 from rfl] at this; rw [show ao + (j * 9 + 2) = ao + j * 9 + 2 by omega] at this; exact this
          have a3 : wr.cell? ⟨ap, ao + j * 9 + 3, none⟩ = some (.int .i64 d.ret) := by have := ha 3 _ rfl; rw [show kMd.k = 9 from rfl] at this; rw [show ao + (j * 9 + 3) = ao + j * 9 + 3 by omega] at this; exact this
          have a4 : wr.cell? ⟨ap, ao + j * 9 + 4, none⟩ = some (.int .i64 d.lo) := by have := ha 4 _ rfl; rw [show kMd.k = 9 from rfl] at this; rw [show ao + (j * 9 + 4) = ao + j * 9 + 4 by omega] at this; exact this
          have a5 : wr.cell? ⟨ap, ao + j * 9 + 5, none⟩ = some (.int .i64 d.st) := by have := ha 5 _ rfl; rw [show kMd.k = 9 from rfl] at this; rw [show ao + (j * 9 + 5) = ao + j * 9 + 5 by omega] at this; exact this
          have a6 : wr.cell? ⟨ap, ao + j * 9 + 6, none⟩ = some (.slice pb2 d.code.length pd2) := by have := ha 6 _ rfl; rw [show kMd.k = 9 from rfl] at this; rw [show ao + (j * 9 + 6) = ao + j * 9 + 6 by omega] at this; exact this
          have a7 : wr.cell? ⟨ap, ao + j * 9 + 7, none⟩ = some (.slice pb3 d.tab.length pd3) := by have := ha 7 _ rfl; rw [show kMd.k = 9 from rfl] at this; rw [show ao + (j * 9 + 7) = ao + j * 9 + 7 by omega] at this; exact this
          have a8 : wr.cell? ⟨ap, ao + j * 9 + 8, none⟩ = some (.slice pb4 d.maps.length pd4) := by have := ha 8 _ rfl; rw [show kMd.k = 9 from rfl] at this; rw [show ao + (j * 9 + 8) = ao + j * 9 + 8 by omega] at this; exact this
          have b0 : wr.cell? ⟨bp, bo + j * 9, none⟩ = some (.string d.nm) := by have := hb 0 _ rfl; rw [show kMd.k = 9 from rfl] at this; rw [show bo + (j * 9 + 0) = bo + j * 9 by omega] at this; exact this
          have b1 : wr.cell? ⟨bp, bo + j * 9 + 1, none⟩ = some (.bool d.stc) := by have := hb 1 _ rfl; rw [show kMd.k = 9 from rfl] at this; rw [show bo + (j * 9 + 1) = bo + j * 9 + 1 by omega] at this; exact this
          have b2 : wr.cell? ⟨bp, bo + j * 9 + 2, none⟩ = some (.slice qb1 d.args.length qd1) := by have := hb 2 _ rfl; rw [show kMd.k = 9 from rfl] at this; rw [show bo + (j * 9 + 2) = bo + j * 9 + 2 by omega] at this; exact this
          have b3 : wr.cell? ⟨bp, bo + j * 9 + 3, none⟩ = some (.int .i64 d.ret) := by have := hb 3 _ rfl; rw [show kMd.k = 9 from rfl] at this; rw [show bo + (j * 9 + 3) = bo + j * 9 + 3 by omega] at this; exact this
          have b4 : wr.cell? ⟨bp, bo + j * 9 + 4, none⟩ = some (.int .i64 d.lo) := by have := hb 4 _ rfl; rw [show kMd.k = 9 from rfl] at this; rw [show bo + (j * 9 + 4) = bo + j * 9 + 4 by omega] at this; exact this
          have b5 : wr.cell? ⟨bp, bo + j * 9 + 5, none⟩ = some (.int .i64 d.st) := by have := hb 5 _ rfl; rw [show kMd.k = 9 from rfl] at this; rw [show bo + (j * 9 + 5) = bo + j * 9 + 5 by omega] at this; exact this
          have b6 : wr.cell? ⟨bp, bo + j * 9 + 6, none⟩ = some (.slice qb2 d.code.length qd2) := by have := hb 6 _ rfl; rw [show kMd.k = 9 from rfl] at this; rw [show bo + (j * 9 + 6) = bo + j * 9 + 6 by omega] at this; exact this
          have b7 : wr.cell? ⟨bp, bo + j * 9 + 7, none⟩ = some (.slice qb3 d.tab.length qd3) := by have := hb 7 _ rfl; rw [show kMd.k = 9 from rfl] at this; rw [show bo + (j * 9 + 7) = bo + j * 9 + 7 by omega] at this; exact this
          have b8 : wr.cell? ⟨bp, bo + j * 9 + 8, none⟩ = some (.slice qb4 d.maps.length qd4) := by have := hb 8 _ rfl; rw [show kMd.k = 9 from rfl] at this; rw [show bo + (j * 9 + 8) = bo + j * 9 + 8 by omega] at this; exact this
          have hl2 : (j : Int) < (c.mds.length : Int) := by omega
          clear ha hb hd
          subst ea eb
          go_wp2_with (fail)
          refine wp_region_still_tail 10 (by kernel_rfl) (by kernel_rfl) ?_
          change wpStill _ _ (World.drew _) (fun a' => wpList _ _ _ _ a' (World.drew _)) _ _
          simp only [List.take_succ_cons, List.take_zero, List.drop_succ_cons, List.drop_zero]
          repeat still_step
          refine wpStill_nil ?_
          go_wp2_with (go_at_call 23; refine hS.mono ?_; rintro e w8 ⟨rfl, hb8⟩; have HO : Hid (Below wc.heap.size wc w8) := HS.out w8 hb8; clear hS HS hb8)
          go_roundg (c.mds.length - (j + 1))
          case measure => omega
          case rel => exact ⟨j + 1, by go_num, by omega, by omega, HO.out⟩
        · have hn : j = c.mds.length := by omega
          subst hn
          have hl : ¬ ((c.mds.length : Nat) : Int) < ((c.mds.length : Nat) : Int) := by omega
          go_wp2
          go_roundg (x.cls.length - (i + 1))
          case measure => omega
          case rel => exact ⟨i + 1, by go_num, by omega, by omega, HBW.out.trans (HN.out.mono HBW.out.size)⟩
    · have hn : i = x.cls.length := by omega
      subst hn
      have hl : ¬ ((x.cls.length : Nat) : Int) < ((x.cls.length : Nat) : Int) := by omega
      clear HA HB
      go_wp2
      go_ret
      exact ⟨rfl, HZ.out.trans (HM.out.mono HZ.out.size)⟩
end Go.Proofs.YtajghalljkphiaaGreat
