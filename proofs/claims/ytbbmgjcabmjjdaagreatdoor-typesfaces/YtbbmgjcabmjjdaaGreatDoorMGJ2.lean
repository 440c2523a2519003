/- The document's own Load: a class copied into a box of its own; supers. -/
import Derived.Test.YtbbmgjcabmjjdaaGreatDoorMGJ1
namespace Go.Proofs.YtbbmgjcabmjjdaaGreatDoor
open Go.RowKit

/-- A class's cells; the zero class's. -/
abbrev rowC (c : Cs) (f1 f2 f3 f4 : Option Addr) (g1 g2 g3 g4 : Nat) : Array Value := #[.string c.nm, .bool c.face, .bool c.fin, .int .i64 c.sup, .slice f1 c.faces.length g1, .slice f2 c.flds.length g2, .slice f3 c.stcs.length g3, .slice f4 c.mds.length g4]
structure BoxC (w : World) (S : Nat → Prop) (kb : Nat) (c : Cs) (f1 f2 f3 f4 : Option Addr) (g1 g2 g3 g4 : Nat) : Prop where
  box : w.heap[kb]? = some (.cells #[.string c.nm, .bool c.face, .bool c.fin, .int .i64 c.sup, .slice f1 c.faces.length g1, .slice f2 c.flds.length g2, .slice f3 c.stcs.length g3, .slice f4 c.mds.length g4] 34 (0, 0))
  s1 : Sl kI w S (.slice f1 c.faces.length g1) c.faces
  s2 : Sl kFd w S (.slice f2 c.flds.length g2) c.flds
  s3 : Sl kFd w S (.slice f3 c.stcs.length g3) c.stcs
  s4 : Sl kMd w S (.slice f4 c.mds.length g4) c.mds
/-- The struct, and a class's box beside it. -/
structure JK (w : World) (cb : Nat) (p : Pg) (S : Nat → Prop) (v : Value) (s : Fs) (kb : Nat) (c : Cs) (f1 f2 f3 f4 : Option Addr) (g1 g2 g3 g4 : Nat) : Prop where
  jc : Jc w cb p S v s
  bc : BoxC w S kb c f1 f2 f3 f4 g1 g2 g3 g4
  ne : kb ≠ cb
section
variable {w : World} {cb : Nat} {p : Pg} {S : Nat → Prop} {v : Value} {s : Fs} {kb : Nat} {c : Cs} {f1 f2 f3 f4 : Option Addr} {g1 g2 g3 g4 : Nat}
theorem JK.lt (h : JK w cb p S v s kb c f1 f2 f3 f4 g1 g2 g3 g4) : kb < w.heap.size := (Array.getElem?_eq_some_iff.1 h.bc.box).1
theorem JK.bx (h : JK w cb p S v s kb c f1 f2 f3 f4 g1 g2 g3 g4) {w' : World} (hb : Bx cb w w') {s' : Fs} (hj : Jc w' cb p S v s') : JK w' cb p S v s' kb c f1 f2 f3 f4 g1 g2 g3 g4 := by
  have e : ∀ b, S b → w'.heap[b]? = w.heap[b]? := fun b hS => hb.block b (h.jc.low b hS) (fun e => h.jc.far (e ▸ hS))
  exact ⟨hj, ⟨(hb.block kb h.lt h.ne).trans h.bc.box, h.bc.s1.keep e, h.bc.s2.keep e, h.bc.s3.keep e, h.bc.s4.keep e⟩, h.ne⟩
theorem JK.below (h : JK w cb p S v s kb c f1 f2 f3 f4 g1 g2 g3 g4) {w' : World} (hb : Below w.heap.size w w') : JK w' cb p S v s kb c f1 f2 f3 f4 g1 g2 g3 g4 := h.bx (Bx.of_below hb) (h.jc.below hb)
theorem JK.cells (h : JK w cb p S v s kb c f1 f2 f3 f4 g1 g2 g3 g4) : w.cell? ⟨kb, 1, none⟩ = some (.bool c.face) ∧ w.cell? ⟨kb, 2, none⟩ = some (.bool c.fin) ∧ w.cell? ⟨kb, 3, none⟩ = some (.int .i64 c.sup) ∧ w.cell? ⟨kb, 4, none⟩ = some (.slice f1 c.faces.length g1) ∧ w.cell? ⟨kb, 5, none⟩ = some (.slice f2 c.flds.length g2) ∧ w.cell? ⟨kb, 6, none⟩ = some (.slice f3 c.stcs.length g3) ∧ w.cell? ⟨kb, 7, none⟩ = some (.slice f4 c.mds.length g4) := by
  have := h.bc.box
  refine ⟨?_, ?_, ?_, ?_, ?_, ?_, ?_⟩ <;> simp [World.cell?, this]
/-- Class number i is copied into a new box. -/
theorem Jc.cls (h : Jc w cb p S v s) {i : Nat} (hi : i < p.cls.length) : ∃ sb so cap f1 f2 f3 f4 g1 g2 g3 g4, v = .slice (some ⟨sb, so, none⟩) p.cls.length cap ∧
    (w.cell? ⟨sb, so + i * 8, none⟩ = some (.string (ofJ p (11 + i)).nm) ∧ w.cell? ⟨sb, so + i * 8 + 1, none⟩ = some (.bool (ofJ p (11 + i)).face) ∧ w.cell? ⟨sb, so + i * 8 + 2, none⟩ = some (.bool (ofJ p (11 + i)).fin) ∧ w.cell? ⟨sb, so + i * 8 + 3, none⟩ = some (.int .i64 (ofJ p (11 + i)).sup) ∧
    w.cell? ⟨sb, so + i * 8 + 4, none⟩ = some (.slice f1 (ofJ p (11 + i)).faces.length g1) ∧ w.cell? ⟨sb, so + i * 8 + 5, none⟩ = some (.slice f2 (ofJ p (11 + i)).flds.length g2) ∧ w.cell? ⟨sb, so + i * 8 + 6, none⟩ = some (.slice f3 (ofJ p (11 + i)).stcs.length g3) ∧ w.cell? ⟨sb, so + i * 8 + 7, none⟩ = some (.slice f4 (ofJ p (11 + i)).mds.length g4)) ∧
    Hid (JK (w.alloc (.cells #[.string (ofJ p (11 + i)).nm, .bool (ofJ p (11 + i)).face, .bool (ofJ p (11 + i)).fin, .int .i64 (ofJ p (11 + i)).sup, .slice f1 (ofJ p (11 + i)).faces.length g1, .slice f2 (ofJ p (11 + i)).flds.length g2, .slice f3 (ofJ p (11 + i)).stcs.length g3, .slice f4 (ofJ p (11 + i)).mds.length g4] 34)) cb p S v s w.heap.size (ofJ p (11 + i)) f1 f2 f3 f4 g1 g2 g3 g4 ∧ Below w.heap.size w (w.alloc (.cells #[.string (ofJ p (11 + i)).nm, .bool (ofJ p (11 + i)).face, .bool (ofJ p (11 + i)).fin, .int .i64 (ofJ p (11 + i)).sup, .slice f1 (ofJ p (11 + i)).faces.length g1, .slice f2 (ofJ p (11 + i)).flds.length g2, .slice f3 (ofJ p (11 + i)).stcs.length g3, .slice f4 (ofJ p (11 + i)).mds.length g4] 34))) := by
  obtain ⟨-, hc, -⟩ := user_of hi
  generalize ofJ p (11 + (i : Int)) = c at hc ⊢
  obtain ⟨a, cap, hv, -⟩ := h.slice
  subst hv
  obtain ⟨sb, so, rfl, hsb, ss, r1, hsd⟩ := h.dat.atJ hc
  obtain ⟨o1, o2, o3, o4, rfl, j1, j2, j3, j4⟩ := r1
  have j1' := j1
  have j2' := j2
  have j3' := j3
  have j4' := j4
  obtain ⟨f1, g1, rfl, -⟩ := j1'
  obtain ⟨f2, g2, rfl, -⟩ := j2'
  obtain ⟨f3, g3, rfl, -⟩ := j3'
  obtain ⟨f4, g4, rfl, -⟩ := j4'
  have hr : ∀ j u, [Value.string c.nm, .bool c.face, .bool c.fin, .int .i64 c.sup, .slice f1 c.faces.length g1, .slice f2 c.flds.length g2, .slice f3 c.stcs.length g3, .slice f4 c.mds.length g4][j]? = some u → w.cell? ⟨sb, so + i * 8 + j, none⟩ = some u := fun j u hu => by
    have := hsd j u hu; rw [show kCs.k = 8 from rfl, show so + (i * 8 + j) = so + i * 8 + j by omega] at this; exact this
  have t0 := hr 0 _ rfl
  rw [Nat.add_zero] at t0
  refine ⟨sb, so, cap, f1, f2, f3, f4, g1, g2, g3, g4, rfl, ⟨t0, hr 1 _ rfl, hr 2 _ rfl, hr 3 _ rfl, hr 4 _ rfl, hr 5 _ rfl, hr 6 _ rfl, hr 7 _ rfl⟩, ?_⟩
  have hb : Below w.heap.size w (w.alloc (.cells #[.string c.nm, .bool c.face, .bool c.fin, .int .i64 c.sup, .slice f1 c.faces.length g1, .slice f2 c.flds.length g2, .slice f3 c.stcs.length g3, .slice f4 c.mds.length g4] 34)) := (Below.refl _ _).alloc (Nat.le_refl _) _
  have e : ∀ b, S b → (w.alloc (.cells #[.string c.nm, .bool c.face, .bool c.fin, .int .i64 c.sup, .slice f1 c.faces.length g1, .slice f2 c.flds.length g2, .slice f3 c.stcs.length g3, .slice f4 c.mds.length g4] 34)).heap[b]? = w.heap[b]? := fun b hS => hb.block b (h.low b hS)
  exact ⟨⟨h.below hb, ⟨heap_alloc_new _ _, j1.keep e, j2.keep e, j3.keep e, j4.keep e⟩, by have := h.lt; omega⟩, hb⟩
end
theorem Bx.low {rh : Nat} {a b c : World} (h : Bx rh a b) (k : Below b.heap.size b c) : Bx rh a c := h.trans (Bx.of_below k)
theorem badOk {p : Pg} {cs : Cs} {i : Nat} (h : Okz p) (hc : p.cls[i]? = some cs) : OkC cs := h.cls cs (List.mem_of_getElem? hc)

set_option maxHeartbeats 8000000 in
set_option maxRecDepth 20000 in
theorem jsupers_ok {w : World} {cb : Nat} {p : Pg} {S : Nat → Prop} {v : Value} {s : Fs} (h : Jc w cb p S v s) : Calls Tryz.prog 16 #[.pointer (some ⟨cb, 0, none⟩)] w fun e w' => e = .returned (.tuple #[]) ∧ Jc w' cb p S v (runJ (bad1 p) 1500 s p.cls.length) ∧ Bx cb w w' := by
  have H0 : Hid (Jc w cb p S v s) := h
  have hn := h.ok.n
  clear h
  go_enter Tryz.func16, Tryz.ntmps16
  go_wp2
  go_loopg [2] (p.cls.length + 1) (fun kx s2 wr => ∃ i : Nat, s2 = .int .i64 i ∧ i ≤ p.cls.length ∧ p.cls.length - i ≤ kx ∧ Hid (Jc wr cb p S v (runJ (bad1 p) 1500 s i)) ∧ Hid (Bx cb w wr))
  case atStart => exact ⟨0, rfl, by omega, by omega, H0.out, Bx.refl _ _⟩
  case round =>
    obtain ⟨i, rfl, hi, hk, HJ, HB⟩ := hrel
    clear H0
    by_cases hlt : i < p.cls.length
    · obtain ⟨sb, so, cap, f1, f2, f3, f4, g1, g2, g3, g4, hv, ⟨t0, t1, t2, t3, t4, t5, t6, t7⟩, HU⟩ := HJ.out.cls hlt
      subst hv
      have c1 := HJ.out.c1
      have hl : (i : Int) < (p.cls.length : Int) := by omega
      have HR : Hid (runJ (bad1 p) 1500 s (i + 1) = ftJ (runJ (bad1 p) 1500 s i) (bad1 p i) 1500 (11 + (i : Int))) := rfl
      have HBD : Hid (bad1 p i = (!isJ p (ofJ p (11 + i)).sup || faceJ p (ofJ p (11 + i)).sup || (ofJ p (11 + i)).sup == 10 || ((ofJ p (11 + i)).face && (ofJ p (11 + i)).sup != 0))) := rfl
      generalize ofJ p (11 + (i : Int)) = c at *
      generalize runJ (bad1 p) 1500 s i = s1 at *
      go_upto_region 4 with (fail)
      have hKx := HU.out; generalize wr.alloc (.cells #[.string c.nm, .bool c.face, .bool c.fin, .int .i64 c.sup, .slice f1 c.faces.length g1, .slice f2 c.flds.length g2, .slice f3 c.stcs.length g3, .slice f4 c.mds.length g4] 34) = y0 at hKx ⊢; have HB2 : Hid (Bx cb w y0) := HB.out.low hKx.2; replace hKx := hKx.1; obtain ⟨kb, hkb⟩ : ∃ kb, kb = wr.heap.size := ⟨_, rfl⟩; rw [← hkb] at hKx ⊢; have HK : Hid _ := hKx; clear hKx hkb HU HB
      obtain ⟨k1, -, k3, -⟩ := HK.out.cells
      have hI := jis_ok HK.out.jc c.sup
      have hF := jface_ok HK.out.jc c.sup
      clear t0 t1 t2 t3 t4 t5 t6 t7 c1 HJ
      have hn3 : 11 + (i : Int) ≤ 2000000 := by omega
      rcases e1 : isJ p c.sup with _ | _
      · have HT : Hid (bad1 p i = true) := by show _ = _; rw [HBD.out, e1]; rfl
        rw [e1] at hI
        clear HBD e1
        go_wp2_with (first
            | (go_at_call 43; refine hI.mono ?_; rintro e w9 ⟨rfl, hw9⟩; replace hw9 := hw9.symm; subst hw9)
            | (go_at_call 44; refine hF.mono ?_; rintro e u1 ⟨rfl, hb1⟩; have HK1 : Hid _ := HK.out.below hb1; have HB3 : Hid (Bx cb w u1) := HB2.out.low hb1; clear HK HB2 hF hb1 k1 k3; obtain ⟨k1, -, k3, -⟩ := HK1.out.cells)
            | (go_at_call 42; first
              | (refine (jfault_ok HK1.out.jc _ _ _).mono ?_; rintro e u2 ⟨rfl, hj, hbx⟩; have HF2 : Hid _ := hj; have HB4 : Hid (Bx cb w u2) := HB3.out.trans hbx; clear hj hbx HK1)
              | (refine (jfault_ok HK.out.jc _ _ _).mono ?_; rintro e u2 ⟨rfl, hj, hbx⟩; have HF2 : Hid _ := hj; have HB4 : Hid (Bx cb w u2) := HB2.out.trans hbx; clear hj hbx HK)))
        go_roundg (p.cls.length - (i + 1))
        case measure => omega
        case rel => exact ⟨i + 1, by go_num, by omega, by omega, by rw [HR.out, HT.out]; exact HF2.out, HB4.out⟩
      · rw [e1] at hI
        rcases e2 : faceJ p c.sup with _ | _
        · rw [e2] at hF
          rcases e3 : (c.sup == 10) with _ | _
          · rcases e4 : c.face with _ | _
            · have HT : Hid (bad1 p i = false) := by show _ = _; rw [HBD.out, e1, e2, e3, e4]; rfl
              rw [e4] at k1
              clear HBD e1 e2
              go_wp2_with (first
            | (go_at_call 43; refine hI.mono ?_; rintro e w9 ⟨rfl, hw9⟩; replace hw9 := hw9.symm; subst hw9)
            | (go_at_call 44; refine hF.mono ?_; rintro e u1 ⟨rfl, hb1⟩; have HK1 : Hid _ := HK.out.below hb1; have HB3 : Hid (Bx cb w u1) := HB2.out.low hb1; clear HK HB2 hF hb1 k1 k3; obtain ⟨k1, -, k3, -⟩ := HK1.out.cells)
            | (go_at_call 42; first
              | (refine (jfault_ok HK1.out.jc _ _ _).mono ?_; rintro e u2 ⟨rfl, hj, hbx⟩; have HF2 : Hid _ := hj; have HB4 : Hid (Bx cb w u2) := HB3.out.trans hbx; clear hj hbx HK1)
              | (refine (jfault_ok HK.out.jc _ _ _).mono ?_; rintro e u2 ⟨rfl, hj, hbx⟩; have HF2 : Hid _ := hj; have HB4 : Hid (Bx cb w u2) := HB2.out.trans hbx; clear hj hbx HK)))
              go_roundg (p.cls.length - (i + 1))
              case measure => omega
              case rel => exact ⟨i + 1, by go_num, by omega, by omega, by rw [HR.out, HT.out]; exact HF2.out, HB4.out⟩
            · have HT : Hid (bad1 p i = (c.sup != 0)) := by show _ = _; rw [HBD.out, e1, e2, e3, e4]; simp
              rw [e4] at k1
              clear HBD e1 e2
              go_wp2_with (first
            | (go_at_call 43; refine hI.mono ?_; rintro e w9 ⟨rfl, hw9⟩; replace hw9 := hw9.symm; subst hw9)
            | (go_at_call 44; refine hF.mono ?_; rintro e u1 ⟨rfl, hb1⟩; have HK1 : Hid _ := HK.out.below hb1; have HB3 : Hid (Bx cb w u1) := HB2.out.low hb1; clear HK HB2 hF hb1 k1 k3; obtain ⟨k1, -, k3, -⟩ := HK1.out.cells)
            | (go_at_call 42; first
              | (refine (jfault_ok HK1.out.jc _ _ _).mono ?_; rintro e u2 ⟨rfl, hj, hbx⟩; have HF2 : Hid _ := hj; have HB4 : Hid (Bx cb w u2) := HB3.out.trans hbx; clear hj hbx HK1)
              | (refine (jfault_ok HK.out.jc _ _ _).mono ?_; rintro e u2 ⟨rfl, hj, hbx⟩; have HF2 : Hid _ := hj; have HB4 : Hid (Bx cb w u2) := HB2.out.trans hbx; clear hj hbx HK)))
              go_roundg (p.cls.length - (i + 1))
              case measure => omega
              case rel => exact ⟨i + 1, by go_num, by omega, by omega, by rw [HR.out, HT.out]; exact HF2.out, HB4.out⟩
          · have HT : Hid (bad1 p i = true) := by show _ = _; rw [HBD.out, e1, e2, e3]; simp
            clear HBD e1 e2
            go_wp2_with (first
            | (go_at_call 43; refine hI.mono ?_; rintro e w9 ⟨rfl, hw9⟩; replace hw9 := hw9.symm; subst hw9)
            | (go_at_call 44; refine hF.mono ?_; rintro e u1 ⟨rfl, hb1⟩; have HK1 : Hid _ := HK.out.below hb1; have HB3 : Hid (Bx cb w u1) := HB2.out.low hb1; clear HK HB2 hF hb1 k1 k3; obtain ⟨k1, -, k3, -⟩ := HK1.out.cells)
            | (go_at_call 42; first
              | (refine (jfault_ok HK1.out.jc _ _ _).mono ?_; rintro e u2 ⟨rfl, hj, hbx⟩; have HF2 : Hid _ := hj; have HB4 : Hid (Bx cb w u2) := HB3.out.trans hbx; clear hj hbx HK1)
              | (refine (jfault_ok HK.out.jc _ _ _).mono ?_; rintro e u2 ⟨rfl, hj, hbx⟩; have HF2 : Hid _ := hj; have HB4 : Hid (Bx cb w u2) := HB2.out.trans hbx; clear hj hbx HK)))
            go_roundg (p.cls.length - (i + 1))
            case measure => omega
            case rel => exact ⟨i + 1, by go_num, by omega, by omega, by rw [HR.out, HT.out]; exact HF2.out, HB4.out⟩
        · have HT : Hid (bad1 p i = true) := by show _ = _; rw [HBD.out, e1, e2]; simp
          rw [e2] at hF
          clear HBD e1 e2
          go_wp2_with (first
            | (go_at_call 43; refine hI.mono ?_; rintro e w9 ⟨rfl, hw9⟩; replace hw9 := hw9.symm; subst hw9)
            | (go_at_call 44; refine hF.mono ?_; rintro e u1 ⟨rfl, hb1⟩; have HK1 : Hid _ := HK.out.below hb1; have HB3 : Hid (Bx cb w u1) := HB2.out.low hb1; clear HK HB2 hF hb1 k1 k3; obtain ⟨k1, -, k3, -⟩ := HK1.out.cells)
            | (go_at_call 42; first
              | (refine (jfault_ok HK1.out.jc _ _ _).mono ?_; rintro e u2 ⟨rfl, hj, hbx⟩; have HF2 : Hid _ := hj; have HB4 : Hid (Bx cb w u2) := HB3.out.trans hbx; clear hj hbx HK1)
              | (refine (jfault_ok HK.out.jc _ _ _).mono ?_; rintro e u2 ⟨rfl, hj, hbx⟩; have HF2 : Hid _ := hj; have HB4 : Hid (Bx cb w u2) := HB2.out.trans hbx; clear hj hbx HK)))
          go_roundg (p.cls.length - (i + 1))
          case measure => omega
          case rel => exact ⟨i + 1, by go_num, by omega, by omega, by rw [HR.out, HT.out]; exact HF2.out, HB4.out⟩
    · have hn2 : i = p.cls.length := by omega
      subst hn2
      have hl : ¬ ((p.cls.length : Nat) : Int) < ((p.cls.length : Nat) : Int) := by omega
      obtain ⟨a, cap, hv, -⟩ := HJ.out.slice
      subst hv
      have c1 := HJ.out.c1
      go_wp2
      go_end0
      exact ⟨rfl, HJ.out, HB.out⟩
end Go.Proofs.YtbbmgjcabmjjdaaGreatDoor
/- The document's own Load: cycles. -/
namespace Go.Proofs.YtbbmgjcabmjjdaaGreatDoor
open Go.RowKit

/-- What is above a class that is there is one, or nothing. -/
def SupOk (p : Pg) : Prop := ∀ k, isJ p k = true → supJ p k < 0 ∨ isJ p (supJ p k) = true
theorem sup_ok {p : Pg} (h : ∀ i, i < p.cls.length → bad1 p i = false) : SupOk p := fun k hk => by
  have hk2 : 0 ≤ k ∧ k < (11 + p.cls.length : Nat) := by simpa [isJ] using hk
  by_cases h1 : k < 11
  · rw [show supJ p k = bltJ k by simp [supJ, h1]]
    unfold bltJ
    split
    · left; omega
    · right
      split <;> simp [isJ] <;> omega
  · right
    rw [show supJ p k = (ofJ p k).sup by simp [supJ, h1]]
    have hb := h (k - 11).toNat (by omega)
    rw [bad1, show (11 : Int) + ((k - 11).toNat : Int) = k by omega] at hb
    simp at hb
    exact hb.1.1.1
theorem back_neg (p : Pg) (at_ x : Int) (h : x < 0) : ∀ f, backJ p at_ f x = false
  | 0 => rfl
  | f + 1 => by unfold backJ; simp; intro h2; omega
theorem back_on (p : Pg) (at_ x : Int) (h : 0 ≤ x) (f : Nat) : backJ p at_ (f + 1) x = (x == at_ || backJ p at_ f (supJ p x)) := by
  rw [backJ]; simp [h]

set_option maxHeartbeats 8000000 in
set_option maxRecDepth 20000 in
theorem jcycles_ok {w : World} {cb : Nat} {p : Pg} {S : Nat → Prop} {v : Value} {s : Fs} (h : Jc w cb p S v s) (hs : s.1 = 0 → SupOk p) : Calls Tryz.prog 17 #[.pointer (some ⟨cb, 0, none⟩)] w fun e w' => e = .returned (.tuple #[]) ∧ Jc w' cb p S v (runJ (bad2 p) 1501 s p.cls.length) ∧ Bx cb w w' := by
  have H0 : Hid (Jc w cb p S v s) := h
  have hn := h.ok.n
  have HS : Hid (s.1 = 0 → SupOk p) := hs
  obtain ⟨a, cap, hv, -⟩ := h.slice
  subst hv
  clear h hs
  go_enter Tryz.func17, Tryz.ntmps17
  go_wp2
  go_loopg [2] (p.cls.length + 1) (fun kx s2 wr => ∃ i : Nat, s2 = .int .i64 i ∧ i ≤ p.cls.length ∧ p.cls.length - i ≤ kx ∧ Hid (Jc wr cb p S (.slice a p.cls.length cap) (runJ (bad2 p) 1501 s i)) ∧ Hid (Bx cb w wr))
  case atStart => exact ⟨0, rfl, by omega, by omega, H0.out, Bx.refl _ _⟩
  case round =>
    obtain ⟨i, rfl, hi, hk, HJ, HB⟩ := hrel
    clear H0
    have c1 := HJ.out.c1
    have c2 := HJ.out.c2
    by_cases hlt : i < p.cls.length
    · have hl : (i : Int) < (p.cls.length : Int) := by omega
      by_cases h0 : (runJ (bad2 p) 1501 s i).1 = 0
      · have e0 : ((runJ (bad2 p) 1501 s i).1 == 0) = true := by simp [h0]
        have HSU : Hid (SupOk p) := HS.out (runJ_ok (by decide) h0).1
        obtain ⟨hu1, hu2, hu3⟩ := user_of hlt
        have hP := jsup_ok HJ.out hu3
        have HX0 : Hid (supJ p (11 + i) < 0 ∨ isJ p (supJ p (11 + i)) = true) := HSU.out _ hu3
        have HR : Hid (runJ (bad2 p) 1501 s (i + 1) = ftJ (runJ (bad2 p) 1501 s i) (backJ p (11 + (i : Int)) (p.cls.length + 1) (supJ p (11 + (i : Int)))) 1501 (11 + (i : Int))) := rfl
        clear h0 hu1 hu2 hu3 HS
        generalize runJ (bad2 p) 1501 s i = s1 at *
        obtain ⟨x0, hx0⟩ : ∃ x0, supJ p (11 + (i : Int)) = x0 := ⟨_, rfl⟩
        rw [hx0] at hP HX0 HR
        clear hx0
        obtain ⟨aw, haw⟩ : ∃ aw : Int, aw = 11 + (i : Int) := ⟨_, rfl⟩
        have haw2 : wrap64 (11 + (i : Int)) = aw := by unfold wrap64; omega
        go_wp2_with (go_at_call 45; refine hP.mono ?_; rintro e u1 ⟨rfl, hb1⟩; have HJ1 : Hid _ := HJ.out.below hb1; have HB1 : Hid (Bx cb w u1) := HB.out.low hb1; clear HJ HB hP hb1 c1 c2)
        go_loopg [4, 5] (p.cls.length + 2) (fun kx s4 s5 wr => ∃ (x : Int) (j : Nat) (bk : Bool), s4 = .int .i64 x ∧ s5 = .int .i64 j ∧ j ≤ p.cls.length + 1 ∧ p.cls.length + 1 - j ≤ kx ∧ Hid (x < 0 ∨ isJ p x = true) ∧ Hid (Jc wr cb p S (.slice a p.cls.length cap) (ftJ s1 bk 1501 (11 + (i : Int)))) ∧ Hid (Bx cb w wr) ∧ Hid (backJ p (11 + (i : Int)) (p.cls.length + 1) x0 = (bk || backJ p (11 + (i : Int)) (p.cls.length + 1 - j) x)))
        case atStart => exact ⟨x0, 0, false, rfl, rfl, by omega, by omega, HX0.out, by rw [ftJ_false]; exact HJ1.out, HB1.out, by show _ = _; simp⟩
        case round =>
          obtain ⟨x, j, bk, rfl, rfl, hj, hkj, HX, HJ, HB, HBK⟩ := hrel
          clear HJ1 HB1 HX0
          have c1 := HJ.out.c1
          by_cases hx : 0 ≤ x
          · have dx : decide (0 ≤ x) = true := by simp [hx]
            by_cases hjn : j ≤ p.cls.length
            · have hl2 : (j : Int) ≤ (p.cls.length : Int) := by omega
              have HIX : Hid (isJ p x = true) := HX.out.resolve_left (by omega)
              have HX2 : Hid _ := HSU.out x HIX.out
              have HF : Hid (∀ b, Calls Tryz.prog 42 #[.pointer (some ⟨cb, 0, none⟩), .bool b, .int .i64 1501, .int .i64 (11 + (i : Int))] wr fun e w' => e = .returned (.tuple #[]) ∧ Jc w' cb p S (.slice a p.cls.length cap) (ftJ s1 (bk || b) 1501 (11 + (i : Int))) ∧ Bx cb wr w') := fun b => by rw [← ftJ_or]; exact jfault_ok HJ.out b _ _
              have HBK2 : Hid (backJ p (11 + (i : Int)) (p.cls.length + 1) x0 = ((bk || x == 11 + (i : Int)) || backJ p (11 + (i : Int)) (p.cls.length + 1 - (j + 1)) (supJ p x))) := by
                show _ = _
                rw [HBK.out, show p.cls.length + 1 - j = (p.cls.length + 1 - (j + 1)) + 1 by omega, back_on _ _ _ hx, Bool.or_assoc]
              clear HBK HX HJ
              go_wp2_with (first
                | (go_at_call 42; refine (HF.out _).mono ?_; rintro e u2 ⟨rfl, hj2, hbx⟩; have HJ2 : Hid _ := hj2; have HB2 : Hid (Bx cb w u2) := HB.out.trans hbx; have hP2 := jsup_ok hj2 HIX.out; clear hj2 hbx HB HF)
                | (go_at_call 45; refine hP2.mono ?_; rintro e u3 ⟨rfl, hb3⟩; have HJ3 : Hid _ := HJ2.out.below hb3; have HB3 : Hid (Bx cb w u3) := HB2.out.low hb3; clear HJ2 HB2 hP2 hb3))
              go_roundg (p.cls.length + 1 - (j + 1))
              case measure => omega
              case rel => exact ⟨supJ p x, j + 1, _, rfl, by go_num, by omega, by omega, HX2.out, HJ3.out, HB3.out, HBK2.out⟩
            · have hl2 : ¬ (j : Int) ≤ (p.cls.length : Int) := by omega
              have HE : Hid (Jc wr cb p S (.slice a p.cls.length cap) (runJ (bad2 p) 1501 s (i + 1))) := by
                have := HBK.out
                rw [show p.cls.length + 1 - j = 0 by omega, backJ, Bool.or_false] at this
                show Jc _ _ _ _ _ _
                rw [HR.out, this]; exact HJ.out
              clear HBK HX HJ
              go_wp2_with (fail)
              go_roundg (p.cls.length - (i + 1))
              case measure => omega
              case rel => exact ⟨i + 1, by go_num, by omega, by omega, HE.out, HB.out⟩
          · have dx : decide (0 ≤ x) = false := by simp; omega
            have HE : Hid (Jc wr cb p S (.slice a p.cls.length cap) (runJ (bad2 p) 1501 s (i + 1))) := by
              have := HBK.out
              rw [back_neg p (11 + (i : Int)) x (by omega), Bool.or_false] at this
              show Jc _ _ _ _ _ _
              rw [HR.out, this]; exact HJ.out
            clear HBK HX HJ hx
            go_wp2_with (fail)
            go_roundg (p.cls.length - (i + 1))
            case measure => omega
            case rel => exact ⟨i + 1, by go_num, by omega, by omega, HE.out, HB.out⟩
      · have e0 : ((runJ (bad2 p) 1501 s i).1 == 0) = false := by simp [h0]
        have HE : Hid (runJ (bad2 p) 1501 s p.cls.length = runJ (bad2 p) 1501 s i) := runJ_stop h0 hi
        clear h0
        go_wp2
        go_end0
        exact ⟨rfl, by rw [HE.out]; exact HJ.out, HB.out⟩
    · have hn2 : i = p.cls.length := by omega
      subst hn2
      have hl : ¬ ((p.cls.length : Nat) : Int) < ((p.cls.length : Nat) : Int) := by omega
      go_wp2
      go_end0
      exact ⟨rfl, HJ.out, HB.out⟩
end Go.Proofs.YtbbmgjcabmjjdaaGreatDoor
/- The document's own Load: faces. -/
namespace Go.Proofs.YtbbmgjcabmjjdaaGreatDoor
open Go.RowKit

theorem any_take {α : Type} {xs : List α} {f : α → Bool} {i : Nat} {x : α} (hx : xs[i]? = some x) : (xs.take (i + 1)).any f = ((xs.take i).any f || f x) := by
  rw [List.take_add_one, hx]; simp
theorem any_full {α : Type} {xs : List α} {f : α → Bool} : (xs.take xs.length).any f = xs.any f := by rw [List.take_length]
/-- A method copied into a box of its own. -/
structure BoxM (w : World) (S : Nat → Prop) (mb : Nat) (m : Md) (f1 f2 f3 f4 : Option Addr) (g1 g2 g3 g4 : Nat) : Prop where
  box : w.heap[mb]? = some (.cells #[.string m.nm, .bool m.stc, .slice f1 m.args.length g1, .int .i64 m.ret, .int .i64 m.lo, .int .i64 m.st, .slice f2 m.code.length g2, .slice f3 m.tab.length g3, .slice f4 m.maps.length g4] 30 (0, 0))
  s1 : Sl kI w S (.slice f1 m.args.length g1) m.args
section
variable {w : World} {S : Nat → Prop} {mb : Nat} {m : Md} {f1 f2 f3 f4 : Option Addr} {g1 g2 g3 g4 : Nat}
theorem BoxM.lt (h : BoxM w S mb m f1 f2 f3 f4 g1 g2 g3 g4) : mb < w.heap.size := (Array.getElem?_eq_some_iff.1 h.box).1
theorem BoxM.keep (h : BoxM w S mb m f1 f2 f3 f4 g1 g2 g3 g4) {w' : World} (e1 : w'.heap[mb]? = w.heap[mb]?) (e : ∀ b, S b → w'.heap[b]? = w.heap[b]?) : BoxM w' S mb m f1 f2 f3 f4 g1 g2 g3 g4 := ⟨e1.trans h.box, h.s1.keep e⟩
theorem BoxM.cells (h : BoxM w S mb m f1 f2 f3 f4 g1 g2 g3 g4) : w.cell? ⟨mb, 0, none⟩ = some (.string m.nm) ∧ w.cell? ⟨mb, 1, none⟩ = some (.bool m.stc) ∧ w.cell? ⟨mb, 2, none⟩ = some (.slice f1 m.args.length g1) ∧ w.cell? ⟨mb, 3, none⟩ = some (.int .i64 m.ret) ∧ w.cell? ⟨mb, 4, none⟩ = some (.int .i64 m.lo) ∧ w.cell? ⟨mb, 6, none⟩ = some (.slice f2 m.code.length g2) ∧ w.cell? ⟨mb, 7, none⟩ = some (.slice f3 m.tab.length g3) ∧ w.cell? ⟨mb, 8, none⟩ = some (.slice f4 m.maps.length g4) := by
  have := h.box
  refine ⟨?_, ?_, ?_, ?_, ?_, ?_, ?_, ?_⟩ <;> simp [World.cell?, this]
/-- Method number j of a slice is copied into a new box. -/
theorem mth_at {a : Option Addr} {n cap : Nat} {ms : List Md} (h : Sl kMd w S (.slice a n cap) ms) (low : ∀ k, S k → k < w.heap.size) {j : Nat} {m : Md} (hm : ms[j]? = some m) : ∃ sb so f1 f2 f3 f4 g1 g2 g3 g4, a = some ⟨sb, so, none⟩ ∧
    (w.cell? ⟨sb, so + j * 9, none⟩ = some (.string m.nm) ∧ w.cell? ⟨sb, so + j * 9 + 1, none⟩ = some (.bool m.stc) ∧ w.cell? ⟨sb, so + j * 9 + 2, none⟩ = some (.slice f1 m.args.length g1) ∧ w.cell? ⟨sb, so + j * 9 + 3, none⟩ = some (.int .i64 m.ret) ∧ w.cell? ⟨sb, so + j * 9 + 4, none⟩ = some (.int .i64 m.lo) ∧ w.cell? ⟨sb, so + j * 9 + 5, none⟩ = some (.int .i64 m.st) ∧
    w.cell? ⟨sb, so + j * 9 + 6, none⟩ = some (.slice f2 m.code.length g2) ∧ w.cell? ⟨sb, so + j * 9 + 7, none⟩ = some (.slice f3 m.tab.length g3) ∧ w.cell? ⟨sb, so + j * 9 + 8, none⟩ = some (.slice f4 m.maps.length g4)) ∧ Sl kI w S (.slice f1 m.args.length g1) m.args ∧
    Hid (BoxM (w.alloc (.cells #[.string m.nm, .bool m.stc, .slice f1 m.args.length g1, .int .i64 m.ret, .int .i64 m.lo, .int .i64 m.st, .slice f2 m.code.length g2, .slice f3 m.tab.length g3, .slice f4 m.maps.length g4] 30)) S w.heap.size m f1 f2 f3 f4 g1 g2 g3 g4 ∧ Below w.heap.size w (w.alloc (.cells #[.string m.nm, .bool m.stc, .slice f1 m.args.length g1, .int .i64 m.ret, .int .i64 m.lo, .int .i64 m.st, .slice f2 m.code.length g2, .slice f3 m.tab.length g3, .slice f4 m.maps.length g4] 30))) := by
  obtain ⟨sb, so, rfl, hsb, ss, r1, hsd⟩ := h.atJ hm
  obtain ⟨o1, o2, o3, o4, rfl, j1, j2, j3, j4⟩ := r1
  have j1' := j1
  obtain ⟨f1, g1, rfl, -⟩ := j1'
  obtain ⟨f2, g2, rfl, -⟩ := j2
  obtain ⟨f3, g3, rfl, -⟩ := j3
  obtain ⟨f4, g4, rfl, -⟩ := j4
  have hr : ∀ k u, [Value.string m.nm, .bool m.stc, .slice f1 m.args.length g1, .int .i64 m.ret, .int .i64 m.lo, .int .i64 m.st, .slice f2 m.code.length g2, .slice f3 m.tab.length g3, .slice f4 m.maps.length g4][k]? = some u → w.cell? ⟨sb, so + j * 9 + k, none⟩ = some u := fun k u hu => by
    have := hsd k u hu; rw [show kMd.k = 9 from rfl, show so + (j * 9 + k) = so + j * 9 + k by omega] at this; exact this
  have t0 := hr 0 _ rfl
  rw [Nat.add_zero] at t0
  refine ⟨sb, so, f1, f2, f3, f4, g1, g2, g3, g4, rfl, ⟨t0, hr 1 _ rfl, hr 2 _ rfl, hr 3 _ rfl, hr 4 _ rfl, hr 5 _ rfl, hr 6 _ rfl, hr 7 _ rfl, hr 8 _ rfl⟩, j1, ?_⟩
  have hb : Below w.heap.size w (w.alloc (.cells #[.string m.nm, .bool m.stc, .slice f1 m.args.length g1, .int .i64 m.ret, .int .i64 m.lo, .int .i64 m.st, .slice f2 m.code.length g2, .slice f3 m.tab.length g3, .slice f4 m.maps.length g4] 30)) := (Below.refl _ _).alloc (Nat.le_refl _) _
  exact ⟨⟨heap_alloc_new _ _, j1.keep fun b hS => hb.block b (low b hS)⟩, hb⟩
end

set_option maxHeartbeats 8000000 in
set_option maxRecDepth 20000 in
theorem jfaces_ok {w : World} {cb : Nat} {p : Pg} {S : Nat → Prop} {v : Value} {s : Fs} (h : Jc w cb p S v s) : Calls Tryz.prog 18 #[.pointer (some ⟨cb, 0, none⟩)] w fun e w' => e = .returned (.tuple #[]) ∧ Jc w' cb p S v (runJ (bad3 p) 1502 s p.cls.length) ∧ Bx cb w w' := by
  have H0 : Hid (Jc w cb p S v s) := h
  have hn := h.ok.n
  clear h
  go_enter Tryz.func18, Tryz.ntmps18
  go_wp2
  go_loopg [2] (p.cls.length + 1) (fun kx s2 wr => ∃ i : Nat, s2 = .int .i64 i ∧ i ≤ p.cls.length ∧ p.cls.length - i ≤ kx ∧ Hid (Jc wr cb p S v (runJ (bad3 p) 1502 s i)) ∧ Hid (Bx cb w wr))
  case atStart => exact ⟨0, rfl, by omega, by omega, H0.out, Bx.refl _ _⟩
  case round =>
    obtain ⟨i, rfl, hi, hk, HJ, HB⟩ := hrel
    clear H0
    by_cases hlt : i < p.cls.length
    · obtain ⟨sb, so, cap, f1, f2, f3, f4, g1, g2, g3, g4, hv, ⟨t0, t1, t2, t3, t4, t5, t6, t7⟩, HU⟩ := HJ.out.cls hlt
      subst hv
      have c1 := HJ.out.c1
      have hl : (i : Int) < (p.cls.length : Int) := by omega
      have HR : Hid (runJ (bad3 p) 1502 s (i + 1) = ftJ (runJ (bad3 p) 1502 s i) (bad3 p i) 1502 (11 + (i : Int))) := rfl
      have HBD : Hid (bad3 p i = ((ofJ p (11 + i)).faces.any (fun f => !faceJ p f) || ((ofJ p (11 + i)).face && (((ofJ p (11 + i)).fin || decide (0 < (ofJ p (11 + i)).flds.length) || decide (0 < (ofJ p (11 + i)).stcs.length)) || (ofJ p (11 + i)).mds.any fun m => m.stc || decide (0 < m.code.length) || decide (0 < m.tab.length) || decide (0 < m.maps.length))))) := rfl
      have HOK : Hid (OkC (ofJ p (11 + (i : Int)))) := badOk HJ.out.ok (user_of hlt).2.1
      generalize ofJ p (11 + (i : Int)) = c at *
      generalize runJ (bad3 p) 1502 s i = s1 at *
      go_upto_region 4 with (fail)
      have hKx := HU.out; generalize wr.alloc (.cells #[.string c.nm, .bool c.face, .bool c.fin, .int .i64 c.sup, .slice f1 c.faces.length g1, .slice f2 c.flds.length g2, .slice f3 c.stcs.length g3, .slice f4 c.mds.length g4] 34) = y0 at hKx ⊢; have HB2 : Hid (Bx cb w y0) := HB.out.low hKx.2; replace hKx := hKx.1; obtain ⟨kb, hkb⟩ : ∃ kb, kb = wr.heap.size := ⟨_, rfl⟩; rw [← hkb] at hKx ⊢; have HK : Hid _ := hKx; clear hKx hkb HU HB
      generalize Value.agg #[.string c.nm, .bool c.face, .bool c.fin, .int .i64 c.sup, .slice f1 c.faces.length g1, .slice f2 c.flds.length g2, .slice f3 c.stcs.length g3, .slice f4 c.mds.length g4] = V25
      clear t0 t1 t2 t3 t4 t5 t6 t7 c1 HJ
      have nf := HOK.out.nfaces
      have nm := HOK.out.nmds
      go_wp2_with (fail)
      go_loopg [5] (c.faces.length + 1) (fun kx s5 wr => ∃ j : Nat, s5 = .int .i64 j ∧ j ≤ c.faces.length ∧ c.faces.length - j ≤ kx ∧ Hid (JK wr cb p S (.slice (some ⟨sb, so, none⟩) p.cls.length cap) (ftJ s1 ((c.faces.take j).any (fun f => !faceJ p f)) 1502 (11 + (i : Int))) kb c f1 f2 f3 f4 g1 g2 g3 g4) ∧ Hid (Bx cb w wr))
      case atStart => exact ⟨0, rfl, by omega, by omega, by simp only [List.take_zero, List.any_nil, ftJ_false]; exact HK.out, HB2.out⟩
      case round =>
        obtain ⟨j, rfl, hj, hkj, HJK, HB⟩ := hrel
        clear HK HB2
        obtain ⟨k1, k2, -, k4, k5, k6, k7⟩ := HJK.out.cells
        by_cases hjl : j < c.faces.length
        · obtain ⟨x, hx⟩ : ∃ c1, c.faces[j]? = some c1 := ⟨_, List.getElem?_eq_getElem hjl⟩
          obtain ⟨ab, ao, rfl, a0⟩ := HJK.out.bc.s1.int hx
          have hF := jface_ok HJK.out.jc x
          have hl2 : (j : Int) < (c.faces.length : Int) := by omega
          have HA : Hid ((c.faces.take (j + 1)).any (fun f => !faceJ p f) = ((c.faces.take j).any (fun f => !faceJ p f) || !faceJ p x)) := any_take hx
          clear hx
          go_wp2_with (first
            | (go_at_call 44; refine hF.mono ?_; rintro e u1 ⟨rfl, hb1⟩; have HK1 : Hid _ := HJK.out.below hb1; have HB1 : Hid (Bx cb w u1) := HB.out.low hb1; clear HJK HB hF hb1)
            | (go_at_call 42; refine (jfault_ok HK1.out.jc _ _ _).mono ?_; rintro e u2 ⟨rfl, hj2, hbx⟩; have HK2 : Hid _ := HK1.out.bx hbx hj2; have HB2 : Hid (Bx cb w u2) := HB1.out.trans hbx; clear hj2 hbx HK1 HB1))
          go_roundg (c.faces.length - (j + 1))
          case measure => omega
          case rel => exact ⟨j + 1, by go_num, by omega, by omega, by rw [HA.out, ← ftJ_or]; exact HK2.out, HB2.out⟩
        · have hj2 : j = c.faces.length := by omega
          subst hj2
          have hl2 : ¬ ((c.faces.length : Nat) : Int) < ((c.faces.length : Nat) : Int) := by omega
          have HK2 : Hid (JK wr cb p S (.slice (some ⟨sb, so, none⟩) p.cls.length cap) (ftJ s1 (c.faces.any (fun f => !faceJ p f)) 1502 (11 + (i : Int))) kb c f1 f2 f3 f4 g1 g2 g3 g4) := by have := HJK.out; rw [any_full] at this; exact this
          clear HJK
          rcases hfc : c.face with _ | _
          · have HT : Hid (bad3 p i = c.faces.any (fun f => !faceJ p f)) := by show _ = _; rw [HBD.out, hfc]; simp
            rw [hfc] at k1
            clear HBD hfc
            go_wp2_with (fail)
            go_roundg (p.cls.length - (i + 1))
            case measure => omega
            case rel => exact ⟨i + 1, by go_num, by omega, by omega, by rw [HR.out, HT.out]; exact HK2.out.jc, HB.out⟩
          · obtain ⟨B1, hB1⟩ : ∃ B, (c.fin || decide (0 < c.flds.length) || decide (0 < c.stcs.length)) = B := ⟨_, rfl⟩
            have HT0 : Hid ((c.fin || decide (0 < c.flds.length) || decide (0 < c.stcs.length)) = B1) := hB1
            have HT : Hid (bad3 p i = ((c.faces.any (fun f => !faceJ p f) || B1) || c.mds.any fun m => m.stc || decide (0 < m.code.length) || decide (0 < m.tab.length) || decide (0 < m.maps.length))) := by show _ = _; rw [HBD.out, hfc, hB1, Bool.true_and, Bool.or_assoc]
            rw [hfc] at k1
            clear HBD hfc hB1
            go_upto_region 10 with (fail)
            go_cut [] from 49 to 65 (fun wx => ∃ u2 : World, u2 = wx ∧ Hid (JK u2 cb p S (.slice (some ⟨sb, so, none⟩) p.cls.length cap) (ftJ (ftJ s1 (c.faces.any (fun f => !faceJ p f)) 1502 (11 + (i : Int))) B1 1502 (11 + (i : Int))) kb c f1 f2 f3 f4 g1 g2 g3 g4) ∧ Hid (Bx cb w u2))
            case first =>
              rcases e1 : c.fin with _ | _
              · rw [e1] at k2
                by_cases e2 : 0 < c.flds.length
                · have HE : Hid (B1 = true) := by show _ = _; rw [← HT0.out, e1]; simp [e2]
                  obtain ⟨n9, e3⟩ : ∃ n9, c.flds.length = n9 + 1 := ⟨c.flds.length - 1, by omega⟩
                  have z9 : (0 : Int) < (n9 : Int) + 1 := by omega
                  rw [e3] at k5
                  clear e3
                  clear e1 e2
                  go_wp2_with (go_at_call 42; refine (jfault_ok HK2.out.jc _ _ _).mono ?_; rintro e u2 ⟨rfl, hj2, hbx⟩; have HK3 : Hid _ := HK2.out.bx hbx hj2; have HB3 : Hid (Bx cb w u2) := HB.out.trans hbx; clear hj2 hbx)
                  go_meet
                  exact ⟨_, rfl, by rw [HE.out]; exact HK3.out, HB3.out⟩
                · have e3 : c.flds.length = 0 := by omega
                  rw [e3] at k5
                  clear e3
                  by_cases e4 : 0 < c.stcs.length
                  · have HE : Hid (B1 = true) := by show _ = _; rw [← HT0.out, e1]; simp [e4]
                    obtain ⟨n9, e5⟩ : ∃ n9, c.stcs.length = n9 + 1 := ⟨c.stcs.length - 1, by omega⟩
                    have z9 : (0 : Int) < (n9 : Int) + 1 := by omega
                    rw [e5] at k6
                    clear e5
                    clear e1 e2 e4
                    go_wp2_with (go_at_call 42; refine (jfault_ok HK2.out.jc _ _ _).mono ?_; rintro e u2 ⟨rfl, hj2, hbx⟩; have HK3 : Hid _ := HK2.out.bx hbx hj2; have HB3 : Hid (Bx cb w u2) := HB.out.trans hbx; clear hj2 hbx)
                    go_meet
                    exact ⟨_, rfl, by rw [HE.out]; exact HK3.out, HB3.out⟩
                  · have HE : Hid (B1 = false) := by show _ = _; rw [← HT0.out, e1, decide_eq_false e2, decide_eq_false e4]; rfl
                    have e5 : c.stcs.length = 0 := by omega
                    rw [e5] at k6
                    clear e5
                    clear e1 e2 e4
                    go_wp2_with (go_at_call 42; refine (jfault_ok HK2.out.jc _ _ _).mono ?_; rintro e u2 ⟨rfl, hj2, hbx⟩; have HK3 : Hid _ := HK2.out.bx hbx hj2; have HB3 : Hid (Bx cb w u2) := HB.out.trans hbx; clear hj2 hbx)
                    go_meet
                    exact ⟨_, rfl, by rw [HE.out]; exact HK3.out, HB3.out⟩
              · rw [e1] at k2
                have HE : Hid (B1 = true) := by show _ = _; rw [← HT0.out, e1]; simp
                clear e1
                go_wp2_with (go_at_call 42; refine (jfault_ok HK2.out.jc _ _ _).mono ?_; rintro e u2 ⟨rfl, hj2, hbx⟩; have HK3 : Hid _ := HK2.out.bx hbx hj2; have HB3 : Hid (Bx cb w u2) := HB.out.trans hbx; clear hj2 hbx)
                go_meet
                exact ⟨_, rfl, by rw [HE.out]; exact HK3.out, HB3.out⟩
            case rest =>
            obtain ⟨u2, hu2, HK3, HB3⟩ := hcut
            subst hu2
            clear k1 k2 k4 k5 k6 k7 HK2 HB HT0
            go_wp2_with (fail)
            go_loopg [6] (c.mds.length + 1) (fun kx s6 wr => ∃ j : Nat, s6 = .int .i64 j ∧ j ≤ c.mds.length ∧ c.mds.length - j ≤ kx ∧ Hid (JK wr cb p S (.slice (some ⟨sb, so, none⟩) p.cls.length cap) (ftJ s1 ((c.faces.any (fun f => !faceJ p f) || B1) || (c.mds.take j).any (fun m => m.stc || decide (0 < m.code.length) || decide (0 < m.tab.length) || decide (0 < m.maps.length))) 1502 (11 + (i : Int))) kb c f1 f2 f3 f4 g1 g2 g3 g4) ∧ Hid (Bx cb w wr))
            case atStart => exact ⟨0, rfl, by omega, by omega, by simp only [List.take_zero, List.any_nil, Bool.or_false]; rw [← ftJ_or]; exact HK3.out, HB3.out⟩
            case round =>
              obtain ⟨j, rfl, hj, hkj, HJK, HB⟩ := hrel
              clear HK3 HB3
              obtain ⟨-, -, -, -, -, -, k7⟩ := HJK.out.cells
              by_cases hjl : j < c.mds.length
              · obtain ⟨m, hm⟩ : ∃ c1, c.mds[j]? = some c1 := ⟨_, List.getElem?_eq_getElem hjl⟩
                obtain ⟨mb, mo, d1, d2, d3, d4, h1, h2, h3, h4, rfl, ⟨t0, t1, t2, t3, t4, t5, t6, t7, t8⟩, -, HM⟩ := mth_at HJK.out.bc.s4 HJK.out.jc.low hm
                have hl2 : (j : Int) < (c.mds.length : Int) := by omega
                obtain ⟨B2, hB2⟩ : ∃ B, (m.stc || decide (0 < m.code.length) || decide (0 < m.tab.length) || decide (0 < m.maps.length)) = B := ⟨_, rfl⟩
                have HT2 : Hid ((m.stc || decide (0 < m.code.length) || decide (0 < m.tab.length) || decide (0 < m.maps.length)) = B2) := hB2
                have HA : Hid ((c.mds.take (j + 1)).any (fun m => m.stc || decide (0 < m.code.length) || decide (0 < m.tab.length) || decide (0 < m.maps.length)) = ((c.mds.take j).any (fun m => m.stc || decide (0 < m.code.length) || decide (0 < m.tab.length) || decide (0 < m.maps.length)) || B2)) := by show _ = _; rw [any_take hm, hB2]
                clear hm hB2
                go_upto_region 15 with (fail)
                have hMx := HM.out
                generalize wr.alloc (.cells #[.string m.nm, .bool m.stc, .slice d1 m.args.length h1, .int .i64 m.ret, .int .i64 m.lo, .int .i64 m.st, .slice d2 m.code.length h2, .slice d3 m.tab.length h3, .slice d4 m.maps.length h4] 30) = y1 at hMx ⊢
                have HK4 : Hid _ := HJK.out.below hMx.2
                have HB4 : Hid (Bx cb w y1) := HB.out.low hMx.2
                obtain ⟨n0, n1, -, -, -, n6, n7, n8⟩ := hMx.1.cells
                have HW : Hid (∀ u3 s3, JK u3 cb p S (.slice (some ⟨sb, so, none⟩) p.cls.length cap) (ftJ s3 B2 1502 (11 + (i : Int))) kb c f1 f2 f3 (some ⟨mb, mo, none⟩) g1 g2 g3 g4 → JK u3 cb p S (.slice (some ⟨sb, so, none⟩) p.cls.length cap) (ftJ s3 B2 1502 (11 + (i : Int))) kb c f1 f2 f3 (some ⟨mb, mo, none⟩) g1 g2 g3 g4) := fun _ _ h => h
                clear t0 t1 t2 t3 t4 t5 t6 t7 t8 hMx HM HJK HB k7 HW
                obtain ⟨mbx, hmbx⟩ : ∃ mbx, mbx = wr.heap.size := ⟨_, rfl⟩
                rw [← hmbx] at n0 n1 n6 n7 n8 ⊢
                clear hmbx n0
                rcases e1 : m.stc with _ | _
                · rw [e1] at n1
                  by_cases e2 : 0 < m.code.length
                  · have HE : Hid (B2 = true) := by show _ = _; rw [← HT2.out, e1]; simp [e2]
                    obtain ⟨n9, e3⟩ : ∃ n9, m.code.length = n9 + 1 := ⟨m.code.length - 1, by omega⟩
                    have z9 : (0 : Int) < (n9 : Int) + 1 := by omega
                    rw [e3] at n6
                    clear e3
                    clear e1 e2
                    go_wp2_with (go_at_call 42; refine (jfault_ok HK4.out.jc _ _ _).mono ?_; rintro e u3 ⟨rfl, hj3, hbx⟩; have HK5 : Hid _ := HK4.out.bx hbx hj3; have HB5 : Hid (Bx cb w u3) := HB4.out.trans hbx; clear hj3 hbx HK4 HB4)
                    go_roundg (c.mds.length - (j + 1))
                    case measure => omega
                    case rel => exact ⟨j + 1, by go_num, by omega, by omega, by rw [HA.out, HE.out, ← Bool.or_assoc, ← ftJ_or]; exact HK5.out, HB5.out⟩
                  · have e3 : m.code.length = 0 := by omega
                    rw [e3] at n6
                    clear e3
                    by_cases e4 : 0 < m.tab.length
                    · have HE : Hid (B2 = true) := by show _ = _; rw [← HT2.out, e1]; simp [e4]
                      obtain ⟨n9, e5⟩ : ∃ n9, m.tab.length = n9 + 1 := ⟨m.tab.length - 1, by omega⟩
                      have z9 : (0 : Int) < (n9 : Int) + 1 := by omega
                      rw [e5] at n7
                      clear e5
                      clear e1 e2 e4
                      go_wp2_with (go_at_call 42; refine (jfault_ok HK4.out.jc _ _ _).mono ?_; rintro e u3 ⟨rfl, hj3, hbx⟩; have HK5 : Hid _ := HK4.out.bx hbx hj3; have HB5 : Hid (Bx cb w u3) := HB4.out.trans hbx; clear hj3 hbx HK4 HB4)
                      go_roundg (c.mds.length - (j + 1))
                      case measure => omega
                      case rel => exact ⟨j + 1, by go_num, by omega, by omega, by rw [HA.out, HE.out, ← Bool.or_assoc, ← ftJ_or]; exact HK5.out, HB5.out⟩
                    · have e5 : m.tab.length = 0 := by omega
                      rw [e5] at n7
                      clear e5
                      by_cases e6 : 0 < m.maps.length
                      · have HE : Hid (B2 = true) := by show _ = _; rw [← HT2.out, e1]; simp [e6]
                        obtain ⟨n9, e7⟩ : ∃ n9, m.maps.length = n9 + 1 := ⟨m.maps.length - 1, by omega⟩
                        have z9 : (0 : Int) < (n9 : Int) + 1 := by omega
                        rw [e7] at n8
                        clear e7
                        clear e1 e2 e4 e6
                        go_wp2_with (go_at_call 42; refine (jfault_ok HK4.out.jc _ _ _).mono ?_; rintro e u3 ⟨rfl, hj3, hbx⟩; have HK5 : Hid _ := HK4.out.bx hbx hj3; have HB5 : Hid (Bx cb w u3) := HB4.out.trans hbx; clear hj3 hbx HK4 HB4)
                        go_roundg (c.mds.length - (j + 1))
                        case measure => omega
                        case rel => exact ⟨j + 1, by go_num, by omega, by omega, by rw [HA.out, HE.out, ← Bool.or_assoc, ← ftJ_or]; exact HK5.out, HB5.out⟩
                      · have HE : Hid (B2 = false) := by show _ = _; rw [← HT2.out, e1, decide_eq_false e2, decide_eq_false e4, decide_eq_false e6]; rfl
                        have e7 : m.maps.length = 0 := by omega
                        rw [e7] at n8
                        clear e7
                        clear e1 e2 e4 e6
                        go_wp2_with (go_at_call 42; refine (jfault_ok HK4.out.jc _ _ _).mono ?_; rintro e u3 ⟨rfl, hj3, hbx⟩; have HK5 : Hid _ := HK4.out.bx hbx hj3; have HB5 : Hid (Bx cb w u3) := HB4.out.trans hbx; clear hj3 hbx HK4 HB4)
                        go_roundg (c.mds.length - (j + 1))
                        case measure => omega
                        case rel => exact ⟨j + 1, by go_num, by omega, by omega, by rw [HA.out, HE.out, ← Bool.or_assoc, ← ftJ_or]; exact HK5.out, HB5.out⟩
                · rw [e1] at n1
                  have HE : Hid (B2 = true) := by show _ = _; rw [← HT2.out, e1]; simp
                  clear e1
                  go_wp2_with (go_at_call 42; refine (jfault_ok HK4.out.jc _ _ _).mono ?_; rintro e u3 ⟨rfl, hj3, hbx⟩; have HK5 : Hid _ := HK4.out.bx hbx hj3; have HB5 : Hid (Bx cb w u3) := HB4.out.trans hbx; clear hj3 hbx HK4 HB4)
                  go_roundg (c.mds.length - (j + 1))
                  case measure => omega
                  case rel => exact ⟨j + 1, by go_num, by omega, by omega, by rw [HA.out, HE.out, ← Bool.or_assoc, ← ftJ_or]; exact HK5.out, HB5.out⟩
              · have hj2 : j = c.mds.length := by omega
                subst hj2
                have hl2 : ¬ ((c.mds.length : Nat) : Int) < ((c.mds.length : Nat) : Int) := by omega
                have HK2 : Hid (Jc wr cb p S (.slice (some ⟨sb, so, none⟩) p.cls.length cap) (runJ (bad3 p) 1502 s (i + 1))) := by have := HJK.out.jc; rw [any_full] at this; show Jc _ _ _ _ _ _; rw [HR.out, HT.out]; exact this
                clear HJK
                go_wp2_with (fail)
                go_roundg (p.cls.length - (i + 1))
                case measure => omega
                case rel => exact ⟨i + 1, by go_num, by omega, by omega, HK2.out, HB.out⟩
    · have hn2 : i = p.cls.length := by omega
      subst hn2
      have hl : ¬ ((p.cls.length : Nat) : Int) < ((p.cls.length : Nat) : Int) := by omega
      obtain ⟨a, cap, hv, -⟩ := HJ.out.slice
      subst hv
      have c1 := HJ.out.c1
      go_wp2
      go_end0
      exact ⟨rfl, HJ.out, HB.out⟩
end Go.Proofs.YtbbmgjcabmjjdaaGreatDoor
