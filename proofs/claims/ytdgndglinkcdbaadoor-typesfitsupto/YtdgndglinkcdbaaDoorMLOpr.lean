/- A program as an argument is read, how much there is of it, and that each int of it is an int64's. -/
import Derived.Test.YtdgndglinkcdbaaDoorMGOX
import Derived.Test.YtdgndglinkcdbaaDoorMGJ1
namespace Go.Proofs.YtdgndglinkcdbaaDoor
open Go.ChangeShapes Go.WideShapes Go.ChangeAt Go.RowKit Go.Deep

def rFd (x : Fd) : Prop := rg x.ty
def rIs (x : Is) : Prop := rg x.op ∧ rg x.a ∧ rg x.b
def rHd (x : Hd) : Prop := rg x.fr ∧ rg x.to ∧ rg x.at_ ∧ rg x.cl
def rMp (x : Mp) : Prop := rg x.at_ ∧ (∀ y ∈ x.lo, rg y) ∧ (∀ y ∈ x.st, rg y)
def rMd (x : Md) : Prop := (∀ y ∈ x.args, rg y) ∧ rg x.ret ∧ rg x.lo ∧ rg x.st ∧ (∀ y ∈ x.code, rIs y) ∧ (∀ y ∈ x.tab, rHd y) ∧ (∀ y ∈ x.maps, rMp y)
def rCs (x : Cs) : Prop := rg x.sup ∧ (∀ y ∈ x.faces, rg y) ∧ (∀ y ∈ x.flds, rFd y) ∧ (∀ y ∈ x.stcs, rFd y) ∧ (∀ y ∈ x.mds, rMd y)
def rPg (x : Pg) : Prop := rg x.main ∧ (∀ y ∈ x.cls, rCs y)
/-- A kind of which besides Q is known. -/
def kQ {α : Type} (K : Kd α) (Q : α → Prop) : Kd α where
  k := K.k
  uf := K.uf
  pos := K.pos
  R := fun w S x cs => K.R w S x cs ∧ Q x
  len := fun h => K.len h.1
  one := fun h => K.one h.1
  keep := fun e h => ⟨K.keep e h.1, h.2⟩
  mono := fun e h => ⟨K.mono e h.1, h.2⟩
theorem sl_q {α : Type} {K : Kd α} {Q : α → Prop} {W : World} {S : Nat → Prop} {v : Value} {xs : List α} (h : Sl (kQ K Q) W S v xs) : Sl K W S v xs ∧ ∀ x ∈ xs, Q x := by
  obtain ⟨ao, cap, hv, hn, h⟩ := h
  rcases h with h | ⟨b, o, h1, h2, h3, h4⟩
  · subst h
    exact ⟨⟨ao, cap, hv, hn, .inl rfl⟩, fun x hx => by cases hx⟩
  · refine ⟨⟨ao, cap, hv, hn, .inr ⟨b, o, h1, h2, h3, fun i x hi => ?_⟩⟩, fun x hx => ?_⟩
    · obtain ⟨cs, q1, q2⟩ := h4 i x hi
      exact ⟨cs, q1.1, q2⟩
    · obtain ⟨i, hi⟩ := List.getElem?_of_mem hx
      obtain ⟨cs, q1, -⟩ := h4 i x hi
      exact q1.2
theorem rg_wf {z : Int} (h : (Lit.int .i64 z).wf = true) : rg z := by
  simpa [Lit.wf, IntKind.min, IntKind.max, IntKind.bits, IntKind.signed, rg] using h
theorem openr_int {H : Type} {enc : TypeId × Value → H} {W : World} {n : Nat} {cs : List Value} {d : DataW H × List MemPlace} (h : DataW.trod enc Tryd.prog W 0 (fun _ => true) true n 3 cs = some d) : ∃ x, (kQ kI rg).R W (Al W) x cs ∧ wI x ≤ Rows.uptoBulk d.1 := by
  obtain ⟨z, rfl, rfl, r⟩ := DataW.trod_int Tryd.underlying3 h
  exact ⟨z, ⟨rfl, rg_wf r⟩, by simp [wI, Rows.uptoBulk]⟩
set_option maxRecDepth 100000 in
theorem openr_Field {H : Type} {enc : TypeId × Value → H} {W : World} {n : Nat} {cs : List Value} {d : DataW H × List MemPlace} (h : DataW.trod enc Tryd.prog W 0 (fun _ => true) true n 73 cs = some d) : ∃ x, (kQ kFd rFd).R W (Al W) x cs ∧ wFd x ≤ Rows.uptoBulk d.1 := by
  obtain ⟨xs, k, -, hd, hlen, hxl, hf⟩ := DataW.trod_struct Tryd.underlying73 h
  rw [cells_Field] at hlen
  have hxl2 : xs.length = 2 := hxl
  clear h hxl
  subst hd
  match cs, hlen, xs, hxl2 with
  | [c0, c1], _, [x0, x1], _ =>
    have g0 : DataW.trod enc Tryd.prog W 0 (fun _ => true) true k 9 ([c0, c1].take (Tryd.prog.cellsOf 9)) = some x0 := hf 0 _ rfl
    rw [cells_s] at g0
    change DataW.trod enc Tryd.prog W 0 (fun _ => true) true k 9 [c0] = some x0 at g0
    obtain ⟨z0, e0, d0, -⟩ := DataW.trod_string Tryd.underlying9 g0
    obtain rfl : c0 = _ := by injection e0
    have b0 : z0.size + 1 ≤ Rows.uptoBulk x0.1 := by rw [d0]; simp only [Rows.uptoBulk, Array.length_toList]; exact Nat.le_refl _
    have g1 : DataW.trod enc Tryd.prog W 0 (fun _ => true) true k 3 ([c1].take (Tryd.prog.cellsOf 3)) = some x1 := hf 1 _ rfl
    rw [cells_i] at g1
    change DataW.trod enc Tryd.prog W 0 (fun _ => true) true k 3 [c1] = some x1 at g1
    obtain ⟨z1, e1, -, r1⟩ := DataW.trod_int Tryd.underlying3 g1
    obtain rfl : c1 = _ := by injection e1
    refine ⟨⟨z0, z1⟩, ⟨rfl, rg_wf r1⟩, ?_⟩
    show wFd _ ≤ Rows.uptoBulk (.agg [x0.1, x1.1])
    simp only [Rows.uptoBulk, Rows.uptoBulkAll, wFd]
    omega
set_option maxRecDepth 100000 in
theorem openr_Ins {H : Type} {enc : TypeId × Value → H} {W : World} {n : Nat} {cs : List Value} {d : DataW H × List MemPlace} (h : DataW.trod enc Tryd.prog W 0 (fun _ => true) true n 64 cs = some d) : ∃ x, (kQ kIs rIs).R W (Al W) x cs ∧ wIs x ≤ Rows.uptoBulk d.1 := by
  obtain ⟨xs, k, -, hd, hlen, hxl, hf⟩ := DataW.trod_struct Tryd.underlying64 h
  rw [cells_Ins] at hlen
  have hxl2 : xs.length = 3 := hxl
  clear h hxl
  subst hd
  match cs, hlen, xs, hxl2 with
  | [c0, c1, c2], _, [x0, x1, x2], _ =>
    have g0 : DataW.trod enc Tryd.prog W 0 (fun _ => true) true k 3 ([c0, c1, c2].take (Tryd.prog.cellsOf 3)) = some x0 := hf 0 _ rfl
    rw [cells_i] at g0
    change DataW.trod enc Tryd.prog W 0 (fun _ => true) true k 3 [c0] = some x0 at g0
    obtain ⟨z0, e0, -, r0⟩ := DataW.trod_int Tryd.underlying3 g0
    obtain rfl : c0 = _ := by injection e0
    have g1 : DataW.trod enc Tryd.prog W 0 (fun _ => true) true k 3 ([c1, c2].take (Tryd.prog.cellsOf 3)) = some x1 := hf 1 _ rfl
    rw [cells_i] at g1
    change DataW.trod enc Tryd.prog W 0 (fun _ => true) true k 3 [c1] = some x1 at g1
    obtain ⟨z1, e1, -, r1⟩ := DataW.trod_int Tryd.underlying3 g1
    obtain rfl : c1 = _ := by injection e1
    have g2 : DataW.trod enc Tryd.prog W 0 (fun _ => true) true k 3 ([c2].take (Tryd.prog.cellsOf 3)) = some x2 := hf 2 _ rfl
    rw [cells_i] at g2
    change DataW.trod enc Tryd.prog W 0 (fun _ => true) true k 3 [c2] = some x2 at g2
    obtain ⟨z2, e2, -, r2⟩ := DataW.trod_int Tryd.underlying3 g2
    obtain rfl : c2 = _ := by injection e2
    refine ⟨⟨z0, z1, z2⟩, ⟨rfl, ⟨rg_wf r0, rg_wf r1, rg_wf r2⟩⟩, ?_⟩
    show wIs _ ≤ Rows.uptoBulk (.agg [x0.1, x1.1, x2.1])
    simp only [Rows.uptoBulk, Rows.uptoBulkAll, wIs]
    omega
set_option maxRecDepth 100000 in
theorem openr_Handler {H : Type} {enc : TypeId × Value → H} {W : World} {n : Nat} {cs : List Value} {d : DataW H × List MemPlace} (h : DataW.trod enc Tryd.prog W 0 (fun _ => true) true n 95 cs = some d) : ∃ x, (kQ kHd rHd).R W (Al W) x cs ∧ wHd x ≤ Rows.uptoBulk d.1 := by
  obtain ⟨xs, k, -, hd, hlen, hxl, hf⟩ := DataW.trod_struct Tryd.underlying95 h
  rw [cells_Handler] at hlen
  have hxl2 : xs.length = 4 := hxl
  clear h hxl
  subst hd
  match cs, hlen, xs, hxl2 with
  | [c0, c1, c2, c3], _, [x0, x1, x2, x3], _ =>
    have g0 : DataW.trod enc Tryd.prog W 0 (fun _ => true) true k 3 ([c0, c1, c2, c3].take (Tryd.prog.cellsOf 3)) = some x0 := hf 0 _ rfl
    rw [cells_i] at g0
    change DataW.trod enc Tryd.prog W 0 (fun _ => true) true k 3 [c0] = some x0 at g0
    obtain ⟨z0, e0, -, r0⟩ := DataW.trod_int Tryd.underlying3 g0
    obtain rfl : c0 = _ := by injection e0
    have g1 : DataW.trod enc Tryd.prog W 0 (fun _ => true) true k 3 ([c1, c2, c3].take (Tryd.prog.cellsOf 3)) = some x1 := hf 1 _ rfl
    rw [cells_i] at g1
    change DataW.trod enc Tryd.prog W 0 (fun _ => true) true k 3 [c1] = some x1 at g1
    obtain ⟨z1, e1, -, r1⟩ := DataW.trod_int Tryd.underlying3 g1
    obtain rfl : c1 = _ := by injection e1
    have g2 : DataW.trod enc Tryd.prog W 0 (fun _ => true) true k 3 ([c2, c3].take (Tryd.prog.cellsOf 3)) = some x2 := hf 2 _ rfl
    rw [cells_i] at g2
    change DataW.trod enc Tryd.prog W 0 (fun _ => true) true k 3 [c2] = some x2 at g2
    obtain ⟨z2, e2, -, r2⟩ := DataW.trod_int Tryd.underlying3 g2
    obtain rfl : c2 = _ := by injection e2
    have g3 : DataW.trod enc Tryd.prog W 0 (fun _ => true) true k 3 ([c3].take (Tryd.prog.cellsOf 3)) = some x3 := hf 3 _ rfl
    rw [cells_i] at g3
    change DataW.trod enc Tryd.prog W 0 (fun _ => true) true k 3 [c3] = some x3 at g3
    obtain ⟨z3, e3, -, r3⟩ := DataW.trod_int Tryd.underlying3 g3
    obtain rfl : c3 = _ := by injection e3
    refine ⟨⟨z0, z1, z2, z3⟩, ⟨rfl, ⟨rg_wf r0, rg_wf r1, rg_wf r2, rg_wf r3⟩⟩, ?_⟩
    show wHd _ ≤ Rows.uptoBulk (.agg [x0.1, x1.1, x2.1, x3.1])
    simp only [Rows.uptoBulk, Rows.uptoBulkAll, wHd]
    omega
set_option maxRecDepth 100000 in
theorem openr_Map {H : Type} {enc : TypeId × Value → H} {W : World} {n : Nat} {cs : List Value} {d : DataW H × List MemPlace} (h : DataW.trod enc Tryd.prog W 0 (fun _ => true) true n 97 cs = some d) : ∃ x, (kQ kMp rMp).R W (Al W) x cs ∧ wMp x ≤ Rows.uptoBulk d.1 := by
  obtain ⟨xs, k, -, hd, hlen, hxl, hf⟩ := DataW.trod_struct Tryd.underlying97 h
  rw [cells_Map] at hlen
  have hxl2 : xs.length = 3 := hxl
  clear h hxl
  subst hd
  match cs, hlen, xs, hxl2 with
  | [c0, c1, c2], _, [x0, x1, x2], _ =>
    have g0 : DataW.trod enc Tryd.prog W 0 (fun _ => true) true k 3 ([c0, c1, c2].take (Tryd.prog.cellsOf 3)) = some x0 := hf 0 _ rfl
    rw [cells_i] at g0
    change DataW.trod enc Tryd.prog W 0 (fun _ => true) true k 3 [c0] = some x0 at g0
    obtain ⟨z0, e0, -, r0⟩ := DataW.trod_int Tryd.underlying3 g0
    obtain rfl : c0 = _ := by injection e0
    have g1 : DataW.trod enc Tryd.prog W 0 (fun _ => true) true k 25 ([c1, c2].take (Tryd.prog.cellsOf 25)) = some x1 := hf 1 _ rfl
    rw [cells_Li] at g1
    change DataW.trod enc Tryd.prog W 0 (fun _ => true) true k 25 [c1] = some x1 at g1
    obtain ⟨v1, z1, e1, s1, b1⟩ := openw_sl (K := kQ kI rg) Tryd.underlying25 cells_int wI (fun _ _ _ => openr_int) g1
    obtain rfl : c1 = v1 := by injection e1
    obtain ⟨s1, r1⟩ := sl_q s1
    have g2 : DataW.trod enc Tryd.prog W 0 (fun _ => true) true k 25 ([c2].take (Tryd.prog.cellsOf 25)) = some x2 := hf 2 _ rfl
    rw [cells_Li] at g2
    change DataW.trod enc Tryd.prog W 0 (fun _ => true) true k 25 [c2] = some x2 at g2
    obtain ⟨v2, z2, e2, s2, b2⟩ := openw_sl (K := kQ kI rg) Tryd.underlying25 cells_int wI (fun _ _ _ => openr_int) g2
    obtain rfl : c2 = v2 := by injection e2
    obtain ⟨s2, r2⟩ := sl_q s2
    refine ⟨⟨z0, z1, z2⟩, ⟨⟨_, _, rfl, s1, s2⟩, ⟨rg_wf r0, r1, r2⟩⟩, ?_⟩
    show wMp _ ≤ Rows.uptoBulk (.agg [x0.1, x1.1, x2.1])
    simp only [Rows.uptoBulk, Rows.uptoBulkAll, wMp]
    omega
set_option maxRecDepth 100000 in
theorem openr_Method {H : Type} {enc : TypeId × Value → H} {W : World} {n : Nat} {cs : List Value} {d : DataW H × List MemPlace} (h : DataW.trod enc Tryd.prog W 0 (fun _ => true) true n 69 cs = some d) : ∃ x, (kQ kMd rMd).R W (Al W) x cs ∧ wMd x ≤ Rows.uptoBulk d.1 := by
  obtain ⟨xs, k, -, hd, hlen, hxl, hf⟩ := DataW.trod_struct Tryd.underlying69 h
  rw [cells_Method] at hlen
  have hxl2 : xs.length = 9 := hxl
  clear h hxl
  subst hd
  match cs, hlen, xs, hxl2 with
  | [c0, c1, c2, c3, c4, c5, c6, c7, c8], _, [x0, x1, x2, x3, x4, x5, x6, x7, x8], _ =>
    have g0 : DataW.trod enc Tryd.prog W 0 (fun _ => true) true k 9 ([c0, c1, c2, c3, c4, c5, c6, c7, c8].take (Tryd.prog.cellsOf 9)) = some x0 := hf 0 _ rfl
    rw [cells_s] at g0
    change DataW.trod enc Tryd.prog W 0 (fun _ => true) true k 9 [c0] = some x0 at g0
    obtain ⟨z0, e0, d0, -⟩ := DataW.trod_string Tryd.underlying9 g0
    obtain rfl : c0 = _ := by injection e0
    have b0 : z0.size + 1 ≤ Rows.uptoBulk x0.1 := by rw [d0]; simp only [Rows.uptoBulk, Array.length_toList]; exact Nat.le_refl _
    have g1 : DataW.trod enc Tryd.prog W 0 (fun _ => true) true k 4 ([c1, c2, c3, c4, c5, c6, c7, c8].take (Tryd.prog.cellsOf 4)) = some x1 := hf 1 _ rfl
    rw [cells_b] at g1
    change DataW.trod enc Tryd.prog W 0 (fun _ => true) true k 4 [c1] = some x1 at g1
    obtain ⟨z1, e1, -⟩ := DataW.trod_bool Tryd.underlying4 g1
    obtain rfl : c1 = _ := by injection e1
    have g2 : DataW.trod enc Tryd.prog W 0 (fun _ => true) true k 25 ([c2, c3, c4, c5, c6, c7, c8].take (Tryd.prog.cellsOf 25)) = some x2 := hf 2 _ rfl
    rw [cells_Li] at g2
    change DataW.trod enc Tryd.prog W 0 (fun _ => true) true k 25 [c2] = some x2 at g2
    obtain ⟨v2, z2, e2, s2, b2⟩ := openw_sl (K := kQ kI rg) Tryd.underlying25 cells_int wI (fun _ _ _ => openr_int) g2
    obtain rfl : c2 = v2 := by injection e2
    obtain ⟨s2, r2⟩ := sl_q s2
    have g3 : DataW.trod enc Tryd.prog W 0 (fun _ => true) true k 3 ([c3, c4, c5, c6, c7, c8].take (Tryd.prog.cellsOf 3)) = some x3 := hf 3 _ rfl
    rw [cells_i] at g3
    change DataW.trod enc Tryd.prog W 0 (fun _ => true) true k 3 [c3] = some x3 at g3
    obtain ⟨z3, e3, -, r3⟩ := DataW.trod_int Tryd.underlying3 g3
    obtain rfl : c3 = _ := by injection e3
    have g4 : DataW.trod enc Tryd.prog W 0 (fun _ => true) true k 3 ([c4, c5, c6, c7, c8].take (Tryd.prog.cellsOf 3)) = some x4 := hf 4 _ rfl
    rw [cells_i] at g4
    change DataW.trod enc Tryd.prog W 0 (fun _ => true) true k 3 [c4] = some x4 at g4
    obtain ⟨z4, e4, -, r4⟩ := DataW.trod_int Tryd.underlying3 g4
    obtain rfl : c4 = _ := by injection e4
    have g5 : DataW.trod enc Tryd.prog W 0 (fun _ => true) true k 3 ([c5, c6, c7, c8].take (Tryd.prog.cellsOf 3)) = some x5 := hf 5 _ rfl
    rw [cells_i] at g5
    change DataW.trod enc Tryd.prog W 0 (fun _ => true) true k 3 [c5] = some x5 at g5
    obtain ⟨z5, e5, -, r5⟩ := DataW.trod_int Tryd.underlying3 g5
    obtain rfl : c5 = _ := by injection e5
    have g6 : DataW.trod enc Tryd.prog W 0 (fun _ => true) true k 65 ([c6, c7, c8].take (Tryd.prog.cellsOf 65)) = some x6 := hf 6 _ rfl
    rw [cells_Ls] at g6
    change DataW.trod enc Tryd.prog W 0 (fun _ => true) true k 65 [c6] = some x6 at g6
    obtain ⟨v6, z6, e6, s6, b6⟩ := openw_sl (K := kQ kIs rIs) Tryd.underlying65 cells_Ins wIs (fun _ _ _ => openr_Ins) g6
    obtain rfl : c6 = v6 := by injection e6
    obtain ⟨s6, r6⟩ := sl_q s6
    have g7 : DataW.trod enc Tryd.prog W 0 (fun _ => true) true k 66 ([c7, c8].take (Tryd.prog.cellsOf 66)) = some x7 := hf 7 _ rfl
    rw [cells_Lh] at g7
    change DataW.trod enc Tryd.prog W 0 (fun _ => true) true k 66 [c7] = some x7 at g7
    obtain ⟨v7, z7, e7, s7, b7⟩ := openw_sl (K := kQ kHd rHd) Tryd.underlying66 cells_Handler wHd (fun _ _ _ => openr_Handler) g7
    obtain rfl : c7 = v7 := by injection e7
    obtain ⟨s7, r7⟩ := sl_q s7
    have g8 : DataW.trod enc Tryd.prog W 0 (fun _ => true) true k 67 ([c8].take (Tryd.prog.cellsOf 67)) = some x8 := hf 8 _ rfl
    rw [cells_Lm] at g8
    change DataW.trod enc Tryd.prog W 0 (fun _ => true) true k 67 [c8] = some x8 at g8
    obtain ⟨v8, z8, e8, s8, b8⟩ := openw_sl (K := kQ kMp rMp) Tryd.underlying67 cells_Map wMp (fun _ _ _ => openr_Map) g8
    obtain rfl : c8 = v8 := by injection e8
    obtain ⟨s8, r8⟩ := sl_q s8
    refine ⟨⟨z0, z1, z2, z3, z4, z5, z6, z7, z8⟩, ⟨⟨_, _, _, _, rfl, s2, s6, s7, s8⟩, ⟨r2, rg_wf r3, rg_wf r4, rg_wf r5, r6, r7, r8⟩⟩, ?_⟩
    show wMd _ ≤ Rows.uptoBulk (.agg [x0.1, x1.1, x2.1, x3.1, x4.1, x5.1, x6.1, x7.1, x8.1])
    simp only [Rows.uptoBulk, Rows.uptoBulkAll, wMd]
    omega
set_option maxRecDepth 100000 in
theorem openr_Class {H : Type} {enc : TypeId × Value → H} {W : World} {n : Nat} {cs : List Value} {d : DataW H × List MemPlace} (h : DataW.trod enc Tryd.prog W 0 (fun _ => true) true n 62 cs = some d) : ∃ x, (kQ kCs rCs).R W (Al W) x cs ∧ wCs x ≤ Rows.uptoBulk d.1 := by
  obtain ⟨xs, k, -, hd, hlen, hxl, hf⟩ := DataW.trod_struct Tryd.underlying62 h
  rw [cells_Class] at hlen
  have hxl2 : xs.length = 8 := hxl
  clear h hxl
  subst hd
  match cs, hlen, xs, hxl2 with
  | [c0, c1, c2, c3, c4, c5, c6, c7], _, [x0, x1, x2, x3, x4, x5, x6, x7], _ =>
    have g0 : DataW.trod enc Tryd.prog W 0 (fun _ => true) true k 9 ([c0, c1, c2, c3, c4, c5, c6, c7].take (Tryd.prog.cellsOf 9)) = some x0 := hf 0 _ rfl
    rw [cells_s] at g0
    change DataW.trod enc Tryd.prog W 0 (fun _ => true) true k 9 [c0] = some x0 at g0
    obtain ⟨z0, e0, d0, -⟩ := DataW.trod_string Tryd.underlying9 g0
    obtain rfl : c0 = _ := by injection e0
    have b0 : z0.size + 1 ≤ Rows.uptoBulk x0.1 := by rw [d0]; simp only [Rows.uptoBulk, Array.length_toList]; exact Nat.le_refl _
    have g1 : DataW.trod enc Tryd.prog W 0 (fun _ => true) true k 4 ([c1, c2, c3, c4, c5, c6, c7].take (Tryd.prog.cellsOf 4)) = some x1 := hf 1 _ rfl
    rw [cells_b] at g1
    change DataW.trod enc Tryd.prog W 0 (fun _ => true) true k 4 [c1] = some x1 at g1
    obtain ⟨z1, e1, -⟩ := DataW.trod_bool Tryd.underlying4 g1
    obtain rfl : c1 = _ := by injection e1
    have g2 : DataW.trod enc Tryd.prog W 0 (fun _ => true) true k 4 ([c2, c3, c4, c5, c6, c7].take (Tryd.prog.cellsOf 4)) = some x2 := hf 2 _ rfl
    rw [cells_b] at g2
    change DataW.trod enc Tryd.prog W 0 (fun _ => true) true k 4 [c2] = some x2 at g2
    obtain ⟨z2, e2, -⟩ := DataW.trod_bool Tryd.underlying4 g2
    obtain rfl : c2 = _ := by injection e2
    have g3 : DataW.trod enc Tryd.prog W 0 (fun _ => true) true k 3 ([c3, c4, c5, c6, c7].take (Tryd.prog.cellsOf 3)) = some x3 := hf 3 _ rfl
    rw [cells_i] at g3
    change DataW.trod enc Tryd.prog W 0 (fun _ => true) true k 3 [c3] = some x3 at g3
    obtain ⟨z3, e3, -, r3⟩ := DataW.trod_int Tryd.underlying3 g3
    obtain rfl : c3 = _ := by injection e3
    have g4 : DataW.trod enc Tryd.prog W 0 (fun _ => true) true k 25 ([c4, c5, c6, c7].take (Tryd.prog.cellsOf 25)) = some x4 := hf 4 _ rfl
    rw [cells_Li] at g4
    change DataW.trod enc Tryd.prog W 0 (fun _ => true) true k 25 [c4] = some x4 at g4
    obtain ⟨v4, z4, e4, s4, b4⟩ := openw_sl (K := kQ kI rg) Tryd.underlying25 cells_int wI (fun _ _ _ => openr_int) g4
    obtain rfl : c4 = v4 := by injection e4
    obtain ⟨s4, r4⟩ := sl_q s4
    have g5 : DataW.trod enc Tryd.prog W 0 (fun _ => true) true k 46 ([c5, c6, c7].take (Tryd.prog.cellsOf 46)) = some x5 := hf 5 _ rfl
    rw [cells_Lf] at g5
    change DataW.trod enc Tryd.prog W 0 (fun _ => true) true k 46 [c5] = some x5 at g5
    obtain ⟨v5, z5, e5, s5, b5⟩ := openw_sl (K := kQ kFd rFd) Tryd.underlying46 cells_Field wFd (fun _ _ _ => openr_Field) g5
    obtain rfl : c5 = v5 := by injection e5
    obtain ⟨s5, r5⟩ := sl_q s5
    have g6 : DataW.trod enc Tryd.prog W 0 (fun _ => true) true k 46 ([c6, c7].take (Tryd.prog.cellsOf 46)) = some x6 := hf 6 _ rfl
    rw [cells_Lf] at g6
    change DataW.trod enc Tryd.prog W 0 (fun _ => true) true k 46 [c6] = some x6 at g6
    obtain ⟨v6, z6, e6, s6, b6⟩ := openw_sl (K := kQ kFd rFd) Tryd.underlying46 cells_Field wFd (fun _ _ _ => openr_Field) g6
    obtain rfl : c6 = v6 := by injection e6
    obtain ⟨s6, r6⟩ := sl_q s6
    have g7 : DataW.trod enc Tryd.prog W 0 (fun _ => true) true k 60 ([c7].take (Tryd.prog.cellsOf 60)) = some x7 := hf 7 _ rfl
    rw [cells_Le] at g7
    change DataW.trod enc Tryd.prog W 0 (fun _ => true) true k 60 [c7] = some x7 at g7
    obtain ⟨v7, z7, e7, s7, b7⟩ := openw_sl (K := kQ kMd rMd) Tryd.underlying60 cells_Method wMd (fun _ _ _ => openr_Method) g7
    obtain rfl : c7 = v7 := by injection e7
    obtain ⟨s7, r7⟩ := sl_q s7
    refine ⟨⟨z0, z1, z2, z3, z4, z5, z6, z7⟩, ⟨⟨_, _, _, _, rfl, s4, s5, s6, s7⟩, ⟨rg_wf r3, r4, r5, r6, r7⟩⟩, ?_⟩
    show wCs _ ≤ Rows.uptoBulk (.agg [x0.1, x1.1, x2.1, x3.1, x4.1, x5.1, x6.1, x7.1])
    simp only [Rows.uptoBulk, Rows.uptoBulkAll, wCs]
    omega
set_option maxRecDepth 100000 in
theorem openr_Program {H : Type} {enc : TypeId × Value → H} {W : World} {n : Nat} {cs : List Value} {d : DataW H × List MemPlace} (h : DataW.trod enc Tryd.prog W 0 (fun _ => true) true n 24 cs = some d) : ∃ x, (kQ kPg rPg).R W (Al W) x cs ∧ wPg x ≤ Rows.uptoBulk d.1 := by
  obtain ⟨xs, k, -, hd, hlen, hxl, hf⟩ := DataW.trod_struct Tryd.underlying24 h
  rw [cells_Program] at hlen
  have hxl2 : xs.length = 2 := hxl
  clear h hxl
  subst hd
  match cs, hlen, xs, hxl2 with
  | [c0, c1], _, [x0, x1], _ =>
    have g0 : DataW.trod enc Tryd.prog W 0 (fun _ => true) true k 3 ([c0, c1].take (Tryd.prog.cellsOf 3)) = some x0 := hf 0 _ rfl
    rw [cells_i] at g0
    change DataW.trod enc Tryd.prog W 0 (fun _ => true) true k 3 [c0] = some x0 at g0
    obtain ⟨z0, e0, -, r0⟩ := DataW.trod_int Tryd.underlying3 g0
    obtain rfl : c0 = _ := by injection e0
    have g1 : DataW.trod enc Tryd.prog W 0 (fun _ => true) true k 22 ([c1].take (Tryd.prog.cellsOf 22)) = some x1 := hf 1 _ rfl
    rw [cells_Lc] at g1
    change DataW.trod enc Tryd.prog W 0 (fun _ => true) true k 22 [c1] = some x1 at g1
    obtain ⟨v1, z1, e1, s1, b1⟩ := openw_sl (K := kQ kCs rCs) Tryd.underlying22 cells_Class wCs (fun _ _ _ => openr_Class) g1
    obtain rfl : c1 = v1 := by injection e1
    obtain ⟨s1, r1⟩ := sl_q s1
    refine ⟨⟨z0, z1⟩, ⟨⟨_, rfl, s1⟩, ⟨rg_wf r0, r1⟩⟩, ?_⟩
    show wPg _ ≤ Rows.uptoBulk (.agg [x0.1, x1.1])
    simp only [Rows.uptoBulk, Rows.uptoBulkAll, wPg]
    omega
set_option maxRecDepth 100000 in
theorem openr_prog {H : Type} {enc : TypeId × Value → H} {W : World} {r : Reach} {b0 : Nat} {v : Value} {d : DataW H} {ps : List MemPlace} (hval : Value.okWide Tryd.prog W r b0 24 v) (h : DataW.Trod enc Tryd.prog W 0 (fun _ => true) true 24 v d ps) : ∃ p cs, v = .agg (List.toArray cs) ∧ kPg.R W (Al W) p cs ∧ wPg p ≤ Rows.uptoBulk d ∧ rPg p := by
  obtain ⟨cs, rfl, -⟩ := okWide_struct Tryd.underlying24 hval
  obtain ⟨n, hn⟩ := h
  obtain ⟨p, hp, hw⟩ := openr_Program hn
  have hp' : kPg.R W (Al W) p cs.toList ∧ rPg p := by simpa [Value.cells, kQ] using hp
  exact ⟨p, cs.toList, by simp, hp'.1, hw, hp'.2⟩
end Go.Proofs.YtdgndglinkcdbaaDoor
