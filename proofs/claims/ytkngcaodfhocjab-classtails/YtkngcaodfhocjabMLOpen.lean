/- A program as an argument is read: what lies in memory, whatever it is. -/
import Derived.Test.YtkngcaodfhocjabMAFrame
import Derived.Test.YtkngcaodfhocjabMLMem
import Derived.SizedLaws
namespace Go.Proofs.Ytkngcaodfhocjab
open Go.ChangeShapes Go.WideShapes Go.ChangeAt Go.RowKit Go.Deep

/-- All blocks that are there. -/
def Al (W : World) (b : Nat) : Prop := b < W.heap.size
theorem list_of {α : Type} {P : Nat → α → Prop} : ∀ n, (∀ i, i < n → ∃ x, P i x) → ∃ xs : List α, xs.length = n ∧ ∀ i x, xs[i]? = some x → P i x
  | 0, _ => ⟨[], rfl, fun i x h => by simp at h⟩
  | n + 1, h => by
    obtain ⟨xs, e, hx⟩ := list_of n fun i hi => h i (by omega)
    obtain ⟨y, hy⟩ := h n (by omega)
    refine ⟨xs ++ [y], by simp [e], fun i x hi => ?_⟩
    by_cases hl : i < n
    · rw [List.getElem?_append_left (by omega)] at hi; exact hx i x hi
    · rw [List.getElem?_append_right (by omega)] at hi
      have e2 : i = n := by
        apply Classical.byContradiction
        intro hn
        rw [List.getElem?_eq_none (by simp; omega)] at hi
        cases hi
      subst e2
      rw [e, Nat.sub_self] at hi
      simp at hi; subst hi; exact hy
theorem lt_blk {w : World} {a : Addr} {v : Value} (h : w.cell? a = some v) : a.block < w.heap.size := by
  apply Nat.lt_of_not_le
  intro hn
  have e : w.heap[a.block]? = none := Array.getElem?_eq_none hn
  simp only [World.cell?, e] at h
  cases h
theorem open_sl {H : Type} {enc : TypeId × Value → H} {α : Type} {K : Kd α} {W : World} {Ts T : TypeId} (hu : Try.prog.underlying Ts = some (.slice T)) (hk : Try.prog.cellsOf T = K.k)
    (hE : ∀ n cs (d : DataW H × List MemPlace), DataW.trod enc Try.prog W 0 (fun _ => true) true n T cs = some d → ∃ x, K.R W (Al W) x cs)
    {n : Nat} {cs : List Value} {d : DataW H × List MemPlace} (h : DataW.trod enc Try.prog W 0 (fun _ => true) true n Ts cs = some d) : ∃ v xs, cs = [v] ∧ Sl K W (Al W) v xs := by
  rcases open_slice hu h with ⟨rfl, _⟩ | ⟨a, len, cap, m, k, D, Pl, rfl, _, hl, hm, hmm, _, hx⟩
  · exact ⟨_, [], rfl, Sl.nil K W _⟩
  · simp only [if_true] at hmm
    subst hmm
    obtain ⟨xs, hxl, hxs⟩ := list_of (P := fun i x => ∃ cs', K.R W (Al W) x cs' ∧ ∀ j u, cs'[j]? = some u → W.cell? (a.add (i * K.k + j)) = some u) len fun i hi => by
      obtain ⟨cs', h1, h2⟩ := hx i (by omega)
      rw [hk] at h1
      obtain ⟨_, hlen, hcell⟩ := World.cells?_some h1
      obtain ⟨x, hR⟩ := hE _ _ _ h2
      refine ⟨x, cs', hR, fun j u hj => ?_⟩
      have hjl : j < K.k := by
        have := (List.getElem?_eq_some_iff.1 hj).1
        rw [K.len hR] at this; exact this
      have := hcell j hjl
      rw [add_add] at this
      rw [this]; exact hj
    refine ⟨_, xs, rfl, some a, m, by rw [hxl], by rw [hxl]; exact Nat.le_trans hl hm, ?_⟩
    cases xs with
    | nil => exact .inl rfl
    | cons y ys =>
      right
      obtain ⟨cs', r1, r2⟩ := hxs 0 y rfl
      have hp : 0 < cs'.length := by rw [K.len r1]; exact K.pos
      have c0 := r2 0 _ (List.getElem?_eq_getElem hp)
      have hb := lt_blk c0
      obtain ⟨b, o, spot⟩ := a
      have hspot : spot = none := by simpa [Addr.add] using World.cell?_spot c0
      subst hspot
      refine ⟨b, o, rfl, by simpa [Al, Addr.add] using hb, by simpa [Addr.add] using hb, fun i x hi => ?_⟩
      obtain ⟨cs2, q1, q2⟩ := hxs i x hi
      exact ⟨cs2, q1, fun j u hu => by have := q2 j u hu; rw [add_plain] at this; exact this⟩
theorem cells_i : Try.prog.cellsOf 3 = 1 := by kernel_rfl
theorem cells_int : Try.prog.cellsOf 3 = kI.k := by kernel_rfl
theorem cells_s : Try.prog.cellsOf 9 = 1 := by kernel_rfl
theorem cells_b : Try.prog.cellsOf 4 = 1 := by kernel_rfl
theorem open_int1 {H : Type} {enc : TypeId × Value → H} {W : World} {n : Nat} {cs : List Value} {d : DataW H × List MemPlace} (h : DataW.trod enc Try.prog W 0 (fun _ => true) true n 3 cs = some d) : ∃ x, kI.R W (Al W) x cs := by
  obtain ⟨z, rfl, -, -⟩ := DataW.trod_int Try.underlying3 h
  exact ⟨z, rfl⟩
theorem cells_Li : Try.prog.cellsOf 28 = 1 := by kernel_rfl
theorem cells_Ls : Try.prog.cellsOf 29 = 1 := by kernel_rfl
theorem cells_Lh : Try.prog.cellsOf 30 = 1 := by kernel_rfl
theorem cells_Lm : Try.prog.cellsOf 31 = 1 := by kernel_rfl
theorem cells_Lf : Try.prog.cellsOf 34 = 1 := by kernel_rfl
theorem cells_Le : Try.prog.cellsOf 35 = 1 := by kernel_rfl
theorem cells_Lc : Try.prog.cellsOf 23 = 1 := by kernel_rfl
theorem cells_Field : Try.prog.cellsOf 88 = 2 := by kernel_rfl
set_option maxRecDepth 100000 in
theorem open_Field {H : Type} {enc : TypeId × Value → H} {W : World} {n : Nat} {cs : List Value} {d : DataW H × List MemPlace} (h : DataW.trod enc Try.prog W 0 (fun _ => true) true n 88 cs = some d) : ∃ x, kFd.R W (Al W) x cs := by
  obtain ⟨xs, k, -, -, hlen, hxl, hf⟩ := DataW.trod_struct Try.underlying88 h
  rw [cells_Field] at hlen
  have hxl2 : xs.length = 2 := hxl
  clear h hxl
  match cs, hlen, xs, hxl2 with
  | [c0, c1], _, [x0, x1], _ =>
    have g0 : DataW.trod enc Try.prog W 0 (fun _ => true) true k 9 ([c0, c1].take (Try.prog.cellsOf 9)) = some x0 := hf 0 _ rfl
    rw [cells_s] at g0
    change DataW.trod enc Try.prog W 0 (fun _ => true) true k 9 [c0] = some x0 at g0
    obtain ⟨z0, e0, -, -⟩ := DataW.trod_string Try.underlying9 g0
    obtain rfl : c0 = _ := by injection e0
    have g1 : DataW.trod enc Try.prog W 0 (fun _ => true) true k 3 ([c1].take (Try.prog.cellsOf 3)) = some x1 := hf 1 _ rfl
    rw [cells_i] at g1
    change DataW.trod enc Try.prog W 0 (fun _ => true) true k 3 [c1] = some x1 at g1
    obtain ⟨z1, e1, -, -⟩ := DataW.trod_int Try.underlying3 g1
    obtain rfl : c1 = _ := by injection e1
    exact ⟨⟨z0, z1⟩, rfl⟩
theorem cells_Ins : Try.prog.cellsOf 39 = 3 := by kernel_rfl
set_option maxRecDepth 100000 in
theorem open_Ins {H : Type} {enc : TypeId × Value → H} {W : World} {n : Nat} {cs : List Value} {d : DataW H × List MemPlace} (h : DataW.trod enc Try.prog W 0 (fun _ => true) true n 39 cs = some d) : ∃ x, kIs.R W (Al W) x cs := by
  obtain ⟨xs, k, -, -, hlen, hxl, hf⟩ := DataW.trod_struct Try.underlying39 h
  rw [cells_Ins] at hlen
  have hxl2 : xs.length = 3 := hxl
  clear h hxl
  match cs, hlen, xs, hxl2 with
  | [c0, c1, c2], _, [x0, x1, x2], _ =>
    have g0 : DataW.trod enc Try.prog W 0 (fun _ => true) true k 3 ([c0, c1, c2].take (Try.prog.cellsOf 3)) = some x0 := hf 0 _ rfl
    rw [cells_i] at g0
    change DataW.trod enc Try.prog W 0 (fun _ => true) true k 3 [c0] = some x0 at g0
    obtain ⟨z0, e0, -, -⟩ := DataW.trod_int Try.underlying3 g0
    obtain rfl : c0 = _ := by injection e0
    have g1 : DataW.trod enc Try.prog W 0 (fun _ => true) true k 3 ([c1, c2].take (Try.prog.cellsOf 3)) = some x1 := hf 1 _ rfl
    rw [cells_i] at g1
    change DataW.trod enc Try.prog W 0 (fun _ => true) true k 3 [c1] = some x1 at g1
    obtain ⟨z1, e1, -, -⟩ := DataW.trod_int Try.underlying3 g1
    obtain rfl : c1 = _ := by injection e1
    have g2 : DataW.trod enc Try.prog W 0 (fun _ => true) true k 3 ([c2].take (Try.prog.cellsOf 3)) = some x2 := hf 2 _ rfl
    rw [cells_i] at g2
    change DataW.trod enc Try.prog W 0 (fun _ => true) true k 3 [c2] = some x2 at g2
    obtain ⟨z2, e2, -, -⟩ := DataW.trod_int Try.underlying3 g2
    obtain rfl : c2 = _ := by injection e2
    exact ⟨⟨z0, z1, z2⟩, rfl⟩
theorem cells_Handler : Try.prog.cellsOf 43 = 4 := by kernel_rfl
set_option maxRecDepth 100000 in
theorem open_Handler {H : Type} {enc : TypeId × Value → H} {W : World} {n : Nat} {cs : List Value} {d : DataW H × List MemPlace} (h : DataW.trod enc Try.prog W 0 (fun _ => true) true n 43 cs = some d) : ∃ x, kHd.R W (Al W) x cs := by
  obtain ⟨xs, k, -, -, hlen, hxl, hf⟩ := DataW.trod_struct Try.underlying43 h
  rw [cells_Handler] at hlen
  have hxl2 : xs.length = 4 := hxl
  clear h hxl
  match cs, hlen, xs, hxl2 with
  | [c0, c1, c2, c3], _, [x0, x1, x2, x3], _ =>
    have g0 : DataW.trod enc Try.prog W 0 (fun _ => true) true k 3 ([c0, c1, c2, c3].take (Try.prog.cellsOf 3)) = some x0 := hf 0 _ rfl
    rw [cells_i] at g0
    change DataW.trod enc Try.prog W 0 (fun _ => true) true k 3 [c0] = some x0 at g0
    obtain ⟨z0, e0, -, -⟩ := DataW.trod_int Try.underlying3 g0
    obtain rfl : c0 = _ := by injection e0
    have g1 : DataW.trod enc Try.prog W 0 (fun _ => true) true k 3 ([c1, c2, c3].take (Try.prog.cellsOf 3)) = some x1 := hf 1 _ rfl
    rw [cells_i] at g1
    change DataW.trod enc Try.prog W 0 (fun _ => true) true k 3 [c1] = some x1 at g1
    obtain ⟨z1, e1, -, -⟩ := DataW.trod_int Try.underlying3 g1
    obtain rfl : c1 = _ := by injection e1
    have g2 : DataW.trod enc Try.prog W 0 (fun _ => true) true k 3 ([c2, c3].take (Try.prog.cellsOf 3)) = some x2 := hf 2 _ rfl
    rw [cells_i] at g2
    change DataW.trod enc Try.prog W 0 (fun _ => true) true k 3 [c2] = some x2 at g2
    obtain ⟨z2, e2, -, -⟩ := DataW.trod_int Try.underlying3 g2
    obtain rfl : c2 = _ := by injection e2
    have g3 : DataW.trod enc Try.prog W 0 (fun _ => true) true k 3 ([c3].take (Try.prog.cellsOf 3)) = some x3 := hf 3 _ rfl
    rw [cells_i] at g3
    change DataW.trod enc Try.prog W 0 (fun _ => true) true k 3 [c3] = some x3 at g3
    obtain ⟨z3, e3, -, -⟩ := DataW.trod_int Try.underlying3 g3
    obtain rfl : c3 = _ := by injection e3
    exact ⟨⟨z0, z1, z2, z3⟩, rfl⟩
theorem cells_Map : Try.prog.cellsOf 41 = 3 := by kernel_rfl
set_option maxRecDepth 100000 in
theorem open_Map {H : Type} {enc : TypeId × Value → H} {W : World} {n : Nat} {cs : List Value} {d : DataW H × List MemPlace} (h : DataW.trod enc Try.prog W 0 (fun _ => true) true n 41 cs = some d) : ∃ x, kMp.R W (Al W) x cs := by
  obtain ⟨xs, k, -, -, hlen, hxl, hf⟩ := DataW.trod_struct Try.underlying41 h
  rw [cells_Map] at hlen
  have hxl2 : xs.length = 3 := hxl
  clear h hxl
  match cs, hlen, xs, hxl2 with
  | [c0, c1, c2], _, [x0, x1, x2], _ =>
    have g0 : DataW.trod enc Try.prog W 0 (fun _ => true) true k 3 ([c0, c1, c2].take (Try.prog.cellsOf 3)) = some x0 := hf 0 _ rfl
    rw [cells_i] at g0
    change DataW.trod enc Try.prog W 0 (fun _ => true) true k 3 [c0] = some x0 at g0
    obtain ⟨z0, e0, -, -⟩ := DataW.trod_int Try.underlying3 g0
    obtain rfl : c0 = _ := by injection e0
    have g1 : DataW.trod enc Try.prog W 0 (fun _ => true) true k 28 ([c1, c2].take (Try.prog.cellsOf 28)) = some x1 := hf 1 _ rfl
    rw [cells_Li] at g1
    change DataW.trod enc Try.prog W 0 (fun _ => true) true k 28 [c1] = some x1 at g1
    obtain ⟨v1, z1, e1, s1⟩ := open_sl Try.underlying28 cells_int (fun _ _ _ => open_int1) g1
    obtain rfl : c1 = v1 := by injection e1
    have g2 : DataW.trod enc Try.prog W 0 (fun _ => true) true k 28 ([c2].take (Try.prog.cellsOf 28)) = some x2 := hf 2 _ rfl
    rw [cells_Li] at g2
    change DataW.trod enc Try.prog W 0 (fun _ => true) true k 28 [c2] = some x2 at g2
    obtain ⟨v2, z2, e2, s2⟩ := open_sl Try.underlying28 cells_int (fun _ _ _ => open_int1) g2
    obtain rfl : c2 = v2 := by injection e2
    exact ⟨⟨z0, z1, z2⟩, _, _, rfl, s1, s2⟩
theorem cells_Method : Try.prog.cellsOf 33 = 9 := by kernel_rfl
set_option maxRecDepth 100000 in
theorem open_Method {H : Type} {enc : TypeId × Value → H} {W : World} {n : Nat} {cs : List Value} {d : DataW H × List MemPlace} (h : DataW.trod enc Try.prog W 0 (fun _ => true) true n 33 cs = some d) : ∃ x, kMd.R W (Al W) x cs := by
  obtain ⟨xs, k, -, -, hlen, hxl, hf⟩ := DataW.trod_struct Try.underlying33 h
  rw [cells_Method] at hlen
  have hxl2 : xs.length = 9 := hxl
  clear h hxl
  match cs, hlen, xs, hxl2 with
  | [c0, c1, c2, c3, c4, c5, c6, c7, c8], _, [x0, x1, x2, x3, x4, x5, x6, x7, x8], _ =>
    have g0 : DataW.trod enc Try.prog W 0 (fun _ => true) true k 9 ([c0, c1, c2, c3, c4, c5, c6, c7, c8].take (Try.prog.cellsOf 9)) = some x0 := hf 0 _ rfl
    rw [cells_s] at g0
    change DataW.trod enc Try.prog W 0 (fun _ => true) true k 9 [c0] = some x0 at g0
    obtain ⟨z0, e0, -, -⟩ := DataW.trod_string Try.underlying9 g0
    obtain rfl : c0 = _ := by injection e0
    have g1 : DataW.trod enc Try.prog W 0 (fun _ => true) true k 4 ([c1, c2, c3, c4, c5, c6, c7, c8].take (Try.prog.cellsOf 4)) = some x1 := hf 1 _ rfl
    rw [cells_b] at g1
    change DataW.trod enc Try.prog W 0 (fun _ => true) true k 4 [c1] = some x1 at g1
    obtain ⟨z1, e1, -⟩ := DataW.trod_bool Try.underlying4 g1
    obtain rfl : c1 = _ := by injection e1
    have g2 : DataW.trod enc Try.prog W 0 (fun _ => true) true k 28 ([c2, c3, c4, c5, c6, c7, c8].take (Try.prog.cellsOf 28)) = some x2 := hf 2 _ rfl
    rw [cells_Li] at g2
    change DataW.trod enc Try.prog W 0 (fun _ => true) true k 28 [c2] = some x2 at g2
    obtain ⟨v2, z2, e2, s2⟩ := open_sl Try.underlying28 cells_int (fun _ _ _ => open_int1) g2
    obtain rfl : c2 = v2 := by injection e2
    have g3 : DataW.trod enc Try.prog W 0 (fun _ => true) true k 3 ([c3, c4, c5, c6, c7, c8].take (Try.prog.cellsOf 3)) = some x3 := hf 3 _ rfl
    rw [cells_i] at g3
    change DataW.trod enc Try.prog W 0 (fun _ => true) true k 3 [c3] = some x3 at g3
    obtain ⟨z3, e3, -, -⟩ := DataW.trod_int Try.underlying3 g3
    obtain rfl : c3 = _ := by injection e3
    have g4 : DataW.trod enc Try.prog W 0 (fun _ => true) true k 3 ([c4, c5, c6, c7, c8].take (Try.prog.cellsOf 3)) = some x4 := hf 4 _ rfl
    rw [cells_i] at g4
    change DataW.trod enc Try.prog W 0 (fun _ => true) true k 3 [c4] = some x4 at g4
    obtain ⟨z4, e4, -, -⟩ := DataW.trod_int Try.underlying3 g4
    obtain rfl : c4 = _ := by injection e4
    have g5 : DataW.trod enc Try.prog W 0 (fun _ => true) true k 3 ([c5, c6, c7, c8].take (Try.prog.cellsOf 3)) = some x5 := hf 5 _ rfl
    rw [cells_i] at g5
    change DataW.trod enc Try.prog W 0 (fun _ => true) true k 3 [c5] = some x5 at g5
    obtain ⟨z5, e5, -, -⟩ := DataW.trod_int Try.underlying3 g5
    obtain rfl : c5 = _ := by injection e5
    have g6 : DataW.trod enc Try.prog W 0 (fun _ => true) true k 29 ([c6, c7, c8].take (Try.prog.cellsOf 29)) = some x6 := hf 6 _ rfl
    rw [cells_Ls] at g6
    change DataW.trod enc Try.prog W 0 (fun _ => true) true k 29 [c6] = some x6 at g6
    obtain ⟨v6, z6, e6, s6⟩ := open_sl Try.underlying29 cells_Ins (fun _ _ _ => open_Ins) g6
    obtain rfl : c6 = v6 := by injection e6
    have g7 : DataW.trod enc Try.prog W 0 (fun _ => true) true k 30 ([c7, c8].take (Try.prog.cellsOf 30)) = some x7 := hf 7 _ rfl
    rw [cells_Lh] at g7
    change DataW.trod enc Try.prog W 0 (fun _ => true) true k 30 [c7] = some x7 at g7
    obtain ⟨v7, z7, e7, s7⟩ := open_sl Try.underlying30 cells_Handler (fun _ _ _ => open_Handler) g7
    obtain rfl : c7 = v7 := by injection e7
    have g8 : DataW.trod enc Try.prog W 0 (fun _ => true) true k 31 ([c8].take (Try.prog.cellsOf 31)) = some x8 := hf 8 _ rfl
    rw [cells_Lm] at g8
    change DataW.trod enc Try.prog W 0 (fun _ => true) true k 31 [c8] = some x8 at g8
    obtain ⟨v8, z8, e8, s8⟩ := open_sl Try.underlying31 cells_Map (fun _ _ _ => open_Map) g8
    obtain rfl : c8 = v8 := by injection e8
    exact ⟨⟨z0, z1, z2, z3, z4, z5, z6, z7, z8⟩, _, _, _, _, rfl, s2, s6, s7, s8⟩
theorem cells_Class : Try.prog.cellsOf 37 = 8 := by kernel_rfl
set_option maxRecDepth 100000 in
theorem open_Class {H : Type} {enc : TypeId × Value → H} {W : World} {n : Nat} {cs : List Value} {d : DataW H × List MemPlace} (h : DataW.trod enc Try.prog W 0 (fun _ => true) true n 37 cs = some d) : ∃ x, kCs.R W (Al W) x cs := by
  obtain ⟨xs, k, -, -, hlen, hxl, hf⟩ := DataW.trod_struct Try.underlying37 h
  rw [cells_Class] at hlen
  have hxl2 : xs.length = 8 := hxl
  clear h hxl
  match cs, hlen, xs, hxl2 with
  | [c0, c1, c2, c3, c4, c5, c6, c7], _, [x0, x1, x2, x3, x4, x5, x6, x7], _ =>
    have g0 : DataW.trod enc Try.prog W 0 (fun _ => true) true k 9 ([c0, c1, c2, c3, c4, c5, c6, c7].take (Try.prog.cellsOf 9)) = some x0 := hf 0 _ rfl
    rw [cells_s] at g0
    change DataW.trod enc Try.prog W 0 (fun _ => true) true k 9 [c0] = some x0 at g0
    obtain ⟨z0, e0, -, -⟩ := DataW.trod_string Try.underlying9 g0
    obtain rfl : c0 = _ := by injection e0
    have g1 : DataW.trod enc Try.prog W 0 (fun _ => true) true k 4 ([c1, c2, c3, c4, c5, c6, c7].take (Try.prog.cellsOf 4)) = some x1 := hf 1 _ rfl
    rw [cells_b] at g1
    change DataW.trod enc Try.prog W 0 (fun _ => true) true k 4 [c1] = some x1 at g1
    obtain ⟨z1, e1, -⟩ := DataW.trod_bool Try.underlying4 g1
    obtain rfl : c1 = _ := by injection e1
    have g2 : DataW.trod enc Try.prog W 0 (fun _ => true) true k 4 ([c2, c3, c4, c5, c6, c7].take (Try.prog.cellsOf 4)) = some x2 := hf 2 _ rfl
    rw [cells_b] at g2
    change DataW.trod enc Try.prog W 0 (fun _ => true) true k 4 [c2] = some x2 at g2
    obtain ⟨z2, e2, -⟩ := DataW.trod_bool Try.underlying4 g2
    obtain rfl : c2 = _ := by injection e2
    have g3 : DataW.trod enc Try.prog W 0 (fun _ => true) true k 3 ([c3, c4, c5, c6, c7].take (Try.prog.cellsOf 3)) = some x3 := hf 3 _ rfl
    rw [cells_i] at g3
    change DataW.trod enc Try.prog W 0 (fun _ => true) true k 3 [c3] = some x3 at g3
    obtain ⟨z3, e3, -, -⟩ := DataW.trod_int Try.underlying3 g3
    obtain rfl : c3 = _ := by injection e3
    have g4 : DataW.trod enc Try.prog W 0 (fun _ => true) true k 28 ([c4, c5, c6, c7].take (Try.prog.cellsOf 28)) = some x4 := hf 4 _ rfl
    rw [cells_Li] at g4
    change DataW.trod enc Try.prog W 0 (fun _ => true) true k 28 [c4] = some x4 at g4
    obtain ⟨v4, z4, e4, s4⟩ := open_sl Try.underlying28 cells_int (fun _ _ _ => open_int1) g4
    obtain rfl : c4 = v4 := by injection e4
    have g5 : DataW.trod enc Try.prog W 0 (fun _ => true) true k 34 ([c5, c6, c7].take (Try.prog.cellsOf 34)) = some x5 := hf 5 _ rfl
    rw [cells_Lf] at g5
    change DataW.trod enc Try.prog W 0 (fun _ => true) true k 34 [c5] = some x5 at g5
    obtain ⟨v5, z5, e5, s5⟩ := open_sl Try.underlying34 cells_Field (fun _ _ _ => open_Field) g5
    obtain rfl : c5 = v5 := by injection e5
    have g6 : DataW.trod enc Try.prog W 0 (fun _ => true) true k 34 ([c6, c7].take (Try.prog.cellsOf 34)) = some x6 := hf 6 _ rfl
    rw [cells_Lf] at g6
    change DataW.trod enc Try.prog W 0 (fun _ => true) true k 34 [c6] = some x6 at g6
    obtain ⟨v6, z6, e6, s6⟩ := open_sl Try.underlying34 cells_Field (fun _ _ _ => open_Field) g6
    obtain rfl : c6 = v6 := by injection e6
    have g7 : DataW.trod enc Try.prog W 0 (fun _ => true) true k 35 ([c7].take (Try.prog.cellsOf 35)) = some x7 := hf 7 _ rfl
    rw [cells_Le] at g7
    change DataW.trod enc Try.prog W 0 (fun _ => true) true k 35 [c7] = some x7 at g7
    obtain ⟨v7, z7, e7, s7⟩ := open_sl Try.underlying35 cells_Method (fun _ _ _ => open_Method) g7
    obtain rfl : c7 = v7 := by injection e7
    exact ⟨⟨z0, z1, z2, z3, z4, z5, z6, z7⟩, _, _, _, _, rfl, s4, s5, s6, s7⟩
theorem cells_Program : Try.prog.cellsOf 25 = 2 := by kernel_rfl
set_option maxRecDepth 100000 in
theorem open_Program {H : Type} {enc : TypeId × Value → H} {W : World} {n : Nat} {cs : List Value} {d : DataW H × List MemPlace} (h : DataW.trod enc Try.prog W 0 (fun _ => true) true n 25 cs = some d) : ∃ x, kPg.R W (Al W) x cs := by
  obtain ⟨xs, k, -, -, hlen, hxl, hf⟩ := DataW.trod_struct Try.underlying25 h
  rw [cells_Program] at hlen
  have hxl2 : xs.length = 2 := hxl
  clear h hxl
  match cs, hlen, xs, hxl2 with
  | [c0, c1], _, [x0, x1], _ =>
    have g0 : DataW.trod enc Try.prog W 0 (fun _ => true) true k 3 ([c0, c1].take (Try.prog.cellsOf 3)) = some x0 := hf 0 _ rfl
    rw [cells_i] at g0
    change DataW.trod enc Try.prog W 0 (fun _ => true) true k 3 [c0] = some x0 at g0
    obtain ⟨z0, e0, -, -⟩ := DataW.trod_int Try.underlying3 g0
    obtain rfl : c0 = _ := by injection e0
    have g1 : DataW.trod enc Try.prog W 0 (fun _ => true) true k 23 ([c1].take (Try.prog.cellsOf 23)) = some x1 := hf 1 _ rfl
    rw [cells_Lc] at g1
    change DataW.trod enc Try.prog W 0 (fun _ => true) true k 23 [c1] = some x1 at g1
    obtain ⟨v1, z1, e1, s1⟩ := open_sl Try.underlying23 cells_Class (fun _ _ _ => open_Class) g1
    obtain rfl : c1 = v1 := by injection e1
    exact ⟨⟨z0, z1⟩, _, rfl, s1⟩
set_option maxRecDepth 100000 in
theorem open_prog {H : Type} {enc : TypeId × Value → H} {W : World} {r : Reach} {b0 : Nat} {v : Value} {d : DataW H} {ps : List MemPlace} (hval : Value.okWide Try.prog W r b0 25 v) (h : DataW.Trod enc Try.prog W 0 (fun _ => true) true 25 v d ps) : ∃ p cs, v = .agg cs.toArray ∧ kPg.R W (Al W) p cs := by
  obtain ⟨cs, rfl, -⟩ := okWide_struct Try.underlying25 hval
  obtain ⟨n, hn⟩ := h
  obtain ⟨p, hp⟩ := open_Program hn
  exact ⟨p, cs.toList, by simp, by simpa [Value.cells] using hp⟩
end Go.Proofs.Ytkngcaodfhocjab
