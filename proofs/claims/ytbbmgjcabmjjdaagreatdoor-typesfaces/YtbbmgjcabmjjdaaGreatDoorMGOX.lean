/- The end of a law's proof where the call makes memory of its own: the row's post out of 'of what was there nothing has turned', whatever the arguments' types. No condition. -/
import Derived.Test.YtbbmgjcabmjjdaaGreatDoorRows
import Derived.WalkKit
import Derived.ProofKit
import Derived.OpenShut
import Derived.Room.BridgeHanded
import Derived.Carry
import Derived.Deep.Slices
import Derived.Test.YtbbmgjcabmjjdaaGreatDoorMY3
import Derived.SizedLaws
import Derived.Test.YtbbmgjcabmjjdaaGreatDoorMGL0
namespace Go.Proofs.YtbbmgjcabmjjdaaGreatDoor
open Go.ChangeShapes Go.WideShapes Go.ChangeAt Go.RowKit

theorem post_below {H : Type} {enc : TypeId × Value → H} {P : Program} {f : Func} {s : ChangeSpec} {apart fresh handsOn : Bool} {W W' : World} {args : Array Value} {v : Value} {ds gs : List (DataW H)} {before pa pv : List MemPlace}
    (hW : DataW.Whole enc P f.params.toList s.vars apart W args.toList ds gs before)
    (hres : ∀ (b : Nat) (sp : Nat → Bool) (hd : Bool), DataW.TrodAll enc P W' b sp hd f.resultTypes.toList (v.resultList f.resultTypes.size) (s.fn H (ds ++ gs)).results [])
    (hargs : ∀ sp : Nat → Bool, (∀ p ∈ before, sp p.block = true) → DataW.TrodAll enc P W' 0 sp true f.params.toList args.toList (s.fn H (ds ++ gs)).args pa)
    (hvars : ∀ sp : Nat → Bool, (∀ p ∈ before, sp p.block = true) → DataW.TrodVars enc P W' sp s.vars (s.fn H (ds ++ gs)).vars pv)
    (hb : Below W.heap.size W W') : s.post enc P f apart fresh handsOn false W args v W' := by
  have hold : ∀ p ∈ before, (fun b => decide (b < W.heap.size)) p.block = true := fun p hp => by simpa using hW.lt p hp
  exact ⟨ds, gs, before, [], pa, pv, hW, hres _ _ _, hargs _ hold, hvars _ hold, hb.frame _, fun h => by cases h⟩

theorem trodAll_stays {H : Type} {enc : TypeId × Value → H} {P : Program} (hl : laidOutB P = true) {W W' : World} {sp : Nat → Bool} : ∀ (ts : List TypeId) {vs : List Value} {ds : List (DataW H)} {ps : List MemPlace},
    (∀ t ∈ ts, P.readableRec t = true ∧ t < P.types.size) → DataW.TrodAll enc P W 0 (fun _ => true) true ts vs ds ps → (∀ p ∈ ps, W.sameAt W' p) → (∀ p ∈ ps, sp p.block = true) → DataW.TrodAll enc P W' 0 sp true ts vs ds ps := by
  intro ts
  induction ts with
  | nil =>
    intro vs ds ps _ h _ _
    obtain ⟨rfl, rfl, rfl⟩ := trodAll_nil h
    exact trodAll_mk0
  | cons t ts ih =>
    intro vs ds ps hr h hs hp
    obtain ⟨v, vs', d, ds', p, q, rfl, rfl, rfl, h0, h1⟩ := trodAll_cons h
    have r0 := hr t (List.mem_cons_self ..)
    exact trodAll_cons_mk (WideElems.Trod_stays hl r0.1 r0.2 h0 (fun x hx => hs x (List.mem_append_left _ hx)) (fun x hx => hp x (List.mem_append_left _ hx)))
      (ih (fun u hu => hr u (List.mem_cons_of_mem _ hu)) h1 (fun x hx => hs x (List.mem_append_right _ hx)) (fun x hx => hp x (List.mem_append_right _ hx)))

/-- The arguments read as they did, of whatever type they are. -/
theorem post_kept {H : Type} {enc : TypeId × Value → H} {P : Program} {f : Func} {s : ChangeSpec} {apart fresh handsOn : Bool} {W W' : World} {args : Array Value} {v : Value} {ds gs : List (DataW H)} {before pv : List MemPlace}
    (hl : laidOutB P = true) (hr : ∀ t ∈ f.params.toList, P.readableRec t = true ∧ t < P.types.size)
    (hW : DataW.Whole enc P f.params.toList s.vars apart W args.toList ds gs before)
    (hres : ∀ (b : Nat) (sp : Nat → Bool) (hd : Bool), DataW.TrodAll enc P W' b sp hd f.resultTypes.toList (v.resultList f.resultTypes.size) (s.fn H (ds ++ gs)).results [])
    (hargs : (s.fn H (ds ++ gs)).args = ds)
    (hvars : ∀ sp : Nat → Bool, (∀ p ∈ before, sp p.block = true) → DataW.TrodVars enc P W' sp s.vars (s.fn H (ds ++ gs)).vars pv)
    (hb : Below W.heap.size W W') : s.post enc P f apart fresh handsOn false W args v W' := by
  have hlt := hW.lt
  have hW2 := hW
  obtain ⟨p, q, hA, _, rfl, _, _⟩ := hW2
  refine post_below (pa := p) hW hres (fun sp hsp => ?_) hvars hb
  rw [hargs]
  exact trodAll_stays hl _ hr hA (fun x hx => hb.same (hlt x (List.mem_append_left _ hx))) (fun x hx => hsp x (List.mem_append_left _ hx))
end Go.Proofs.YtbbmgjcabmjjdaaGreatDoor
/- A program as an argument is read: what lies in memory, whatever it is. -/
namespace Go.Proofs.YtbbmgjcabmjjdaaGreatDoor
open Go.ChangeShapes Go.WideShapes Go.ChangeAt Go.RowKit Go.Deep

/-- All blocks that are there. -/
def Al (W : World) (b : Nat) : Prop := b < W.heap.size
theorem list_of {α : Type} {P : Nat → α → Prop} : ∀ n, (∀ i, i < n → ∃ x, P i x) → ∃ xs : List α, xs.length = n ∧ ∀ i x, xs[i]? = some x → P i x
  | 0, _ => ⟨[], rfl, fun i x h => by simp at h⟩
  | n + 1, h => by
    obtain ⟨xs, e, hx⟩ := list_of n fun i hi => h i (by omega)
    obtain ⟨y, hy⟩ := h n (by omega)
    refine ⟨xs ++ [y], by simp [e], fun i x hi => ?_⟩
    by_cases hl : i < n
    · rw [List.getElem?_append_left (by omega)] at hi; exact hx i x hi
    · rw [List.getElem?_append_right (by omega)] at hi
      have e2 : i = n := by
        apply Classical.byContradiction
        intro hn
        rw [List.getElem?_eq_none (by simp; omega)] at hi
        cases hi
      subst e2
      rw [e, Nat.sub_self] at hi
      simp at hi; subst hi; exact hy
theorem lt_blk {w : World} {a : Addr} {v : Value} (h : w.cell? a = some v) : a.block < w.heap.size := by
  apply Nat.lt_of_not_le
  intro hn
  have e : w.heap[a.block]? = none := Array.getElem?_eq_none hn
  simp only [World.cell?, e] at h
  cases h
theorem open_sl {H : Type} {enc : TypeId × Value → H} {α : Type} {K : Kd α} {W : World} {Ts T : TypeId} (hu : Tryz.prog.underlying Ts = some (.slice T)) (hk : Tryz.prog.cellsOf T = K.k)
    (hE : ∀ n cs (d : DataW H × List MemPlace), DataW.trod enc Tryz.prog W 0 (fun _ => true) true n T cs = some d → ∃ x, K.R W (Al W) x cs)
    {n : Nat} {cs : List Value} {d : DataW H × List MemPlace} (h : DataW.trod enc Tryz.prog W 0 (fun _ => true) true n Ts cs = some d) (hf : K.uf = false := by rfl) : ∃ v xs, cs = [v] ∧ Sl K W (Al W) v xs := by
  rcases open_slice hu h with ⟨rfl, _⟩ | ⟨a, len, cap, m, k, D, Pl, rfl, _, hl, hm, hmm, _, hx⟩
  · exact ⟨_, [], rfl, Sl.nil K W _⟩
  · simp only [if_true] at hmm
    subst hmm
    obtain ⟨xs, hxl, hxs⟩ := list_of (P := fun i x => ∃ cs', K.R W (Al W) x cs' ∧ ∀ j u, cs'[j]? = some u → W.cell? (a.add (i * K.k + j)) = some u) len fun i hi => by
      obtain ⟨cs', h1, h2⟩ := hx i (by omega)
      rw [hk] at h1
      obtain ⟨_, hlen, hcell⟩ := World.cells?_some h1
      obtain ⟨x, hR⟩ := hE _ _ _ h2
      refine ⟨x, cs', hR, fun j u hj => ?_⟩
      have hjl : j < K.k := by
        have := (List.getElem?_eq_some_iff.1 hj).1
        rw [K.len hR] at this; exact this
      have := hcell j hjl
      rw [add_add] at this
      rw [this]; exact hj
    refine ⟨_, xs, rfl, some a, m, by rw [hxl], by rw [hxl]; exact Nat.le_trans hl hm, ?_⟩
    cases xs with
    | nil => exact .inl rfl
    | cons y ys =>
      right
      obtain ⟨cs', r1, r2⟩ := hxs 0 y rfl
      have hp : 0 < cs'.length := by rw [K.len r1]; exact K.pos
      have c0 := r2 0 _ (List.getElem?_eq_getElem hp)
      have hb := lt_blk c0
      obtain ⟨b, o, spot⟩ := a
      have hspot : spot = none := by simpa [Addr.add] using World.cell?_spot c0
      subst hspot
      refine ⟨b, o, rfl, by simpa [Al, Addr.add] using hb, ⟨by simpa [Addr.add] using hb, fun e => by rw [hf] at e; cases e⟩, fun i x hi => ?_⟩
      obtain ⟨cs2, q1, q2⟩ := hxs i x hi
      exact ⟨cs2, q1, fun j u hu => by have := q2 j u hu; rw [add_plain] at this; exact this⟩
theorem cells_i : Tryz.prog.cellsOf 3 = 1 := by kernel_rfl
theorem cells_int : Tryz.prog.cellsOf 3 = kI.k := by kernel_rfl
theorem cells_s : Tryz.prog.cellsOf 9 = 1 := by kernel_rfl
theorem cells_b : Tryz.prog.cellsOf 4 = 1 := by kernel_rfl
theorem open_int1 {H : Type} {enc : TypeId × Value → H} {W : World} {n : Nat} {cs : List Value} {d : DataW H × List MemPlace} (h : DataW.trod enc Tryz.prog W 0 (fun _ => true) true n 3 cs = some d) : ∃ x, kI.R W (Al W) x cs := by
  obtain ⟨z, rfl, -, -⟩ := DataW.trod_int Tryz.underlying3 h
  exact ⟨z, rfl⟩
theorem cells_Li : Tryz.prog.cellsOf 26 = 1 := by kernel_rfl
theorem cells_Ls : Tryz.prog.cellsOf 25 = 1 := by kernel_rfl
theorem cells_Lh : Tryz.prog.cellsOf 27 = 1 := by kernel_rfl
theorem cells_Lm : Tryz.prog.cellsOf 28 = 1 := by kernel_rfl
theorem cells_Lf : Tryz.prog.cellsOf 32 = 1 := by kernel_rfl
theorem cells_Le : Tryz.prog.cellsOf 31 = 1 := by kernel_rfl
theorem cells_Lc : Tryz.prog.cellsOf 35 = 1 := by kernel_rfl
theorem cells_Field : Tryz.prog.cellsOf 71 = 2 := by kernel_rfl
set_option maxRecDepth 100000 in
theorem open_Field {H : Type} {enc : TypeId × Value → H} {W : World} {n : Nat} {cs : List Value} {d : DataW H × List MemPlace} (h : DataW.trod enc Tryz.prog W 0 (fun _ => true) true n 71 cs = some d) : ∃ x, kFd.R W (Al W) x cs := by
  obtain ⟨xs, k, -, -, hlen, hxl, hf⟩ := DataW.trod_struct Tryz.underlying71 h
  rw [cells_Field] at hlen
  have hxl2 : xs.length = 2 := hxl
  clear h hxl
  match cs, hlen, xs, hxl2 with
  | [c0, c1], _, [x0, x1], _ =>
    have g0 : DataW.trod enc Tryz.prog W 0 (fun _ => true) true k 9 ([c0, c1].take (Tryz.prog.cellsOf 9)) = some x0 := hf 0 _ rfl
    rw [cells_s] at g0
    change DataW.trod enc Tryz.prog W 0 (fun _ => true) true k 9 [c0] = some x0 at g0
    obtain ⟨z0, e0, -, -⟩ := DataW.trod_string Tryz.underlying9 g0
    obtain rfl : c0 = _ := by injection e0
    have g1 : DataW.trod enc Tryz.prog W 0 (fun _ => true) true k 3 ([c1].take (Tryz.prog.cellsOf 3)) = some x1 := hf 1 _ rfl
    rw [cells_i] at g1
    change DataW.trod enc Tryz.prog W 0 (fun _ => true) true k 3 [c1] = some x1 at g1
    obtain ⟨z1, e1, -, -⟩ := DataW.trod_int Tryz.underlying3 g1
    obtain rfl : c1 = _ := by injection e1
    exact ⟨⟨z0, z1⟩, rfl⟩
theorem cells_Ins : Tryz.prog.cellsOf 24 = 3 := by kernel_rfl
set_option maxRecDepth 100000 in
theorem open_Ins {H : Type} {enc : TypeId × Value → H} {W : World} {n : Nat} {cs : List Value} {d : DataW H × List MemPlace} (h : DataW.trod enc Tryz.prog W 0 (fun _ => true) true n 24 cs = some d) : ∃ x, kIs.R W (Al W) x cs := by
  obtain ⟨xs, k, -, -, hlen, hxl, hf⟩ := DataW.trod_struct Tryz.underlying24 h
  rw [cells_Ins] at hlen
  have hxl2 : xs.length = 3 := hxl
  clear h hxl
  match cs, hlen, xs, hxl2 with
  | [c0, c1, c2], _, [x0, x1, x2], _ =>
    have g0 : DataW.trod enc Tryz.prog W 0 (fun _ => true) true k 3 ([c0, c1, c2].take (Tryz.prog.cellsOf 3)) = some x0 := hf 0 _ rfl
    rw [cells_i] at g0
    change DataW.trod enc Tryz.prog W 0 (fun _ => true) true k 3 [c0] = some x0 at g0
    obtain ⟨z0, e0, -, -⟩ := DataW.trod_int Tryz.underlying3 g0
    obtain rfl : c0 = _ := by injection e0
    have g1 : DataW.trod enc Tryz.prog W 0 (fun _ => true) true k 3 ([c1, c2].take (Tryz.prog.cellsOf 3)) = some x1 := hf 1 _ rfl
    rw [cells_i] at g1
    change DataW.trod enc Tryz.prog W 0 (fun _ => true) true k 3 [c1] = some x1 at g1
    obtain ⟨z1, e1, -, -⟩ := DataW.trod_int Tryz.underlying3 g1
    obtain rfl : c1 = _ := by injection e1
    have g2 : DataW.trod enc Tryz.prog W 0 (fun _ => true) true k 3 ([c2].take (Tryz.prog.cellsOf 3)) = some x2 := hf 2 _ rfl
    rw [cells_i] at g2
    change DataW.trod enc Tryz.prog W 0 (fun _ => true) true k 3 [c2] = some x2 at g2
    obtain ⟨z2, e2, -, -⟩ := DataW.trod_int Tryz.underlying3 g2
    obtain rfl : c2 = _ := by injection e2
    exact ⟨⟨z0, z1, z2⟩, rfl⟩
theorem cells_Handler : Tryz.prog.cellsOf 216 = 4 := by kernel_rfl
set_option maxRecDepth 100000 in
theorem open_Handler {H : Type} {enc : TypeId × Value → H} {W : World} {n : Nat} {cs : List Value} {d : DataW H × List MemPlace} (h : DataW.trod enc Tryz.prog W 0 (fun _ => true) true n 216 cs = some d) : ∃ x, kHd.R W (Al W) x cs := by
  obtain ⟨xs, k, -, -, hlen, hxl, hf⟩ := DataW.trod_struct Tryz.underlying216 h
  rw [cells_Handler] at hlen
  have hxl2 : xs.length = 4 := hxl
  clear h hxl
  match cs, hlen, xs, hxl2 with
  | [c0, c1, c2, c3], _, [x0, x1, x2, x3], _ =>
    have g0 : DataW.trod enc Tryz.prog W 0 (fun _ => true) true k 3 ([c0, c1, c2, c3].take (Tryz.prog.cellsOf 3)) = some x0 := hf 0 _ rfl
    rw [cells_i] at g0
    change DataW.trod enc Tryz.prog W 0 (fun _ => true) true k 3 [c0] = some x0 at g0
    obtain ⟨z0, e0, -, -⟩ := DataW.trod_int Tryz.underlying3 g0
    obtain rfl : c0 = _ := by injection e0
    have g1 : DataW.trod enc Tryz.prog W 0 (fun _ => true) true k 3 ([c1, c2, c3].take (Tryz.prog.cellsOf 3)) = some x1 := hf 1 _ rfl
    rw [cells_i] at g1
    change DataW.trod enc Tryz.prog W 0 (fun _ => true) true k 3 [c1] = some x1 at g1
    obtain ⟨z1, e1, -, -⟩ := DataW.trod_int Tryz.underlying3 g1
    obtain rfl : c1 = _ := by injection e1
    have g2 : DataW.trod enc Tryz.prog W 0 (fun _ => true) true k 3 ([c2, c3].take (Tryz.prog.cellsOf 3)) = some x2 := hf 2 _ rfl
    rw [cells_i] at g2
    change DataW.trod enc Tryz.prog W 0 (fun _ => true) true k 3 [c2] = some x2 at g2
    obtain ⟨z2, e2, -, -⟩ := DataW.trod_int Tryz.underlying3 g2
    obtain rfl : c2 = _ := by injection e2
    have g3 : DataW.trod enc Tryz.prog W 0 (fun _ => true) true k 3 ([c3].take (Tryz.prog.cellsOf 3)) = some x3 := hf 3 _ rfl
    rw [cells_i] at g3
    change DataW.trod enc Tryz.prog W 0 (fun _ => true) true k 3 [c3] = some x3 at g3
    obtain ⟨z3, e3, -, -⟩ := DataW.trod_int Tryz.underlying3 g3
    obtain rfl : c3 = _ := by injection e3
    exact ⟨⟨z0, z1, z2, z3⟩, rfl⟩
theorem cells_Map : Tryz.prog.cellsOf 218 = 3 := by kernel_rfl
set_option maxRecDepth 100000 in
theorem open_Map {H : Type} {enc : TypeId × Value → H} {W : World} {n : Nat} {cs : List Value} {d : DataW H × List MemPlace} (h : DataW.trod enc Tryz.prog W 0 (fun _ => true) true n 218 cs = some d) : ∃ x, kMp.R W (Al W) x cs := by
  obtain ⟨xs, k, -, -, hlen, hxl, hf⟩ := DataW.trod_struct Tryz.underlying218 h
  rw [cells_Map] at hlen
  have hxl2 : xs.length = 3 := hxl
  clear h hxl
  match cs, hlen, xs, hxl2 with
  | [c0, c1, c2], _, [x0, x1, x2], _ =>
    have g0 : DataW.trod enc Tryz.prog W 0 (fun _ => true) true k 3 ([c0, c1, c2].take (Tryz.prog.cellsOf 3)) = some x0 := hf 0 _ rfl
    rw [cells_i] at g0
    change DataW.trod enc Tryz.prog W 0 (fun _ => true) true k 3 [c0] = some x0 at g0
    obtain ⟨z0, e0, -, -⟩ := DataW.trod_int Tryz.underlying3 g0
    obtain rfl : c0 = _ := by injection e0
    have g1 : DataW.trod enc Tryz.prog W 0 (fun _ => true) true k 26 ([c1, c2].take (Tryz.prog.cellsOf 26)) = some x1 := hf 1 _ rfl
    rw [cells_Li] at g1
    change DataW.trod enc Tryz.prog W 0 (fun _ => true) true k 26 [c1] = some x1 at g1
    obtain ⟨v1, z1, e1, s1⟩ := open_sl Tryz.underlying26 cells_int (fun _ _ _ => open_int1) g1
    obtain rfl : c1 = v1 := by injection e1
    have g2 : DataW.trod enc Tryz.prog W 0 (fun _ => true) true k 26 ([c2].take (Tryz.prog.cellsOf 26)) = some x2 := hf 2 _ rfl
    rw [cells_Li] at g2
    change DataW.trod enc Tryz.prog W 0 (fun _ => true) true k 26 [c2] = some x2 at g2
    obtain ⟨v2, z2, e2, s2⟩ := open_sl Tryz.underlying26 cells_int (fun _ _ _ => open_int1) g2
    obtain rfl : c2 = v2 := by injection e2
    exact ⟨⟨z0, z1, z2⟩, _, _, rfl, s1, s2⟩
theorem cells_Method : Tryz.prog.cellsOf 30 = 9 := by kernel_rfl
set_option maxRecDepth 100000 in
theorem open_Method {H : Type} {enc : TypeId × Value → H} {W : World} {n : Nat} {cs : List Value} {d : DataW H × List MemPlace} (h : DataW.trod enc Tryz.prog W 0 (fun _ => true) true n 30 cs = some d) : ∃ x, kMd.R W (Al W) x cs := by
  obtain ⟨xs, k, -, -, hlen, hxl, hf⟩ := DataW.trod_struct Tryz.underlying30 h
  rw [cells_Method] at hlen
  have hxl2 : xs.length = 9 := hxl
  clear h hxl
  match cs, hlen, xs, hxl2 with
  | [c0, c1, c2, c3, c4, c5, c6, c7, c8], _, [x0, x1, x2, x3, x4, x5, x6, x7, x8], _ =>
    have g0 : DataW.trod enc Tryz.prog W 0 (fun _ => true) true k 9 ([c0, c1, c2, c3, c4, c5, c6, c7, c8].take (Tryz.prog.cellsOf 9)) = some x0 := hf 0 _ rfl
    rw [cells_s] at g0
    change DataW.trod enc Tryz.prog W 0 (fun _ => true) true k 9 [c0] = some x0 at g0
    obtain ⟨z0, e0, -, -⟩ := DataW.trod_string Tryz.underlying9 g0
    obtain rfl : c0 = _ := by injection e0
    have g1 : DataW.trod enc Tryz.prog W 0 (fun _ => true) true k 4 ([c1, c2, c3, c4, c5, c6, c7, c8].take (Tryz.prog.cellsOf 4)) = some x1 := hf 1 _ rfl
    rw [cells_b] at g1
    change DataW.trod enc Tryz.prog W 0 (fun _ => true) true k 4 [c1] = some x1 at g1
    obtain ⟨z1, e1, -⟩ := DataW.trod_bool Tryz.underlying4 g1
    obtain rfl : c1 = _ := by injection e1
    have g2 : DataW.trod enc Tryz.prog W 0 (fun _ => true) true k 26 ([c2, c3, c4, c5, c6, c7, c8].take (Tryz.prog.cellsOf 26)) = some x2 := hf 2 _ rfl
    rw [cells_Li] at g2
    change DataW.trod enc Tryz.prog W 0 (fun _ => true) true k 26 [c2] = some x2 at g2
    obtain ⟨v2, z2, e2, s2⟩ := open_sl Tryz.underlying26 cells_int (fun _ _ _ => open_int1) g2
    obtain rfl : c2 = v2 := by injection e2
    have g3 : DataW.trod enc Tryz.prog W 0 (fun _ => true) true k 3 ([c3, c4, c5, c6, c7, c8].take (Tryz.prog.cellsOf 3)) = some x3 := hf 3 _ rfl
    rw [cells_i] at g3
    change DataW.trod enc Tryz.prog W 0 (fun _ => true) true k 3 [c3] = some x3 at g3
    obtain ⟨z3, e3, -, -⟩ := DataW.trod_int Tryz.underlying3 g3
    obtain rfl : c3 = _ := by injection e3
    have g4 : DataW.trod enc Tryz.prog W 0 (fun _ => true) true k 3 ([c4, c5, c6, c7, c8].take (Tryz.prog.cellsOf 3)) = some x4 := hf 4 _ rfl
    rw [cells_i] at g4
    change DataW.trod enc Tryz.prog W 0 (fun _ => true) true k 3 [c4] = some x4 at g4
    obtain ⟨z4, e4, -, -⟩ := DataW.trod_int Tryz.underlying3 g4
    obtain rfl : c4 = _ := by injection e4
    have g5 : DataW.trod enc Tryz.prog W 0 (fun _ => true) true k 3 ([c5, c6, c7, c8].take (Tryz.prog.cellsOf 3)) = some x5 := hf 5 _ rfl
    rw [cells_i] at g5
    change DataW.trod enc Tryz.prog W 0 (fun _ => true) true k 3 [c5] = some x5 at g5
    obtain ⟨z5, e5, -, -⟩ := DataW.trod_int Tryz.underlying3 g5
    obtain rfl : c5 = _ := by injection e5
    have g6 : DataW.trod enc Tryz.prog W 0 (fun _ => true) true k 25 ([c6, c7, c8].take (Tryz.prog.cellsOf 25)) = some x6 := hf 6 _ rfl
    rw [cells_Ls] at g6
    change DataW.trod enc Tryz.prog W 0 (fun _ => true) true k 25 [c6] = some x6 at g6
    obtain ⟨v6, z6, e6, s6⟩ := open_sl Tryz.underlying25 cells_Ins (fun _ _ _ => open_Ins) g6
    obtain rfl : c6 = v6 := by injection e6
    have g7 : DataW.trod enc Tryz.prog W 0 (fun _ => true) true k 27 ([c7, c8].take (Tryz.prog.cellsOf 27)) = some x7 := hf 7 _ rfl
    rw [cells_Lh] at g7
    change DataW.trod enc Tryz.prog W 0 (fun _ => true) true k 27 [c7] = some x7 at g7
    obtain ⟨v7, z7, e7, s7⟩ := open_sl Tryz.underlying27 cells_Handler (fun _ _ _ => open_Handler) g7
    obtain rfl : c7 = v7 := by injection e7
    have g8 : DataW.trod enc Tryz.prog W 0 (fun _ => true) true k 28 ([c8].take (Tryz.prog.cellsOf 28)) = some x8 := hf 8 _ rfl
    rw [cells_Lm] at g8
    change DataW.trod enc Tryz.prog W 0 (fun _ => true) true k 28 [c8] = some x8 at g8
    obtain ⟨v8, z8, e8, s8⟩ := open_sl Tryz.underlying28 cells_Map (fun _ _ _ => open_Map) g8
    obtain rfl : c8 = v8 := by injection e8
    exact ⟨⟨z0, z1, z2, z3, z4, z5, z6, z7, z8⟩, _, _, _, _, rfl, s2, s6, s7, s8⟩
theorem cells_Class : Tryz.prog.cellsOf 34 = 8 := by kernel_rfl
set_option maxRecDepth 100000 in
theorem open_Class {H : Type} {enc : TypeId × Value → H} {W : World} {n : Nat} {cs : List Value} {d : DataW H × List MemPlace} (h : DataW.trod enc Tryz.prog W 0 (fun _ => true) true n 34 cs = some d) : ∃ x, kCs.R W (Al W) x cs := by
  obtain ⟨xs, k, -, -, hlen, hxl, hf⟩ := DataW.trod_struct Tryz.underlying34 h
  rw [cells_Class] at hlen
  have hxl2 : xs.length = 8 := hxl
  clear h hxl
  match cs, hlen, xs, hxl2 with
  | [c0, c1, c2, c3, c4, c5, c6, c7], _, [x0, x1, x2, x3, x4, x5, x6, x7], _ =>
    have g0 : DataW.trod enc Tryz.prog W 0 (fun _ => true) true k 9 ([c0, c1, c2, c3, c4, c5, c6, c7].take (Tryz.prog.cellsOf 9)) = some x0 := hf 0 _ rfl
    rw [cells_s] at g0
    change DataW.trod enc Tryz.prog W 0 (fun _ => true) true k 9 [c0] = some x0 at g0
    obtain ⟨z0, e0, -, -⟩ := DataW.trod_string Tryz.underlying9 g0
    obtain rfl : c0 = _ := by injection e0
    have g1 : DataW.trod enc Tryz.prog W 0 (fun _ => true) true k 4 ([c1, c2, c3, c4, c5, c6, c7].take (Tryz.prog.cellsOf 4)) = some x1 := hf 1 _ rfl
    rw [cells_b] at g1
    change DataW.trod enc Tryz.prog W 0 (fun _ => true) true k 4 [c1] = some x1 at g1
    obtain ⟨z1, e1, -⟩ := DataW.trod_bool Tryz.underlying4 g1
    obtain rfl : c1 = _ := by injection e1
    have g2 : DataW.trod enc Tryz.prog W 0 (fun _ => true) true k 4 ([c2, c3, c4, c5, c6, c7].take (Tryz.prog.cellsOf 4)) = some x2 := hf 2 _ rfl
    rw [cells_b] at g2
    change DataW.trod enc Tryz.prog W 0 (fun _ => true) true k 4 [c2] = some x2 at g2
    obtain ⟨z2, e2, -⟩ := DataW.trod_bool Tryz.underlying4 g2
    obtain rfl : c2 = _ := by injection e2
    have g3 : DataW.trod enc Tryz.prog W 0 (fun _ => true) true k 3 ([c3, c4, c5, c6, c7].take (Tryz.prog.cellsOf 3)) = some x3 := hf 3 _ rfl
    rw [cells_i] at g3
    change DataW.trod enc Tryz.prog W 0 (fun _ => true) true k 3 [c3] = some x3 at g3
    obtain ⟨z3, e3, -, -⟩ := DataW.trod_int Tryz.underlying3 g3
    obtain rfl : c3 = _ := by injection e3
    have g4 : DataW.trod enc Tryz.prog W 0 (fun _ => true) true k 26 ([c4, c5, c6, c7].take (Tryz.prog.cellsOf 26)) = some x4 := hf 4 _ rfl
    rw [cells_Li] at g4
    change DataW.trod enc Tryz.prog W 0 (fun _ => true) true k 26 [c4] = some x4 at g4
    obtain ⟨v4, z4, e4, s4⟩ := open_sl Tryz.underlying26 cells_int (fun _ _ _ => open_int1) g4
    obtain rfl : c4 = v4 := by injection e4
    have g5 : DataW.trod enc Tryz.prog W 0 (fun _ => true) true k 32 ([c5, c6, c7].take (Tryz.prog.cellsOf 32)) = some x5 := hf 5 _ rfl
    rw [cells_Lf] at g5
    change DataW.trod enc Tryz.prog W 0 (fun _ => true) true k 32 [c5] = some x5 at g5
    obtain ⟨v5, z5, e5, s5⟩ := open_sl Tryz.underlying32 cells_Field (fun _ _ _ => open_Field) g5
    obtain rfl : c5 = v5 := by injection e5
    have g6 : DataW.trod enc Tryz.prog W 0 (fun _ => true) true k 32 ([c6, c7].take (Tryz.prog.cellsOf 32)) = some x6 := hf 6 _ rfl
    rw [cells_Lf] at g6
    change DataW.trod enc Tryz.prog W 0 (fun _ => true) true k 32 [c6] = some x6 at g6
    obtain ⟨v6, z6, e6, s6⟩ := open_sl Tryz.underlying32 cells_Field (fun _ _ _ => open_Field) g6
    obtain rfl : c6 = v6 := by injection e6
    have g7 : DataW.trod enc Tryz.prog W 0 (fun _ => true) true k 31 ([c7].take (Tryz.prog.cellsOf 31)) = some x7 := hf 7 _ rfl
    rw [cells_Le] at g7
    change DataW.trod enc Tryz.prog W 0 (fun _ => true) true k 31 [c7] = some x7 at g7
    obtain ⟨v7, z7, e7, s7⟩ := open_sl Tryz.underlying31 cells_Method (fun _ _ _ => open_Method) g7
    obtain rfl : c7 = v7 := by injection e7
    exact ⟨⟨z0, z1, z2, z3, z4, z5, z6, z7⟩, _, _, _, _, rfl, s4, s5, s6, s7⟩
theorem cells_Program : Tryz.prog.cellsOf 37 = 2 := by kernel_rfl
set_option maxRecDepth 100000 in
theorem open_Program {H : Type} {enc : TypeId × Value → H} {W : World} {n : Nat} {cs : List Value} {d : DataW H × List MemPlace} (h : DataW.trod enc Tryz.prog W 0 (fun _ => true) true n 37 cs = some d) : ∃ x, kPg.R W (Al W) x cs := by
  obtain ⟨xs, k, -, -, hlen, hxl, hf⟩ := DataW.trod_struct Tryz.underlying37 h
  rw [cells_Program] at hlen
  have hxl2 : xs.length = 2 := hxl
  clear h hxl
  match cs, hlen, xs, hxl2 with
  | [c0, c1], _, [x0, x1], _ =>
    have g0 : DataW.trod enc Tryz.prog W 0 (fun _ => true) true k 3 ([c0, c1].take (Tryz.prog.cellsOf 3)) = some x0 := hf 0 _ rfl
    rw [cells_i] at g0
    change DataW.trod enc Tryz.prog W 0 (fun _ => true) true k 3 [c0] = some x0 at g0
    obtain ⟨z0, e0, -, -⟩ := DataW.trod_int Tryz.underlying3 g0
    obtain rfl : c0 = _ := by injection e0
    have g1 : DataW.trod enc Tryz.prog W 0 (fun _ => true) true k 35 ([c1].take (Tryz.prog.cellsOf 35)) = some x1 := hf 1 _ rfl
    rw [cells_Lc] at g1
    change DataW.trod enc Tryz.prog W 0 (fun _ => true) true k 35 [c1] = some x1 at g1
    obtain ⟨v1, z1, e1, s1⟩ := open_sl Tryz.underlying35 cells_Class (fun _ _ _ => open_Class) g1
    obtain rfl : c1 = v1 := by injection e1
    exact ⟨⟨z0, z1⟩, _, rfl, s1⟩
set_option maxRecDepth 100000 in
theorem open_prog {H : Type} {enc : TypeId × Value → H} {W : World} {r : Reach} {b0 : Nat} {v : Value} {d : DataW H} {ps : List MemPlace} (hval : Value.okWide Tryz.prog W r b0 37 v) (h : DataW.Trod enc Tryz.prog W 0 (fun _ => true) true 37 v d ps) : ∃ p cs, v = .agg cs.toArray ∧ kPg.R W (Al W) p cs := by
  obtain ⟨cs, rfl, -⟩ := okWide_struct Tryz.underlying37 hval
  obtain ⟨n, hn⟩ := h
  obtain ⟨p, hp⟩ := open_Program hn
  exact ⟨p, cs.toList, by simp, by simpa [Value.cells] using hp⟩
end Go.Proofs.YtbbmgjcabmjjdaaGreatDoor
/- A program as an argument is read, and how much there is of it. -/
namespace Go.Proofs.YtbbmgjcabmjjdaaGreatDoor
open Go.ChangeShapes Go.WideShapes Go.ChangeAt Go.RowKit Go.Deep

def wL {α : Type} (f : α → Nat) (xs : List α) : Nat := 1 + (xs.map f).sum
def wI (_ : Int) : Nat := 1
def wFd (f : Fd) : Nat := f.nm.size + 1
def wIs (_ : Is) : Nat := 1
def wHd (_ : Hd) : Nat := 1
def wMp (m : Mp) : Nat := wL wI m.lo + wL wI m.st
def wMd (m : Md) : Nat := m.nm.size + 1 + wL wI m.args + wL wIs m.code + wL wHd m.tab + wL wMp m.maps
def wCs (c : Cs) : Nat := c.nm.size + 1 + wL wI c.faces + wL wFd c.flds + wL wFd c.stcs + wL wMd c.mds
def wPg (p : Pg) : Nat := wL wCs p.cls
theorem bulk_map {H : Type} {α : Type} (f : α → Nat) (D : Nat → DataW H) : ∀ (xs : List α) (o : Nat), (∀ i x, xs[i]? = some x → f x ≤ Rows.uptoBulk (D (o + i))) → (xs.map f).sum ≤ Rows.uptoBulkAll ((List.range' o xs.length).map D)
  | [], _, _ => by simp
  | x :: xs, o, h => by
    have h0 := h 0 x rfl
    have ih := bulk_map f D xs (o + 1) fun i y hy => by have := h (i + 1) y (by simpa using hy); rw [show o + (i + 1) = o + 1 + i by omega] at this; exact this
    rw [List.map_cons, List.sum_cons, List.length_cons, List.range'_succ, List.map_cons]
    simp only [Rows.uptoBulkAll]
    rw [Nat.add_zero] at h0
    omega
theorem openw_sl {H : Type} {enc : TypeId × Value → H} {α : Type} {K : Kd α} {W : World} {Ts T : TypeId} (hu : Tryz.prog.underlying Ts = some (.slice T)) (hk : Tryz.prog.cellsOf T = K.k) (f : α → Nat)
    (hE : ∀ n cs (d : DataW H × List MemPlace), DataW.trod enc Tryz.prog W 0 (fun _ => true) true n T cs = some d → ∃ x, K.R W (Al W) x cs ∧ f x ≤ Rows.uptoBulk d.1)
    {n : Nat} {cs : List Value} {d : DataW H × List MemPlace} (h : DataW.trod enc Tryz.prog W 0 (fun _ => true) true n Ts cs = some d) (hf : K.uf = false := by rfl) : ∃ v xs, cs = [v] ∧ Sl K W (Al W) v xs ∧ wL f xs ≤ Rows.uptoBulk d.1 := by
  rcases open_slice hu h with ⟨rfl, rfl⟩ | ⟨a, len, cap, m, k, D, Pl, rfl, _, hl, hm, hmm, hd, hx⟩
  · exact ⟨_, [], rfl, Sl.nil K W _, by simp [wL, Rows.uptoBulk]⟩
  · simp only [if_true] at hmm
    subst hmm
    obtain ⟨xs, hxl, hxs⟩ := list_of (P := fun i x => (∃ cs', K.R W (Al W) x cs' ∧ ∀ j u, cs'[j]? = some u → W.cell? (a.add (i * K.k + j)) = some u) ∧ f x ≤ Rows.uptoBulk (D i)) len fun i hi => by
      obtain ⟨cs', h1, h2⟩ := hx i (by omega)
      rw [hk] at h1
      obtain ⟨_, hlen, hcell⟩ := World.cells?_some h1
      obtain ⟨x, hR, hw⟩ := hE _ _ _ h2
      refine ⟨x, ⟨cs', hR, fun j u hj => ?_⟩, hw⟩
      have hjl : j < K.k := by
        have := (List.getElem?_eq_some_iff.1 hj).1
        rw [K.len hR] at this; exact this
      have := hcell j hjl
      rw [add_add] at this
      rw [this]; exact hj
    have hbulk : wL f xs ≤ Rows.uptoBulk d.1 := by
      rw [hd]
      have := bulk_map f D xs 0 fun i x hi => by rw [Nat.zero_add]; exact (hxs i x hi).2
      rw [hxl, ← List.range_eq_range'] at this
      simp only [wL, Rows.uptoBulk]
      omega
    refine ⟨_, xs, rfl, ⟨some a, m, by rw [hxl], by rw [hxl]; exact Nat.le_trans hl hm, ?_⟩, hbulk⟩
    cases xs with
    | nil => exact .inl rfl
    | cons y ys =>
      right
      obtain ⟨⟨cs', r1, r2⟩, -⟩ := hxs 0 y rfl
      have hp : 0 < cs'.length := by rw [K.len r1]; exact K.pos
      have c0 := r2 0 _ (List.getElem?_eq_getElem hp)
      have hb := lt_blk c0
      obtain ⟨b, o, spot⟩ := a
      have hspot : spot = none := by simpa [Addr.add] using World.cell?_spot c0
      subst hspot
      refine ⟨b, o, rfl, by simpa [Al, Addr.add] using hb, ⟨by simpa [Addr.add] using hb, fun e => by rw [hf] at e; cases e⟩, fun i x hi => ?_⟩
      obtain ⟨⟨cs2, q1, q2⟩, -⟩ := hxs i x hi
      exact ⟨cs2, q1, fun j u hu => by have := q2 j u hu; rw [add_plain] at this; exact this⟩
theorem openw_int {H : Type} {enc : TypeId × Value → H} {W : World} {n : Nat} {cs : List Value} {d : DataW H × List MemPlace} (h : DataW.trod enc Tryz.prog W 0 (fun _ => true) true n 3 cs = some d) : ∃ x, kI.R W (Al W) x cs ∧ wI x ≤ Rows.uptoBulk d.1 := by
  obtain ⟨z, rfl, rfl, -⟩ := DataW.trod_int Tryz.underlying3 h
  exact ⟨z, rfl, by simp [wI, Rows.uptoBulk]⟩
set_option maxRecDepth 100000 in
theorem openw_Field {H : Type} {enc : TypeId × Value → H} {W : World} {n : Nat} {cs : List Value} {d : DataW H × List MemPlace} (h : DataW.trod enc Tryz.prog W 0 (fun _ => true) true n 71 cs = some d) : ∃ x, kFd.R W (Al W) x cs ∧ wFd x ≤ Rows.uptoBulk d.1 := by
  obtain ⟨xs, k, -, hd, hlen, hxl, hf⟩ := DataW.trod_struct Tryz.underlying71 h
  rw [cells_Field] at hlen
  have hxl2 : xs.length = 2 := hxl
  clear h hxl
  subst hd
  match cs, hlen, xs, hxl2 with
  | [c0, c1], _, [x0, x1], _ =>
    have g0 : DataW.trod enc Tryz.prog W 0 (fun _ => true) true k 9 ([c0, c1].take (Tryz.prog.cellsOf 9)) = some x0 := hf 0 _ rfl
    rw [cells_s] at g0
    change DataW.trod enc Tryz.prog W 0 (fun _ => true) true k 9 [c0] = some x0 at g0
    obtain ⟨z0, e0, d0, -⟩ := DataW.trod_string Tryz.underlying9 g0
    obtain rfl : c0 = _ := by injection e0
    have b0 : z0.size + 1 ≤ Rows.uptoBulk x0.1 := by rw [d0]; simp only [Rows.uptoBulk, Array.length_toList]; exact Nat.le_refl _
    have g1 : DataW.trod enc Tryz.prog W 0 (fun _ => true) true k 3 ([c1].take (Tryz.prog.cellsOf 3)) = some x1 := hf 1 _ rfl
    rw [cells_i] at g1
    change DataW.trod enc Tryz.prog W 0 (fun _ => true) true k 3 [c1] = some x1 at g1
    obtain ⟨z1, e1, -, -⟩ := DataW.trod_int Tryz.underlying3 g1
    obtain rfl : c1 = _ := by injection e1
    refine ⟨⟨z0, z1⟩, rfl, ?_⟩
    show wFd _ ≤ Rows.uptoBulk (.agg [x0.1, x1.1])
    simp only [Rows.uptoBulk, Rows.uptoBulkAll, wFd]
    omega
set_option maxRecDepth 100000 in
theorem openw_Ins {H : Type} {enc : TypeId × Value → H} {W : World} {n : Nat} {cs : List Value} {d : DataW H × List MemPlace} (h : DataW.trod enc Tryz.prog W 0 (fun _ => true) true n 24 cs = some d) : ∃ x, kIs.R W (Al W) x cs ∧ wIs x ≤ Rows.uptoBulk d.1 := by
  obtain ⟨xs, k, -, hd, hlen, hxl, hf⟩ := DataW.trod_struct Tryz.underlying24 h
  rw [cells_Ins] at hlen
  have hxl2 : xs.length = 3 := hxl
  clear h hxl
  subst hd
  match cs, hlen, xs, hxl2 with
  | [c0, c1, c2], _, [x0, x1, x2], _ =>
    have g0 : DataW.trod enc Tryz.prog W 0 (fun _ => true) true k 3 ([c0, c1, c2].take (Tryz.prog.cellsOf 3)) = some x0 := hf 0 _ rfl
    rw [cells_i] at g0
    change DataW.trod enc Tryz.prog W 0 (fun _ => true) true k 3 [c0] = some x0 at g0
    obtain ⟨z0, e0, -, -⟩ := DataW.trod_int Tryz.underlying3 g0
    obtain rfl : c0 = _ := by injection e0
    have g1 : DataW.trod enc Tryz.prog W 0 (fun _ => true) true k 3 ([c1, c2].take (Tryz.prog.cellsOf 3)) = some x1 := hf 1 _ rfl
    rw [cells_i] at g1
    change DataW.trod enc Tryz.prog W 0 (fun _ => true) true k 3 [c1] = some x1 at g1
    obtain ⟨z1, e1, -, -⟩ := DataW.trod_int Tryz.underlying3 g1
    obtain rfl : c1 = _ := by injection e1
    have g2 : DataW.trod enc Tryz.prog W 0 (fun _ => true) true k 3 ([c2].take (Tryz.prog.cellsOf 3)) = some x2 := hf 2 _ rfl
    rw [cells_i] at g2
    change DataW.trod enc Tryz.prog W 0 (fun _ => true) true k 3 [c2] = some x2 at g2
    obtain ⟨z2, e2, -, -⟩ := DataW.trod_int Tryz.underlying3 g2
    obtain rfl : c2 = _ := by injection e2
    refine ⟨⟨z0, z1, z2⟩, rfl, ?_⟩
    show wIs _ ≤ Rows.uptoBulk (.agg [x0.1, x1.1, x2.1])
    simp only [Rows.uptoBulk, Rows.uptoBulkAll, wIs]
    omega
set_option maxRecDepth 100000 in
theorem openw_Handler {H : Type} {enc : TypeId × Value → H} {W : World} {n : Nat} {cs : List Value} {d : DataW H × List MemPlace} (h : DataW.trod enc Tryz.prog W 0 (fun _ => true) true n 216 cs = some d) : ∃ x, kHd.R W (Al W) x cs ∧ wHd x ≤ Rows.uptoBulk d.1 := by
  obtain ⟨xs, k, -, hd, hlen, hxl, hf⟩ := DataW.trod_struct Tryz.underlying216 h
  rw [cells_Handler] at hlen
  have hxl2 : xs.length = 4 := hxl
  clear h hxl
  subst hd
  match cs, hlen, xs, hxl2 with
  | [c0, c1, c2, c3], _, [x0, x1, x2, x3], _ =>
    have g0 : DataW.trod enc Tryz.prog W 0 (fun _ => true) true k 3 ([c0, c1, c2, c3].take (Tryz.prog.cellsOf 3)) = some x0 := hf 0 _ rfl
    rw [cells_i] at g0
    change DataW.trod enc Tryz.prog W 0 (fun _ => true) true k 3 [c0] = some x0 at g0
    obtain ⟨z0, e0, -, -⟩ := DataW.trod_int Tryz.underlying3 g0
    obtain rfl : c0 = _ := by injection e0
    have g1 : DataW.trod enc Tryz.prog W 0 (fun _ => true) true k 3 ([c1, c2, c3].take (Tryz.prog.cellsOf 3)) = some x1 := hf 1 _ rfl
    rw [cells_i] at g1
    change DataW.trod enc Tryz.prog W 0 (fun _ => true) true k 3 [c1] = some x1 at g1
    obtain ⟨z1, e1, -, -⟩ := DataW.trod_int Tryz.underlying3 g1
    obtain rfl : c1 = _ := by injection e1
    have g2 : DataW.trod enc Tryz.prog W 0 (fun _ => true) true k 3 ([c2, c3].take (Tryz.prog.cellsOf 3)) = some x2 := hf 2 _ rfl
    rw [cells_i] at g2
    change DataW.trod enc Tryz.prog W 0 (fun _ => true) true k 3 [c2] = some x2 at g2
    obtain ⟨z2, e2, -, -⟩ := DataW.trod_int Tryz.underlying3 g2
    obtain rfl : c2 = _ := by injection e2
    have g3 : DataW.trod enc Tryz.prog W 0 (fun _ => true) true k 3 ([c3].take (Tryz.prog.cellsOf 3)) = some x3 := hf 3 _ rfl
    rw [cells_i] at g3
    change DataW.trod enc Tryz.prog W 0 (fun _ => true) true k 3 [c3] = some x3 at g3
    obtain ⟨z3, e3, -, -⟩ := DataW.trod_int Tryz.underlying3 g3
    obtain rfl : c3 = _ := by injection e3
    refine ⟨⟨z0, z1, z2, z3⟩, rfl, ?_⟩
    show wHd _ ≤ Rows.uptoBulk (.agg [x0.1, x1.1, x2.1, x3.1])
    simp only [Rows.uptoBulk, Rows.uptoBulkAll, wHd]
    omega
set_option maxRecDepth 100000 in
theorem openw_Map {H : Type} {enc : TypeId × Value → H} {W : World} {n : Nat} {cs : List Value} {d : DataW H × List MemPlace} (h : DataW.trod enc Tryz.prog W 0 (fun _ => true) true n 218 cs = some d) : ∃ x, kMp.R W (Al W) x cs ∧ wMp x ≤ Rows.uptoBulk d.1 := by
  obtain ⟨xs, k, -, hd, hlen, hxl, hf⟩ := DataW.trod_struct Tryz.underlying218 h
  rw [cells_Map] at hlen
  have hxl2 : xs.length = 3 := hxl
  clear h hxl
  subst hd
  match cs, hlen, xs, hxl2 with
  | [c0, c1, c2], _, [x0, x1, x2], _ =>
    have g0 : DataW.trod enc Tryz.prog W 0 (fun _ => true) true k 3 ([c0, c1, c2].take (Tryz.prog.cellsOf 3)) = some x0 := hf 0 _ rfl
    rw [cells_i] at g0
    change DataW.trod enc Tryz.prog W 0 (fun _ => true) true k 3 [c0] = some x0 at g0
    obtain ⟨z0, e0, -, -⟩ := DataW.trod_int Tryz.underlying3 g0
    obtain rfl : c0 = _ := by injection e0
    have g1 : DataW.trod enc Tryz.prog W 0 (fun _ => true) true k 26 ([c1, c2].take (Tryz.prog.cellsOf 26)) = some x1 := hf 1 _ rfl
    rw [cells_Li] at g1
    change DataW.trod enc Tryz.prog W 0 (fun _ => true) true k 26 [c1] = some x1 at g1
    obtain ⟨v1, z1, e1, s1, b1⟩ := openw_sl Tryz.underlying26 cells_int wI (fun _ _ _ => openw_int) g1
    obtain rfl : c1 = v1 := by injection e1
    have g2 : DataW.trod enc Tryz.prog W 0 (fun _ => true) true k 26 ([c2].take (Tryz.prog.cellsOf 26)) = some x2 := hf 2 _ rfl
    rw [cells_Li] at g2
    change DataW.trod enc Tryz.prog W 0 (fun _ => true) true k 26 [c2] = some x2 at g2
    obtain ⟨v2, z2, e2, s2, b2⟩ := openw_sl Tryz.underlying26 cells_int wI (fun _ _ _ => openw_int) g2
    obtain rfl : c2 = v2 := by injection e2
    refine ⟨⟨z0, z1, z2⟩, ⟨_, _, rfl, s1, s2⟩, ?_⟩
    show wMp _ ≤ Rows.uptoBulk (.agg [x0.1, x1.1, x2.1])
    simp only [Rows.uptoBulk, Rows.uptoBulkAll, wMp]
    omega
set_option maxRecDepth 100000 in
theorem openw_Method {H : Type} {enc : TypeId × Value → H} {W : World} {n : Nat} {cs : List Value} {d : DataW H × List MemPlace} (h : DataW.trod enc Tryz.prog W 0 (fun _ => true) true n 30 cs = some d) : ∃ x, kMd.R W (Al W) x cs ∧ wMd x ≤ Rows.uptoBulk d.1 := by
  obtain ⟨xs, k, -, hd, hlen, hxl, hf⟩ := DataW.trod_struct Tryz.underlying30 h
  rw [cells_Method] at hlen
  have hxl2 : xs.length = 9 := hxl
  clear h hxl
  subst hd
  match cs, hlen, xs, hxl2 with
  | [c0, c1, c2, c3, c4, c5, c6, c7, c8], _, [x0, x1, x2, x3, x4, x5, x6, x7, x8], _ =>
    have g0 : DataW.trod enc Tryz.prog W 0 (fun _ => true) true k 9 ([c0, c1, c2, c3, c4, c5, c6, c7, c8].take (Tryz.prog.cellsOf 9)) = some x0 := hf 0 _ rfl
    rw [cells_s] at g0
    change DataW.trod enc Tryz.prog W 0 (fun _ => true) true k 9 [c0] = some x0 at g0
    obtain ⟨z0, e0, d0, -⟩ := DataW.trod_string Tryz.underlying9 g0
    obtain rfl : c0 = _ := by injection e0
    have b0 : z0.size + 1 ≤ Rows.uptoBulk x0.1 := by rw [d0]; simp only [Rows.uptoBulk, Array.length_toList]; exact Nat.le_refl _
    have g1 : DataW.trod enc Tryz.prog W 0 (fun _ => true) true k 4 ([c1, c2, c3, c4, c5, c6, c7, c8].take (Tryz.prog.cellsOf 4)) = some x1 := hf 1 _ rfl
    rw [cells_b] at g1
    change DataW.trod enc Tryz.prog W 0 (fun _ => true) true k 4 [c1] = some x1 at g1
    obtain ⟨z1, e1, -⟩ := DataW.trod_bool Tryz.underlying4 g1
    obtain rfl : c1 = _ := by injection e1
    have g2 : DataW.trod enc Tryz.prog W 0 (fun _ => true) true k 26 ([c2, c3, c4, c5, c6, c7, c8].take (Tryz.prog.cellsOf 26)) = some x2 := hf 2 _ rfl
    rw [cells_Li] at g2
    change DataW.trod enc Tryz.prog W 0 (fun _ => true) true k 26 [c2] = some x2 at g2
    obtain ⟨v2, z2, e2, s2, b2⟩ := openw_sl Tryz.underlying26 cells_int wI (fun _ _ _ => openw_int) g2
    obtain rfl : c2 = v2 := by injection e2
    have g3 : DataW.trod enc Tryz.prog W 0 (fun _ => true) true k 3 ([c3, c4, c5, c6, c7, c8].take (Tryz.prog.cellsOf 3)) = some x3 := hf 3 _ rfl
    rw [cells_i] at g3
    change DataW.trod enc Tryz.prog W 0 (fun _ => true) true k 3 [c3] = some x3 at g3
    obtain ⟨z3, e3, -, -⟩ := DataW.trod_int Tryz.underlying3 g3
    obtain rfl : c3 = _ := by injection e3
    have g4 : DataW.trod enc Tryz.prog W 0 (fun _ => true) true k 3 ([c4, c5, c6, c7, c8].take (Tryz.prog.cellsOf 3)) = some x4 := hf 4 _ rfl
    rw [cells_i] at g4
    change DataW.trod enc Tryz.prog W 0 (fun _ => true) true k 3 [c4] = some x4 at g4
    obtain ⟨z4, e4, -, -⟩ := DataW.trod_int Tryz.underlying3 g4
    obtain rfl : c4 = _ := by injection e4
    have g5 : DataW.trod enc Tryz.prog W 0 (fun _ => true) true k 3 ([c5, c6, c7, c8].take (Tryz.prog.cellsOf 3)) = some x5 := hf 5 _ rfl
    rw [cells_i] at g5
    change DataW.trod enc Tryz.prog W 0 (fun _ => true) true k 3 [c5] = some x5 at g5
    obtain ⟨z5, e5, -, -⟩ := DataW.trod_int Tryz.underlying3 g5
    obtain rfl : c5 = _ := by injection e5
    have g6 : DataW.trod enc Tryz.prog W 0 (fun _ => true) true k 25 ([c6, c7, c8].take (Tryz.prog.cellsOf 25)) = some x6 := hf 6 _ rfl
    rw [cells_Ls] at g6
    change DataW.trod enc Tryz.prog W 0 (fun _ => true) true k 25 [c6] = some x6 at g6
    obtain ⟨v6, z6, e6, s6, b6⟩ := openw_sl Tryz.underlying25 cells_Ins wIs (fun _ _ _ => openw_Ins) g6
    obtain rfl : c6 = v6 := by injection e6
    have g7 : DataW.trod enc Tryz.prog W 0 (fun _ => true) true k 27 ([c7, c8].take (Tryz.prog.cellsOf 27)) = some x7 := hf 7 _ rfl
    rw [cells_Lh] at g7
    change DataW.trod enc Tryz.prog W 0 (fun _ => true) true k 27 [c7] = some x7 at g7
    obtain ⟨v7, z7, e7, s7, b7⟩ := openw_sl Tryz.underlying27 cells_Handler wHd (fun _ _ _ => openw_Handler) g7
    obtain rfl : c7 = v7 := by injection e7
    have g8 : DataW.trod enc Tryz.prog W 0 (fun _ => true) true k 28 ([c8].take (Tryz.prog.cellsOf 28)) = some x8 := hf 8 _ rfl
    rw [cells_Lm] at g8
    change DataW.trod enc Tryz.prog W 0 (fun _ => true) true k 28 [c8] = some x8 at g8
    obtain ⟨v8, z8, e8, s8, b8⟩ := openw_sl Tryz.underlying28 cells_Map wMp (fun _ _ _ => openw_Map) g8
    obtain rfl : c8 = v8 := by injection e8
    refine ⟨⟨z0, z1, z2, z3, z4, z5, z6, z7, z8⟩, ⟨_, _, _, _, rfl, s2, s6, s7, s8⟩, ?_⟩
    show wMd _ ≤ Rows.uptoBulk (.agg [x0.1, x1.1, x2.1, x3.1, x4.1, x5.1, x6.1, x7.1, x8.1])
    simp only [Rows.uptoBulk, Rows.uptoBulkAll, wMd]
    omega
set_option maxRecDepth 100000 in
theorem openw_Class {H : Type} {enc : TypeId × Value → H} {W : World} {n : Nat} {cs : List Value} {d : DataW H × List MemPlace} (h : DataW.trod enc Tryz.prog W 0 (fun _ => true) true n 34 cs = some d) : ∃ x, kCs.R W (Al W) x cs ∧ wCs x ≤ Rows.uptoBulk d.1 := by
  obtain ⟨xs, k, -, hd, hlen, hxl, hf⟩ := DataW.trod_struct Tryz.underlying34 h
  rw [cells_Class] at hlen
  have hxl2 : xs.length = 8 := hxl
  clear h hxl
  subst hd
  match cs, hlen, xs, hxl2 with
  | [c0, c1, c2, c3, c4, c5, c6, c7], _, [x0, x1, x2, x3, x4, x5, x6, x7], _ =>
    have g0 : DataW.trod enc Tryz.prog W 0 (fun _ => true) true k 9 ([c0, c1, c2, c3, c4, c5, c6, c7].take (Tryz.prog.cellsOf 9)) = some x0 := hf 0 _ rfl
    rw [cells_s] at g0
    change DataW.trod enc Tryz.prog W 0 (fun _ => true) true k 9 [c0] = some x0 at g0
    obtain ⟨z0, e0, d0, -⟩ := DataW.trod_string Tryz.underlying9 g0
    obtain rfl : c0 = _ := by injection e0
    have b0 : z0.size + 1 ≤ Rows.uptoBulk x0.1 := by rw [d0]; simp only [Rows.uptoBulk, Array.length_toList]; exact Nat.le_refl _
    have g1 : DataW.trod enc Tryz.prog W 0 (fun _ => true) true k 4 ([c1, c2, c3, c4, c5, c6, c7].take (Tryz.prog.cellsOf 4)) = some x1 := hf 1 _ rfl
    rw [cells_b] at g1
    change DataW.trod enc Tryz.prog W 0 (fun _ => true) true k 4 [c1] = some x1 at g1
    obtain ⟨z1, e1, -⟩ := DataW.trod_bool Tryz.underlying4 g1
    obtain rfl : c1 = _ := by injection e1
    have g2 : DataW.trod enc Tryz.prog W 0 (fun _ => true) true k 4 ([c2, c3, c4, c5, c6, c7].take (Tryz.prog.cellsOf 4)) = some x2 := hf 2 _ rfl
    rw [cells_b] at g2
    change DataW.trod enc Tryz.prog W 0 (fun _ => true) true k 4 [c2] = some x2 at g2
    obtain ⟨z2, e2, -⟩ := DataW.trod_bool Tryz.underlying4 g2
    obtain rfl : c2 = _ := by injection e2
    have g3 : DataW.trod enc Tryz.prog W 0 (fun _ => true) true k 3 ([c3, c4, c5, c6, c7].take (Tryz.prog.cellsOf 3)) = some x3 := hf 3 _ rfl
    rw [cells_i] at g3
    change DataW.trod enc Tryz.prog W 0 (fun _ => true) true k 3 [c3] = some x3 at g3
    obtain ⟨z3, e3, -, -⟩ := DataW.trod_int Tryz.underlying3 g3
    obtain rfl : c3 = _ := by injection e3
    have g4 : DataW.trod enc Tryz.prog W 0 (fun _ => true) true k 26 ([c4, c5, c6, c7].take (Tryz.prog.cellsOf 26)) = some x4 := hf 4 _ rfl
    rw [cells_Li] at g4
    change DataW.trod enc Tryz.prog W 0 (fun _ => true) true k 26 [c4] = some x4 at g4
    obtain ⟨v4, z4, e4, s4, b4⟩ := openw_sl Tryz.underlying26 cells_int wI (fun _ _ _ => openw_int) g4
    obtain rfl : c4 = v4 := by injection e4
    have g5 : DataW.trod enc Tryz.prog W 0 (fun _ => true) true k 32 ([c5, c6, c7].take (Tryz.prog.cellsOf 32)) = some x5 := hf 5 _ rfl
    rw [cells_Lf] at g5
    change DataW.trod enc Tryz.prog W 0 (fun _ => true) true k 32 [c5] = some x5 at g5
    obtain ⟨v5, z5, e5, s5, b5⟩ := openw_sl Tryz.underlying32 cells_Field wFd (fun _ _ _ => openw_Field) g5
    obtain rfl : c5 = v5 := by injection e5
    have g6 : DataW.trod enc Tryz.prog W 0 (fun _ => true) true k 32 ([c6, c7].take (Tryz.prog.cellsOf 32)) = some x6 := hf 6 _ rfl
    rw [cells_Lf] at g6
    change DataW.trod enc Tryz.prog W 0 (fun _ => true) true k 32 [c6] = some x6 at g6
    obtain ⟨v6, z6, e6, s6, b6⟩ := openw_sl Tryz.underlying32 cells_Field wFd (fun _ _ _ => openw_Field) g6
    obtain rfl : c6 = v6 := by injection e6
    have g7 : DataW.trod enc Tryz.prog W 0 (fun _ => true) true k 31 ([c7].take (Tryz.prog.cellsOf 31)) = some x7 := hf 7 _ rfl
    rw [cells_Le] at g7
    change DataW.trod enc Tryz.prog W 0 (fun _ => true) true k 31 [c7] = some x7 at g7
    obtain ⟨v7, z7, e7, s7, b7⟩ := openw_sl Tryz.underlying31 cells_Method wMd (fun _ _ _ => openw_Method) g7
    obtain rfl : c7 = v7 := by injection e7
    refine ⟨⟨z0, z1, z2, z3, z4, z5, z6, z7⟩, ⟨_, _, _, _, rfl, s4, s5, s6, s7⟩, ?_⟩
    show wCs _ ≤ Rows.uptoBulk (.agg [x0.1, x1.1, x2.1, x3.1, x4.1, x5.1, x6.1, x7.1])
    simp only [Rows.uptoBulk, Rows.uptoBulkAll, wCs]
    omega
set_option maxRecDepth 100000 in
theorem openw_Program {H : Type} {enc : TypeId × Value → H} {W : World} {n : Nat} {cs : List Value} {d : DataW H × List MemPlace} (h : DataW.trod enc Tryz.prog W 0 (fun _ => true) true n 37 cs = some d) : ∃ x, kPg.R W (Al W) x cs ∧ wPg x ≤ Rows.uptoBulk d.1 := by
  obtain ⟨xs, k, -, hd, hlen, hxl, hf⟩ := DataW.trod_struct Tryz.underlying37 h
  rw [cells_Program] at hlen
  have hxl2 : xs.length = 2 := hxl
  clear h hxl
  subst hd
  match cs, hlen, xs, hxl2 with
  | [c0, c1], _, [x0, x1], _ =>
    have g0 : DataW.trod enc Tryz.prog W 0 (fun _ => true) true k 3 ([c0, c1].take (Tryz.prog.cellsOf 3)) = some x0 := hf 0 _ rfl
    rw [cells_i] at g0
    change DataW.trod enc Tryz.prog W 0 (fun _ => true) true k 3 [c0] = some x0 at g0
    obtain ⟨z0, e0, -, -⟩ := DataW.trod_int Tryz.underlying3 g0
    obtain rfl : c0 = _ := by injection e0
    have g1 : DataW.trod enc Tryz.prog W 0 (fun _ => true) true k 35 ([c1].take (Tryz.prog.cellsOf 35)) = some x1 := hf 1 _ rfl
    rw [cells_Lc] at g1
    change DataW.trod enc Tryz.prog W 0 (fun _ => true) true k 35 [c1] = some x1 at g1
    obtain ⟨v1, z1, e1, s1, b1⟩ := openw_sl Tryz.underlying35 cells_Class wCs (fun _ _ _ => openw_Class) g1
    obtain rfl : c1 = v1 := by injection e1
    refine ⟨⟨z0, z1⟩, ⟨_, rfl, s1⟩, ?_⟩
    show wPg _ ≤ Rows.uptoBulk (.agg [x0.1, x1.1])
    simp only [Rows.uptoBulk, Rows.uptoBulkAll, wPg]
    omega
set_option maxRecDepth 100000 in
theorem openw_prog {H : Type} {enc : TypeId × Value → H} {W : World} {r : Reach} {b0 : Nat} {v : Value} {d : DataW H} {ps : List MemPlace} (hval : Value.okWide Tryz.prog W r b0 37 v) (h : DataW.Trod enc Tryz.prog W 0 (fun _ => true) true 37 v d ps) : ∃ p cs, v = .agg (List.toArray cs) ∧ kPg.R W (Al W) p cs ∧ wPg p ≤ Rows.uptoBulk d := by
  obtain ⟨cs, rfl, -⟩ := okWide_struct Tryz.underlying37 hval
  obtain ⟨n, hn⟩ := h
  obtain ⟨p, hp, hw⟩ := openw_Program hn
  exact ⟨p, cs.toList, by simp, by simpa [Value.cells] using hp, hw⟩
end Go.Proofs.YtbbmgjcabmjjdaaGreatDoor
