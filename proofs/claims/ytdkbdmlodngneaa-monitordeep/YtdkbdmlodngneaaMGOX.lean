/- The end of a law's proof where the call makes memory of its own: the row's post out of 'of what was there nothing has turned', whatever the arguments' types. No condition. -/
import Derived.Test.YtdkbdmlodngneaaRows
import Derived.WalkKit
import Derived.ProofKit
import Derived.OpenShut
import Derived.Room.BridgeHanded
import Derived.Carry
import Derived.Deep.Slices
import Derived.Test.YtdkbdmlodngneaaMLMem
import Derived.SizedLaws
import Derived.Test.YtdkbdmlodngneaaMGL0
namespace Go.Proofs.Ytdkbdmlodngneaa
open Go.ChangeShapes Go.WideShapes Go.ChangeAt Go.RowKit

theorem post_below {H : Type} {enc : TypeId × Value → H} {P : Program} {f : Func} {s : ChangeSpec} {apart fresh handsOn : Bool} {W W' : World} {args : Array Value} {v : Value} {ds gs : List (DataW H)} {before pa pv : List MemPlace}
    (hW : DataW.Whole enc P f.params.toList s.vars apart W args.toList ds gs before)
    (hres : ∀ (b : Nat) (sp : Nat → Bool) (hd : Bool), DataW.TrodAll enc P W' b sp hd f.resultTypes.toList (v.resultList f.resultTypes.size) (s.fn H (ds ++ gs)).results [])
    (hargs : ∀ sp : Nat → Bool, (∀ p ∈ before, sp p.block = true) → DataW.TrodAll enc P W' 0 sp true f.params.toList args.toList (s.fn H (ds ++ gs)).args pa)
    (hvars : ∀ sp : Nat → Bool, (∀ p ∈ before, sp p.block = true) → DataW.TrodVars enc P W' sp s.vars (s.fn H (ds ++ gs)).vars pv)
    (hb : Below W.heap.size W W') : s.post enc P f apart fresh handsOn false W args v W' := by
  have hold : ∀ p ∈ before, (fun b => decide (b < W.heap.size)) p.block = true := fun p hp => by simpa using hW.lt p hp
  exact ⟨ds, gs, before, [], pa, pv, hW, hres _ _ _, hargs _ hold, hvars _ hold, hb.frame _, fun h => by cases h⟩

theorem trodAll_stays {H : Type} {enc : TypeId × Value → H} {P : Program} (hl : laidOutB P = true) {W W' : World} {sp : Nat → Bool} : ∀ (ts : List TypeId) {vs : List Value} {ds : List (DataW H)} {ps : List MemPlace},
    (∀ t ∈ ts, P.readableRec t = true ∧ t < P.types.size) → DataW.TrodAll enc P W 0 (fun _ => true) true ts vs ds ps → (∀ p ∈ ps, W.sameAt W' p) → (∀ p ∈ ps, sp p.block = true) → DataW.TrodAll enc P W' 0 sp true ts vs ds ps := by
  intro ts
  induction ts with
  | nil =>
    intro vs ds ps _ h _ _
    obtain ⟨rfl, rfl, rfl⟩ := trodAll_nil h
    exact trodAll_mk0
  | cons t ts ih =>
    intro vs ds ps hr h hs hp
    obtain ⟨v, vs', d, ds', p, q, rfl, rfl, rfl, h0, h1⟩ := trodAll_cons h
    have r0 := hr t (List.mem_cons_self ..)
    exact trodAll_cons_mk (WideElems.Trod_stays hl r0.1 r0.2 h0 (fun x hx => hs x (List.mem_append_left _ hx)) (fun x hx => hp x (List.mem_append_left _ hx)))
      (ih (fun u hu => hr u (List.mem_cons_of_mem _ hu)) h1 (fun x hx => hs x (List.mem_append_right _ hx)) (fun x hx => hp x (List.mem_append_right _ hx)))

/-- The arguments read as they did, of whatever type they are. -/
theorem post_kept {H : Type} {enc : TypeId × Value → H} {P : Program} {f : Func} {s : ChangeSpec} {apart fresh handsOn : Bool} {W W' : World} {args : Array Value} {v : Value} {ds gs : List (DataW H)} {before pv : List MemPlace}
    (hl : laidOutB P = true) (hr : ∀ t ∈ f.params.toList, P.readableRec t = true ∧ t < P.types.size)
    (hW : DataW.Whole enc P f.params.toList s.vars apart W args.toList ds gs before)
    (hres : ∀ (b : Nat) (sp : Nat → Bool) (hd : Bool), DataW.TrodAll enc P W' b sp hd f.resultTypes.toList (v.resultList f.resultTypes.size) (s.fn H (ds ++ gs)).results [])
    (hargs : (s.fn H (ds ++ gs)).args = ds)
    (hvars : ∀ sp : Nat → Bool, (∀ p ∈ before, sp p.block = true) → DataW.TrodVars enc P W' sp s.vars (s.fn H (ds ++ gs)).vars pv)
    (hb : Below W.heap.size W W') : s.post enc P f apart fresh handsOn false W args v W' := by
  have hlt := hW.lt
  have hW2 := hW
  obtain ⟨p, q, hA, _, rfl, _, _⟩ := hW2
  refine post_below (pa := p) hW hres (fun sp hsp => ?_) hvars hb
  rw [hargs]
  exact trodAll_stays hl _ hr hA (fun x hx => hb.same (hlt x (List.mem_append_left _ hx))) (fun x hx => hsp x (List.mem_append_left _ hx))
end Go.Proofs.Ytdkbdmlodngneaa
/- A program as an argument is read: what lies in memory, whatever it is. -/
namespace Go.Proofs.Ytdkbdmlodngneaa
open Go.ChangeShapes Go.WideShapes Go.ChangeAt Go.RowKit Go.Deep

/-- All blocks that are there. -/
def Al (W : World) (b : Nat) : Prop := b < W.heap.size
theorem list_of {α : Type} {P : Nat → α → Prop} : ∀ n, (∀ i, i < n → ∃ x, P i x) → ∃ xs : List α, xs.length = n ∧ ∀ i x, xs[i]? = some x → P i x
  | 0, _ => ⟨[], rfl, fun i x h => by simp at h⟩
  | n + 1, h => by
    obtain ⟨xs, e, hx⟩ := list_of n fun i hi => h i (by omega)
    obtain ⟨y, hy⟩ := h n (by omega)
    refine ⟨xs ++ [y], by simp [e], fun i x hi => ?_⟩
    by_cases hl : i < n
    · rw [List.getElem?_append_left (by omega)] at hi; exact hx i x hi
    · rw [List.getElem?_append_right (by omega)] at hi
      have e2 : i = n := by
        apply Classical.byContradiction
        intro hn
        rw [List.getElem?_eq_none (by simp; omega)] at hi
        cases hi
      subst e2
      rw [e, Nat.sub_self] at hi
      simp at hi; subst hi; exact hy
theorem lt_blk {w : World} {a : Addr} {v : Value} (h : w.cell? a = some v) : a.block < w.heap.size := by
  apply Nat.lt_of_not_le
  intro hn
  have e : w.heap[a.block]? = none := Array.getElem?_eq_none hn
  simp only [World.cell?, e] at h
  cases h
theorem open_sl {H : Type} {enc : TypeId × Value → H} {α : Type} {K : Kd α} {W : World} {Ts T : TypeId} (hu : Try.prog.underlying Ts = some (.slice T)) (hk : Try.prog.cellsOf T = K.k)
    (hE : ∀ n cs (d : DataW H × List MemPlace), DataW.trod enc Try.prog W 0 (fun _ => true) true n T cs = some d → ∃ x, K.R W (Al W) x cs)
    {n : Nat} {cs : List Value} {d : DataW H × List MemPlace} (h : DataW.trod enc Try.prog W 0 (fun _ => true) true n Ts cs = some d) (hf : K.uf = false := by rfl) : ∃ v xs, cs = [v] ∧ Sl K W (Al W) v xs := by
  rcases open_slice hu h with ⟨rfl, _⟩ | ⟨a, len, cap, m, k, D, Pl, rfl, _, hl, hm, hmm, _, hx⟩
  · exact ⟨_, [], rfl, Sl.nil K W _⟩
  · simp only [if_true] at hmm
    subst hmm
    obtain ⟨xs, hxl, hxs⟩ := list_of (P := fun i x => ∃ cs', K.R W (Al W) x cs' ∧ ∀ j u, cs'[j]? = some u → W.cell? (a.add (i * K.k + j)) = some u) len fun i hi => by
      obtain ⟨cs', h1, h2⟩ := hx i (by omega)
      rw [hk] at h1
      obtain ⟨_, hlen, hcell⟩ := World.cells?_some h1
      obtain ⟨x, hR⟩ := hE _ _ _ h2
      refine ⟨x, cs', hR, fun j u hj => ?_⟩
      have hjl : j < K.k := by
        have := (List.getElem?_eq_some_iff.1 hj).1
        rw [K.len hR] at this; exact this
      have := hcell j hjl
      rw [add_add] at this
      rw [this]; exact hj
    refine ⟨_, xs, rfl, some a, m, by rw [hxl], by rw [hxl]; exact Nat.le_trans hl hm, ?_⟩
    cases xs with
    | nil => exact .inl rfl
    | cons y ys =>
      right
      obtain ⟨cs', r1, r2⟩ := hxs 0 y rfl
      have hp : 0 < cs'.length := by rw [K.len r1]; exact K.pos
      have c0 := r2 0 _ (List.getElem?_eq_getElem hp)
      have hb := lt_blk c0
      obtain ⟨b, o, spot⟩ := a
      have hspot : spot = none := by simpa [Addr.add] using World.cell?_spot c0
      subst hspot
      refine ⟨b, o, rfl, by simpa [Al, Addr.add] using hb, ⟨by simpa [Addr.add] using hb, fun e => by rw [hf] at e; cases e⟩, fun i x hi => ?_⟩
      obtain ⟨cs2, q1, q2⟩ := hxs i x hi
      exact ⟨cs2, q1, fun j u hu => by have := q2 j u hu; rw [add_plain] at this; exact this⟩
theorem cells_i : Try.prog.cellsOf 3 = 1 := by kernel_rfl
theorem cells_int : Try.prog.cellsOf 3 = kI.k := by kernel_rfl
theorem cells_s : Try.prog.cellsOf 9 = 1 := by kernel_rfl
theorem cells_b : Try.prog.cellsOf 4 = 1 := by kernel_rfl
theorem open_int1 {H : Type} {enc : TypeId × Value → H} {W : World} {n : Nat} {cs : List Value} {d : DataW H × List MemPlace} (h : DataW.trod enc Try.prog W 0 (fun _ => true) true n 3 cs = some d) : ∃ x, kI.R W (Al W) x cs := by
  obtain ⟨z, rfl, -, -⟩ := DataW.trod_int Try.underlying3 h
  exact ⟨z, rfl⟩
theorem cells_Li : Try.prog.cellsOf 38 = 1 := by kernel_rfl
end Go.Proofs.Ytdkbdmlodngneaa
/- A program as an argument is read, and how much there is of it. -/
namespace Go.Proofs.Ytdkbdmlodngneaa
open Go.ChangeShapes Go.WideShapes Go.ChangeAt Go.RowKit Go.Deep

def wL {α : Type} (f : α → Nat) (xs : List α) : Nat := 1 + (xs.map f).sum
def wI (_ : Int) : Nat := 1
def wFd (f : Fd) : Nat := f.nm.size + 1
def wIs (_ : Is) : Nat := 1
def wHd (_ : Hd) : Nat := 1
def wMp (m : Mp) : Nat := wL wI m.lo + wL wI m.st
def wMd (m : Md) : Nat := m.nm.size + 1 + wL wI m.args + wL wIs m.code + wL wHd m.tab + wL wMp m.maps
def wCs (c : Cs) : Nat := c.nm.size + 1 + wL wI c.faces + wL wFd c.flds + wL wFd c.stcs + wL wMd c.mds
def wPg (p : Pg) : Nat := wL wCs p.cls
theorem bulk_map {H : Type} {α : Type} (f : α → Nat) (D : Nat → DataW H) : ∀ (xs : List α) (o : Nat), (∀ i x, xs[i]? = some x → f x ≤ Rows.uptoBulk (D (o + i))) → (xs.map f).sum ≤ Rows.uptoBulkAll ((List.range' o xs.length).map D)
  | [], _, _ => by simp
  | x :: xs, o, h => by
    have h0 := h 0 x rfl
    have ih := bulk_map f D xs (o + 1) fun i y hy => by have := h (i + 1) y (by simpa using hy); rw [show o + (i + 1) = o + 1 + i by omega] at this; exact this
    rw [List.map_cons, List.sum_cons, List.length_cons, List.range'_succ, List.map_cons]
    simp only [Rows.uptoBulkAll]
    rw [Nat.add_zero] at h0
    omega
theorem openw_sl {H : Type} {enc : TypeId × Value → H} {α : Type} {K : Kd α} {W : World} {Ts T : TypeId} (hu : Try.prog.underlying Ts = some (.slice T)) (hk : Try.prog.cellsOf T = K.k) (f : α → Nat)
    (hE : ∀ n cs (d : DataW H × List MemPlace), DataW.trod enc Try.prog W 0 (fun _ => true) true n T cs = some d → ∃ x, K.R W (Al W) x cs ∧ f x ≤ Rows.uptoBulk d.1)
    {n : Nat} {cs : List Value} {d : DataW H × List MemPlace} (h : DataW.trod enc Try.prog W 0 (fun _ => true) true n Ts cs = some d) (hf : K.uf = false := by rfl) : ∃ v xs, cs = [v] ∧ Sl K W (Al W) v xs ∧ wL f xs ≤ Rows.uptoBulk d.1 := by
  rcases open_slice hu h with ⟨rfl, rfl⟩ | ⟨a, len, cap, m, k, D, Pl, rfl, _, hl, hm, hmm, hd, hx⟩
  · exact ⟨_, [], rfl, Sl.nil K W _, by simp [wL, Rows.uptoBulk]⟩
  · simp only [if_true] at hmm
    subst hmm
    obtain ⟨xs, hxl, hxs⟩ := list_of (P := fun i x => (∃ cs', K.R W (Al W) x cs' ∧ ∀ j u, cs'[j]? = some u → W.cell? (a.add (i * K.k + j)) = some u) ∧ f x ≤ Rows.uptoBulk (D i)) len fun i hi => by
      obtain ⟨cs', h1, h2⟩ := hx i (by omega)
      rw [hk] at h1
      obtain ⟨_, hlen, hcell⟩ := World.cells?_some h1
      obtain ⟨x, hR, hw⟩ := hE _ _ _ h2
      refine ⟨x, ⟨cs', hR, fun j u hj => ?_⟩, hw⟩
      have hjl : j < K.k := by
        have := (List.getElem?_eq_some_iff.1 hj).1
        rw [K.len hR] at this; exact this
      have := hcell j hjl
      rw [add_add] at this
      rw [this]; exact hj
    have hbulk : wL f xs ≤ Rows.uptoBulk d.1 := by
      rw [hd]
      have := bulk_map f D xs 0 fun i x hi => by rw [Nat.zero_add]; exact (hxs i x hi).2
      rw [hxl, ← List.range_eq_range'] at this
      simp only [wL, Rows.uptoBulk]
      omega
    refine ⟨_, xs, rfl, ⟨some a, m, by rw [hxl], by rw [hxl]; exact Nat.le_trans hl hm, ?_⟩, hbulk⟩
    cases xs with
    | nil => exact .inl rfl
    | cons y ys =>
      right
      obtain ⟨⟨cs', r1, r2⟩, -⟩ := hxs 0 y rfl
      have hp : 0 < cs'.length := by rw [K.len r1]; exact K.pos
      have c0 := r2 0 _ (List.getElem?_eq_getElem hp)
      have hb := lt_blk c0
      obtain ⟨b, o, spot⟩ := a
      have hspot : spot = none := by simpa [Addr.add] using World.cell?_spot c0
      subst hspot
      refine ⟨b, o, rfl, by simpa [Al, Addr.add] using hb, ⟨by simpa [Addr.add] using hb, fun e => by rw [hf] at e; cases e⟩, fun i x hi => ?_⟩
      obtain ⟨⟨cs2, q1, q2⟩, -⟩ := hxs i x hi
      exact ⟨cs2, q1, fun j u hu => by have := q2 j u hu; rw [add_plain] at this; exact this⟩
theorem openw_int {H : Type} {enc : TypeId × Value → H} {W : World} {n : Nat} {cs : List Value} {d : DataW H × List MemPlace} (h : DataW.trod enc Try.prog W 0 (fun _ => true) true n 3 cs = some d) : ∃ x, kI.R W (Al W) x cs ∧ wI x ≤ Rows.uptoBulk d.1 := by
  obtain ⟨z, rfl, rfl, -⟩ := DataW.trod_int Try.underlying3 h
  exact ⟨z, rfl, by simp [wI, Rows.uptoBulk]⟩
end Go.Proofs.Ytdkbdmlodngneaa
