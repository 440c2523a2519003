/- CopyProgram: a program of new blocks that tells the same. -/
import Derived.Test.YtdgndglinkcdbaaDoorMGCX
import Derived.Test.YtdgndglinkcdbaaDoorMGD3
import Derived.Test.YtdgndglinkcdbaaDoorMGWX
import Derived.Test.YtdgndglinkcdbaaDoorMY14
import Derived.Deep.RegionHeld3
namespace Go.Proofs.YtdgndglinkcdbaaDoor
open Go.RowKit

def Lim (p : Pg) : Prop := p.cls.length ≤ 1073741824 ∧ ∀ c ∈ p.cls, c.faces.length ≤ 1073741824 ∧ c.flds.length ≤ 1073741824 ∧ c.stcs.length ≤ 1073741824 ∧ c.mds.length ≤ 1073741824 ∧ ∀ m ∈ c.mds, m.args.length ≤ 1073741824 ∧ m.code.length ≤ 1073741824 ∧ m.tab.length ≤ 1073741824 ∧ m.maps.length ≤ 1073741824 ∧ ∀ x ∈ m.maps, x.lo.length ≤ 1073741824 ∧ x.st.length ≤ 1073741824
/-- A new struct's box, and nothing else has turned. -/
structure Nb (tb : TypeId) (wr : World) (cb : Nat) (row : Array Value) (u : World) : Prop where
  bel : Below wr.heap.size wr u
  box : u.heap[cb]? = some (.cells row tb (0, 0))
  at_ : wr.heap.size ≤ cb
section
variable {tb : TypeId} {wr : World} {cb : Nat} {row : Array Value} {u : World}
theorem Nb.lt (h : Nb tb wr cb row u) : cb < u.heap.size := (Array.getElem?_eq_some_iff.1 h.box).1
theorem Nb.call {u' : World} (h : Nb tb wr cb row u) (hb : Below u.heap.size u u') : Nb tb wr cb row u' := ⟨h.bel.trans (hb.mono h.bel.size), (hb.block _ h.lt).trans h.box, h.at_⟩
theorem Nb.set {j : Nat} {v : Value} {row' : Array Value} (h : Nb tb wr cb row u) (hr : row.setIfInBounds j v = row') : Nb tb wr cb row' (u.setCell ⟨cb, j, none⟩ v) := by
  subst hr
  refine ⟨⟨h.bel.os, h.bel.tape, h.bel.output, by simp [World.setCell]; exact h.bel.size, fun k hk => ?_⟩, hset h.box _, h.at_⟩
  rw [Below.heap_setCell _ _ _ _ (show k ≠ cb by have := h.at_; omega)]; exact h.bel.block k hk
theorem cell_of_box {u : World} {b j : Nat} {row : Array Value} {T : TypeId} {fr : Nat × Nat} {v : Value} (h : u.heap[b]? = some (.cells row T fr)) (hr : row[j]? = some v) : u.cell? ⟨b, j, none⟩ = some v := by simp [World.cell?, h, hr]
theorem frz_of_box {u : World} {b : Nat} {row : Array Value} {T : TypeId} (h : u.heap[b]? = some (.cells row T (0, 0))) (j : Nat) : u.frozen? ⟨b, j, none⟩ = false := by simp [World.frozen?, h]
theorem Nb.cell {j : Nat} {v : Value} (h : Nb tb wr cb row u) (hr : row[j]? = some v) : u.cell? ⟨cb, j, none⟩ = some v := cell_of_box h.box hr
theorem Nb.frz (h : Nb tb wr cb row u) (j : Nat) : u.frozen? ⟨cb, j, none⟩ = false := frz_of_box h.box j
end
theorem nb_of {r0 u : World} {row : Array Value} {T : TypeId} (h : u.heap[r0.heap.size]? = some (.cells row T (0, 0)) ∧ u.heap.size = r0.heap.size + 1 ∧ (∀ k, k < r0.heap.size → u.heap[k]? = r0.heap[k]?) ∧ u.os = r0.os ∧ u.tape = r0.tape ∧ u.output = r0.output) : Nb T r0 r0.heap.size row u :=
  ⟨⟨h.2.2.2.1, h.2.2.2.2.1, h.2.2.2.2.2, by omega, h.2.2.1⟩, h.1, Nat.le_refl _⟩
def LU {α : Type} (K : Kd α) (cb : Nat) (u : World) (v : Value) (xs : List α) : Prop := Sl K u (fun k => cb + 1 ≤ k ∧ k < u.heap.size) v xs
theorem LU.call {α : Type} {K : Kd α} {cb : Nat} {u u' : World} {v : Value} {xs : List α} (h : LU K cb u v xs) (hb : Below u.heap.size u u') : LU K cb u' v xs :=
  (Sl.keep (fun k hk => hb.block k hk.2) h).mono fun _ hk => ⟨hk.1, Nat.lt_of_lt_of_le hk.2 hb.size⟩
theorem LU.set {α : Type} {K : Kd α} {cb : Nat} {u : World} {v : Value} {xs : List α} (h : LU K cb u v xs) (j : Nat) (x : Value) : LU K cb (u.setCell ⟨cb, j, none⟩ x) v xs :=
  (Sl.keep (fun k hk => Below.heap_setCell _ _ _ _ (show k ≠ cb by have := hk.1; omega)) h).mono fun k hk => ⟨hk.1, by simp [World.setCell]; exact hk.2⟩
theorem lu_of {α : Type} {K : Kd α} {cb : Nat} {u u' : World} {v : Value} {xs : List α} (h : Cpd K u xs v u') (hl : cb < u.heap.size) : LU K cb u' v xs := h.2.mono fun k hk => ⟨by have := hk.1; omega, hk.2⟩
/-- A load under a name of its own: one that a region must not take first. -/
def ldM (t : TypeId) (a : Operand) : Op := Op.load t a
attribute [local go_sem ↓] app_Y
attribute [local go_sem] ldM
end Go.Proofs.YtdgndglinkcdbaaDoor
