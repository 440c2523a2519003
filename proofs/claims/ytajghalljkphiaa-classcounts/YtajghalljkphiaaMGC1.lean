/- ClassCounts: so many and no more, plainly; rows that are made. -/
import Derived.Test.YtajghalljkphiaaMGN1
import Derived.Laws.MakeOwn
import Derived.Test.YtajghalljkphiaaMLGro
namespace Go.Proofs.Ytajghalljkphiaa
open Go.RowKit

def cntA : Cs := ⟨⟨#[65]⟩, false, false, 0, [], [], [], []⟩
def cntF : Fd := ⟨⟨#[102]⟩, 1⟩
def cntM : Md := ⟨⟨#[109]⟩, false, [], 0, 0, 0, [], [], []⟩
/-- Tiny with n of a kind. -/
def cntP (k n : Nat) : Pg := match k with
  | 0 => ⟨11, tinyC :: List.replicate (n - 1) cntA⟩
  | 1 => ⟨11, [{ tinyC with faces := List.replicate n 0 }]⟩
  | 2 => ⟨11, [{ tinyC with flds := List.replicate n cntF }]⟩
  | 3 => ⟨11, [{ tinyC with stcs := List.replicate n cntF }]⟩
  | 4 => ⟨11, [{ tinyC with mds := tinyM :: List.replicate (n - 1) cntM }]⟩
  | 5 => ⟨11, [{ tinyC with mds := [{ tinyM with args := List.replicate n 0 }] }]⟩
  | 6 => ⟨11, [{ tinyC with mds := [{ tinyM with code := List.replicate n ⟨0, 0, 0⟩ }] }]⟩
  | _ => ⟨11, [{ tinyC with mds := [{ tinyM with tab := List.replicate n ⟨0, 0, 0, 0⟩ }] }]⟩
def lim (k : Nat) : Nat := [40, 8, 24, 24, 24, 8, 300, 16].getD k 0
def cntOk (k : Nat) : Bool := (gPg (cntP k (lim k))).all okC && (gPg (cntP k (lim k))).all okT && (gPg (cntP k (lim k))).all okN && Nat.ble (gPg (cntP k (lim k))).length 1500 && !(gPg (cntP k (lim k + 1))).all okC
theorem cnt_all (k : Nat) (hk : k < 8) : cntOk k = true := by
  have h : k = 0 ∨ k = 1 ∨ k = 2 ∨ k = 3 ∨ k = 4 ∨ k = 5 ∨ k = 6 ∨ k = 7 := by omega
  rcases h with rfl | rfl | rfl | rfl | rfl | rfl | rfl | rfl <;> decide +kernel
theorem cnt_yes {k : Nat} (hk : k < 8) : ∃ b, encP (cntP k (lim k)) = .ok b := by
  have h := cnt_all k hk
  unfold cntOk at h
  simp only [Bool.and_eq_true] at h
  exact enc_fine h.1.1.1.1 h.1.1.1.2 h.1.1.2 (Nat.le_of_ble_eq_true h.1.2)
theorem cnt_no {k : Nat} (hk : k < 8) : encP (cntP k (lim k + 1)) = .error 1404 := by
  have h := cnt_all k hk
  unfold cntOk at h
  simp only [Bool.and_eq_true] at h
  exact enc_many (by simpa using h.2)

/-- A row that was made: all alike. -/
theorem made_sl {α : Type} {K : Kd α} {T : TypeId} {u : World} {S : Nat → Prop} {b n : Nat} {z : Array Value} {x : α} (hb : u.heap[b]? = some (.cells (madeCells z (n * K.k)) T (0, 0))) (hR : K.R u S x z.toList) (hS : S b) (hn : n ≤ maxLen) : Sl K u S (.slice (some ⟨b, 0, none⟩) n n) (List.replicate n x) := by
  have hz : z.size = K.k := by have := K.len hR; simpa using this
  refine ⟨_, n, by rw [List.length_replicate], by rw [List.length_replicate]; exact hn, .inr ⟨b, 0, rfl, hS, ⟨blk_lt hb, fun _ j => by simp [World.frozen?, hb]⟩, fun i y hy => ?_⟩⟩
  obtain ⟨hi, rfl⟩ : i < n ∧ y = x := by
    have h1 := (List.getElem?_eq_some_iff.1 hy).1
    rw [List.length_replicate] at h1
    refine ⟨h1, ?_⟩
    rw [List.getElem?_replicate_of_lt h1] at hy
    exact (Option.some.inj hy).symm
  refine ⟨_, hR, fun j v hv => ?_⟩
  have hj : j < K.k := by
    have := (List.getElem?_eq_some_iff.1 hv).1
    rw [K.len hR] at this; exact this
  have hlt : i * K.k + j < n * K.k := by
    have : (i + 1) * K.k ≤ n * K.k := Nat.mul_le_mul_right _ hi
    rw [Nat.succ_mul] at this; omega
  rw [Nat.zero_add]
  simp only [World.cell?, hb]
  have e : (madeCells z (n * K.k))[i * K.k + j]? = some v := by
    unfold madeCells
    rw [Array.getElem?_map, Array.getElem?_range, if_pos hlt]
    simp only [Option.map_some]
    rw [hz, Nat.mul_comm, Nat.mul_add_mod, Nat.mod_eq_of_lt hj]
    have hv2 : z[j]? = some v := by simpa using hv
    rw [getElem!_def, hv2]
  rw [e]; rfl
theorem One.more {w u : World} {bp bc bm bi : Nat} (h : One w u bp bc bm bi) (o : Obj) : One w (u.alloc o) bp bc bm bi :=
  ⟨h.bel.alloc (by have := blk_lt h.prg; have := h.low.1; omega) _, (Below.heap_alloc _ _ _ (blk_lt h.prg)).trans h.prg, (Below.heap_alloc _ _ _ (blk_lt h.cls)).trans h.cls, (Below.heap_alloc _ _ _ (blk_lt h.met)).trans h.met, (Below.heap_alloc _ _ _ (blk_lt h.ins)).trans h.ins, h.low, h.ne⟩
end Go.Proofs.Ytajghalljkphiaa
/- A row that a law appends to, beside what it has made before. -/
namespace Go.Proofs.Ytajghalljkphiaa
open Go.RowKit

/-- The row v of m structs lies in a block of its own (st at first); of V's blocks only those in X have turned. -/
structure Rw (T : TypeId) (k B : Nat) (X : Nat → Prop) (st : Nat) (V wr : World) (v : Value) (m : Nat) (xs : List Value) : Prop where
  own : wr.ownsRow B T k v m xs
  out : ∀ g, v.ownBlock = some g → g = st ∨ V.heap.size ≤ g
  os : wr.os = V.os
  tape : wr.tape = V.tape
  output : wr.output = V.output
  size : V.heap.size ≤ wr.heap.size
  same : ∀ b, b < V.heap.size → ¬ X b → wr.heap[b]? = V.heap[b]?
section
variable {T : TypeId} {k B : Nat} {X : Nat → Prop} {st : Nat} {V wr : World} {v : Value} {m : Nat} {xs : List Value}
theorem Rw.app (h : Rw T k B X st V wr v m xs) (hX : X st ∨ V.heap.size ≤ st) {o : Obj} {w' : World} {g cap : Nat} {news : List Value} (hown : w'.ownsRow B T k (.slice (some ⟨g, 0, none⟩) (m + 1) cap) (m + 1) (xs ++ news)) (hg : (wr.alloc o).grownBy w' v.ownBlock) (hat : v.ownBlock = some g ∨ g = (wr.alloc o).heap.size) :
    Rw T k B X st V w' (.slice (some ⟨g, 0, none⟩) (m + 1) cap) (m + 1) (xs ++ news) ∧ ∀ b, b < V.heap.size → b ≠ st → w'.heap[b]? = wr.heap[b]? := by
  have hz : (wr.alloc o).heap.size = wr.heap.size + 1 := by simp
  have hs := h.size
  have hstep : ∀ b, b < V.heap.size → b ≠ st → w'.heap[b]? = wr.heap[b]? := fun b hb hn => by
    rw [hg.block b (by omega) (fun e => by rcases h.out b e.symm with e2 | e2 <;> omega)]
    exact Below.heap_alloc _ _ _ (by omega)
  refine ⟨⟨hown, fun g' e => ?_, hg.os.trans h.os, hg.tape.trans h.tape, hg.output.trans h.output, by have := hg.size; omega, fun b hb hx => ?_⟩, hstep⟩
  · have e' : g = g' := by simpa [Value.ownBlock] using e
    subst e'
    rcases hat with q | q
    · exact h.out g q
    · right; omega
  · have hn : b ≠ st := fun e => by
      subst e
      rcases hX with q | q
      · exact hx q
      · omega
    rw [hstep b hb hn]; exact h.same b hb hx
theorem Rw.set (h : Rw T k B X st V wr v m xs) {b j : Nat} (hb : X b) (hne : v.ownBlock ≠ some b) (u : Value) : Rw T k B X st V (wr.setCell ⟨b, j, none⟩ u) v m xs :=
  ⟨h.own.kept (row := some b) ⟨rfl, rfl, rfl, by rw [size_set]; exact Nat.le_refl _, fun q _ e => blk_set (fun e2 => e (by rw [e2]))⟩ (.inr hne), h.out, h.os, h.tape, h.output, by rw [size_set]; exact h.size, fun q hq hx => by
    have hn : q ≠ b := fun e => hx (by rw [e]; exact hb)
    rw [blk_set hn]; exact h.same q hq hx⟩
/-- The slice that it is. -/
theorem Rw.sl {α : Type} {K : Kd α} {css : List (List Value)} {ys : List α} (h : Rw T K.k B X st V wr v ys.length css.flatten) (hl : css.length = ys.length) (hR : ∀ (i : Nat) (x : α), ys[i]? = some x → ∃ cs, css[i]? = some cs ∧ K.R wr (Sx B wr v) x cs) : Sl K wr (fun b => B ≤ b ∧ b < wr.heap.size) v ys :=
  Gro.sl (T := T) ⟨css, hl, hR, h.own⟩
end
theorem flat_succ (c : List Value) (i : Nat) (a : List Value) : (c :: List.replicate i a).flatten ++ a = (c :: List.replicate (i + 1) a).flatten := by
  rw [List.flatten_cons, List.flatten_cons, List.append_assoc]
  congr 1
  rw [List.replicate_succ', List.flatten_append]; simp
theorem flat_succ0 (i : Nat) (a : List Value) : (List.replicate i a).flatten ++ a = (List.replicate (i + 1) a).flatten := by
  rw [List.replicate_succ', List.flatten_append]; simp
theorem rep_R {α : Type} {K : Kd α} {w : World} {S : Nat → Prop} {x : α} {cs : List Value} (h : K.R w S x cs) (n : Nat) : ∀ (i : Nat) (y : α), (List.replicate n x)[i]? = some y → ∃ c, (List.replicate n cs)[i]? = some c ∧ K.R w S y c := fun i y hy => by
  have h1 := (List.getElem?_eq_some_iff.1 hy).1
  rw [List.length_replicate] at h1
  rw [List.getElem?_replicate_of_lt h1] at hy
  cases hy
  exact ⟨cs, List.getElem?_replicate_of_lt h1, h⟩
theorem cons_R {α : Type} {K : Kd α} {w : World} {S : Nat → Prop} {x y : α} {cs ds : List Value} (h : K.R w S x cs) (h2 : K.R w S y ds) (n : Nat) : ∀ (i : Nat) (z : α), (x :: List.replicate n y)[i]? = some z → ∃ c, (cs :: List.replicate n ds)[i]? = some c ∧ K.R w S z c
  | 0, z, hz => by simp at hz; subst hz; exact ⟨cs, rfl, h⟩
  | i + 1, z, hz => rep_R h2 n i z (by simpa using hz)
end Go.Proofs.Ytajghalljkphiaa
