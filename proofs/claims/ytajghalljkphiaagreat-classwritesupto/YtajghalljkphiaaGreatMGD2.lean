/- The document's own reader: a row that is gathered in a cell of a struct's box; the box while a struct is read. -/
import Derived.Test.YtajghalljkphiaaGreatMGD1
import Derived.Test.YtajghalljkphiaaGreatMLAwk
import Derived.Test.YtajghalljkphiaaGreatMLLH
import Derived.Test.YtajghalljkphiaaGreatMLLP
import Derived.Test.YtajghalljkphiaaGreatMLRMd
import Derived.Deep.DeepCutAuto
namespace Go.Proofs.YtajghalljkphiaaGreat
open Go.RowKit

/-- Of what w held nothing has turned but blocks in X. -/
structure Bs (X : Nat → Prop) (w w' : World) : Prop where
  os : w'.os = w.os
  tape : w'.tape = w.tape
  output : w'.output = w.output
  size : w.heap.size ≤ w'.heap.size
  block : ∀ k, k < w.heap.size → ¬ X k → w'.heap[k]? = w.heap[k]?
theorem Bs.refl (X : Nat → Prop) (w : World) : Bs X w w := ⟨rfl, rfl, rfl, Nat.le_refl _, fun _ _ _ => rfl⟩
theorem Bs.trans {X : Nat → Prop} {a b c : World} (h : Bs X a b) (k : Bs X b c) : Bs X a c :=
  ⟨k.os.trans h.os, k.tape.trans h.tape, k.output.trans h.output, Nat.le_trans h.size k.size, fun i hi e => (k.block i (Nat.lt_of_lt_of_le hi h.size) e).trans (h.block i hi e)⟩
theorem Bs.of_bx {X : Nat → Prop} {rh : Nat} {w w' : World} (h : Bx rh w w') (hX : X rh) : Bs X w w' := ⟨h.os, h.tape, h.output, h.size, fun k hk e => h.block k hk (fun e2 => e (by rw [e2]; exact hX))⟩
theorem Bs.set {X : Nat → Prop} {w : World} {b j : Nat} {v : Value} (hX : X b) : Bs X w (w.setCell ⟨b, j, none⟩ v) :=
  ⟨rfl, rfl, rfl, by simp [World.setCell], fun k _ e => Below.heap_setCell _ _ _ _ (fun e2 => e (by rw [e2]; exact hX))⟩

/-- i are gathered in the cell j of the box mb, t is the reader's state. -/
def QIm {α : Type} (K : Kd α) (T : TypeId) (Z : Stt × Option (List α)) (p : Prs α) (s : ByteArray) (rh mb : Nat) (tb : TypeId) (row : Value → Array Value) (X : Nat → Prop) (w : World) (N i : Nat) (v : Value) (wr : World) (t : Stt) : Prop :=
  ∃ xs, xs.length = i ∧ Gro K T w.heap.size wr v xs ∧ Bs X w wr ∧ Qb wr rh s t ∧ Rem Z p s (N - i) xs t ∧ wr.heap[mb]? = some (.cells (row v) tb (0, 0))
section
variable {α : Type} {K : Kd α} {T : TypeId} {Z : Stt × Option (List α)} {p : Prs α} {s : ByteArray} {rh mb : Nat} {tb : TypeId} {row : Value → Array Value} {X : Nat → Prop} {w : World} {N i : Nat} {v : Value} {wr : World}
theorem QIm.next {b j : Nat} (h : QIm K T Z p s rh mb tb row X w N i v wr (.ok b)) (hi : i < N) (hrh : rh < w.heap.size) (hmb : mb < w.heap.size) (hne : mb ≠ rh) (xr : X rh) (xm : X mb) (hrow : ∀ u, (row v).setIfInBounds j u = row u) {w1 : World} {x : α} (hb : Bx rh wr w1) (hq : Qb w1 rh s (stp p s (.ok b)).1) (hx : ∀ y, (stp p s (.ok b)).2 = some y → x = y) :
    w1.heap[mb]? = some (.cells (row v) tb (0, 0)) ∧ (∃ fs, w1.ownsRow w.heap.size T K.k v i fs) ∧ ∀ cs fs o w2 g cap, K.R w1 (fun b => wr.heap.size ≤ b ∧ b < w1.heap.size) x cs → w1.ownsRow w.heap.size T K.k v i fs → w2.ownsRow w.heap.size T K.k (.slice (some ⟨g, 0, none⟩) (i + 1) cap) (i + 1) (fs ++ cs) →
      (w1.alloc o).grownBy w2 v.ownBlock → (v.ownBlock = some g ∨ g = (w1.alloc o).heap.size) → w2.heap[mb]? = some (.cells (row v) tb (0, 0)) ∧ QIm K T Z p s rh mb tb row X w N (i + 1) (.slice (some ⟨g, 0, none⟩) (i + 1) cap) (w2.setCell ⟨mb, j, none⟩ (.slice (some ⟨g, 0, none⟩) (i + 1) cap)) (stp p s (.ok b)).1 := by
  obtain ⟨xs, h1, h5, h4, h3, h6, h7⟩ := h
  have hws := h4.size
  have hG := h5.bx hb hrh
  have hO := hG.own
  rw [h1] at hO
  have hm1 : w1.heap[mb]? = some (.cells (row v) tb (0, 0)) := (hb.block mb (by omega) hne).trans h7
  refine ⟨hm1, hO, fun cs fs o w2 g cap hK hf hown hg hat => ?_⟩
  subst h1
  have hv : ∀ g, v.ownBlock = some g → g < wr.heap.size ∧ w.heap.size ≤ g := fun g hg => by
    rcases h5.shape with e | ⟨g', cap, e, hge, hlt⟩
    · rw [e] at hg; cases hg
    · rw [e] at hg
      have : g' = g := by simpa [Value.ownBlock] using hg
      omega
  have hA := hG.app hK (by omega) (fun g hg => (hv g hg).1) hf hown hg hat
  have hrw : rh < w1.heap.size := hq.lt
  have hsz : (w1.alloc o).heap.size = w1.heap.size + 1 := by simp
  have hbz := hb.size
  have hlow : ∀ k, k < w.heap.size → w2.heap[k]? = w1.heap[k]? := fun k hk => by
    rw [hg.block k (by omega) (fun e => by have := (hv k e.symm).2; omega), Below.heap_alloc _ _ _ (by omega)]
  have hm2 := (hlow mb hmb).trans hm1
  have h1b := h4.trans (Bs.of_bx hb xr)
  have hgs := hg.size
  refine ⟨hm2, xs ++ [x], by simp, hA.kept (row := some mb) ⟨rfl, rfl, rfl, by simp [World.setCell], fun k _ e => Below.heap_setCell _ _ _ _ (fun e2 => e (by rw [e2]))⟩ (fun b e => by cases e; exact hmb), ?_, ?_, ?_, ?_⟩
  · refine ⟨hg.os.trans h1b.os, hg.tape.trans h1b.tape, hg.output.trans h1b.output, ?_, fun k hk hx => ?_⟩
    · show w.heap.size ≤ (w2.setCell ⟨mb, j, none⟩ _).heap.size
      simp only [World.setCell, Array.size_modify]; omega
    · rw [Below.heap_setCell _ _ _ _ (fun e2 : k = mb => hx (by rw [e2]; exact xm)), hlow k hk]
      exact h1b.block k hk hx
  · exact hq.keep ((Below.heap_setCell _ _ _ _ (Ne.symm hne)).trans (hlow rh hrh))
  · have e : N - xs.length = (N - (xs.length + 1)) + 1 := by omega
    rw [e] at h6
    exact h6.step hx
  · have := hset (k := j) hm2 (.slice (some ⟨g, 0, none⟩) (xs.length + 1) cap)
    rw [hrow] at this; exact this
theorem QIm.fin {t : Stt} (h : QIm K T Z p s rh mb tb row X w N i v wr t) (he : (∃ e, t = .error e) ∨ N ≤ i) : Bs X w wr ∧ wr.heap[mb]? = some (.cells (row v) tb (0, 0)) ∧ ∃ xs, Sl K wr (fun b => w.heap.size ≤ b ∧ b < wr.heap.size) v xs ∧ Qb wr rh s Z.1 ∧ ∀ ys, Z.2 = some ys → xs = ys := by
  obtain ⟨xs, h1, h5, h4, h3, h6, h7⟩ := h
  refine ⟨h4, h7, xs, h5.sl, ?_⟩
  rcases he with ⟨e, rfl⟩ | he
  · obtain ⟨d1, d2⟩ := h6.dead
    rw [d1]; exact ⟨h3, d2⟩
  · rw [show N - i = 0 by omega] at h6
    obtain ⟨d1, d2⟩ := h6.fin
    rw [d1]; exact ⟨h3, d2⟩
end
end Go.Proofs.YtajghalljkphiaaGreat
/- The document's own reader: method. -/
namespace Go.Proofs.YtajghalljkphiaaGreat
open Go.RowKit

/-- A struct's box while it is read, behind the result's box. -/
structure Mq (w : World) (rh : Nat) (s : ByteArray) (tb : TypeId) (zr row : Array Value) (t : Stt) (u : World) : Prop where
  bx : Bx rh w u
  res : u.heap[w.heap.size]? = some (.cells zr tb (0, 0))
  box : u.heap[w.heap.size + 1]? = some (.cells row tb (0, 0))
  q : Qb u rh s t
  size : w.heap.size + 2 ≤ u.heap.size
section
variable {w : World} {rh : Nat} {s : ByteArray} {tb : TypeId} {zr row : Array Value} {t : Stt} {u : World}
theorem Mq.call {u' : World} {t' : Stt} (h : Mq w rh s tb zr row t u) (hb : Bx rh u u') (hq : Qb u' rh s t') (hrh : rh < w.heap.size) : Mq w rh s tb zr row t' u' :=
  ⟨h.bx.trans hb, (hb.block _ (by have := h.size; omega) (by omega)).trans h.res, (hb.block _ (by have := h.size; omega) (by omega)).trans h.box, hq, Nat.le_trans h.size hb.size⟩
theorem Mq.set {j : Nat} {v : Value} {row' : Array Value} (h : Mq w rh s tb zr row t u) (hrh : rh < w.heap.size) (hr : row.setIfInBounds j v = row') : Mq w rh s tb zr row' t (u.setCell ⟨w.heap.size + 1, j, none⟩ v) := by
  subst hr
  refine ⟨⟨h.bx.os, h.bx.tape, h.bx.output, by simp [World.setCell]; exact h.bx.size, fun k hk e => ?_⟩, ?_, hset h.box _, h.q.keep ?_, by simp [World.setCell]; exact h.size⟩
  · rw [Below.heap_setCell _ _ _ _ (show k ≠ w.heap.size + 1 by omega)]; exact h.bx.block k hk e
  · rw [Below.heap_setCell _ _ _ _ (show w.heap.size ≠ w.heap.size + 1 by omega)]; exact h.res
  · exact Below.heap_setCell _ _ _ _ (show rh ≠ w.heap.size + 1 by omega)
theorem Mq.cell {j : Nat} {v : Value} (h : Mq w rh s tb zr row t u) (hr : row[j]? = some v) : u.cell? ⟨w.heap.size + 1, j, none⟩ = some v := by simp [World.cell?, h.box, hr]
theorem Mq.frz (h : Mq w rh s tb zr row t u) (j : Nat) : u.frozen? ⟨w.heap.size + 1, j, none⟩ = false := by simp [World.frozen?, h.box]
theorem Mq.lt (h : Mq w rh s tb zr row t u) : w.heap.size + 1 < u.heap.size := by have := h.size; omega
end
def alive (t : Stt) : Bool := match t with
  | .ok _ => true
  | .error _ => false
theorem qcode2 {w : World} {rh : Nat} {s : ByteArray} {t : Stt} (h : Qb w rh s t) : ∃ c : Int, w.cell? ⟨rh, 2, none⟩ = some (.int .i64 c) ∧ (c == 0) = alive t := by
  cases t with
  | ok a => exact ⟨0, (qcell h.1).2.2.1, rfl⟩
  | error e =>
    obtain ⟨q, c⟩ := e
    obtain ⟨hc, a, h2⟩ := h
    exact ⟨c, (qcell h2).2.2.1, by rw [beq_eq_false_iff_ne.2 hc]; rfl⟩
theorem blk_ltD {u : World} {b : Nat} {o : Obj} (h : u.heap[b]? = some o) : b < u.heap.size := (Array.getElem?_eq_some_iff.1 h).1
/-- A list that was read since. -/
def Lk {α : Type} (K : Kd α) (w u : World) (v : Value) (xs : List α) : Prop := Sl K u (fun k => w.heap.size + 2 ≤ k ∧ k < u.heap.size) v xs
theorem Lk.call {α : Type} {K : Kd α} {w u u' : World} {v : Value} {xs : List α} {rh : Nat} (h : Lk K w u v xs) (hb : Bx rh u u') (hrh : rh < w.heap.size) : Lk K w u' v xs :=
  (Sl.keep (fun k hk => hb.block k hk.2 (by have := hk.1; omega)) h).mono fun k hk => ⟨hk.1, Nat.lt_of_lt_of_le hk.2 hb.size⟩
theorem Lk.set {α : Type} {K : Kd α} {w u : World} {v : Value} {xs : List α} (h : Lk K w u v xs) (j : Nat) (x : Value) : Lk K w (u.setCell ⟨w.heap.size + 1, j, none⟩ x) v xs :=
  (Sl.keep (fun k hk => Below.heap_setCell _ _ _ _ (show k ≠ w.heap.size + 1 by have := hk.1; omega)) h).mono fun k hk => ⟨hk.1, by simp [World.setCell]; exact hk.2⟩
theorem md_state (s : ByteArray) (t : Stt) : (stp pMd s t).1 = (stp (pList 64 pMp) s (stp (pList 16 pHd) s (stp (pList 300 pIs) s (stp (pUp 24 1402) s (stp (pUp 24 1402) s (stp pNum s (stp (pList 8 pNum) s (stp (pUp 1 1402) s (stp pName s t).1).1).1).1).1).1).1).1).1 := by
  rw [show pMd = pMap _ _ from rfl, (stp_map _ _ _ _).1, (stp_seq _ _ _ _).1, (stp_seq _ _ _ _).1, (stp_seq _ _ _ _).1, (stp_seq _ _ _ _).1, (stp_seq _ _ _ _).1, (stp_seq _ _ _ _).1, (stp_seq _ _ _ _).1, (stp_seq _ _ _ _).1, show (stp pFl1 s (stp pName s t).1).1 = (stp (pUp 1 1402) s (stp pName s t).1).1 from (stp_map _ _ _ _).1]
theorem stp_some {α : Type} {p : Prs α} {s : ByteArray} {t : Stt} {y : α} (h : (stp p s t).2 = some y) : ∃ b, (stp p s t).1 = .ok b := by
  cases t with
  | error e => cases h
  | ok a =>
    rcases hp : p s a with e | ⟨x, b⟩
    · rw [stp_err hp] at h; cases h
    · rw [stp_ok hp]; exact ⟨b, rfl⟩
theorem md_val {s : ByteArray} {t : Stt} {y : Md} (hy : (stp pMd s t).2 = some y) {x0 : ByteArray} {x1 x3 x4 x5 : Int} {x2 : List Int} {x6 : List Is} {x8 : List Hd} {x10 : List Mp} (h0 : ∀ z, (stp pName s t).2 = some z → x0 = z) (h1 : ∀ z, (stp (pUp 1 1402) s (stp pName s t).1).2 = some z → x1 = z) (h2 : ∀ z, (stp (pList 8 pNum) s (stp (pUp 1 1402) s (stp pName s t).1).1).2 = some z → x2 = z) (h3 : ∀ z, (stp pNum s (stp (pList 8 pNum) s (stp (pUp 1 1402) s (stp pName s t).1).1).1).2 = some z → x3 = z) (h4 : ∀ z, (stp (pUp 24 1402) s (stp pNum s (stp (pList 8 pNum) s (stp (pUp 1 1402) s (stp pName s t).1).1).1).1).2 = some z → x4 = z) (h5 : ∀ z, (stp (pUp 24 1402) s (stp (pUp 24 1402) s (stp pNum s (stp (pList 8 pNum) s (stp (pUp 1 1402) s (stp pName s t).1).1).1).1).1).2 = some z → x5 = z) (h6 : ∀ z, (stp (pList 300 pIs) s (stp (pUp 24 1402) s (stp (pUp 24 1402) s (stp pNum s (stp (pList 8 pNum) s (stp (pUp 1 1402) s (stp pName s t).1).1).1).1).1).1).2 = some z → x6 = z) (h8 : ∀ z, (stp (pList 16 pHd) s (stp (pList 300 pIs) s (stp (pUp 24 1402) s (stp (pUp 24 1402) s (stp pNum s (stp (pList 8 pNum) s (stp (pUp 1 1402) s (stp pName s t).1).1).1).1).1).1).1).2 = some z → x8 = z) (h10 : ∀ z, (stp (pList 64 pMp) s (stp (pList 16 pHd) s (stp (pList 300 pIs) s (stp (pUp 24 1402) s (stp (pUp 24 1402) s (stp pNum s (stp (pList 8 pNum) s (stp (pUp 1 1402) s (stp pName s t).1).1).1).1).1).1).1).1).2 = some z → x10 = z) : (⟨x0, x1 == 1, x2, x3, x4, x5, x6, x8, x10⟩ : Md) = y := by
  have hfl : (stp pFl1 s (stp pName s t).1).1 = (stp (pUp 1 1402) s (stp pName s t).1).1 := (stp_map _ _ _ _).1
  rw [show pMd = pMap _ _ from rfl, (stp_map _ _ _ _).2, Option.map_eq_some_iff] at hy
  obtain ⟨z, hz, rfl⟩ := hy
  obtain ⟨g0, k0⟩ := (stp_seq _ _ _ _).2 _ hz
  obtain ⟨g1, k1⟩ := (stp_seq _ _ _ _).2 _ k0
  rw [hfl] at k1
  obtain ⟨g2, k2⟩ := (stp_seq _ _ _ _).2 _ k1
  obtain ⟨g3, k3⟩ := (stp_seq _ _ _ _).2 _ k2
  obtain ⟨g4, k4⟩ := (stp_seq _ _ _ _).2 _ k3
  obtain ⟨g5, k5⟩ := (stp_seq _ _ _ _).2 _ k4
  obtain ⟨g6, k6⟩ := (stp_seq _ _ _ _).2 _ k5
  obtain ⟨g8, k8⟩ := (stp_seq _ _ _ _).2 _ k6
  rw [show pFl1 = pMap _ _ from rfl, (stp_map _ _ _ _).2, Option.map_eq_some_iff] at g1
  obtain ⟨f, hf, hf2⟩ := g1
  obtain ⟨b, hb⟩ := stp_some hf
  obtain ⟨u1, u2⟩ := up_bound hb h1
  obtain rfl := h1 _ hf
  have e1 : (x1 == 1) = z.2.1 := by
    rw [← hf2]
    rcases (by omega : x1 = 0 ∨ x1 = 1) with rfl | rfl <;> rfl
  rw [h0 _ g0, e1, h2 _ g2, h3 _ g3, h4 _ g4, h5 _ g5, h6 _ g6, h8 _ g8, h10 _ k8]
set_option maxHeartbeats 4000000 in
set_option maxRecDepth 20000 in
theorem qmethod_any {w : World} {rh : Nat} {s : ByteArray} {t : Stt} (H : Qb w rh s t) (hs : s.size ≤ maxLen) : Calls Tryz.prog 43 #[.pointer (some ⟨rh, 0, none⟩)] w (QP pMd (Nw kMd w) s rh w t) := by
  obtain ⟨i0, hi, hz0, hz1, hz2⟩ := info_parts infoLH
  obtain ⟨j0, hj, hw0, hw1, hw2⟩ := info_parts infoLP
  have hrh := H.lt
  have Mp0 : Hid (Mq w rh s 63 #[.string ⟨#[]⟩, .bool false, .slice none 0 0, .int .i64 0, .int .i64 0, .int .i64 0, .slice none 0 0, .slice none 0 0, .slice none 0 0] #[.string ⟨#[]⟩, .bool false, .slice none 0 0, .int .i64 0, .int .i64 0, .int .i64 0, .slice none 0 0, .slice none 0 0, .slice none 0 0] t ((w.alloc (.cells #[.string ⟨#[]⟩, .bool false, .slice none 0 0, .int .i64 0, .int .i64 0, .int .i64 0, .slice none 0 0, .slice none 0 0, .slice none 0 0] 63)).alloc (.cells #[.string ⟨#[]⟩, .bool false, .slice none 0 0, .int .i64 0, .int .i64 0, .int .i64 0, .slice none 0 0, .slice none 0 0, .slice none 0 0] 63))) := by
    have hz1 : (w.alloc (.cells #[.string ⟨#[]⟩, .bool false, .slice none 0 0, .int .i64 0, .int .i64 0, .int .i64 0, .slice none 0 0, .slice none 0 0, .slice none 0 0] 63)).heap.size = w.heap.size + 1 := by simp
    have n2 := heap_alloc_new (w.alloc (.cells #[.string ⟨#[]⟩, .bool false, .slice none 0 0, .int .i64 0, .int .i64 0, .int .i64 0, .slice none 0 0, .slice none 0 0, .slice none 0 0] 63)) (.cells #[.string ⟨#[]⟩, .bool false, .slice none 0 0, .int .i64 0, .int .i64 0, .int .i64 0, .slice none 0 0, .slice none 0 0, .slice none 0 0] 63)
    rw [hz1] at n2
    have hB : Below w.heap.size w ((w.alloc (.cells #[.string ⟨#[]⟩, .bool false, .slice none 0 0, .int .i64 0, .int .i64 0, .int .i64 0, .slice none 0 0, .slice none 0 0, .slice none 0 0] 63)).alloc (.cells #[.string ⟨#[]⟩, .bool false, .slice none 0 0, .int .i64 0, .int .i64 0, .int .i64 0, .slice none 0 0, .slice none 0 0, .slice none 0 0] 63)) := ((Below.refl _ _).alloc (Nat.le_refl _) _).alloc (by omega) _
    exact ⟨Bx.of_below hB, by rw [Below.heap_alloc _ _ _ (by omega)]; exact heap_alloc_new w _, n2, H.below hB, by simp⟩
  have M0 := Mp0
  have hC0 := qname_any Mp0.out.q hs
  clear H
  go_enter Tryz.func43, Tryz.ntmps43
  go_upto_region 17 with (first
    | (go_at_call 40; refine hC0.mono ?_; rintro e u0 ⟨hb0, x0, v0, rfl, hv0, hQ0, hx0⟩; have M1 : Hid (Mq w rh s 63 #[.string ⟨#[]⟩, .bool false, .slice none 0 0, .int .i64 0, .int .i64 0, .int .i64 0, .slice none 0 0, .slice none 0 0, .slice none 0 0] #[.string ⟨#[]⟩, .bool false, .slice none 0 0, .int .i64 0, .int .i64 0, .int .i64 0, .slice none 0 0, .slice none 0 0, .slice none 0 0] (stp pName s t).1 u0) := M0.out.call hb0 hQ0 hrh; obtain rfl := hv0; have hC1 := qup_any 1 1402 (by decide) M1.out.q hs; clear hC0 hb0 hQ0)
    | (go_at_call 18; refine hC1.mono ?_; rintro e u1 ⟨hb1, x1, v1, rfl, hv1, hQ1, hx1⟩; have M2 : Hid (Mq w rh s 63 #[.string ⟨#[]⟩, .bool false, .slice none 0 0, .int .i64 0, .int .i64 0, .int .i64 0, .slice none 0 0, .slice none 0 0, .slice none 0 0] #[.string ⟨#[]⟩, .bool false, .slice none 0 0, .int .i64 0, .int .i64 0, .int .i64 0, .slice none 0 0, .slice none 0 0, .slice none 0 0] (stp (pUp 1 1402) s (stp pName s t).1).1 u1) := M1.out.call hb1 hQ1 hrh; obtain rfl := hv1; have c0 : u1.cell? ⟨w.heap.size + 1, 0, none⟩ = some (.string ⟨#[]⟩) := M2.out.cell rfl; have f0 : u1.frozen? ⟨w.heap.size + 1, 0, none⟩ = false := M2.out.frz _; have c1 : u1.cell? ⟨w.heap.size + 1, 1, none⟩ = some (.bool false) := M2.out.cell rfl; have f1 : u1.frozen? ⟨w.heap.size + 1, 1, none⟩ = false := M2.out.frz _; have l1 : w.heap.size + 1 < u1.heap.size := M2.out.lt; have Mp2 : Hid (Mq w rh s 63 #[.string ⟨#[]⟩, .bool false, .slice none 0 0, .int .i64 0, .int .i64 0, .int .i64 0, .slice none 0 0, .slice none 0 0, .slice none 0 0] #[.string x0, .bool (x1 == 1), .slice none 0 0, .int .i64 0, .int .i64 0, .int .i64 0, .slice none 0 0, .slice none 0 0, .slice none 0 0] (stp (pUp 1 1402) s (stp pName s t).1).1 ((u1.setCell ⟨w.heap.size + 1, 0, none⟩ (.string x0)).setCell ⟨w.heap.size + 1, 1, none⟩ (.bool (x1 == 1)))) := ((M2.out.set (row' := #[.string x0, .bool false, .slice none 0 0, .int .i64 0, .int .i64 0, .int .i64 0, .slice none 0 0, .slice none 0 0, .slice none 0 0]) hrh rfl).set (row' := #[.string x0, .bool (x1 == 1), .slice none 0 0, .int .i64 0, .int .i64 0, .int .i64 0, .slice none 0 0, .slice none 0 0, .slice none 0 0]) hrh rfl); have hC2 := qlist_any 8 (by decide) Mp2.out.q hs; clear hC1 hb1 hQ1)
    | (go_at_call 41; refine hC2.mono ?_; rintro e u2 ⟨hb2, x2, v2, rfl, hv2, hQ2, hx2⟩; have M3 : Hid (Mq w rh s 63 #[.string ⟨#[]⟩, .bool false, .slice none 0 0, .int .i64 0, .int .i64 0, .int .i64 0, .slice none 0 0, .slice none 0 0, .slice none 0 0] #[.string x0, .bool (x1 == 1), .slice none 0 0, .int .i64 0, .int .i64 0, .int .i64 0, .slice none 0 0, .slice none 0 0, .slice none 0 0] (stp (pList 8 pNum) s (stp (pUp 1 1402) s (stp pName s t).1).1).1 u2) := Mp2.out.call hb2 hQ2 hrh; have hsl2 := hv2; have L2 : Lk kI w u2 v2 x2 := hsl2.mono (fun k hk => ⟨Nat.le_trans Mp2.out.size hk.1, hk.2⟩); obtain ⟨ao2, cap2, rfl, -⟩ := hsl2; have c2 : u2.cell? ⟨w.heap.size + 1, 2, none⟩ = some (.slice none 0 0) := M3.out.cell rfl; have f2 : u2.frozen? ⟨w.heap.size + 1, 2, none⟩ = false := M3.out.frz _; have l2 : w.heap.size + 1 < u2.heap.size := M3.out.lt; have Mp3 : Hid (Mq w rh s 63 #[.string ⟨#[]⟩, .bool false, .slice none 0 0, .int .i64 0, .int .i64 0, .int .i64 0, .slice none 0 0, .slice none 0 0, .slice none 0 0] #[.string x0, .bool (x1 == 1), .slice ao2 x2.length cap2, .int .i64 0, .int .i64 0, .int .i64 0, .slice none 0 0, .slice none 0 0, .slice none 0 0] (stp (pList 8 pNum) s (stp (pUp 1 1402) s (stp pName s t).1).1).1 (u2.setCell ⟨w.heap.size + 1, 2, none⟩ (.slice ao2 x2.length cap2))) := (M3.out.set (row' := #[.string x0, .bool (x1 == 1), .slice ao2 x2.length cap2, .int .i64 0, .int .i64 0, .int .i64 0, .slice none 0 0, .slice none 0 0, .slice none 0 0]) hrh rfl); have L2 := L2.set 2 (.slice ao2 x2.length cap2); have hC3 := qnum_any Mp3.out.q hs; clear hC2 hb2 hQ2)
    | (go_at_call 17; refine hC3.mono ?_; rintro e u3 ⟨hb3, x3, v3, rfl, hv3, hQ3, hx3⟩; have M4 : Hid (Mq w rh s 63 #[.string ⟨#[]⟩, .bool false, .slice none 0 0, .int .i64 0, .int .i64 0, .int .i64 0, .slice none 0 0, .slice none 0 0, .slice none 0 0] #[.string x0, .bool (x1 == 1), .slice ao2 x2.length cap2, .int .i64 0, .int .i64 0, .int .i64 0, .slice none 0 0, .slice none 0 0, .slice none 0 0] (stp pNum s (stp (pList 8 pNum) s (stp (pUp 1 1402) s (stp pName s t).1).1).1).1 u3) := Mp3.out.call hb3 hQ3 hrh; have L2 := L2.call hb3 hrh; obtain rfl := hv3; have c3 : u3.cell? ⟨w.heap.size + 1, 3, none⟩ = some (.int .i64 0) := M4.out.cell rfl; have f3 : u3.frozen? ⟨w.heap.size + 1, 3, none⟩ = false := M4.out.frz _; have l3 : w.heap.size + 1 < u3.heap.size := M4.out.lt; have Mp4 : Hid (Mq w rh s 63 #[.string ⟨#[]⟩, .bool false, .slice none 0 0, .int .i64 0, .int .i64 0, .int .i64 0, .slice none 0 0, .slice none 0 0, .slice none 0 0] #[.string x0, .bool (x1 == 1), .slice ao2 x2.length cap2, .int .i64 x3, .int .i64 0, .int .i64 0, .slice none 0 0, .slice none 0 0, .slice none 0 0] (stp pNum s (stp (pList 8 pNum) s (stp (pUp 1 1402) s (stp pName s t).1).1).1).1 (u3.setCell ⟨w.heap.size + 1, 3, none⟩ (.int .i64 x3))) := (M4.out.set (row' := #[.string x0, .bool (x1 == 1), .slice ao2 x2.length cap2, .int .i64 x3, .int .i64 0, .int .i64 0, .slice none 0 0, .slice none 0 0, .slice none 0 0]) hrh rfl); have L2 := L2.set 3 (.int .i64 x3); have hC4 := qup_any 24 1402 (by decide) Mp4.out.q hs; clear hC3 hb3 hQ3)
    | (go_at_call 18; refine hC4.mono ?_; rintro e u4 ⟨hb4, x4, v4, rfl, hv4, hQ4, hx4⟩; have M5 : Hid (Mq w rh s 63 #[.string ⟨#[]⟩, .bool false, .slice none 0 0, .int .i64 0, .int .i64 0, .int .i64 0, .slice none 0 0, .slice none 0 0, .slice none 0 0] #[.string x0, .bool (x1 == 1), .slice ao2 x2.length cap2, .int .i64 x3, .int .i64 0, .int .i64 0, .slice none 0 0, .slice none 0 0, .slice none 0 0] (stp (pUp 24 1402) s (stp pNum s (stp (pList 8 pNum) s (stp (pUp 1 1402) s (stp pName s t).1).1).1).1).1 u4) := Mp4.out.call hb4 hQ4 hrh; have L2 := L2.call hb4 hrh; obtain rfl := hv4; have c4 : u4.cell? ⟨w.heap.size + 1, 4, none⟩ = some (.int .i64 0) := M5.out.cell rfl; have f4 : u4.frozen? ⟨w.heap.size + 1, 4, none⟩ = false := M5.out.frz _; have l4 : w.heap.size + 1 < u4.heap.size := M5.out.lt; have Mp5 : Hid (Mq w rh s 63 #[.string ⟨#[]⟩, .bool false, .slice none 0 0, .int .i64 0, .int .i64 0, .int .i64 0, .slice none 0 0, .slice none 0 0, .slice none 0 0] #[.string x0, .bool (x1 == 1), .slice ao2 x2.length cap2, .int .i64 x3, .int .i64 x4, .int .i64 0, .slice none 0 0, .slice none 0 0, .slice none 0 0] (stp (pUp 24 1402) s (stp pNum s (stp (pList 8 pNum) s (stp (pUp 1 1402) s (stp pName s t).1).1).1).1).1 (u4.setCell ⟨w.heap.size + 1, 4, none⟩ (.int .i64 x4))) := (M5.out.set (row' := #[.string x0, .bool (x1 == 1), .slice ao2 x2.length cap2, .int .i64 x3, .int .i64 x4, .int .i64 0, .slice none 0 0, .slice none 0 0, .slice none 0 0]) hrh rfl); have L2 := L2.set 4 (.int .i64 x4); have hC5 := qup_any 24 1402 (by decide) Mp5.out.q hs; clear hC4 hb4 hQ4)
    | (go_at_call 18; refine hC5.mono ?_; rintro e u5 ⟨hb5, x5, v5, rfl, hv5, hQ5, hx5⟩; have M6 : Hid (Mq w rh s 63 #[.string ⟨#[]⟩, .bool false, .slice none 0 0, .int .i64 0, .int .i64 0, .int .i64 0, .slice none 0 0, .slice none 0 0, .slice none 0 0] #[.string x0, .bool (x1 == 1), .slice ao2 x2.length cap2, .int .i64 x3, .int .i64 x4, .int .i64 0, .slice none 0 0, .slice none 0 0, .slice none 0 0] (stp (pUp 24 1402) s (stp (pUp 24 1402) s (stp pNum s (stp (pList 8 pNum) s (stp (pUp 1 1402) s (stp pName s t).1).1).1).1).1).1 u5) := Mp5.out.call hb5 hQ5 hrh; have L2 := L2.call hb5 hrh; obtain rfl := hv5; have c5 : u5.cell? ⟨w.heap.size + 1, 5, none⟩ = some (.int .i64 0) := M6.out.cell rfl; have f5 : u5.frozen? ⟨w.heap.size + 1, 5, none⟩ = false := M6.out.frz _; have l5 : w.heap.size + 1 < u5.heap.size := M6.out.lt; have Mp6 : Hid (Mq w rh s 63 #[.string ⟨#[]⟩, .bool false, .slice none 0 0, .int .i64 0, .int .i64 0, .int .i64 0, .slice none 0 0, .slice none 0 0, .slice none 0 0] #[.string x0, .bool (x1 == 1), .slice ao2 x2.length cap2, .int .i64 x3, .int .i64 x4, .int .i64 x5, .slice none 0 0, .slice none 0 0, .slice none 0 0] (stp (pUp 24 1402) s (stp (pUp 24 1402) s (stp pNum s (stp (pList 8 pNum) s (stp (pUp 1 1402) s (stp pName s t).1).1).1).1).1).1 (u5.setCell ⟨w.heap.size + 1, 5, none⟩ (.int .i64 x5))) := (M6.out.set (row' := #[.string x0, .bool (x1 == 1), .slice ao2 x2.length cap2, .int .i64 x3, .int .i64 x4, .int .i64 x5, .slice none 0 0, .slice none 0 0, .slice none 0 0]) hrh rfl); have L2 := L2.set 5 (.int .i64 x5); have hC6 := qcode_any Mp6.out.q hs; clear hC5 hb5 hQ5)
    | (go_at_call 67; refine hC6.mono ?_; rintro e u6 ⟨hb6, x6, v6, rfl, hv6, hQ6, hx6⟩; have M7 : Hid (Mq w rh s 63 #[.string ⟨#[]⟩, .bool false, .slice none 0 0, .int .i64 0, .int .i64 0, .int .i64 0, .slice none 0 0, .slice none 0 0, .slice none 0 0] #[.string x0, .bool (x1 == 1), .slice ao2 x2.length cap2, .int .i64 x3, .int .i64 x4, .int .i64 x5, .slice none 0 0, .slice none 0 0, .slice none 0 0] (stp (pList 300 pIs) s (stp (pUp 24 1402) s (stp (pUp 24 1402) s (stp pNum s (stp (pList 8 pNum) s (stp (pUp 1 1402) s (stp pName s t).1).1).1).1).1).1).1 u6) := Mp6.out.call hb6 hQ6 hrh; have L2 := L2.call hb6 hrh; have hsl6 := hv6; have L6 : Lk kIs w u6 v6 x6 := hsl6.mono (fun k hk => ⟨Nat.le_trans Mp6.out.size hk.1, hk.2⟩); obtain ⟨ao6, cap6, rfl, -⟩ := hsl6; have c6 : u6.cell? ⟨w.heap.size + 1, 6, none⟩ = some (.slice none 0 0) := M7.out.cell rfl; have f6 : u6.frozen? ⟨w.heap.size + 1, 6, none⟩ = false := M7.out.frz _; have l6 : w.heap.size + 1 < u6.heap.size := M7.out.lt; have Mp7 : Hid (Mq w rh s 63 #[.string ⟨#[]⟩, .bool false, .slice none 0 0, .int .i64 0, .int .i64 0, .int .i64 0, .slice none 0 0, .slice none 0 0, .slice none 0 0] #[.string x0, .bool (x1 == 1), .slice ao2 x2.length cap2, .int .i64 x3, .int .i64 x4, .int .i64 x5, .slice ao6 x6.length cap6, .slice none 0 0, .slice none 0 0] (stp (pList 300 pIs) s (stp (pUp 24 1402) s (stp (pUp 24 1402) s (stp pNum s (stp (pList 8 pNum) s (stp (pUp 1 1402) s (stp pName s t).1).1).1).1).1).1).1 (u6.setCell ⟨w.heap.size + 1, 6, none⟩ (.slice ao6 x6.length cap6))) := (M7.out.set (row' := #[.string x0, .bool (x1 == 1), .slice ao2 x2.length cap2, .int .i64 x3, .int .i64 x4, .int .i64 x5, .slice ao6 x6.length cap6, .slice none 0 0, .slice none 0 0]) hrh rfl); have L2 := L2.set 6 (.slice ao6 x6.length cap6); have L6 := L6.set 6 (.slice ao6 x6.length cap6); have hC7 := qup_any 16 1404 (by decide) Mp7.out.q hs; clear hC6 hb6 hQ6)
    | (go_at_call 18; refine hC7.mono ?_; rintro e u7 ⟨hb7, x7, v7, rfl, hv7, hQ7, hx7⟩; have M8 : Hid (Mq w rh s 63 #[.string ⟨#[]⟩, .bool false, .slice none 0 0, .int .i64 0, .int .i64 0, .int .i64 0, .slice none 0 0, .slice none 0 0, .slice none 0 0] #[.string x0, .bool (x1 == 1), .slice ao2 x2.length cap2, .int .i64 x3, .int .i64 x4, .int .i64 x5, .slice ao6 x6.length cap6, .slice none 0 0, .slice none 0 0] (stp (pUp 16 1404) s (stp (pList 300 pIs) s (stp (pUp 24 1402) s (stp (pUp 24 1402) s (stp pNum s (stp (pList 8 pNum) s (stp (pUp 1 1402) s (stp pName s t).1).1).1).1).1).1).1).1 u7) := Mp7.out.call hb7 hQ7 hrh; have L2 := L2.call hb7 hrh; have L6 := L6.call hb7 hrh; obtain rfl := hv7; clear hC7 hb7 hQ7))
  have hxm1 : ∀ b, (stp (pUp 16 1404) s (stp (pList 300 pIs) s (stp (pUp 24 1402) s (stp (pUp 24 1402) s (stp pNum s (stp (pList 8 pNum) s (stp (pUp 1 1402) s (stp pName s t).1).1).1).1).1).1).1).1 = .ok b → 0 ≤ x7 ∧ x7 ≤ 16 := fun b hb => up_bound hb hx7
  have hR1 := Rem.start (p := pHd) hx7
  obtain ⟨Z1, hZ1⟩ : ∃ Z, stp (pList 16 pHd) s (stp (pList 300 pIs) s (stp (pUp 24 1402) s (stp (pUp 24 1402) s (stp pNum s (stp (pList 8 pNum) s (stp (pUp 1 1402) s (stp pName s t).1).1).1).1).1).1).1 = Z := ⟨_, rfl⟩
  rw [hZ1] at hR1
  have HI1 : Hid (QIm kHd 98 Z1 pHd s rh (w.heap.size + 1) 63 (fun v => #[.string x0, .bool (x1 == 1), .slice ao2 x2.length cap2, .int .i64 x3, .int .i64 x4, .int .i64 x5, .slice ao6 x6.length cap6, v, .slice none 0 0]) (fun k => k = rh ∨ k = w.heap.size + 1) u7 x7.toNat 0 (.slice none 0 0) u7 (stp (pUp 16 1404) s (stp (pList 300 pIs) s (stp (pUp 24 1402) s (stp (pUp 24 1402) s (stp pNum s (stp (pList 8 pNum) s (stp (pUp 1 1402) s (stp pName s t).1).1).1).1).1).1).1).1 ∧ ∀ b, (stp (pUp 16 1404) s (stp (pList 300 pIs) s (stp (pUp 24 1402) s (stp (pUp 24 1402) s (stp pNum s (stp (pList 8 pNum) s (stp (pUp 1 1402) s (stp pName s t).1).1).1).1).1).1).1).1 = .ok b → 0 ≤ x7 ∧ x7 ≤ 16) := ⟨⟨[], rfl, Gro.nil _ _ _ _, Bs.refl _ _, M8.out.q, hR1, M8.out.box⟩, hxm1⟩
  have hu1 : w.heap.size + 1 < u7.heap.size := M8.out.lt
  have HZ1 : Hid (stp (pList 16 pHd) s (stp (pList 300 pIs) s (stp (pUp 24 1402) s (stp (pUp 24 1402) s (stp pNum s (stp (pList 8 pNum) s (stp (pUp 1 1402) s (stp pName s t).1).1).1).1).1).1).1 = Z1) := hZ1
  clear hxm1 hR1 hZ1 hx7
  go_wp2_with (fail)
  go_loopg [12] (x7.toNat + 1) (fun kx s12 wr => ∃ (i : Nat) (v : Value) (t : Stt), s12 = .int .i64 i ∧ x7.toNat - i ≤ kx ∧ Hid (QIm kHd 98 Z1 pHd s rh (w.heap.size + 1) 63 (fun v => #[.string x0, .bool (x1 == 1), .slice ao2 x2.length cap2, .int .i64 x3, .int .i64 x4, .int .i64 x5, .slice ao6 x6.length cap6, v, .slice none 0 0]) (fun k => k = rh ∨ k = w.heap.size + 1) u7 x7.toNat i v wr t) ∧ Hid (∀ b, t = .ok b → 0 ≤ x7 ∧ x7 ≤ 16 ∧ i ≤ x7.toNat))
  case atStart => exact ⟨0, _, _, rfl, by omega, HI1.out.1, fun b hb => ⟨(HI1.out.2 b hb).1, (HI1.out.2 b hb).2, by omega⟩⟩
  case round =>
    obtain ⟨i, v, t1, rfl, hkx, HL, HA⟩ := hrel
    obtain ⟨c, hc, hc0⟩ := qcode2 HL.out.choose_spec.2.2.2.1
    obtain ⟨B, hB⟩ : ∃ B : Bool, B = (decide ((i : Int) < x7) && alive t1) := ⟨_, rfl⟩
    have HBt : Hid (B = (decide ((i : Int) < x7) && alive t1)) := hB
    have HC0 : Hid ((c == 0) = alive t1) := hc0
    clear hB hc0
    go_upto_region 18 with (fail)
    go_cut [61] from 52 to 61 (fun s61 wx => s61 = .bool B ∧ wr = wx)
    case first =>
      by_cases hlt : (i : Int) < x7
      · cases hcz : (c == 0) with
        | true =>
          have HV : Hid (B = true) := by show _ = _; rw [HBt.out, decide_eq_true hlt, ← HC0.out, hcz]; rfl
          as_aux_lemma =>
            go_wp2_with (fail)
            go_meet
            exact ⟨by rw [HV.out], rfl⟩
        | false =>
          have HV : Hid (B = false) := by show _ = _; rw [HBt.out, ← HC0.out, hcz, Bool.and_false]
          as_aux_lemma =>
            go_wp2_with (fail)
            go_meet
            exact ⟨by rw [HV.out], rfl⟩
      · have hd : decide ((i : Int) < x7) = false := decide_eq_false hlt
        have HV : Hid (B = false) := by show _ = _; rw [HBt.out, hd, Bool.false_and]
        as_aux_lemma =>
          go_wp2_with (fail)
          go_meet
          exact ⟨by rw [HV.out], rfl⟩
    case rest =>
    obtain ⟨rfl, rfl⟩ := hcut
    cases B with
    | true =>
      have hlt0 : (i : Int) < x7 := by
        apply Classical.byContradiction; intro hn
        have := HBt.out; rw [decide_eq_false hn] at this; cases this
      cases t1 with
      | error e => have := HBt.out; rw [decide_eq_true hlt0] at this; simp [alive] at this
      | ok b =>
      obtain ⟨a1, a2, a3⟩ := HA.out b rfl
      have hlt : i < x7.toNat := by omega
      clear hlt0 hc HC0 HBt
      have hD0 := qnum_any HL.out.choose_spec.2.2.2.1 hs
      have hwz := (HL.out.choose_spec.2.2.1).size
      have HN : Hid (∀ w1 y, Bx rh wr w1 → Qb w1 rh s (stp pHd s (.ok b)).1 → (∀ z, (stp pHd s (.ok b)).2 = some z → y = z) → _) := fun w1 y q1 q2 q3 => HL.out.next (j := 7) hlt (by omega) hu1 (by omega) (.inl rfl) (.inr rfl) (fun _ => rfl) q1 q2 q3
      have HS : Hid ((stp pNum s (stp pNum s (stp pNum s (stp pNum s (.ok b)).1).1).1).1 = (stp pHd s (.ok b)).1) := by show _ = _; rw [show pHd = pMap _ _ from rfl, (stp_map _ _ _ _).1, (stp_seq _ _ _ _).1, (stp_seq _ _ _ _).1, (stp_seq _ _ _ _).1]
      have HE : Hid (∀ y, (stp pHd s (.ok b)).2 = some y → ∀ y0 : Int, (∀ z, (stp pNum s (.ok b)).2 = some z → y0 = z) → ∀ y1 : Int, (∀ z, (stp pNum s (stp pNum s (.ok b)).1).2 = some z → y1 = z) → ∀ y2 : Int, (∀ z, (stp pNum s (stp pNum s (stp pNum s (.ok b)).1).1).2 = some z → y2 = z) → ∀ y3 : Int, (∀ z, (stp pNum s (stp pNum s (stp pNum s (stp pNum s (.ok b)).1).1).1).2 = some z → y3 = z) → (⟨y0, y1, y2, y3⟩ : Hd) = y) := fun y hy y0 h0 y1 h1 y2 h2 y3 h3 => by
        rw [show pHd = pMap _ _ from rfl, (stp_map _ _ _ _).2, Option.map_eq_some_iff] at hy
        obtain ⟨z, hz, rfl⟩ := hy
        obtain ⟨g0, k0⟩ := (stp_seq _ _ _ _).2 _ hz
        obtain ⟨g1, k1⟩ := (stp_seq _ _ _ _).2 _ k0
        obtain ⟨g2, k2⟩ := (stp_seq _ _ _ _).2 _ k1
        rw [h0 _ g0, h1 _ g1, h2 _ g2, h3 _ k2]
      clear HL HA HI1
      as_aux_lemma =>
        go_wp2_with (first
          | (go_at_call 17; refine hD0.mono ?_; rintro e r0 ⟨hb0, y0, vy0, rfl, hv0, hQ0, hy0⟩; obtain rfl := hv0; have HB0 : Hid (Bx rh wr r0) := hb0; have hD1 := qnum_any hQ0 hs; clear hD0 hb0)
          | (go_at_call 17; refine hD1.mono ?_; rintro e r1 ⟨hb1, y1, vy1, rfl, hv1, hQ1, hy1⟩; obtain rfl := hv1; have HB1 : Hid (Bx rh wr r1) := HB0.out.trans hb1; have hD2 := qnum_any hQ1 hs; clear hD1 hb1)
          | (go_at_call 17; refine hD2.mono ?_; rintro e r2 ⟨hb2, y2, vy2, rfl, hv2, hQ2, hy2⟩; obtain rfl := hv2; have HB2 : Hid (Bx rh wr r2) := HB1.out.trans hb2; have hD3 := qnum_any hQ2 hs; clear hD2 hb2)
          | (go_at_call 17; refine hD3.mono ?_; rintro e r3 ⟨hb3, y3, vy3, rfl, hv3, hQ3, hy3⟩; obtain rfl := hv3; have HB3 : Hid (Bx rh wr r3) := HB2.out.trans hb3; obtain ⟨hm3, ⟨fs, hfs⟩, h9⟩ := HN.out r3 (⟨y0, y1, y2, y3⟩ : Hd) HB3.out (by rw [← HS.out]; exact hQ3) (fun y hy => HE.out y hy y0 hy0 y1 hy1 y2 hy2 y3 hy3); have hz9 := HB3.out.size; have cm : r3.cell? ⟨w.heap.size + 1, 7, none⟩ = some v := (by simp [World.cell?, hm3]); have HF : Hid (r3.ownsRow u7.heap.size 98 4 v i fs) := hfs; have HQ : Hid (kHd.R r3 (fun b => wr.heap.size ≤ b ∧ b < r3.heap.size) (⟨y0, y1, y2, y3⟩ : Hd) [.int .i64 y0, .int .i64 y1, .int .i64 y2, .int .i64 y3]) := rfl; have H9 : Hid _ := h9 [.int .i64 y0, .int .i64 y1, .int .i64 y2, .int .i64 y3] fs; clear hm3 h9; clear hD3 hb3)
          | (at_builtin; refine wpList_append_lies _ rfl _ _ 60 rfl u7.heap.size 98 i0 (.agg #[.int .i64 0, .int .i64 0, .int .i64 0, .int .i64 0]) 4 32 Tryz.underlying60 hi hz0 hz1 hz2 rfl (by decide) _ i fs rfl (HF.out.alloc _) ⟨r3.heap.size, 0, none⟩ 1 1 [.int .i64 y0, .int .i64 y1, .int .i64 y2, .int .i64 y3] rfl rfl (news_at _ _ _) (kHd.one HQ.out) (by decide) (by unfold maxLen; omega) (by omega) (by simp; omega) _ rfl ?_; intro g cap w2 hown hgrow hat hlt3; obtain ⟨hm4, h10⟩ := H9.out _ w2 g cap HQ.out HF.out hown hgrow hat; have HO : Hid _ := h10; have cz : w2.cell? ⟨w.heap.size + 1, 7, none⟩ = some v := (by simp [World.cell?, hm4]); have fz : w2.frozen? ⟨w.heap.size + 1, 7, none⟩ = false := (by simp [World.frozen?, hm4]); have lz := blk_ltD hm4; clear hown hgrow hat H9 hm4 h10))
        go_roundg (x7.toNat - (i + 1))
        case measure => omega
        case rel => exact ⟨i + 1, _, _, by go_num, by omega, HO.out, fun _ _ => ⟨a1, a2, by omega⟩⟩
    | false =>
      have HF1 : Hid _ := HL.out.fin (by
        have hb := HBt.out
        cases t1 with
        | error e => exact .inl ⟨_, rfl⟩
        | ok b =>
          right
          apply Classical.byContradiction; intro hn
          obtain ⟨a1, a2, a3⟩ := HA.out b rfl
          rw [decide_eq_true (by omega : (i : Int) < x7)] at hb; simp [alive] at hb)
      clear HL HA HI1 hc HC0 HBt hkx
      generalize hvt : v = vt at *
      clear hvt
      obtain ⟨qb, qm, x8, qs, qq, qy⟩ := HF1.out
      have HY1 : Hid (∀ ys, Z1.2 = some ys → x8 = ys) := qy
      have HL8 : Hid (Sl kHd wr (fun b => u7.heap.size ≤ b ∧ b < wr.heap.size) vt x8) := qs
      have HQB : Hid (Bs (fun k => k = rh ∨ k = w.heap.size + 1) u7 wr) := qb
      have HQM : Hid (wr.heap[w.heap.size + 1]? = some (.cells #[.string x0, .bool (x1 == 1), .slice ao2 x2.length cap2, .int .i64 x3, .int .i64 x4, .int .i64 x5, .slice ao6 x6.length cap6, vt, .slice none 0 0] 63 (0, 0))) := qm
      have hC8 := qup_any 64 1404 (by decide) qq hs
      clear qb qm qs qq qy HF1
      have hwu := HQB.out.size
      go_upto_region 26 with (go_at_call 18; refine hC8.mono ?_; rintro e u8 ⟨hb9, x9, v9, rfl, hv9, hQ9, hx9⟩; obtain rfl := hv9; have hB9 := hb9; clear hC8 hb9)
      have hm9 : u8.heap[w.heap.size + 1]? = some (.cells #[.string x0, .bool (x1 == 1), .slice ao2 x2.length cap2, .int .i64 x3, .int .i64 x4, .int .i64 x5, .slice ao6 x6.length cap6, vt, .slice none 0 0] 63 (0, 0)) := (hB9.block _ (by omega) (by omega)).trans HQM.out
      have HB9 : Hid (Bx rh wr u8) := hB9
      have HWR : Hid (u7.heap.size ≤ wr.heap.size) := hwu
      have hxm2 : ∀ b, (stp (pUp 64 1404) s Z1.1).1 = .ok b → 0 ≤ x9 ∧ x9 ≤ 64 := fun b hb => up_bound hb hx9
      have hR2 := Rem.start (p := pMp) hx9
      obtain ⟨Z2, hZ2⟩ : ∃ Z, stp (pList 64 pMp) s Z1.1 = Z := ⟨_, rfl⟩
      rw [hZ2] at hR2
      have HI2 : Hid (QIm kMp 69 Z2 pMp s rh (w.heap.size + 1) 63 (fun v => #[.string x0, .bool (x1 == 1), .slice ao2 x2.length cap2, .int .i64 x3, .int .i64 x4, .int .i64 x5, .slice ao6 x6.length cap6, vt, v]) (fun k => k = rh ∨ k = w.heap.size + 1) u8 x9.toNat 0 (.slice none 0 0) u8 (stp (pUp 64 1404) s Z1.1).1 ∧ ∀ b, (stp (pUp 64 1404) s Z1.1).1 = .ok b → 0 ≤ x9 ∧ x9 ≤ 64) := ⟨⟨[], rfl, Gro.nil _ _ _ _, Bs.refl _ _, hQ9, hR2, hm9⟩, hxm2⟩
      have hu2 : w.heap.size + 1 < u8.heap.size := by have := hB9.size; omega
      have HZ2 : Hid (stp (pList 64 pMp) s Z1.1 = Z2) := hZ2
      clear hxm2 hR2 hZ2 hx9
      go_wp2_with (fail)
      go_loopg [17] (x9.toNat + 1) (fun kx s12 wr => ∃ (i : Nat) (v : Value) (t : Stt), s12 = .int .i64 i ∧ x9.toNat - i ≤ kx ∧ Hid (QIm kMp 69 Z2 pMp s rh (w.heap.size + 1) 63 (fun v => #[.string x0, .bool (x1 == 1), .slice ao2 x2.length cap2, .int .i64 x3, .int .i64 x4, .int .i64 x5, .slice ao6 x6.length cap6, vt, v]) (fun k => k = rh ∨ k = w.heap.size + 1) u8 x9.toNat i v wr t) ∧ Hid (∀ b, t = .ok b → 0 ≤ x9 ∧ x9 ≤ 64 ∧ i ≤ x9.toNat))
      case atStart => exact ⟨0, _, _, rfl, by omega, HI2.out.1, fun b hb => ⟨(HI2.out.2 b hb).1, (HI2.out.2 b hb).2, by omega⟩⟩
      case round =>
        obtain ⟨i, v, t1, rfl, hkx, HL, HA⟩ := hrel
        obtain ⟨c, hc, hc0⟩ := qcode2 HL.out.choose_spec.2.2.2.1
        obtain ⟨B, hB⟩ : ∃ B : Bool, B = (decide ((i : Int) < x9) && alive t1) := ⟨_, rfl⟩
        have HBt : Hid (B = (decide ((i : Int) < x9) && alive t1)) := hB
        have HC0 : Hid ((c == 0) = alive t1) := hc0
        clear hB hc0
        go_upto_region 27 with (fail)
        go_cut [93] from 84 to 93 (fun s61 wx => s61 = .bool B ∧ wr = wx)
        case first =>
          by_cases hlt : (i : Int) < x9
          · cases hcz : (c == 0) with
            | true =>
              have HV : Hid (B = true) := by show _ = _; rw [HBt.out, decide_eq_true hlt, ← HC0.out, hcz]; rfl
              as_aux_lemma =>
                go_wp2_with (fail)
                go_meet
                exact ⟨by rw [HV.out], rfl⟩
            | false =>
              have HV : Hid (B = false) := by show _ = _; rw [HBt.out, ← HC0.out, hcz, Bool.and_false]
              as_aux_lemma =>
                go_wp2_with (fail)
                go_meet
                exact ⟨by rw [HV.out], rfl⟩
          · have hd : decide ((i : Int) < x9) = false := decide_eq_false hlt
            have HV : Hid (B = false) := by show _ = _; rw [HBt.out, hd, Bool.false_and]
            as_aux_lemma =>
              go_wp2_with (fail)
              go_meet
              exact ⟨by rw [HV.out], rfl⟩
        case rest =>
        obtain ⟨rfl, rfl⟩ := hcut
        cases B with
        | true =>
          have hlt0 : (i : Int) < x9 := by
            apply Classical.byContradiction; intro hn
            have := HBt.out; rw [decide_eq_false hn] at this; cases this
          cases t1 with
          | error e => have := HBt.out; rw [decide_eq_true hlt0] at this; simp [alive] at this
          | ok b =>
          obtain ⟨a1, a2, a3⟩ := HA.out b rfl
          have hlt : i < x9.toNat := by omega
          clear hlt0 hc HC0 HBt
          have hD0 := qnum_any HL.out.choose_spec.2.2.2.1 hs
          have hwz := (HL.out.choose_spec.2.2.1).size
          have HN : Hid (∀ w1 y, Bx rh wr w1 → Qb w1 rh s (stp pMp s (.ok b)).1 → (∀ z, (stp pMp s (.ok b)).2 = some z → y = z) → _) := fun w1 y q1 q2 q3 => HL.out.next (j := 8) hlt (by omega) hu2 (by omega) (.inl rfl) (.inr rfl) (fun _ => rfl) q1 q2 q3
          have HS : Hid ((stp (pList 24 pNum) s (stp (pList 24 pNum) s (stp pNum s (.ok b)).1).1).1 = (stp pMp s (.ok b)).1) := by show _ = _; rw [show pMp = pMap _ _ from rfl, (stp_map _ _ _ _).1, (stp_seq _ _ _ _).1, (stp_seq _ _ _ _).1]
          have HE : Hid (∀ y, (stp pMp s (.ok b)).2 = some y → ∀ y0 : Int, (∀ z, (stp pNum s (.ok b)).2 = some z → y0 = z) → ∀ y1 : List Int, (∀ z, (stp (pList 24 pNum) s (stp pNum s (.ok b)).1).2 = some z → y1 = z) → ∀ y2 : List Int, (∀ z, (stp (pList 24 pNum) s (stp (pList 24 pNum) s (stp pNum s (.ok b)).1).1).2 = some z → y2 = z) → (⟨y0, y1, y2⟩ : Mp) = y) := fun y hy y0 h0 y1 h1 y2 h2 => by
            rw [show pMp = pMap _ _ from rfl, (stp_map _ _ _ _).2, Option.map_eq_some_iff] at hy
            obtain ⟨z, hz, rfl⟩ := hy
            obtain ⟨g0, k0⟩ := (stp_seq _ _ _ _).2 _ hz
            obtain ⟨g1, k1⟩ := (stp_seq _ _ _ _).2 _ k0
            rw [h0 _ g0, h1 _ g1, h2 _ k1]
          clear HL HA HI2
          as_aux_lemma =>
            go_wp2_with (first
              | (go_at_call 17; refine hD0.mono ?_; rintro e r0 ⟨hb0, y0, vy0, rfl, hv0, hQ0, hy0⟩; obtain rfl := hv0; have HB0 : Hid (Bx rh wr r0) := hb0; have hD1 := qlist_any 24 (by decide) hQ0 hs; clear hD0 hb0)
              | (go_at_call 41; refine hD1.mono ?_; rintro e r1 ⟨hb1, y1, vy1, rfl, hv1, hQ1, hy1⟩; have hsl1 := hv1; have E1 : Sl kI r1 (fun k => wr.heap.size ≤ k ∧ k < r1.heap.size) vy1 y1 := hsl1.mono (fun k hk => ⟨Nat.le_trans HB0.out.size hk.1, hk.2⟩); obtain ⟨ay1, cy1, rfl, -⟩ := hsl1; have HB1 : Hid (Bx rh wr r1) := HB0.out.trans hb1; have hD2 := qlist_any 24 (by decide) hQ1 hs; clear hD1 hb1)
              | (go_at_call 41; refine hD2.mono ?_; rintro e r2 ⟨hb2, y2, vy2, rfl, hv2, hQ2, hy2⟩; have E1 := E1.keep (fun k hk => hb2.block k hk.2 (by have := hk.1; omega)) |>.mono (fun k hk => ⟨hk.1, Nat.lt_of_lt_of_le hk.2 hb2.size⟩) (S' := fun k => wr.heap.size ≤ k ∧ k < r2.heap.size); have hsl2 := hv2; have E2 : Sl kI r2 (fun k => wr.heap.size ≤ k ∧ k < r2.heap.size) vy2 y2 := hsl2.mono (fun k hk => ⟨Nat.le_trans HB1.out.size hk.1, hk.2⟩); obtain ⟨ay2, cy2, rfl, -⟩ := hsl2; have HB2 : Hid (Bx rh wr r2) := HB1.out.trans hb2; obtain ⟨hm3, ⟨fs, hfs⟩, h9⟩ := HN.out r2 (⟨y0, y1, y2⟩ : Mp) HB2.out (by rw [← HS.out]; exact hQ2) (fun y hy => HE.out y hy y0 hy0 y1 hy1 y2 hy2); have hz9 := HB2.out.size; have cm : r2.cell? ⟨w.heap.size + 1, 8, none⟩ = some v := (by simp [World.cell?, hm3]); have HF : Hid (r2.ownsRow u8.heap.size 69 3 v i fs) := hfs; have HQ : Hid (kMp.R r2 (fun b => wr.heap.size ≤ b ∧ b < r2.heap.size) (⟨y0, y1, y2⟩ : Mp) [.int .i64 y0, .slice ay1 y1.length cy1, .slice ay2 y2.length cy2]) := ⟨_, _, rfl, E1, E2⟩; have H9 : Hid _ := h9 [.int .i64 y0, .slice ay1 y1.length cy1, .slice ay2 y2.length cy2] fs; clear hm3 h9; clear hD2 hb2)
              | (at_builtin; refine wpList_append_lies _ rfl _ _ 61 rfl u8.heap.size 69 j0 (.agg #[.int .i64 0, .slice none 0 0, .slice none 0 0]) 3 56 Tryz.underlying61 hj hw0 hw1 hw2 rfl (by decide) _ i fs rfl (HF.out.alloc _) ⟨r2.heap.size, 0, none⟩ 1 1 [.int .i64 y0, .slice ay1 y1.length cy1, .slice ay2 y2.length cy2] rfl rfl (news_at _ _ _) (kMp.one HQ.out) (by decide) (by unfold maxLen; omega) (by omega) (by simp; omega) _ rfl ?_; intro g cap w2 hown hgrow hat hlt3; obtain ⟨hm4, h10⟩ := H9.out _ w2 g cap HQ.out HF.out hown hgrow hat; have HO : Hid _ := h10; have cz : w2.cell? ⟨w.heap.size + 1, 8, none⟩ = some v := (by simp [World.cell?, hm4]); have fz : w2.frozen? ⟨w.heap.size + 1, 8, none⟩ = false := (by simp [World.frozen?, hm4]); have lz := blk_ltD hm4; clear hown hgrow hat H9 hm4 h10))
            go_roundg (x9.toNat - (i + 1))
            case measure => omega
            case rel => exact ⟨i + 1, _, _, by go_num, by omega, HO.out, fun _ _ => ⟨a1, a2, by omega⟩⟩
        | false =>
          have HF2 : Hid _ := HL.out.fin (by
            have hb := HBt.out
            cases t1 with
            | error e => exact .inl ⟨_, rfl⟩
            | ok b =>
              right
              apply Classical.byContradiction; intro hn
              obtain ⟨a1, a2, a3⟩ := HA.out b rfl
              rw [decide_eq_true (by omega : (i : Int) < x9)] at hb; simp [alive] at hb)
          clear HL HA HI2 hc HC0 HBt hkx
          obtain ⟨qb2, qm2, x10, qs2, qq2, qy2⟩ := HF2.out
          have kS := hu1
          have kS2 := HWR.out
          have kS3 := HB9.out.size
          have kS4 := qb2.size
          have HM3 : Hid (wr.heap[w.heap.size + 1]? = some (.cells #[.string x0, .bool (x1 == 1), .slice ao2 x2.length cap2, .int .i64 x3, .int .i64 x4, .int .i64 x5, .slice ao6 x6.length cap6, vt, v] 63 (0, 0))) := qm2
          have HR3 : Hid (wr.heap[w.heap.size]? = some (.cells #[.string ⟨#[]⟩, .bool false, .slice none 0 0, .int .i64 0, .int .i64 0, .int .i64 0, .slice none 0 0, .slice none 0 0, .slice none 0 0] 63 (0, 0))) := by
            show _ = _
            rw [qb2.block _ (by omega) (by omega), HB9.out.block _ (by omega) (by omega), HQB.out.block _ (by omega) (by omega)]
            exact M8.out.res
          have HBX : Hid (∀ k, k < u7.heap.size → k ≠ rh → k ≠ w.heap.size + 1 → wr.heap[k]? = u7.heap[k]?) := fun k hk e1 e2 => by
            rw [qb2.block k (by omega) (by omega), HB9.out.block k (by omega) e1, HQB.out.block k hk (by omega)]
          have HT8 : Hid (Sl kHd wr (fun b => u7.heap.size ≤ b ∧ b < wr.heap.size) vt x8) := (HL8.out.keep fun k hk => by rw [qb2.block k (by omega) (by omega), HB9.out.block k hk.2 (by omega)]).mono fun k hk => ⟨hk.1, by omega⟩
          have HT10 : Hid (Sl kMp wr (fun b => u8.heap.size ≤ b ∧ b < wr.heap.size) v x10) := qs2
          have HO3 : Hid (wr.os = w.os ∧ wr.tape = w.tape ∧ wr.output = w.output) := ⟨qb2.os.trans (HB9.out.os.trans (HQB.out.os.trans M8.out.bx.os)), qb2.tape.trans (HB9.out.tape.trans (HQB.out.tape.trans M8.out.bx.tape)), qb2.output.trans (HB9.out.output.trans (HQB.out.output.trans M8.out.bx.output))⟩
          have HQ3 : Hid (Qb wr rh s Z2.1) := qq2
          have HY2 : Hid (∀ ys, Z2.2 = some ys → x10 = ys) := qy2
          have hz3 : u8.heap.size ≤ wr.heap.size := kS4
          have hz4 : u7.heap.size ≤ u8.heap.size := by omega
          obtain ⟨at_, ct_, hvt2, -⟩ := HL8.out
          obtain ⟨am_, cm_, hvm, -⟩ := qs2
          subst hvt2 hvm
          clear HF2 qb2 qm2 qq2 qy2 HL8 HQB HQM HB9 HWR kS2 kS3 kS4
          go_wp2_with (first
            | (refine wpList_load_row rfl 63 _ rfl (w.heap.size + 1) rfl 63 _ (0, 0) _ HM3.out Tryz.underlying63 rfl infoRMd ?_)
            | (refine wpList_store_row rfl 63 _ _ rfl w.heap.size _ rfl rfl 63 _ HR3.out infoRMd rfl (by simp [Value.oneCell']) ?_))
          refine bodyPost_ret (results_cell_row rfl _ _ w.heap.size 63 #[.string x0, .bool (x1 == 1), .slice ao2 x2.length cap2, .int .i64 x3, .int .i64 x4, .int .i64 x5, .slice ao6 x6.length cap6, .slice at_ x8.length ct_, .slice am_ x10.length cm_] (0, 0) _ rfl (setRow_heap _ _ _ _ _ _ HR3.out) Tryz.underlying63 rfl infoRMd) rfl ?_
          have hsame : ∀ k, k ≠ w.heap.size → (wr.setRow w.heap.size #[.string x0, .bool (x1 == 1), .slice ao2 x2.length cap2, .int .i64 x3, .int .i64 x4, .int .i64 x5, .slice ao6 x6.length cap6, .slice at_ x8.length ct_, .slice am_ x10.length cm_]).heap[k]? = wr.heap[k]? := fun k hn => setRow_other _ _ _ _ hn
          have hsz : (wr.setRow w.heap.size #[.string x0, .bool (x1 == 1), .slice ao2 x2.length cap2, .int .i64 x3, .int .i64 x4, .int .i64 x5, .slice ao6 x6.length cap6, .slice at_ x8.length ct_, .slice am_ x10.length cm_]).heap.size = wr.heap.size := by rw [size_setRow]
          refine ⟨⟨HO3.out.1, HO3.out.2.1, HO3.out.2.2, by rw [hsz]; omega, fun k hk e => ?_⟩, ⟨x0, x1 == 1, x2, x3, x4, x5, x6, x8, x10⟩, _, rfl, ⟨_, ⟨_, _, _, _, rfl, ?_, ?_, ?_, ?_⟩, rfl⟩, ?_, ?_⟩
          · rw [hsame k (by omega), HBX.out k (by omega) e (by omega)]; exact M8.out.bx.block k hk e
          · exact (Sl.keep (fun k hk => by rw [hsame k (by have := hk.1; omega), HBX.out k hk.2 (by have := hk.1; omega) (by have := hk.1; omega)]) L2).mono fun k hk => ⟨by have := hk.1; omega, by rw [hsz]; have := hk.2; omega⟩
          · exact (Sl.keep (fun k hk => by rw [hsame k (by have := hk.1; omega), HBX.out k hk.2 (by have := hk.1; omega) (by have := hk.1; omega)]) L6).mono fun k hk => ⟨by have := hk.1; omega, by rw [hsz]; have := hk.2; omega⟩
          · exact (HT8.out.keep fun k hk => hsame k (by have := hk.1; omega)).mono fun k hk => ⟨by have := hk.1; omega, by rw [hsz]; exact hk.2⟩
          · exact (HT10.out.keep fun k hk => hsame k (by have := hk.1; omega)).mono fun k hk => ⟨by have := hk.1; omega, by rw [hsz]; exact hk.2⟩
          · rw [md_state, HZ1.out, HZ2.out]; exact HQ3.out.keep (hsame rh (by omega))
          · exact fun y hy => md_val hy hx0 hx1 hx2 hx3 hx4 hx5 hx6 (by rw [HZ1.out]; exact HY1.out) (by rw [HZ1.out, HZ2.out]; exact HY2.out)
end Go.Proofs.YtajghalljkphiaaGreat
