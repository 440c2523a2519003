/- The document's own reader: class. -/
import Derived.Test.YtdgndglinkcdbaaDoorMGD2
import Derived.Test.YtdgndglinkcdbaaDoorMGD0
import Derived.Test.YtdgndglinkcdbaaDoorMGD1
import Derived.Test.YtdgndglinkcdbaaDoorMY14
import Derived.Test.YtdgndglinkcdbaaDoorMY38
namespace Go.Proofs.YtdgndglinkcdbaaDoor
open Go.RowKit

theorem boxed (r0 : World) (z row : Array Value) (T : TypeId) : ((r0.alloc (.cells z T)).setRow r0.heap.size row).heap[r0.heap.size]? = some (.cells row T (0, 0)) ∧ ((r0.alloc (.cells z T)).setRow r0.heap.size row).heap.size = r0.heap.size + 1 ∧ (∀ k, k < r0.heap.size → ((r0.alloc (.cells z T)).setRow r0.heap.size row).heap[k]? = r0.heap[k]?) ∧ ((r0.alloc (.cells z T)).setRow r0.heap.size row).os = r0.os ∧ ((r0.alloc (.cells z T)).setRow r0.heap.size row).tape = r0.tape ∧ ((r0.alloc (.cells z T)).setRow r0.heap.size row).output = r0.output :=
  ⟨setRow_heap _ _ _ _ _ _ (heap_alloc_new _ _), by rw [size_setRow]; simp, fun k hk => by rw [setRow_other _ _ _ _ (by omega), Below.heap_alloc _ _ _ hk], rfl, rfl, rfl⟩
theorem cs_state (s : ByteArray) (t : Stt) : (stp pCs s t).1 = (stp (pList 24 pMd) s (stp (pList 24 pFd) s (stp (pList 24 pFd) s (stp (pList 8 pNum) s (stp pNum s (stp (pUp 3 1402) s (stp pName s t).1).1).1).1).1).1).1 := by
  rw [show pCs = pMap _ _ from rfl, (stp_map _ _ _ _).1, (stp_seq _ _ _ _).1, (stp_seq _ _ _ _).1, (stp_seq _ _ _ _).1, (stp_seq _ _ _ _).1, (stp_seq _ _ _ _).1, (stp_seq _ _ _ _).1, show (stp pFl2 s (stp pName s t).1).1 = (stp (pUp 3 1402) s (stp pName s t).1).1 from (stp_map _ _ _ _).1]
theorem cs_val {s : ByteArray} {t : Stt} {y : Cs} (hy : (stp pCs s t).2 = some y) {x0 : ByteArray} {x1 x2 : Int} {x3 : List Int} {x4 x5 : List Fd} {x7 : List Md} (h0 : ∀ z, (stp pName s t).2 = some z → x0 = z) (h1 : ∀ z, (stp (pUp 3 1402) s (stp pName s t).1).2 = some z → x1 = z) (h2 : ∀ z, (stp pNum s (stp (pUp 3 1402) s (stp pName s t).1).1).2 = some z → x2 = z) (h3 : ∀ z, (stp (pList 8 pNum) s (stp pNum s (stp (pUp 3 1402) s (stp pName s t).1).1).1).2 = some z → x3 = z) (h4 : ∀ z, (stp (pList 24 pFd) s (stp (pList 8 pNum) s (stp pNum s (stp (pUp 3 1402) s (stp pName s t).1).1).1).1).2 = some z → x4 = z) (h5 : ∀ z, (stp (pList 24 pFd) s (stp (pList 24 pFd) s (stp (pList 8 pNum) s (stp pNum s (stp (pUp 3 1402) s (stp pName s t).1).1).1).1).1).2 = some z → x5 = z) (h7 : ∀ z, (stp (pList 24 pMd) s (stp (pList 24 pFd) s (stp (pList 24 pFd) s (stp (pList 8 pNum) s (stp pNum s (stp (pUp 3 1402) s (stp pName s t).1).1).1).1).1).1).2 = some z → x7 = z) : (⟨x0, x1 % 2 == 1, decide (2 ≤ x1), x2, x3, x4, x5, x7⟩ : Cs) = y := by
  have hfl : (stp pFl2 s (stp pName s t).1).1 = (stp (pUp 3 1402) s (stp pName s t).1).1 := (stp_map _ _ _ _).1
  rw [show pCs = pMap _ _ from rfl, (stp_map _ _ _ _).2, Option.map_eq_some_iff] at hy
  obtain ⟨z, hz, rfl⟩ := hy
  obtain ⟨g0, k0⟩ := (stp_seq _ _ _ _).2 _ hz
  obtain ⟨g1, k1⟩ := (stp_seq _ _ _ _).2 _ k0
  rw [hfl] at k1
  obtain ⟨g2, k2⟩ := (stp_seq _ _ _ _).2 _ k1
  obtain ⟨g3, k3⟩ := (stp_seq _ _ _ _).2 _ k2
  obtain ⟨g4, k4⟩ := (stp_seq _ _ _ _).2 _ k3
  obtain ⟨g5, k5⟩ := (stp_seq _ _ _ _).2 _ k4
  rw [show pFl2 = pMap _ _ from rfl, (stp_map _ _ _ _).2, Option.map_eq_some_iff] at g1
  obtain ⟨f, hf, hf2⟩ := g1
  obtain rfl := h1 _ hf
  have e1 : (x1 % 2 == 1) = z.2.1.1 := by
    rw [← hf2]
    show (x1 % 2 == 1) = decide (x1 % 2 = 1)
    exact Bool.beq_eq_decide_eq _ _
  have e2 : decide (2 ≤ x1) = z.2.1.2 := by rw [← hf2]
  rw [h0 _ g0, e1, e2, h2 _ g2, h3 _ g3, h4 _ g4, h5 _ g5, h7 _ k5]
end Go.Proofs.YtdgndglinkcdbaaDoor
/- The document's own Decode. -/
namespace Go.Proofs.YtdgndglinkcdbaaDoor
open Go.RowKit

theorem pg_state (s : ByteArray) (t : Stt) : (stp pPg s t).1 = (stp (pList 40 pCs) s (stp pNum s t).1).1 := by
  rw [show pPg = pMap _ _ from rfl, (stp_map _ _ _ _).1, (stp_seq _ _ _ _).1]
theorem pg_val {s : ByteArray} {t : Stt} {y : Pg} (hy : (stp pPg s t).2 = some y) {x0 : Int} {x7 : List Cs} (h0 : ∀ z, (stp pNum s t).2 = some z → x0 = z) (h7 : ∀ z, (stp (pList 40 pCs) s (stp pNum s t).1).2 = some z → x7 = z) : (⟨x0, x7⟩ : Pg) = y := by
  rw [show pPg = pMap _ _ from rfl, (stp_map _ _ _ _).2, Option.map_eq_some_iff] at hy
  obtain ⟨z, hz, rfl⟩ := hy
  obtain ⟨g0, k0⟩ := (stp_seq _ _ _ _).2 _ hz
  rw [h0 _ g0, h7 _ k0]
theorem stp_dead2 {α : Type} {p : Prs α} {s : ByteArray} {a : Nat} {e : Nat × Int} (h : (stp p s (.ok a)).1 = .error e) : p s a = .error e := by
  rcases hp : p s a with e2 | ⟨x, b⟩
  · rw [stp_err hp] at h; injection h with h; rw [h]
  · rw [stp_ok hp] at h; cases h
theorem stp_live {α : Type} {p : Prs α} {s : ByteArray} {a b : Nat} (h : (stp p s (.ok a)).1 = .ok b) : ∃ x, p s a = .ok (x, b) := by
  rcases hp : p s a with e2 | ⟨x, c⟩
  · rw [stp_err hp] at h; cases h
  · rw [stp_ok hp] at h; injection h with h; exact ⟨x, by rw [h]⟩
theorem stp_live2 {α : Type} {p : Prs α} {s : ByteArray} {a b : Nat} {x : α} (h : (stp p s (.ok a)).1 = .ok b) (hx : ∀ y, (stp p s (.ok a)).2 = some y → y = x) : p s a = .ok (x, b) := by
  obtain ⟨y, hy⟩ := stp_live h
  rw [hy, hx y (by rw [stp_ok hy])]
section
variable {s : ByteArray} (h1 : ¬ 32768 < s.size) (h2 : s.data.toList.take 4 = mag)
include h1 h2
theorem dec_dead {e : Nat × Int} (h : pPg s 4 = .error e) : decP s = .error e := by
  unfold decP; rw [if_neg h1, if_pos h2, h]
theorem dec_tail {b : Nat} (h : ∃ x, pPg s 4 = .ok (x, b)) (hb : b < s.size) : decP s = .error (b, 1405) := by
  obtain ⟨x, h⟩ := h
  unfold decP; rw [if_neg h1, if_pos h2, h]; exact if_pos hb
theorem dec_live {b : Nat} {x : Pg} (h : pPg s 4 = .ok (x, b)) (hb : ¬ b < s.size) : decP s = .ok x := by
  unfold decP; rw [if_neg h1, if_pos h2, h]; exact if_neg hb
end
/-- What the document's Decode answers. -/
def DeD (s : ByteArray) (w : World) (e : Ending) (w' : World) : Prop := Below w.heap.size w w' ∧ match decP s with
  | .ok p => ∃ v, e = .returned (.tuple #[v, .int .i64 0, .int .i64 0]) ∧ Nw kPg w p v w'
  | .error (q, c) => e = .returned (.tuple #[.agg #[.int .i64 0, .slice none 0 0], .int .i64 q, .int .i64 c])
section
variable {w : World} {s : ByteArray} {row : Array Value} {t : Stt} {u : World}
end
end Go.Proofs.YtdgndglinkcdbaaDoor
