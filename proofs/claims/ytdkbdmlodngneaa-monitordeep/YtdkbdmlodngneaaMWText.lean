/- Texts: wire.PutText and GetText, and the document's own, at every string, place and bound: the same answers; of what was there nothing turns. -/
import Derived.Test.YtdkbdmlodngneaaMGW2
import Derived.Test.YtdkbdmlodngneaaMWClone
namespace Go.Proofs.Ytdkbdmlodngneaa
open Go.RowKit

/-- A text of most bytes at place a: the error. -/
def tC (s : ByteArray) (a most : Int) : Int :=
  if gC s a ≠ 0 then gC s a else if gN s a < 0 ∨ most < gN s a then 202 else if (s.size : Int) - gT s a < gN s a then 200 else 0
def tS (s : ByteArray) (a most : Int) : ByteArray := if tC s a most = 0 then s.extract (gT s a).toNat (gT s a + gN s a).toNat else ⟨#[]⟩
def tT (s : ByteArray) (a most : Int) : Int := if tC s a most = 0 then gT s a + gN s a else 0

theorem rd_len {l : List UInt8} {Z n : Nat} (h : rd l 0 0 = (Z, n, 0)) : n ≤ l.length := by
  obtain ⟨y, _, e2, e3, _, _⟩ := rd_taken l 0 0 Z n (by omega) h
  have : (l.take (parts y).length).length = (parts y).length := by rw [e3]
  rw [List.length_take] at this
  omega

theorem g_ok {s : ByteArray} {a : Int} (h : gC s a = 0) : 0 ≤ a ∧ a ≤ s.size ∧ -2147483648 ≤ gN s a ∧ gN s a ≤ 2147483647 ∧ 0 ≤ gT s a ∧ gT s a ≤ s.size := by
  by_cases c : a < 0 ∨ (s.size : Int) < a
  · rw [(g_no c).2.2] at h; cases h
  · obtain ⟨n, rfl⟩ : ∃ n : Nat, a = n := ⟨a.toNat, by omega⟩
    obtain ⟨e1, e2, e3⟩ := g_yes (s := s) (a := n) (by omega)
    rw [e3] at h
    rw [e1, e2]
    obtain ⟨⟨Z, m, cc⟩, hR⟩ : ∃ R, rd (from_ s n) 0 0 = R := ⟨_, rfl⟩
    rw [hR] at h ⊢
    have h0 : cc = 0 := h
    subst h0
    have hl := rd_len hR
    have hz := zag_range (rd_num_lt hR)
    have hf : (from_ s n).length = s.size - n := by unfold from_; rw [List.length_drop]; rfl
    refine ⟨by omega, by omega, hz.1, hz.2, ?_, ?_⟩
    · show 0 ≤ (if (0 : Int) = 0 then ((n : Int) + (m : Int)) else 0)
      rw [if_pos rfl]; omega
    · show (if (0 : Int) = 0 then ((n : Int) + (m : Int)) else 0) ≤ _
      rw [if_pos rfl]; omega

theorem t_err {s : ByteArray} {a most : Int} (h : gC s a ≠ 0) : tC s a most = gC s a ∧ tS s a most = ⟨#[]⟩ ∧ tT s a most = 0 := by
  have e : tC s a most = gC s a := by unfold tC; rw [if_pos h]
  refine ⟨e, ?_, ?_⟩
  · unfold tS; rw [e, if_neg h]
  · unfold tT; rw [e, if_neg h]
theorem t_long {s : ByteArray} {a most : Int} (h : gC s a = 0) (h1 : gN s a < 0 ∨ most < gN s a) : tC s a most = 202 ∧ tS s a most = ⟨#[]⟩ ∧ tT s a most = 0 := by
  have e : tC s a most = 202 := by unfold tC; rw [if_neg (by rw [h]; decide), if_pos h1]
  refine ⟨e, ?_, ?_⟩
  · unfold tS; rw [e, if_neg (by decide)]
  · unfold tT; rw [e, if_neg (by decide)]
theorem t_cut {s : ByteArray} {a most : Int} (h : gC s a = 0) (h1 : ¬ (gN s a < 0 ∨ most < gN s a)) (h2 : (s.size : Int) - gT s a < gN s a) : tC s a most = 200 ∧ tS s a most = ⟨#[]⟩ ∧ tT s a most = 0 := by
  have e : tC s a most = 200 := by unfold tC; rw [if_neg (by rw [h]; decide), if_neg h1, if_pos h2]
  refine ⟨e, ?_, ?_⟩
  · unfold tS; rw [e, if_neg (by decide)]
  · unfold tT; rw [e, if_neg (by decide)]
theorem t_ok {s : ByteArray} {a most : Int} (h : gC s a = 0) (h1 : ¬ (gN s a < 0 ∨ most < gN s a)) (h2 : ¬ (s.size : Int) - gT s a < gN s a) : tC s a most = 0 ∧ tS s a most = s.extract (gT s a).toNat (gT s a + gN s a).toNat ∧ tT s a most = gT s a + gN s a := by
  have e : tC s a most = 0 := by unfold tC; rw [if_neg (by rw [h]; decide), if_neg h1, if_neg h2]
  refine ⟨e, ?_, ?_⟩
  · unfold tS; rw [e, if_pos rfl]
  · unfold tT; rw [e, if_pos rfl]

theorem ret_txt {x x' : ByteArray} {a b a' b' : Int} (h1 : x = x') (h2 : a = a') (h3 : b = b') : Ending.returned (.tuple #[.string x, .int .i64 a, .int .i64 b]) = .returned (.tuple #[.string x', .int .i64 a', .int .i64 b']) := by rw [h1, h2, h3]

theorem Gr.size {w0 w : World} (h : Gr w0 w) : w0.heap.size ≤ w.heap.size := Below.size h

theorem ext_size (s : ByteArray) (x y : Nat) (h : (y : Int) - x ≤ 2147483647) : (s.extract x y).size ≤ 281474976710656 := by
  rw [ByteArray.size_extract]
  omega

theorem t_no {s : ByteArray} {a most : Int} (h : a < 0 ∨ (s.size : Int) < a) : tC s a most = 200 ∧ tS s a most = ⟨#[]⟩ ∧ tT s a most = 0 := by
  have e := (g_no h).2.2
  have := t_err (s := s) (a := a) (most := most) (by rw [e]; decide)
  rw [e] at this
  exact this

theorem alloc_cell (w : World) (most : Int) : (w.alloc (.cells #[.int .i64 most] 3)).cell? ⟨w.heap.size, 0, none⟩ = some (.int .i64 most) := by
  rw [cell_of_row _ w.heap.size 0 #[.int .i64 most] 3 (0, 0) (heap_alloc_new w _)]; rfl

theorem Gr.alloc {w0 w : World} (h : Gr w0 w) (o : Obj) : Gr w0 (w.alloc o) := Below.alloc h h.size o

/-- A text's bytes. -/
def txtB (s : ByteArray) : ByteArray := putB s.size ++ s

theorem put_sum (s : ByteArray) (hs : s.size ≤ maxLen) : (putB s.size).size + s.size ≤ 9223372036854775807 := by
  unfold maxLen at hs
  cases h : inR (s.size : Int)
  · rw [putB_no h]
    show 0 + s.size ≤ _
    omega
  · have := inR_iff.1 h
    have := putB_size s.size
    omega

end Go.Proofs.Ytdkbdmlodngneaa
