/- Texts: wire.PutText and GetText, and the document's own, at every string, place and bound: the same answers; of what was there nothing turns. -/
import Derived.Test.YtajghalljkphiaaGreatMGW2
import Derived.Test.YtajghalljkphiaaGreatMWClone
namespace Go.Proofs.YtajghalljkphiaaGreat
open Go.RowKit

/-- A text of most bytes at place a: the error. -/
def tC (s : ByteArray) (a most : Int) : Int :=
  if gC s a ≠ 0 then gC s a else if gN s a < 0 ∨ most < gN s a then 202 else if (s.size : Int) - gT s a < gN s a then 200 else 0
def tS (s : ByteArray) (a most : Int) : ByteArray := if tC s a most = 0 then s.extract (gT s a).toNat (gT s a + gN s a).toNat else ⟨#[]⟩
def tT (s : ByteArray) (a most : Int) : Int := if tC s a most = 0 then gT s a + gN s a else 0

theorem rd_len {l : List UInt8} {Z n : Nat} (h : rd l 0 0 = (Z, n, 0)) : n ≤ l.length := by
  obtain ⟨y, _, e2, e3, _, _⟩ := rd_taken l 0 0 Z n (by omega) h
  have : (l.take (parts y).length).length = (parts y).length := by rw [e3]
  rw [List.length_take] at this
  omega

theorem g_ok {s : ByteArray} {a : Int} (h : gC s a = 0) : 0 ≤ a ∧ a ≤ s.size ∧ -2147483648 ≤ gN s a ∧ gN s a ≤ 2147483647 ∧ 0 ≤ gT s a ∧ gT s a ≤ s.size := by
  by_cases c : a < 0 ∨ (s.size : Int) < a
  · rw [(g_no c).2.2] at h; cases h
  · obtain ⟨n, rfl⟩ : ∃ n : Nat, a = n := ⟨a.toNat, by omega⟩
    obtain ⟨e1, e2, e3⟩ := g_yes (s := s) (a := n) (by omega)
    rw [e3] at h
    rw [e1, e2]
    obtain ⟨⟨Z, m, cc⟩, hR⟩ : ∃ R, rd (from_ s n) 0 0 = R := ⟨_, rfl⟩
    rw [hR] at h ⊢
    have h0 : cc = 0 := h
    subst h0
    have hl := rd_len hR
    have hz := zag_range (rd_num_lt hR)
    have hf : (from_ s n).length = s.size - n := by unfold from_; rw [List.length_drop]; rfl
    refine ⟨by omega, by omega, hz.1, hz.2, ?_, ?_⟩
    · show 0 ≤ (if (0 : Int) = 0 then ((n : Int) + (m : Int)) else 0)
      rw [if_pos rfl]; omega
    · show (if (0 : Int) = 0 then ((n : Int) + (m : Int)) else 0) ≤ _
      rw [if_pos rfl]; omega

theorem take_same (s : ByteArray) (a : Nat) (w : World) (hs : s.size ≤ maxLen) (ha : a ≤ s.size) :
    Calls Tryz.prog 97 #[.string s, .int .i64 a] w fun e w' => e = .returned (.tuple #[.int .i64 (gN s a), .int .i64 (gT s a), .int .i64 (gC s a)]) ∧ w' = w := by
  obtain ⟨e1, e2, e3⟩ := g_yes (s := s) (a := a) ha
  rw [e1, e2, e3]
  exact take_R _ s a w hs ha rfl

theorem t_err {s : ByteArray} {a most : Int} (h : gC s a ≠ 0) : tC s a most = gC s a ∧ tS s a most = ⟨#[]⟩ ∧ tT s a most = 0 := by
  have e : tC s a most = gC s a := by unfold tC; rw [if_pos h]
  refine ⟨e, ?_, ?_⟩
  · unfold tS; rw [e, if_neg h]
  · unfold tT; rw [e, if_neg h]
theorem t_long {s : ByteArray} {a most : Int} (h : gC s a = 0) (h1 : gN s a < 0 ∨ most < gN s a) : tC s a most = 202 ∧ tS s a most = ⟨#[]⟩ ∧ tT s a most = 0 := by
  have e : tC s a most = 202 := by unfold tC; rw [if_neg (by rw [h]; decide), if_pos h1]
  refine ⟨e, ?_, ?_⟩
  · unfold tS; rw [e, if_neg (by decide)]
  · unfold tT; rw [e, if_neg (by decide)]
theorem t_cut {s : ByteArray} {a most : Int} (h : gC s a = 0) (h1 : ¬ (gN s a < 0 ∨ most < gN s a)) (h2 : (s.size : Int) - gT s a < gN s a) : tC s a most = 200 ∧ tS s a most = ⟨#[]⟩ ∧ tT s a most = 0 := by
  have e : tC s a most = 200 := by unfold tC; rw [if_neg (by rw [h]; decide), if_neg h1, if_pos h2]
  refine ⟨e, ?_, ?_⟩
  · unfold tS; rw [e, if_neg (by decide)]
  · unfold tT; rw [e, if_neg (by decide)]
theorem t_ok {s : ByteArray} {a most : Int} (h : gC s a = 0) (h1 : ¬ (gN s a < 0 ∨ most < gN s a)) (h2 : ¬ (s.size : Int) - gT s a < gN s a) : tC s a most = 0 ∧ tS s a most = s.extract (gT s a).toNat (gT s a + gN s a).toNat ∧ tT s a most = gT s a + gN s a := by
  have e : tC s a most = 0 := by unfold tC; rw [if_neg (by rw [h]; decide), if_neg h1, if_neg h2]
  refine ⟨e, ?_, ?_⟩
  · unfold tS; rw [e, if_pos rfl]
  · unfold tT; rw [e, if_pos rfl]

theorem ret_txt {x x' : ByteArray} {a b a' b' : Int} (h1 : x = x') (h2 : a = a') (h3 : b = b') : Ending.returned (.tuple #[.string x, .int .i64 a, .int .i64 b]) = .returned (.tuple #[.string x', .int .i64 a', .int .i64 b']) := by rw [h1, h2, h3]

theorem Gr.size {w0 w : World} (h : Gr w0 w) : w0.heap.size ≤ w.heap.size := Below.size h

theorem ext_size (s : ByteArray) (x y : Nat) (h : (y : Int) - x ≤ 2147483647) : (s.extract x y).size ≤ 281474976710656 := by
  rw [ByteArray.size_extract]
  omega

set_option maxHeartbeats 1000000 in
set_option maxRecDepth 20000 in
/-- The reader of texts of at most most bytes: the closure, its bound lying in block B. -/
theorem reader_any {w0 : World} (s : ByteArray) (a : Nat) (most : Int) (B : Nat) (w : World) (hs : s.size ≤ maxLen) (ha : a ≤ s.size) (hcell : w.cell? ⟨B, 0, none⟩ = some (.int .i64 most)) (hg : Gr w0 w) :
    Calls Tryz.prog 117 #[.string s, .int .i64 a, .pointer (some ⟨B, 0, none⟩)] w fun e w' => e = .returned (.tuple #[.string (tS s a most), .int .i64 (tT s a most), .int .i64 (tC s a most)]) ∧ Gr w0 w' := by
  have hs' := hs
  unfold maxLen at hs'
  by_cases h : gC s a = 0
  · obtain ⟨_, _, b1, b2, b3, b4⟩ := g_ok h
    have hc : (gC s a != 0) = false := by simp [h]
    have HX : Hid _ := ext_size s (gT s a).toNat (gT s a + gN s a).toNat (by omega)
    by_cases h1 : gN s a < 0 ∨ most < gN s a
    · obtain ⟨e1, e2, e3⟩ := t_long h h1
      rw [e1, e2, e3]
      clear h e1 e2 e3
      rcases h1 with h1 | h1
      · go_enter Tryz.func117, Tryz.ntmps117
        go_wp2_with (first | (go_at_call 97; refine (take_same _ _ _ hs ha).mono ?_; rintro e w1 ⟨rfl, rfl⟩) | (go_at_call 118; refine (clone_any _ _ HX.out).mono ?_; rintro e w2 ⟨rfl, hb⟩))
        go_ret3
        exact ⟨rfl, hg⟩
      · by_cases h2 : gN s a < 0
        · go_enter Tryz.func117, Tryz.ntmps117
          go_wp2_with (first | (go_at_call 97; refine (take_same _ _ _ hs ha).mono ?_; rintro e w1 ⟨rfl, rfl⟩) | (go_at_call 118; refine (clone_any _ _ HX.out).mono ?_; rintro e w2 ⟨rfl, hb⟩))
          go_ret3
          exact ⟨rfl, hg⟩
        · go_enter Tryz.func117, Tryz.ntmps117
          go_wp2_with (first | (go_at_call 97; refine (take_same _ _ _ hs ha).mono ?_; rintro e w1 ⟨rfl, rfl⟩) | (go_at_call 118; refine (clone_any _ _ HX.out).mono ?_; rintro e w2 ⟨rfl, hb⟩))
          go_ret3
          exact ⟨rfl, hg⟩
    · have p1 : 0 ≤ gN s a := by omega
      have p2 : gN s a ≤ most := by omega
      by_cases h2 : (s.size : Int) - gT s a < gN s a
      · obtain ⟨e1, e2, e3⟩ := t_cut h h1 h2
        rw [e1, e2, e3]
        clear h h1 e1 e2 e3
        go_enter Tryz.func117, Tryz.ntmps117
        go_wp2_with (first | (go_at_call 97; refine (take_same _ _ _ hs ha).mono ?_; rintro e w1 ⟨rfl, rfl⟩) | (go_at_call 118; refine (clone_any _ _ HX.out).mono ?_; rintro e w2 ⟨rfl, hb⟩))
        go_ret3
        exact ⟨rfl, hg⟩
      · obtain ⟨e1, e2, e3⟩ := t_ok h h1 h2
        rw [e1, e2, e3]
        have p3 : gN s a ≤ (s.size : Int) - gT s a := by omega
        clear h h1 h2 e1 e2 e3
        go_enter Tryz.func117, Tryz.ntmps117
        go_wp2_with (first | (go_at_call 97; refine (take_same _ _ _ hs ha).mono ?_; rintro e w1 ⟨rfl, rfl⟩) | (go_at_call 118; refine (clone_any _ _ HX.out).mono ?_; rintro e w2 ⟨rfl, hb⟩))
        go_ret3
        exact ⟨ret_txt rfl rfl rfl, hg.on hb⟩
  · obtain ⟨e1, e2, e3⟩ := t_err (most := most) h
    have hc : (gC s a != 0) = true := by simp [h]
    rw [e1, e2, e3]
    clear h e1 e2 e3
    go_enter Tryz.func117, Tryz.ntmps117
    go_wp2_with (go_at_call 97; refine (take_same _ _ _ hs ha).mono ?_; rintro e w1 ⟨rfl, rfl⟩)
    go_ret3
    exact ⟨rfl, hg⟩

theorem t_no {s : ByteArray} {a most : Int} (h : a < 0 ∨ (s.size : Int) < a) : tC s a most = 200 ∧ tS s a most = ⟨#[]⟩ ∧ tT s a most = 0 := by
  have e := (g_no h).2.2
  have := t_err (s := s) (a := a) (most := most) (by rw [e]; decide)
  rw [e] at this
  exact this

set_option maxHeartbeats 400000 in
theorem readt_no {w0 : World} (s : ByteArray) (a : Int) (f : Value) (w : World) (h : a < 0 ∨ (s.size : Int) < a) (hg : Gr w0 w) :
    Calls Tryz.prog 116 #[f, .string s, .int .i64 a] w fun e w' => e = .returned (.tuple #[.string ⟨#[]⟩, .int .i64 0, .int .i64 200]) ∧ Gr w0 w' := by
  rcases h with h | h
  · go_enter Tryz.func116, Tryz.ntmps116
    go_wp2
    go_ret3
    exact ⟨rfl, hg⟩
  · have h' : 0 ≤ a := by omega
    go_enter Tryz.func116, Tryz.ntmps116
    go_wp2
    go_ret3
    exact ⟨rfl, hg⟩

set_option maxHeartbeats 400000 in
theorem readt_yes {w0 : World} (s : ByteArray) (a : Nat) (most : Int) (B : Nat) (w : World) (hs : s.size ≤ maxLen) (h : a ≤ s.size) (hcell : w.cell? ⟨B, 0, none⟩ = some (.int .i64 most)) (hg : Gr w0 w) :
    Calls Tryz.prog 116 #[.func (.func 117) #[] #[.pointer (some ⟨B, 0, none⟩)], .string s, .int .i64 a] w fun e w' => e = .returned (.tuple #[.string (tS s a most), .int .i64 (tT s a most), .int .i64 (tC s a most)]) ∧ Gr w0 w' := by
  go_enter Tryz.func116, Tryz.ntmps116
  go_wp2_with (go_at_call 117; refine (reader_any _ _ _ _ _ hs h hcell hg).mono ?_; clear hg; rintro e w1 ⟨rfl, hg⟩)
  go_ret3
  exact ⟨rfl, hg⟩

set_option maxHeartbeats 400000 in
theorem textOf_any (most : Int) (w : World) :
    Calls Tryz.prog 115 #[.int .i64 most] w fun e w' => e = .returned (.func (.func 117) #[] #[.pointer (some ⟨w.heap.size, 0, none⟩)]) ∧ w' = w.alloc (.cells #[.int .i64 most] 3) := by
  go_enter Tryz.func115, Tryz.ntmps115
  go_wp2
  go_ret
  exact ⟨rfl, rfl⟩

theorem alloc_cell (w : World) (most : Int) : (w.alloc (.cells #[.int .i64 most] 3)).cell? ⟨w.heap.size, 0, none⟩ = some (.int .i64 most) := by
  rw [cell_of_row _ w.heap.size 0 #[.int .i64 most] 3 (0, 0) (heap_alloc_new w _)]; rfl

theorem Gr.alloc {w0 w : World} (h : Gr w0 w) (o : Obj) : Gr w0 (w.alloc o) := Below.alloc h h.size o

/-- The reader of texts, made and called. -/
theorem readt_any {w0 : World} (s : ByteArray) (a most : Int) (w : World) (hs : s.size ≤ maxLen) (hg : Gr w0 w) :
    Calls Tryz.prog 116 #[.func (.func 117) #[] #[.pointer (some ⟨w.heap.size, 0, none⟩)], .string s, .int .i64 a] (w.alloc (.cells #[.int .i64 most] 3)) fun e w' => e = .returned (.tuple #[.string (tS s a most), .int .i64 (tT s a most), .int .i64 (tC s a most)]) ∧ Gr w0 w' := by
  by_cases h : a < 0 ∨ (s.size : Int) < a
  · obtain ⟨e1, e2, e3⟩ := t_no (most := most) h
    rw [e1, e2, e3]
    exact readt_no s a _ _ h (hg.alloc _)
  · obtain ⟨n, rfl⟩ : ∃ n : Nat, a = n := ⟨a.toNat, by omega⟩
    exact readt_yes s n most _ _ hs (by omega) (alloc_cell w most) (hg.alloc _)

set_option maxHeartbeats 400000 in
/-- wire.GetText. -/
theorem text_any {w0 : World} (s : ByteArray) (a most : Int) (w : World) (hs : s.size ≤ maxLen) (hg : Gr w0 w) :
    Calls Tryz.prog 99 #[.string s, .int .i64 a, .int .i64 most] w fun e w' => e = .returned (.tuple #[.string (tS s a most), .int .i64 (tT s a most), .int .i64 (tC s a most)]) ∧ Gr w0 w' := by
  go_enter Tryz.func99, Tryz.ntmps99
  go_wp2_with (first | (go_at_call 115; refine (textOf_any _ _).mono ?_; rintro e w1 ⟨rfl, rfl⟩) | (go_at_call 116; refine (readt_any _ _ _ _ hs hg).mono ?_; clear hg; rintro e w1 ⟨rfl, hg⟩))
  go_ret3
  exact ⟨rfl, hg⟩

/-- A text's bytes. -/
def txtB (s : ByteArray) : ByteArray := putB s.size ++ s

theorem put_sum (s : ByteArray) (hs : s.size ≤ maxLen) : (putB s.size).size + s.size ≤ 9223372036854775807 := by
  unfold maxLen at hs
  cases h : inR (s.size : Int)
  · rw [putB_no h]
    show 0 + s.size ≤ _
    omega
  · have := inR_iff.1 h
    have := putB_size s.size
    omega

set_option maxHeartbeats 400000 in
theorem puttext_any {w0 : World} (s : ByteArray) (w : World) (hs : s.size ≤ maxLen) (hg : Gr w0 w) :
    Calls Tryz.prog 74 #[.string s] w fun e w' => e = .returned (.string (txtB s)) ∧ Gr w0 w' := by
  have hadd := fun W => run_string_add_sum (P := Tryz.prog) W (putB s.size) s (put_sum s hs)
  go_enter Tryz.func74, Tryz.ntmps74
  go_wp2_with (go_at_call 72; refine (put_g _ _ hg).mono ?_; clear hg; rintro e w1 ⟨rfl, hg⟩)
  go_ret
  exact ⟨rfl, hg⟩
end Go.Proofs.YtajghalljkphiaaGreat
