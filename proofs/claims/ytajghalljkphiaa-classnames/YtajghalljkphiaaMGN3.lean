/- ClassNames: which texts are names, plainly. -/
import Derived.Test.YtajghalljkphiaaMGN1
import Derived.Deep.DeepCutAuto
namespace Go.Proofs.Ytajghalljkphiaa
open Go.RowKit

theorem isL_not_D {c : UInt8} (h : isD c = true) : isL c = false := by
  unfold isD at h
  unfold isL
  simp at h ⊢
  omega
/-- Tiny with a name in one place. -/
def namP (k : Nat) (s : ByteArray) : Pg := match k with
  | 0 => ⟨11, [{ tinyC with nm := s }]⟩
  | 1 => ⟨11, [{ tinyC with mds := [{ tinyM with nm := s }] }]⟩
  | 2 => ⟨11, [{ tinyC with flds := [⟨s, 0⟩] }]⟩
  | _ => ⟨11, [{ tinyC with stcs := [⟨s, 0⟩] }]⟩
theorem nam_C (k : Nat) (hk : k < 4) (s : ByteArray) : (gPg (namP k s)).all okC = true ∧ (gPg (namP k s)).all okN = true ∧ (gPg (namP k s)).length ≤ 1500 := by
  have h : k = 0 ∨ k = 1 ∨ k = 2 ∨ k = 3 := by omega
  rcases h with rfl | rfl | rfl | rfl <;> exact ⟨rfl, rfl, Nat.le_of_ble_eq_true rfl⟩
theorem nam_T (k : Nat) (hk : k < 4) (s : ByteArray) : (gPg (namP k s)).all okT = isNm s := by
  have h : k = 0 ∨ k = 1 ∨ k = 2 ∨ k = 3 := by omega
  have i0 : isNm ⟨#[77]⟩ = true := by decide
  have i1 : isNm ⟨#[109, 97, 105, 110]⟩ = true := by decide
  rcases h with rfl | rfl | rfl | rfl <;> simp [namP, gPg, ptL, gCs, gMd, gIs, gFd, okT, ptN, ptT, ptC, ptS, tinyC, tinyM, i0, i1]
theorem nam_yes {k : Nat} (hk : k < 4) {s : ByteArray} (h : isNm s = true) : ∃ b, encP (namP k s) = .ok b := by
  obtain ⟨h1, h2, h3⟩ := nam_C k hk s
  exact enc_fine h1 (by rw [nam_T k hk, h]) h2 h3
theorem nam_no {k : Nat} (hk : k < 4) {s : ByteArray} (h : isNm s = false) : encP (namP k s) = .error 1403 := by
  obtain ⟨h1, h2, _⟩ := nam_C k hk s
  exact enc_name h1 (by rw [nam_T k hk, h])
end Go.Proofs.Ytajghalljkphiaa
/- The walk of ClassNames. -/
namespace Go.Proofs.Ytajghalljkphiaa
open Go.RowKit

theorem nam0_R {w U : World} {bp bc bm bi : Nat} {s : ByteArray} (h : One w U bp bc bm bi) : kPg.R (U.setCell ⟨bc, 0, none⟩ (.string s)) (fun k => k < (U.setCell ⟨bc, 0, none⟩ (.string s)).heap.size) (namP 0 s) [.int .i64 11, .slice (some ⟨bc, 0, none⟩) 1 1] ∧ Below w.heap.size w (U.setCell ⟨bc, 0, none⟩ (.string s)) := by
  obtain ⟨n1, n2, n3, n4, n5, n6⟩ := h.ne
  obtain ⟨l1, l2, l3, l4⟩ := h.low
  have kbp := blk_lt h.prg
  have kbc := blk_lt h.cls
  have kbm := blk_lt h.met
  have kbi := blk_lt h.ins
  have hz0 : (U.setCell ⟨bc, 0, none⟩ (.string s)).heap.size = U.heap.size := size_set
  have hsz : (U.setCell ⟨bc, 0, none⟩ (.string s)).heap.size = U.heap.size := hz0
  have fbc : (U.setCell ⟨bc, 0, none⟩ (.string s)).heap[bc]? = some (.cells #[.string s, .bool false, .bool false, .int .i64 0, .slice none 0 0, .slice none 0 0, .slice none 0 0, .slice (some ⟨bm, 0, none⟩) 1 1] 42 (0, 0)) := by exact hset h.cls _
  have fbm : (U.setCell ⟨bc, 0, none⟩ (.string s)).heap[bm]? = some (.cells #[.string ⟨#[109, 97, 105, 110]⟩, .bool true, .slice none 0 0, .int .i64 0, .int .i64 0, .int .i64 0, .slice (some ⟨bi, 0, none⟩) 1 1, .slice none 0 0, .slice none 0 0] 49 (0, 0)) := by exact (blk_set (by omega)).trans h.met
  have fbi : (U.setCell ⟨bc, 0, none⟩ (.string s)).heap[bi]? = some (.cells #[.int .i64 29, .int .i64 0, .int .i64 0] 63 (0, 0)) := by exact (blk_set (by omega)).trans h.ins
  refine ⟨one_R fbc fbm (by show bc < _; omega) (by show bm < _; omega) (Sl.nil _ _ _) (Sl.nil _ _ _) (Sl.nil _ _ _) (Sl.nil _ _ _) (Sl.one1 fbi (by show bi < _; omega) rfl) (Sl.nil _ _ _) (Sl.nil _ _ _), ?_⟩
  exact (h.bel.setCell (by show w.heap.size ≤ bc; omega) _)
theorem nam1_R {w U : World} {bp bc bm bi : Nat} {s : ByteArray} (h : One w U bp bc bm bi) : kPg.R (U.setCell ⟨bm, 0, none⟩ (.string s)) (fun k => k < (U.setCell ⟨bm, 0, none⟩ (.string s)).heap.size) (namP 1 s) [.int .i64 11, .slice (some ⟨bc, 0, none⟩) 1 1] ∧ Below w.heap.size w (U.setCell ⟨bm, 0, none⟩ (.string s)) := by
  obtain ⟨n1, n2, n3, n4, n5, n6⟩ := h.ne
  obtain ⟨l1, l2, l3, l4⟩ := h.low
  have kbp := blk_lt h.prg
  have kbc := blk_lt h.cls
  have kbm := blk_lt h.met
  have kbi := blk_lt h.ins
  have hz0 : (U.setCell ⟨bm, 0, none⟩ (.string s)).heap.size = U.heap.size := size_set
  have hsz : (U.setCell ⟨bm, 0, none⟩ (.string s)).heap.size = U.heap.size := hz0
  have fbc : (U.setCell ⟨bm, 0, none⟩ (.string s)).heap[bc]? = some (.cells #[.string ⟨#[77]⟩, .bool false, .bool false, .int .i64 0, .slice none 0 0, .slice none 0 0, .slice none 0 0, .slice (some ⟨bm, 0, none⟩) 1 1] 42 (0, 0)) := by exact (blk_set (by omega)).trans h.cls
  have fbm : (U.setCell ⟨bm, 0, none⟩ (.string s)).heap[bm]? = some (.cells #[.string s, .bool true, .slice none 0 0, .int .i64 0, .int .i64 0, .int .i64 0, .slice (some ⟨bi, 0, none⟩) 1 1, .slice none 0 0, .slice none 0 0] 49 (0, 0)) := by exact hset h.met _
  have fbi : (U.setCell ⟨bm, 0, none⟩ (.string s)).heap[bi]? = some (.cells #[.int .i64 29, .int .i64 0, .int .i64 0] 63 (0, 0)) := by exact (blk_set (by omega)).trans h.ins
  refine ⟨one_R fbc fbm (by show bc < _; omega) (by show bm < _; omega) (Sl.nil _ _ _) (Sl.nil _ _ _) (Sl.nil _ _ _) (Sl.nil _ _ _) (Sl.one1 fbi (by show bi < _; omega) rfl) (Sl.nil _ _ _) (Sl.nil _ _ _), ?_⟩
  exact (h.bel.setCell (by show w.heap.size ≤ bm; omega) _)
theorem nam2_R {w U : World} {bp bc bm bi : Nat} {s : ByteArray} (h : One w U bp bc bm bi) : kPg.R ((U.setCell ⟨bc, 5, none⟩ (.slice (some ⟨U.heap.size, 0, none⟩) 1 1)).alloc (.cells #[.string s, .int .i64 0] 44)) (fun k => k < ((U.setCell ⟨bc, 5, none⟩ (.slice (some ⟨U.heap.size, 0, none⟩) 1 1)).alloc (.cells #[.string s, .int .i64 0] 44)).heap.size) (namP 2 s) [.int .i64 11, .slice (some ⟨bc, 0, none⟩) 1 1] ∧ Below w.heap.size w ((U.setCell ⟨bc, 5, none⟩ (.slice (some ⟨U.heap.size, 0, none⟩) 1 1)).alloc (.cells #[.string s, .int .i64 0] 44)) := by
  obtain ⟨n1, n2, n3, n4, n5, n6⟩ := h.ne
  obtain ⟨l1, l2, l3, l4⟩ := h.low
  have kbp := blk_lt h.prg
  have kbc := blk_lt h.cls
  have kbm := blk_lt h.met
  have kbi := blk_lt h.ins
  have hz0 : (U.setCell ⟨bc, 5, none⟩ (.slice (some ⟨U.heap.size, 0, none⟩) 1 1)).heap.size = U.heap.size := size_set
  have hz1 : ((U.setCell ⟨bc, 5, none⟩ (.slice (some ⟨U.heap.size, 0, none⟩) 1 1)).alloc (.cells #[.string s, .int .i64 0] 44)).heap.size = U.heap.size + 1 := by rw [size_alloc, hz0]
  have hsz : ((U.setCell ⟨bc, 5, none⟩ (.slice (some ⟨U.heap.size, 0, none⟩) 1 1)).alloc (.cells #[.string s, .int .i64 0] 44)).heap.size = U.heap.size + 1 := hz1
  have fbc : ((U.setCell ⟨bc, 5, none⟩ (.slice (some ⟨U.heap.size, 0, none⟩) 1 1)).alloc (.cells #[.string s, .int .i64 0] 44)).heap[bc]? = some (.cells #[.string ⟨#[77]⟩, .bool false, .bool false, .int .i64 0, .slice none 0 0, .slice (some ⟨U.heap.size, 0, none⟩) 1 1, .slice none 0 0, .slice (some ⟨bm, 0, none⟩) 1 1] 42 (0, 0)) := by rw [Below.heap_alloc _ _ _ (by omega)]; exact hset h.cls _
  have fbm : ((U.setCell ⟨bc, 5, none⟩ (.slice (some ⟨U.heap.size, 0, none⟩) 1 1)).alloc (.cells #[.string s, .int .i64 0] 44)).heap[bm]? = some (.cells #[.string ⟨#[109, 97, 105, 110]⟩, .bool true, .slice none 0 0, .int .i64 0, .int .i64 0, .int .i64 0, .slice (some ⟨bi, 0, none⟩) 1 1, .slice none 0 0, .slice none 0 0] 49 (0, 0)) := by rw [Below.heap_alloc _ _ _ (by omega)]; exact (blk_set (by omega)).trans h.met
  have fbi : ((U.setCell ⟨bc, 5, none⟩ (.slice (some ⟨U.heap.size, 0, none⟩) 1 1)).alloc (.cells #[.string s, .int .i64 0] 44)).heap[bi]? = some (.cells #[.int .i64 29, .int .i64 0, .int .i64 0] 63 (0, 0)) := by rw [Below.heap_alloc _ _ _ (by omega)]; exact (blk_set (by omega)).trans h.ins
  have a0 : ((U.setCell ⟨bc, 5, none⟩ (.slice (some ⟨U.heap.size, 0, none⟩) 1 1)).alloc (.cells #[.string s, .int .i64 0] 44)).heap[U.heap.size]? = some (.cells #[.string s, .int .i64 0] 44 (0, 0)) := by
    have hn := heap_alloc_new (U.setCell ⟨bc, 5, none⟩ (.slice (some ⟨U.heap.size, 0, none⟩) 1 1)) (.cells #[.string s, .int .i64 0] 44)
    rw [hz0] at hn
    exact hn
  refine ⟨one_R fbc fbm (by show bc < _; omega) (by show bm < _; omega) (Sl.nil _ _ _) (Sl.one1 a0 (by show U.heap.size < _; omega) rfl) (Sl.nil _ _ _) (Sl.nil _ _ _) (Sl.one1 fbi (by show bi < _; omega) rfl) (Sl.nil _ _ _) (Sl.nil _ _ _), ?_⟩
  exact ((h.bel.setCell (by show w.heap.size ≤ bc; omega) _).alloc (by omega) _)
theorem nam3_R {w U : World} {bp bc bm bi : Nat} {s : ByteArray} (h : One w U bp bc bm bi) : kPg.R ((U.setCell ⟨bc, 6, none⟩ (.slice (some ⟨U.heap.size, 0, none⟩) 1 1)).alloc (.cells #[.string s, .int .i64 0] 44)) (fun k => k < ((U.setCell ⟨bc, 6, none⟩ (.slice (some ⟨U.heap.size, 0, none⟩) 1 1)).alloc (.cells #[.string s, .int .i64 0] 44)).heap.size) (namP 3 s) [.int .i64 11, .slice (some ⟨bc, 0, none⟩) 1 1] ∧ Below w.heap.size w ((U.setCell ⟨bc, 6, none⟩ (.slice (some ⟨U.heap.size, 0, none⟩) 1 1)).alloc (.cells #[.string s, .int .i64 0] 44)) := by
  obtain ⟨n1, n2, n3, n4, n5, n6⟩ := h.ne
  obtain ⟨l1, l2, l3, l4⟩ := h.low
  have kbp := blk_lt h.prg
  have kbc := blk_lt h.cls
  have kbm := blk_lt h.met
  have kbi := blk_lt h.ins
  have hz0 : (U.setCell ⟨bc, 6, none⟩ (.slice (some ⟨U.heap.size, 0, none⟩) 1 1)).heap.size = U.heap.size := size_set
  have hz1 : ((U.setCell ⟨bc, 6, none⟩ (.slice (some ⟨U.heap.size, 0, none⟩) 1 1)).alloc (.cells #[.string s, .int .i64 0] 44)).heap.size = U.heap.size + 1 := by rw [size_alloc, hz0]
  have hsz : ((U.setCell ⟨bc, 6, none⟩ (.slice (some ⟨U.heap.size, 0, none⟩) 1 1)).alloc (.cells #[.string s, .int .i64 0] 44)).heap.size = U.heap.size + 1 := hz1
  have fbc : ((U.setCell ⟨bc, 6, none⟩ (.slice (some ⟨U.heap.size, 0, none⟩) 1 1)).alloc (.cells #[.string s, .int .i64 0] 44)).heap[bc]? = some (.cells #[.string ⟨#[77]⟩, .bool false, .bool false, .int .i64 0, .slice none 0 0, .slice none 0 0, .slice (some ⟨U.heap.size, 0, none⟩) 1 1, .slice (some ⟨bm, 0, none⟩) 1 1] 42 (0, 0)) := by rw [Below.heap_alloc _ _ _ (by omega)]; exact hset h.cls _
  have fbm : ((U.setCell ⟨bc, 6, none⟩ (.slice (some ⟨U.heap.size, 0, none⟩) 1 1)).alloc (.cells #[.string s, .int .i64 0] 44)).heap[bm]? = some (.cells #[.string ⟨#[109, 97, 105, 110]⟩, .bool true, .slice none 0 0, .int .i64 0, .int .i64 0, .int .i64 0, .slice (some ⟨bi, 0, none⟩) 1 1, .slice none 0 0, .slice none 0 0] 49 (0, 0)) := by rw [Below.heap_alloc _ _ _ (by omega)]; exact (blk_set (by omega)).trans h.met
  have fbi : ((U.setCell ⟨bc, 6, none⟩ (.slice (some ⟨U.heap.size, 0, none⟩) 1 1)).alloc (.cells #[.string s, .int .i64 0] 44)).heap[bi]? = some (.cells #[.int .i64 29, .int .i64 0, .int .i64 0] 63 (0, 0)) := by rw [Below.heap_alloc _ _ _ (by omega)]; exact (blk_set (by omega)).trans h.ins
  have a0 : ((U.setCell ⟨bc, 6, none⟩ (.slice (some ⟨U.heap.size, 0, none⟩) 1 1)).alloc (.cells #[.string s, .int .i64 0] 44)).heap[U.heap.size]? = some (.cells #[.string s, .int .i64 0] 44 (0, 0)) := by
    have hn := heap_alloc_new (U.setCell ⟨bc, 6, none⟩ (.slice (some ⟨U.heap.size, 0, none⟩) 1 1)) (.cells #[.string s, .int .i64 0] 44)
    rw [hz0] at hn
    exact hn
  refine ⟨one_R fbc fbm (by show bc < _; omega) (by show bm < _; omega) (Sl.nil _ _ _) (Sl.nil _ _ _) (Sl.one1 a0 (by show U.heap.size < _; omega) rfl) (Sl.nil _ _ _) (Sl.one1 fbi (by show bi < _; omega) rfl) (Sl.nil _ _ _) (Sl.nil _ _ _), ?_⟩
  exact ((h.bel.setCell (by show w.heap.size ≤ bc; omega) _).alloc (by omega) _)
theorem mask3l (n : Int) : bits BinOp.and .i64 n 3 = n % 4 := by
  have e : (BitVec.ofInt 64 n &&& BitVec.ofInt 64 3).toNat = (n % 18446744073709551616).toNat % 4 := by
    rw [BitVec.toNat_and, BitVec.toNat_ofInt, show (BitVec.ofInt 64 3).toNat = 2 ^ 2 - 1 from by decide, Nat.and_two_pow_sub_one_eq_mod]; rfl
  show IntKind.i64.wrap ((BitVec.ofInt 64 n &&& BitVec.ofInt 64 3).toNat : Nat) = n % 4
  rw [e, IntKind.wrap_i64]; omega
def okAt (s : ByteArray) (i : Nat) : Bool := match s.data[i]? with
  | some c => isL c || (decide (0 < i) && isD c)
  | none => true
/-- What the law has found behind i bytes. -/
def fnm (s : ByteArray) : Nat → Bool
  | 0 => decide (1 ≤ s.size) && decide (s.size ≤ 16)
  | i + 1 => fnm s i && okAt s i
theorem fnm_iff (s : ByteArray) : ∀ i, fnm s i = true ↔ (1 ≤ s.size ∧ s.size ≤ 16) ∧ ∀ j, j < i → okAt s j = true
  | 0 => by simp [fnm]
  | i + 1 => by
    rw [fnm, Bool.and_eq_true, fnm_iff s i]
    constructor
    · rintro ⟨⟨h1, h2⟩, h3⟩
      refine ⟨h1, fun j hj => ?_⟩
      by_cases e : j = i
      · subst e; exact h3
      · exact h2 j (by omega)
    · rintro ⟨h1, h2⟩
      exact ⟨⟨h1, fun j hj => h2 j (by omega)⟩, h2 i (by omega)⟩
theorem okAt_lt {s : ByteArray} {i : Nat} (h : i < s.size) : okAt s i = (isL s[i] || (decide (0 < i) && isD s[i])) := by
  unfold okAt
  rw [show s.data[i]? = some s[i] from Array.getElem?_eq_getElem h]
theorem fnm_all (s : ByteArray) : fnm s s.size = isNm s := by
  rw [Bool.eq_iff_iff, fnm_iff]
  by_cases h0 : s.size = 0
  · rw [isNm_empty h0]; constructor
    · intro h; omega
    · intro h; cases h
  have h1 : 0 < s.size := by omega
  by_cases h2 : 16 < s.size
  · rw [isNm_long h2]; constructor
    · intro h; omega
    · intro h; cases h
  by_cases h3 : isD s[0] = true
  · rw [isNm_digit h1 h3]; constructor
    · intro h
      have := h.2 0 h1
      rw [okAt_lt h1, isL_not_D h3] at this
      simp at this
    · intro h; cases h
  · have h3' : isD s[0] = false := by simpa using h3
    rw [isNm_rest h1 (by omega) h3', List.all_eq_true]
    constructor
    · rintro ⟨_, h⟩ c hc
      obtain ⟨j, hj, rfl⟩ := List.getElem_of_mem hc
      have hj' : j < s.size := by simpa using hj
      have := h j hj'
      rw [okAt_lt hj'] at this
      have e : s.data.toList[j] = s[j] := rfl
      rw [e]
      cases hl : isL s[j]
      · rw [hl] at this; simp at this; rw [this.2]; rfl
      · rfl
    · intro h
      refine ⟨⟨by omega, by omega⟩, fun j hj => ?_⟩
      rw [okAt_lt hj]
      have e : s.data.toList[j]'(by simpa using hj) = s[j] := rfl
      have hm := h s[j] (by rw [← e]; exact List.getElem_mem _)
      cases hl : isL s[j]
      · rw [hl] at hm
        by_cases hj0 : j = 0
        · subst hj0; rw [h3'] at hm; cases hm
        · rw [decide_eq_true (by omega : 0 < j)]; simpa using hm
      · rfl
set_option maxHeartbeats 16000000 in
set_option maxRecDepth 20000 in
theorem names_walk (s : ByteArray) (wh : Int) (w : World) (hs : s.size ≤ 140737488351232) : Calls Try.prog 6 #[.string s, .int .i64 wh] w fun e w' => e = .returned (.bool true) ∧ Below w.heap.size w w' := by
  have hA := awake14 w
  have HFA : Hid (fnm s s.size = isNm s) := fnm_all s
  have HM : Hid (bits BinOp.and .i64 wh 3 = wh % 4) := mask3l wh
  obtain ⟨f0, hf0⟩ : ∃ f, fnm s 0 = f := ⟨_, rfl⟩
  go_enter Try.func6, Try.ntmps6
  go_upto_region 3 with (first
    | (go_at_call 7; refine hA.mono ?_; rintro e w1 ⟨rfl, hb1⟩; clear hA; have hT := TinyM w1; have H1 : Hid (Below w.heap.size w w1) := hb1; clear hb1)
    | (go_at_call 12; refine hT.mono ?_; rintro e w2 ⟨hb2, rfl, hT2⟩; clear hT; have HO : Hid (One w (w2.alloc (.cells #[.int .i64 11, .slice (some ⟨w1.heap.size + 1 + 1 + 1 + 1, 0, none⟩) 1 1] 24)) w2.heap.size (w1.heap.size + 1 + 1 + 1 + 1) (w1.heap.size + 1 + 1 + 1) (w1.heap.size + 1)) := one_of H1.out hb2 hT2; clear hT2 hb2 H1))
  go_cut [5] from 12 to 19 (fun s5 wx => s5 = .bool f0 ∧ w1 = wx)
  case first =>
    subst hf0
    by_cases h1 : 1 ≤ s.size
    · have d1 : decide ((1 : Int) ≤ (s.size : Int)) = true := by simp; omega
      by_cases h2 : s.size ≤ 16
      · have d2 : decide ((s.size : Int) ≤ 16) = true := by simp; omega
        have HV : Hid (fnm s 0 = true) := by show _ = _; rw [fnm, decide_eq_true h1, decide_eq_true h2]; rfl
        go_wp2_with (fail)
        go_meet
        exact ⟨by rw [HV.out], rfl⟩
      · have d2 : decide ((s.size : Int) ≤ 16) = false := by simp; omega
        have HV : Hid (fnm s 0 = false) := by show _ = _; rw [fnm, decide_eq_false h2, Bool.and_false]
        go_wp2_with (fail)
        go_meet
        exact ⟨by rw [HV.out], rfl⟩
    · have d1 : decide ((1 : Int) ≤ (s.size : Int)) = false := by simp; omega
      have HV : Hid (fnm s 0 = false) := by show _ = _; rw [fnm, decide_eq_false h1, Bool.false_and]
      go_wp2_with (fail)
      go_meet
      exact ⟨by rw [HV.out], rfl⟩
  case rest =>
  obtain ⟨rfl, rfl⟩ := hcut
  go_wp2_with (fail)
  go_loopg [5, 6] (s.size + 1) (fun kx s5 s6 wr => ∃ k : Nat, s6 = .int .i64 k ∧ k ≤ s.size ∧ s.size - k ≤ kx ∧ s5 = .bool (fnm s k) ∧ w1 = wr)
  case atStart => exact ⟨0, rfl, by omega, by omega, by rw [hf0], rfl⟩
  case round =>
    obtain ⟨k, rfl, hk, hkx, rfl, rfl⟩ := hrel
    by_cases hlt : k < s.size
    · have hl2 : (k : Int) < (s.size : Int) := by omega
      obtain ⟨fk, hfk⟩ : ∃ f, fnm s k = f := ⟨_, rfl⟩
      obtain ⟨L, hL⟩ : ∃ L, isL s[k] = L := ⟨_, rfl⟩
      obtain ⟨c, hc⟩ : ∃ c, s[k] = c := ⟨_, rfl⟩
      have HN : Hid (fnm s (k + 1) = (fk && (L || (decide (0 < k) && isD c)))) := by show _ = _; rw [fnm, hfk, okAt_lt hlt, hL, hc]
      rw [hfk]
      rw [hc] at hL
      go_upto_region 8 with (fail)
      have HL : Hid (isL c = L) := hL
      clear hL
      go_cut [8] from 20 to 46 (fun s8 wx => s8 = .bool L ∧ w1 = wx)
      case first =>
        have hcs : c.toNat = 95 ∨ (97 ≤ c.toNat ∧ c.toNat ≤ 122) ∨ 122 < c.toNat ∨ (65 ≤ c.toNat ∧ c.toNat ≤ 90) ∨ (90 < c.toNat ∧ c.toNat < 97 ∧ c.toNat ≠ 95) ∨ c.toNat < 65 := by omega
        rcases hcs with hq | hq | hq | hq | hq | hq
        · have HV : Hid (L = true) := by show _ = _; rw [← HL.out]; unfold isL; simp; omega
          have d4 : ((c.toNat : Int) == 95) = true := by simp; omega
          as_aux_lemma =>
            go_wp2_with (fail)
            go_meet
            exact ⟨by rw [HV.out], rfl⟩
        · have HV : Hid (L = true) := by show _ = _; rw [← HL.out]; unfold isL; simp; omega
          have d4 : ((c.toNat : Int) == 95) = false := by simp; omega
          have d0 : decide ((97 : Int) ≤ (c.toNat : Int)) = true := by simp; omega
          have d1 : decide ((c.toNat : Int) ≤ 122) = true := by simp; omega
          as_aux_lemma =>
            go_wp2_with (fail)
            go_meet
            exact ⟨by rw [HV.out], rfl⟩
        · have HV : Hid (L = false) := by show _ = _; rw [← HL.out]; unfold isL; simp; omega
          have d4 : ((c.toNat : Int) == 95) = false := by simp; omega
          have d0 : decide ((97 : Int) ≤ (c.toNat : Int)) = true := by simp; omega
          have d1 : decide ((c.toNat : Int) ≤ 122) = false := by simp; omega
          have d2 : decide ((65 : Int) ≤ (c.toNat : Int)) = true := by simp; omega
          have d3 : decide ((c.toNat : Int) ≤ 90) = false := by simp; omega
          as_aux_lemma =>
            go_wp2_with (fail)
            go_meet
            exact ⟨by rw [HV.out], rfl⟩
        · have HV : Hid (L = true) := by show _ = _; rw [← HL.out]; unfold isL; simp; omega
          have d4 : ((c.toNat : Int) == 95) = false := by simp; omega
          have d0 : decide ((97 : Int) ≤ (c.toNat : Int)) = false := by simp; omega
          have d2 : decide ((65 : Int) ≤ (c.toNat : Int)) = true := by simp; omega
          have d3 : decide ((c.toNat : Int) ≤ 90) = true := by simp; omega
          as_aux_lemma =>
            go_wp2_with (fail)
            go_meet
            exact ⟨by rw [HV.out], rfl⟩
        · have HV : Hid (L = false) := by show _ = _; rw [← HL.out]; unfold isL; simp; omega
          have d4 : ((c.toNat : Int) == 95) = false := by simp; omega
          have d0 : decide ((97 : Int) ≤ (c.toNat : Int)) = false := by simp; omega
          have d2 : decide ((65 : Int) ≤ (c.toNat : Int)) = true := by simp; omega
          have d3 : decide ((c.toNat : Int) ≤ 90) = false := by simp; omega
          as_aux_lemma =>
            go_wp2_with (fail)
            go_meet
            exact ⟨by rw [HV.out], rfl⟩
        · have HV : Hid (L = false) := by show _ = _; rw [← HL.out]; unfold isL; simp; omega
          have d4 : ((c.toNat : Int) == 95) = false := by simp; omega
          have d0 : decide ((97 : Int) ≤ (c.toNat : Int)) = false := by simp; omega
          have d2 : decide ((65 : Int) ≤ (c.toNat : Int)) = false := by simp; omega
          as_aux_lemma =>
            go_wp2_with (fail)
            go_meet
            exact ⟨by rw [HV.out], rfl⟩
      case rest =>
      obtain ⟨rfl, rfl⟩ := hcut
      obtain ⟨X, hX⟩ : ∃ X, fnm s (k + 1) = X := ⟨_, rfl⟩
      have HX : Hid (X = (fk && (L || (decide (0 < k) && isD c)))) := by show _ = _; rw [← hX]; exact HN.out
      have HX2 : Hid (fnm s (k + 1) = X) := hX
      clear hX HN
      go_upto_region 9 with (fail)
      cases fk with
      | false =>
        have HV : Hid (X = false) := by show _ = _; rw [HX.out]; rfl
        as_aux_lemma =>
          go_wp2
          go_roundg (s.size - (k + 1))
          case measure => omega
          case rel => exact ⟨k + 1, by go_num, by omega, by omega, by rw [HX2.out, HV.out], rfl⟩
      | true =>
        cases L with
        | true =>
          have HV : Hid (X = true) := by show _ = _; rw [HX.out]; rfl
          as_aux_lemma =>
            go_wp2
            go_roundg (s.size - (k + 1))
            case measure => omega
            case rel => exact ⟨k + 1, by go_num, by omega, by omega, by rw [HX2.out, HV.out], rfl⟩
        | false =>
          by_cases hk0 : 0 < k
          · have dk : decide ((0 : Int) < (k : Int)) = true := by simp; omega
            by_cases q1 : 48 ≤ c.toNat
            · have d1 : decide ((48 : Int) ≤ (c.toNat : Int)) = true := by simp; omega
              by_cases q2 : c.toNat ≤ 57
              · have d2 : decide ((c.toNat : Int) ≤ 57) = true := by simp; omega
                have HV : Hid (X = true) := by show _ = _; rw [HX.out, decide_eq_true hk0]; unfold isD; simp; omega
                as_aux_lemma =>
                  go_wp2
                  go_roundg (s.size - (k + 1))
                  case measure => omega
                  case rel => exact ⟨k + 1, by go_num, by omega, by omega, by rw [HX2.out, HV.out], rfl⟩
              · have d2 : decide ((c.toNat : Int) ≤ 57) = false := by simp; omega
                have HV : Hid (X = false) := by show _ = _; rw [HX.out, decide_eq_true hk0]; unfold isD; simp; omega
                as_aux_lemma =>
                  go_wp2
                  go_roundg (s.size - (k + 1))
                  case measure => omega
                  case rel => exact ⟨k + 1, by go_num, by omega, by omega, by rw [HX2.out, HV.out], rfl⟩
            · have d1 : decide ((48 : Int) ≤ (c.toNat : Int)) = false := by simp; omega
              have HV : Hid (X = false) := by show _ = _; rw [HX.out, decide_eq_true hk0]; unfold isD; simp; omega
              as_aux_lemma =>
                go_wp2
                go_roundg (s.size - (k + 1))
                case measure => omega
                case rel => exact ⟨k + 1, by go_num, by omega, by omega, by rw [HX2.out, HV.out], rfl⟩
          · have dk : decide ((0 : Int) < (k : Int)) = false := by simp; omega
            have HV : Hid (X = false) := by show _ = _; rw [HX.out, decide_eq_false hk0]; rfl
            as_aux_lemma =>
              go_wp2
              go_roundg (s.size - (k + 1))
              case measure => omega
              case rel => exact ⟨k + 1, by go_num, by omega, by omega, by rw [HX2.out, HV.out], rfl⟩
    · have hn : k = s.size := by omega
      subst hn
      have hl : ¬ ((s.size : Nat) : Int) < ((s.size : Nat) : Int) := by omega
      rw [HFA.out]
      go_upto_region 11 with (first
          | (go_at_call 7; refine hA.mono ?_; rintro e w1 ⟨rfl, hb1⟩; clear hA; have hT := TinyM w1; have H1 : Hid (Below w.heap.size w w1) := hb1; clear hb1)
          | (go_at_call 12; refine hT.mono ?_; rintro e w2 ⟨hb2, rfl, hT2⟩; clear hT; have HO : Hid (One w (w2.alloc (.cells #[.int .i64 11, .slice (some ⟨w1.heap.size + 1 + 1 + 1 + 1, 0, none⟩) 1 1] 24)) w2.heap.size (w1.heap.size + 1 + 1 + 1 + 1) (w1.heap.size + 1 + 1 + 1) (w1.heap.size + 1)) := one_of H1.out hb2 hT2; clear hT2 hb2 H1))
      generalize hU : w2.alloc (.cells #[.int .i64 11, .slice (some ⟨w1.heap.size + 1 + 1 + 1 + 1, 0, none⟩) 1 1] 24) = U at *
      clear hU
      generalize hbp : w2.heap.size = bp at *
      clear hbp
      generalize hbc : w1.heap.size + 1 + 1 + 1 + 1 = bc at *
      generalize hbm : w1.heap.size + 1 + 1 + 1 = bm at *
      generalize hbi : w1.heap.size + 1 = bi at *
      clear hbc hbm hbi
      have hO := HO.out
      have p0 : U.cell? ⟨bp, 0, none⟩ = some (.int .i64 11) := by simp [World.cell?, hO.prg]
      have p1 : U.cell? ⟨bp, 1, none⟩ = some (.slice (some ⟨bc, 0, none⟩) 1 1) := by simp [World.cell?, hO.prg]
      have c7 : U.cell? ⟨bc, 7, none⟩ = some (.slice (some ⟨bm, 0, none⟩) 1 1) := by simp [World.cell?, hO.cls]
      have m6 : U.cell? ⟨bm, 6, none⟩ = some (.slice (some ⟨bi, 0, none⟩) 1 1) := by simp [World.cell?, hO.met]
      obtain ⟨n1, n2, n3, n4, n5, n6⟩ := hO.ne
      have kbp := blk_lt hO.prg
      have kbc := blk_lt hO.cls
      have kbm := blk_lt hO.met
      have kbi := blk_lt hO.ins
      have hr : wh % 4 = 0 ∨ wh % 4 = 1 ∨ wh % 4 = 2 ∨ wh % 4 = 3 := by omega
      have hm := HM.out
      clear HM
      rcases hr with h | h | h | h <;> rw [h] at hm
      · cases hfn : isNm s with
        | true =>
          obtain ⟨b, he⟩ := nam_yes (k := 0) (by decide) hfn
          have HE : Hid (encP (namP 0 s) = .ok b) := he
          clear he
          have ft : U.frozen? ⟨bc, 0, none⟩ = false := by simp [World.frozen?, hO.cls]
          have ct : U.cell? ⟨bc, 0, none⟩ = some (.string ⟨#[77]⟩) := by simp [World.cell?, hO.cls]
          have HB : Hid (Below w.heap.size w (U.setCell ⟨bc, 0, none⟩ (.string s))) := (nam0_R hO).2
          have hB : Calls Try.prog 14 #[.agg #[.int .i64 11, .slice (some ⟨bc, 0, none⟩) 1 1]] (U.setCell ⟨bc, 0, none⟩ (.string s)) fun e w' => e = .returned (.bool true) ∧ Below (U.setCell ⟨bc, 0, none⟩ (.string s)).heap.size (U.setCell ⟨bc, 0, none⟩ (.string s)) w' := back_yes HE.out (U.setCell ⟨bc, 0, none⟩ (.string s)) (fun _ h => h) (nam0_R hO).1
          clear hO HO
          as_aux_lemma =>
            go_wp2_with (go_at_call 14; refine hB.mono ?_; rintro e w9 ⟨rfl, hb9⟩; have HF : Hid (Below w.heap.size w w9) := HB.out.trans (hb9.mono HB.out.size); clear hB hb9)
            go_ret
            exact ⟨rfl, HF.out⟩
        | false =>
          have HE : Hid (encP (namP 0 s) = .error 1403) := nam_no (k := 0) (by decide) hfn
          have ft : U.frozen? ⟨bc, 0, none⟩ = false := by simp [World.frozen?, hO.cls]
          have ct : U.cell? ⟨bc, 0, none⟩ = some (.string ⟨#[77]⟩) := by simp [World.cell?, hO.cls]
          have HB : Hid (Below w.heap.size w (U.setCell ⟨bc, 0, none⟩ (.string s))) := (nam0_R hO).2
          have hB : Calls Try.prog 13 #[.agg #[.int .i64 11, .slice (some ⟨bc, 0, none⟩) 1 1], .int .i64 1403] (U.setCell ⟨bc, 0, none⟩ (.string s)) fun e w' => e = .returned (.bool true) ∧ Below (U.setCell ⟨bc, 0, none⟩ (.string s)).heap.size (U.setCell ⟨bc, 0, none⟩ (.string s)) w' := refuses_yes HE.out (U.setCell ⟨bc, 0, none⟩ (.string s)) (fun _ h => h) (nam0_R hO).1
          clear hO HO
          as_aux_lemma =>
            go_wp2_with (go_at_call 13; refine hB.mono ?_; rintro e w9 ⟨rfl, hb9⟩; have HF : Hid (Below w.heap.size w w9) := HB.out.trans (hb9.mono HB.out.size); clear hB hb9)
            go_ret
            exact ⟨rfl, HF.out⟩
      · cases hfn : isNm s with
        | true =>
          obtain ⟨b, he⟩ := nam_yes (k := 1) (by decide) hfn
          have HE : Hid (encP (namP 1 s) = .ok b) := he
          clear he
          have ft : U.frozen? ⟨bm, 0, none⟩ = false := by simp [World.frozen?, hO.met]
          have ct : U.cell? ⟨bm, 0, none⟩ = some (.string ⟨#[109, 97, 105, 110]⟩) := by simp [World.cell?, hO.met]
          have HB : Hid (Below w.heap.size w (U.setCell ⟨bm, 0, none⟩ (.string s))) := (nam1_R hO).2
          have hB : Calls Try.prog 14 #[.agg #[.int .i64 11, .slice (some ⟨bc, 0, none⟩) 1 1]] (U.setCell ⟨bm, 0, none⟩ (.string s)) fun e w' => e = .returned (.bool true) ∧ Below (U.setCell ⟨bm, 0, none⟩ (.string s)).heap.size (U.setCell ⟨bm, 0, none⟩ (.string s)) w' := back_yes HE.out (U.setCell ⟨bm, 0, none⟩ (.string s)) (fun _ h => h) (nam1_R hO).1
          clear hO HO
          as_aux_lemma =>
            go_wp2_with (go_at_call 14; refine hB.mono ?_; rintro e w9 ⟨rfl, hb9⟩; have HF : Hid (Below w.heap.size w w9) := HB.out.trans (hb9.mono HB.out.size); clear hB hb9)
            go_ret
            exact ⟨rfl, HF.out⟩
        | false =>
          have HE : Hid (encP (namP 1 s) = .error 1403) := nam_no (k := 1) (by decide) hfn
          have ft : U.frozen? ⟨bm, 0, none⟩ = false := by simp [World.frozen?, hO.met]
          have ct : U.cell? ⟨bm, 0, none⟩ = some (.string ⟨#[109, 97, 105, 110]⟩) := by simp [World.cell?, hO.met]
          have HB : Hid (Below w.heap.size w (U.setCell ⟨bm, 0, none⟩ (.string s))) := (nam1_R hO).2
          have hB : Calls Try.prog 13 #[.agg #[.int .i64 11, .slice (some ⟨bc, 0, none⟩) 1 1], .int .i64 1403] (U.setCell ⟨bm, 0, none⟩ (.string s)) fun e w' => e = .returned (.bool true) ∧ Below (U.setCell ⟨bm, 0, none⟩ (.string s)).heap.size (U.setCell ⟨bm, 0, none⟩ (.string s)) w' := refuses_yes HE.out (U.setCell ⟨bm, 0, none⟩ (.string s)) (fun _ h => h) (nam1_R hO).1
          clear hO HO
          as_aux_lemma =>
            go_wp2_with (go_at_call 13; refine hB.mono ?_; rintro e w9 ⟨rfl, hb9⟩; have HF : Hid (Below w.heap.size w w9) := HB.out.trans (hb9.mono HB.out.size); clear hB hb9)
            go_ret
            exact ⟨rfl, HF.out⟩
      · cases hfn : isNm s with
        | true =>
          obtain ⟨b, he⟩ := nam_yes (k := 2) (by decide) hfn
          have HE : Hid (encP (namP 2 s) = .ok b) := he
          clear he
          have ft : U.frozen? ⟨bc, 5, none⟩ = false := by simp [World.frozen?, hO.cls]
          have ct : U.cell? ⟨bc, 5, none⟩ = some (.slice none 0 0) := by simp [World.cell?, hO.cls]
          have zbc0 : bc ≠ U.heap.size := by omega
          have zbm0 : bm ≠ U.heap.size := by omega
          have zbp0 : bp ≠ U.heap.size := by omega
          have HB : Hid (Below w.heap.size w ((U.setCell ⟨bc, 5, none⟩ (.slice (some ⟨U.heap.size, 0, none⟩) 1 1)).alloc (.cells #[.string s, .int .i64 0] 44))) := (nam2_R hO).2
          have hB : Calls Try.prog 14 #[.agg #[.int .i64 11, .slice (some ⟨bc, 0, none⟩) 1 1]] ((U.setCell ⟨bc, 5, none⟩ (.slice (some ⟨U.heap.size, 0, none⟩) 1 1)).alloc (.cells #[.string s, .int .i64 0] 44)) fun e w' => e = .returned (.bool true) ∧ Below ((U.setCell ⟨bc, 5, none⟩ (.slice (some ⟨U.heap.size, 0, none⟩) 1 1)).alloc (.cells #[.string s, .int .i64 0] 44)).heap.size ((U.setCell ⟨bc, 5, none⟩ (.slice (some ⟨U.heap.size, 0, none⟩) 1 1)).alloc (.cells #[.string s, .int .i64 0] 44)) w' := back_yes HE.out ((U.setCell ⟨bc, 5, none⟩ (.slice (some ⟨U.heap.size, 0, none⟩) 1 1)).alloc (.cells #[.string s, .int .i64 0] 44)) (fun _ h => h) (nam2_R hO).1
          clear hO HO
          as_aux_lemma =>
            go_wp2_with (go_at_call 14; refine hB.mono ?_; rintro e w9 ⟨rfl, hb9⟩; have HF : Hid (Below w.heap.size w w9) := HB.out.trans (hb9.mono HB.out.size); clear hB hb9)
            go_ret
            exact ⟨rfl, HF.out⟩
        | false =>
          have HE : Hid (encP (namP 2 s) = .error 1403) := nam_no (k := 2) (by decide) hfn
          have ft : U.frozen? ⟨bc, 5, none⟩ = false := by simp [World.frozen?, hO.cls]
          have ct : U.cell? ⟨bc, 5, none⟩ = some (.slice none 0 0) := by simp [World.cell?, hO.cls]
          have zbc0 : bc ≠ U.heap.size := by omega
          have zbm0 : bm ≠ U.heap.size := by omega
          have zbp0 : bp ≠ U.heap.size := by omega
          have HB : Hid (Below w.heap.size w ((U.setCell ⟨bc, 5, none⟩ (.slice (some ⟨U.heap.size, 0, none⟩) 1 1)).alloc (.cells #[.string s, .int .i64 0] 44))) := (nam2_R hO).2
          have hB : Calls Try.prog 13 #[.agg #[.int .i64 11, .slice (some ⟨bc, 0, none⟩) 1 1], .int .i64 1403] ((U.setCell ⟨bc, 5, none⟩ (.slice (some ⟨U.heap.size, 0, none⟩) 1 1)).alloc (.cells #[.string s, .int .i64 0] 44)) fun e w' => e = .returned (.bool true) ∧ Below ((U.setCell ⟨bc, 5, none⟩ (.slice (some ⟨U.heap.size, 0, none⟩) 1 1)).alloc (.cells #[.string s, .int .i64 0] 44)).heap.size ((U.setCell ⟨bc, 5, none⟩ (.slice (some ⟨U.heap.size, 0, none⟩) 1 1)).alloc (.cells #[.string s, .int .i64 0] 44)) w' := refuses_yes HE.out ((U.setCell ⟨bc, 5, none⟩ (.slice (some ⟨U.heap.size, 0, none⟩) 1 1)).alloc (.cells #[.string s, .int .i64 0] 44)) (fun _ h => h) (nam2_R hO).1
          clear hO HO
          as_aux_lemma =>
            go_wp2_with (go_at_call 13; refine hB.mono ?_; rintro e w9 ⟨rfl, hb9⟩; have HF : Hid (Below w.heap.size w w9) := HB.out.trans (hb9.mono HB.out.size); clear hB hb9)
            go_ret
            exact ⟨rfl, HF.out⟩
      · cases hfn : isNm s with
        | true =>
          obtain ⟨b, he⟩ := nam_yes (k := 3) (by decide) hfn
          have HE : Hid (encP (namP 3 s) = .ok b) := he
          clear he
          have ft : U.frozen? ⟨bc, 6, none⟩ = false := by simp [World.frozen?, hO.cls]
          have ct : U.cell? ⟨bc, 6, none⟩ = some (.slice none 0 0) := by simp [World.cell?, hO.cls]
          have zbc0 : bc ≠ U.heap.size := by omega
          have zbm0 : bm ≠ U.heap.size := by omega
          have zbp0 : bp ≠ U.heap.size := by omega
          have HB : Hid (Below w.heap.size w ((U.setCell ⟨bc, 6, none⟩ (.slice (some ⟨U.heap.size, 0, none⟩) 1 1)).alloc (.cells #[.string s, .int .i64 0] 44))) := (nam3_R hO).2
          have hB : Calls Try.prog 14 #[.agg #[.int .i64 11, .slice (some ⟨bc, 0, none⟩) 1 1]] ((U.setCell ⟨bc, 6, none⟩ (.slice (some ⟨U.heap.size, 0, none⟩) 1 1)).alloc (.cells #[.string s, .int .i64 0] 44)) fun e w' => e = .returned (.bool true) ∧ Below ((U.setCell ⟨bc, 6, none⟩ (.slice (some ⟨U.heap.size, 0, none⟩) 1 1)).alloc (.cells #[.string s, .int .i64 0] 44)).heap.size ((U.setCell ⟨bc, 6, none⟩ (.slice (some ⟨U.heap.size, 0, none⟩) 1 1)).alloc (.cells #[.string s, .int .i64 0] 44)) w' := back_yes HE.out ((U.setCell ⟨bc, 6, none⟩ (.slice (some ⟨U.heap.size, 0, none⟩) 1 1)).alloc (.cells #[.string s, .int .i64 0] 44)) (fun _ h => h) (nam3_R hO).1
          clear hO HO
          as_aux_lemma =>
            go_wp2_with (go_at_call 14; refine hB.mono ?_; rintro e w9 ⟨rfl, hb9⟩; have HF : Hid (Below w.heap.size w w9) := HB.out.trans (hb9.mono HB.out.size); clear hB hb9)
            go_ret
            exact ⟨rfl, HF.out⟩
        | false =>
          have HE : Hid (encP (namP 3 s) = .error 1403) := nam_no (k := 3) (by decide) hfn
          have ft : U.frozen? ⟨bc, 6, none⟩ = false := by simp [World.frozen?, hO.cls]
          have ct : U.cell? ⟨bc, 6, none⟩ = some (.slice none 0 0) := by simp [World.cell?, hO.cls]
          have zbc0 : bc ≠ U.heap.size := by omega
          have zbm0 : bm ≠ U.heap.size := by omega
          have zbp0 : bp ≠ U.heap.size := by omega
          have HB : Hid (Below w.heap.size w ((U.setCell ⟨bc, 6, none⟩ (.slice (some ⟨U.heap.size, 0, none⟩) 1 1)).alloc (.cells #[.string s, .int .i64 0] 44))) := (nam3_R hO).2
          have hB : Calls Try.prog 13 #[.agg #[.int .i64 11, .slice (some ⟨bc, 0, none⟩) 1 1], .int .i64 1403] ((U.setCell ⟨bc, 6, none⟩ (.slice (some ⟨U.heap.size, 0, none⟩) 1 1)).alloc (.cells #[.string s, .int .i64 0] 44)) fun e w' => e = .returned (.bool true) ∧ Below ((U.setCell ⟨bc, 6, none⟩ (.slice (some ⟨U.heap.size, 0, none⟩) 1 1)).alloc (.cells #[.string s, .int .i64 0] 44)).heap.size ((U.setCell ⟨bc, 6, none⟩ (.slice (some ⟨U.heap.size, 0, none⟩) 1 1)).alloc (.cells #[.string s, .int .i64 0] 44)) w' := refuses_yes HE.out ((U.setCell ⟨bc, 6, none⟩ (.slice (some ⟨U.heap.size, 0, none⟩) 1 1)).alloc (.cells #[.string s, .int .i64 0] 44)) (fun _ h => h) (nam3_R hO).1
          clear hO HO
          as_aux_lemma =>
            go_wp2_with (go_at_call 13; refine hB.mono ?_; rintro e w9 ⟨rfl, hb9⟩; have HF : Hid (Below w.heap.size w w9) := HB.out.trans (hb9.mono HB.out.size); clear hB hb9)
            go_ret
            exact ⟨rfl, HF.out⟩
end Go.Proofs.Ytajghalljkphiaa
