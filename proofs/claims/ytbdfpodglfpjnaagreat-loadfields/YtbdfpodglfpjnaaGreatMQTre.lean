/- The program's own Load: the tree is made. -/
import Derived.Test.YtbdfpodglfpjnaaGreatMY23
import Derived.Test.YtbdfpodglfpjnaaGreatMY7
import Derived.Deep.Upon
import Derived.Deep.RegionHeld3
namespace Go.Proofs.YtbdfpodglfpjnaaGreat
open Go.RowKit Go.Deep
attribute [local go_sem ↓] app_Y

def zC : List Value := [.string ⟨#[]⟩, .bool false, .bool false, .int .i64 0, .slice none 0 0, .slice none 0 0, .slice none 0 0, .slice none 0 0]
/-- A built-in class's cells, those below n having their super; m: where the thread's method lies. -/
def bC (n : Nat) (m : Value) (i : Nat) : List Value := [.string ⟨#[]⟩, .bool false, .bool false, .int .i64 (if 2 ≤ i ∧ i < n ∧ i ≤ 8 then 1 else 0), .slice none 0 0, .slice none 0 0, .slice none 0 0, if i = 9 then m else .slice none 0 0]
def rowB (n : Nat) (m : Value) : Array Value := ((List.range 11).map (bC n m)).flatten.toArray
theorem rowB_step (m : Value) : ∀ n, 2 ≤ n → n ≤ 8 → (rowB n m).setIfInBounds (n * 8 + 3) (.int .i64 1) = rowB (n + 1) m
  | 2, _, _ => by kernel_rfl
  | 3, _, _ => by kernel_rfl
  | 4, _, _ => by kernel_rfl
  | 5, _, _ => by kernel_rfl
  | 6, _, _ => by kernel_rfl
  | 7, _, _ => by kernel_rfl
  | 8, _, _ => by kernel_rfl
  | 0, h, _ => by omega
  | 1, h, _ => by omega
  | n + 9, _, h => by omega
theorem rowB_meth (m m2 : Value) : (rowB 9 m).setIfInBounds 79 m2 = rowB 9 m2 := by kernel_rfl
theorem rowB_cell (m : Value) : ∀ n, 2 ≤ n → n ≤ 8 → (rowB n m)[n * 8 + 3]? = some (.int .i64 0)
  | 2, _, _ => by kernel_rfl
  | 3, _, _ => by kernel_rfl
  | 4, _, _ => by kernel_rfl
  | 5, _, _ => by kernel_rfl
  | 6, _, _ => by kernel_rfl
  | 7, _, _ => by kernel_rfl
  | 8, _, _ => by kernel_rfl
  | 0, h, _ => by omega
  | 1, h, _ => by omega
  | n + 9, _, h => by omega
theorem makeT (W : World) : (Instr.makeSlice 77 (.int .i64 11) (.int .i64 11)).run Tryz.prog W = .ok (.slice (some ⟨W.heap.size, 0, none⟩) 11 11) (W.alloc (.cells (rowB 2 (.slice none 0 0)) 31)) := by kernel_rfl
/-- What builtIn leaves. -/
def BltP (w : World) (e : Ending) (w' : World) : Prop := e = .returned (.slice (some ⟨w.heap.size, 0, none⟩) 11 11) ∧ w'.heap[w.heap.size]? = some (.cells (rowB 9 (.slice (some ⟨w.heap.size + 1, 0, none⟩) 1 1)) 31 (0, 0)) ∧ w'.heap[w.heap.size + 1]? = some (.cells #[.string ⟨#[114, 117, 110]⟩, .bool false, .slice none 0 0, .int .i64 0, .int .i64 0, .int .i64 0, .slice none 0 0, .slice none 0 0, .slice none 0 0] 39 (0, 0)) ∧ Below w.heap.size w w' ∧ w'.heap.size = w.heap.size + 2
set_option maxHeartbeats 4000000 in
set_option maxRecDepth 20000 in
theorem builtIn_ok (w : World) : Calls Tryz.prog 47 #[] w (BltP w) := by
  have hmk := makeT w
  have HZ0 : Hid ((w.alloc (.cells (rowB 2 (.slice none 0 0)) 31)).heap.size = w.heap.size + 1) := by show _ = _; simp
  have HN : Hid ((w.alloc (.cells (rowB 2 (.slice none 0 0)) 31)).heap[w.heap.size]? = some (.cells (rowB 2 (.slice none 0 0)) 31 (0, 0))) := heap_alloc_new _ _
  have HB : Hid (Below w.heap.size w (w.alloc (.cells (rowB 2 (.slice none 0 0)) 31))) := (Below.refl _ _).alloc (Nat.le_refl _) _
  go_enter Tryz.func47, Tryz.ntmps47
  go_wp2
  go_loopg [2] 9 (fun kx s2 wr => ∃ i : Nat, s2 = .int .i64 i ∧ 2 ≤ i ∧ i ≤ 9 ∧ 9 - i ≤ kx ∧ Hid (wr.heap[w.heap.size]? = some (.cells (rowB i (.slice none 0 0)) 31 (0, 0)) ∧ Below w.heap.size w wr ∧ wr.heap.size = w.heap.size + 1))
  case atStart => exact ⟨2, rfl, by omega, by omega, by omega, HN.out, HB.out, HZ0.out⟩
  case round =>
    obtain ⟨i, rfl, h2, h9, hk, HW⟩ := hrel
    clear hmk HZ0 HN HB
    by_cases hlt : i ≤ 8
    · have c0 : wr.cell? ⟨w.heap.size, i * 8 + 3, none⟩ = some (.int .i64 0) := bxq_cell HW.out.1 (rowB_cell _ i h2 hlt)
      have f0 : wr.frozen? ⟨w.heap.size, i * 8 + 3, none⟩ = false := by simp [World.frozen?, HW.out.1]
      have hl : (i : Int) ≤ 8 := by omega
      have hl2 : (i : Int) < 11 := by omega
      go_wp2
      go_roundg (9 - (i + 1))
      case measure => omega
      case rel =>
        refine ⟨i + 1, by go_num, by omega, by omega, by omega, ?_, HW.out.2.1.setCell (p := ⟨w.heap.size, i * 8 + 3, none⟩) (Nat.le_refl _) _, by simp [World.setCell]; exact HW.out.2.2⟩
        have := hset (k := i * 8 + 3) HW.out.1 (.int .i64 1)
        rw [rowB_step _ i h2 hlt] at this
        exact this
    · have hn : i = 9 := by omega
      subst hn
      have hn1 : (wr.alloc (.cells #[.string ⟨#[114, 117, 110]⟩, .bool false, .slice none 0 0, .int .i64 0, .int .i64 0, .int .i64 0, .slice none 0 0, .slice none 0 0, .slice none 0 0] 39)).heap[w.heap.size]? = some (.cells (rowB 9 (.slice none 0 0)) 31 (0, 0)) := (Below.heap_alloc _ _ _ (by rw [HW.out.2.2]; omega)).trans HW.out.1
      have HN1 : Hid _ := hn1
      have HN2 : Hid ((wr.alloc (.cells #[.string ⟨#[114, 117, 110]⟩, .bool false, .slice none 0 0, .int .i64 0, .int .i64 0, .int .i64 0, .slice none 0 0, .slice none 0 0, .slice none 0 0] 39)).heap[wr.heap.size]? = some (.cells #[.string ⟨#[114, 117, 110]⟩, .bool false, .slice none 0 0, .int .i64 0, .int .i64 0, .int .i64 0, .slice none 0 0, .slice none 0 0, .slice none 0 0] 39 (0, 0))) := heap_alloc_new _ _
      have c0 : (wr.alloc (.cells #[.string ⟨#[114, 117, 110]⟩, .bool false, .slice none 0 0, .int .i64 0, .int .i64 0, .int .i64 0, .slice none 0 0, .slice none 0 0, .slice none 0 0] 39)).cell? ⟨w.heap.size, 79, none⟩ = some (.slice none 0 0) := bxq_cell hn1 (by kernel_rfl)
      have f0 : (wr.alloc (.cells #[.string ⟨#[114, 117, 110]⟩, .bool false, .slice none 0 0, .int .i64 0, .int .i64 0, .int .i64 0, .slice none 0 0, .slice none 0 0, .slice none 0 0] 39)).frozen? ⟨w.heap.size, 79, none⟩ = false := by simp [World.frozen?, hn1]
      clear hn1
      go_wp2
      go_ret
      have hz := HW.out.2.2
      refine ⟨rfl, ?_, ?_, (HW.out.2.1.alloc (by omega) _).setCell (p := ⟨w.heap.size, 79, none⟩) (Nat.le_refl _) _, by simp [World.setCell]; omega⟩
      · have := hset (k := 79) HN1.out (.slice (some ⟨wr.heap.size, 0, none⟩) 1 1)
        rw [rowB_meth, hz] at this
        rw [hz]; exact this
      · have := HN2.out
        rw [hz] at this
        rw [Below.heap_setCell _ _ _ _ (by show w.heap.size + 1 ≠ w.heap.size; omega)]; exact this
/-- The built-in classes and a program's, as they lie: a row of the call's own, and what the program's reach. -/
def TreP (p : Pg) (S : Nat → Prop) (w : World) (e : Ending) (w' : World) : Prop := ∃ v, e = .returned v ∧ Below w.heap.size w w' ∧ Sl kCs w' (fun k => S k ∨ (w.heap.size ≤ k ∧ k < w'.heap.size)) v (trQ p)
theorem ap_Y2 (ats : Array TypeId) (ty : TypeId) (args : Array Value) : Builtin.append_ ats ty args = appY ats ty args := rfl
theorem app_mix (B : Nat) (n c : Nat) (ao : Option Addr) (m d : Nat) (w : World) : (Builtin.append_ #[77, 23] 77 #[.slice (some ⟨B, 0, none⟩) n c, .slice ao m d]).run Tryz.prog w = (Builtin.append_ #[77, 77] 77 #[.slice (some ⟨B, 0, none⟩) n c, .slice ao m d]).run Tryz.prog w := by kernel_rfl
theorem app_noneQ (B : Nat) (ao : Option Addr) (d : Nat) (w : World) : (Builtin.append_ #[77, 77] 77 #[.slice (some ⟨B, 0, none⟩) 11 11, .slice ao 0 d]).run Tryz.prog w = .ok (.slice (some ⟨B, 0, none⟩) 11 11) w := by
  obtain ⟨i0, hi, -, -, -⟩ := info_parts (show (Tryz.prog.info? 31).map (fun i => (i.zero, i.size, i.bytes)) = some (some (.agg #[.string ⟨#[]⟩, .bool false, .bool false, .int .i64 0, .slice none 0 0, .slice none 0 0, .slice none 0 0, .slice none 0 0]), 8, 128) by kernel_rfl)
  exact run_append_nothing w _ _ _ _ i0 Tryz.underlying77 hi (some ⟨B, 0, none⟩) 11 11 (Nat.le_refl _) _ (match ao with
    | none => Src.ofNil w Tryz.underlying77 d
    | some a => Src.ofSlice w Tryz.underlying77 a 0 d [] (by simp) (fun _ _ h => by simp at h) (by simp))
theorem infoCQ : (Tryz.prog.info? 31).map (fun i => (i.zero, i.size, i.bytes)) = some (some (.agg #[.string ⟨#[]⟩, .bool false, .bool false, .int .i64 0, .slice none 0 0, .slice none 0 0, .slice none 0 0, .slice none 0 0]), 8, 128) := by kernel_rfl
theorem rowB_list (m : Value) : (rowB 9 m).toList = ((List.range 11).map (bC 9 m)).flatten := rfl
theorem bC_len (m : Value) : ∀ r ∈ (List.range 11).map (bC 9 m), r.length = 8 := fun r hr => by
  obtain ⟨i, _, rfl⟩ := List.mem_map.1 hr
  rfl
theorem bltC_R {w : World} {S : Nat → Prop} {B : Nat} (hm : w.heap[B]? = some (.cells #[.string ⟨#[114, 117, 110]⟩, .bool false, .slice none 0 0, .int .i64 0, .int .i64 0, .int .i64 0, .slice none 0 0, .slice none 0 0, .slice none 0 0] 39 (0, 0))) (hS : S B) {i : Nat} (hi : i < 11) : kCs.R w S (bltC i) (bC 9 (.slice (some ⟨B, 0, none⟩) 1 1) i) := by
  have hl := (Array.getElem?_eq_some_iff.1 hm).1
  have hM : Sl kMd w S (.slice (some ⟨B, 0, none⟩) 1 1) [runM] := by
    refine ⟨_, 1, rfl, by decide, .inr ⟨B, 0, rfl, hS, ⟨hl, fun e => by cases e⟩, fun j x hx => ?_⟩⟩
    have hj : j = 0 := by have := (List.getElem?_eq_some_iff.1 hx).1; simpa using this
    subst hj
    simp at hx
    subst hx
    refine ⟨[.string ⟨#[114, 117, 110]⟩, .bool false, .slice none 0 0, .int .i64 0, .int .i64 0, .int .i64 0, .slice none 0 0, .slice none 0 0, .slice none 0 0], ⟨_, _, _, _, rfl, Sl.nil _ _ _, Sl.nil _ _ _, Sl.nil _ _ _, Sl.nil _ _ _⟩, fun k u hk => ?_⟩
    rw [show 0 + (0 * kMd.k + k) = k by omega]
    exact bxq_cell hm (by simpa using hk)
  refine ⟨.slice none 0 0, .slice none 0 0, .slice none 0 0, if i = 9 then .slice (some ⟨B, 0, none⟩) 1 1 else .slice none 0 0, ?_, Sl.nil _ _ _, Sl.nil _ _ _, Sl.nil _ _ _, ?_⟩
  · unfold bC bltC
    congr 4
    by_cases h : 2 ≤ i ∧ i ≤ 8
    · rw [if_pos h, if_pos (by omega)]
    · rw [if_neg h, if_neg (by omega)]
  · by_cases h : i = 9
    · rw [if_pos h]; simp only [bltC, if_pos h]; exact hM
    · rw [if_neg h]; simp only [bltC, if_neg h]; exact Sl.nil _ _ _
set_option maxRecDepth 20000 in
theorem tre_run {w w2 : World} {p : Pg} {S : Nat → Prop} {ao : Option Addr} {cap B : Nat} (hBw : w.heap.size ≤ B) (h1 : w2.heap[B]? = some (.cells (rowB 9 (.slice (some ⟨B + 1, 0, none⟩) 1 1)) 31 (0, 0))) (h2 : w2.heap[B + 1]? = some (.cells #[.string ⟨#[114, 117, 110]⟩, .bool false, .slice none 0 0, .int .i64 0, .int .i64 0, .int .i64 0, .slice none 0 0, .slice none 0 0, .slice none 0 0] 39 (0, 0))) (hb : Below w.heap.size w w2)
    (h : Sl kCs w S (.slice ao p.cls.length cap) p.cls) (hS : ∀ k, S k → k < w.heap.size) (hn : p.cls.length ≤ 1048576) :
    ∃ a n c w3, (appY #[77, 23] 77 #[.slice (some ⟨B, 0, none⟩) 11 11, .slice ao p.cls.length cap]).run Tryz.prog w2 = .ok (.slice a n c) w3 ∧ Below w.heap.size w w3 ∧ (∀ k, k < w2.heap.size → k ≠ B → w3.heap[k]? = w2.heap[k]?) ∧ Sl kCs w3 (fun k => S k ∨ (w.heap.size ≤ k ∧ k < w3.heap.size)) (.slice a n c) (trQ p) := by
  obtain ⟨i0, hi, hz0, hz1, hz2⟩ := info_parts infoCQ
  have hl1 := (Array.getElem?_eq_some_iff.1 h1).1
  have hl2 := (Array.getElem?_eq_some_iff.1 h2).1
  have hown : w2.ownsRow B 31 8 (.slice (some ⟨B, 0, none⟩) 11 11) 11 ((List.range 11).map (bC 9 (.slice (some ⟨B + 1, 0, none⟩) 1 1))).flatten :=
    ⟨by kernel_rfl, .inr ⟨B, 11, _, rfl, Nat.le_refl _, h1, Nat.le_refl _, by decide, by kernel_rfl, by kernel_rfl⟩⟩
  rw [← ap_Y2, app_mix]
  rcases Nat.eq_zero_or_pos p.cls.length with h0 | h0
  · rw [h0]
    refine ⟨some ⟨B, 0, none⟩, 11, 11, w2, app_noneQ B ao cap w2, hb, fun _ _ _ => rfl, ?_⟩
    have hc : p.cls = [] := List.eq_nil_of_length_eq_zero h0
    have ht : trQ p = bltQ := by unfold trQ; rw [hc, List.append_nil]
    rw [ht]
    refine sl_own (K := kCs) (T := 31) (base := B) (CS := (List.range 11).map (bC 9 (.slice (some ⟨B + 1, 0, none⟩) 1 1))) hown (by simp [bltQ]) (bC_len _) (fun i x cs hx hcs => ?_) (fun k hk hk2 => .inr ⟨by omega, hk2⟩)
    have hi11 : i < 11 := by have := (List.getElem?_eq_some_iff.1 hcs).1; simpa using this
    have e1 : bltC i = x := by simpa [bltQ, hi11] using hx
    have e2 : bC 9 (.slice (some ⟨B + 1, 0, none⟩) 1 1) i = cs := by simpa [hi11] using hcs
    rw [← e1, ← e2]
    exact bltC_R h2 (.inr ⟨by omega, hl2⟩) hi11
  · obtain ⟨b, o, CS, rfl, hsb, hcl, hcr, hck, hc1, hcc⟩ := h.raw h0
    have hcell : ∀ j u, CS.flatten[j]? = some u → w2.cell? ((⟨b, o, none⟩ : Addr).add j) = some u := fun j u hu => by
      have hadd : (⟨b, o, none⟩ : Addr).add j = ⟨b, o + j, none⟩ := by unfold Addr.add; split <;> simp_all
      rw [hadd, cell_same (hb.block b (hS b hsb))]; exact hcc j u hu
    obtain ⟨g, c, w3, hr, hown3, hg, -, -⟩ := run_append_lies (P := Tryz.prog) w2 77 77 B 31 i0 (.agg #[.string ⟨#[]⟩, .bool false, .bool false, .int .i64 0, .slice none 0 0, .slice none 0 0, .slice none 0 0, .slice none 0 0]) 8 128 Tryz.underlying77 hi hz0 hz1 hz2 rfl (by decide) (.slice (some ⟨B, 0, none⟩) 11 11) 11 _ hown ⟨b, o, none⟩ p.cls.length cap CS.flatten (by rw [flat_len CS hck, hcl]; rfl) hcell (fun u hu => by
      obtain ⟨r, hr, hu⟩ := List.mem_flatten.1 hu
      exact hc1 r hr u hu) h0 (by unfold maxLen; omega) (by omega) (by omega) _ rfl
    have hkeep : ∀ k, k < w2.heap.size → k ≠ B → w3.heap[k]? = w2.heap[k]? := fun k hk hne => hg.block k hk fun e => hne (by simpa [Value.ownBlock] using e)
    have hb3 : Below w.heap.size w w3 := ⟨hg.os.trans hb.os, hg.tape.trans hb.tape, hg.output.trans hb.output, Nat.le_trans hb.size hg.size, fun k hk => (hkeep k (Nat.lt_of_lt_of_le hk hb.size) (by omega)).trans (hb.block k hk)⟩
    refine ⟨some ⟨g, 0, none⟩, 11 + p.cls.length, c, w3, hr, hb3, hkeep, ?_⟩
    have hlen : (trQ p).length = 11 + p.cls.length := trQ_len p
    refine sl_own (K := kCs) (T := 31) (base := B) (CS := (List.range 11).map (bC 9 (.slice (some ⟨B + 1, 0, none⟩) 1 1)) ++ CS) (by rw [List.flatten_append, hlen]; exact hown3) (by simp [hlen, hcl]) (fun r hr => ?_) (fun i x cs hx hcs => ?_) (fun k hk hk2 => .inr ⟨by omega, hk2⟩)
    · rcases List.mem_append.1 hr with hr | hr
      · exact bC_len _ r hr
      · exact hck r hr
    · have hq : bltQ.length = 11 := by simp [bltQ]
      by_cases hi11 : i < 11
      · unfold trQ at hx
        rw [List.getElem?_append_left (by omega)] at hx
        rw [List.getElem?_append_left (by simpa using hi11)] at hcs
        have e1 : bltC i = x := by simpa [bltQ, hi11] using hx
        have e2 : bC 9 (.slice (some ⟨B + 1, 0, none⟩) 1 1) i = cs := by simpa [hi11] using hcs
        rw [← e1, ← e2]
        refine bltC_R ((hkeep (B + 1) hl2 (by omega)).trans h2) (.inr ⟨by omega, ?_⟩) hi11
        exact Nat.lt_of_lt_of_le hl2 hg.size
      · unfold trQ at hx
        rw [List.getElem?_append_right (by omega), hq] at hx
        rw [List.getElem?_append_right (by simp; omega)] at hcs
        simp only [List.length_map, List.length_range] at hcs
        obtain ⟨cs', h3, h4⟩ := hcr (i - 11) x hx
        rw [hcs] at h3
        injection h3 with h3
        subst h3
        exact kCs.mono (fun k hk => .inl hk) (kCs.keep (fun k hk => hb3.block k (hS k hk)) h4)
set_option maxHeartbeats 4000000 in
set_option maxRecDepth 20000 in
theorem treeOf_ok {S : Nat → Prop} {p : Pg} {cs : List Value} {w : World} (hS : ∀ k, S k → k < w.heap.size) (hR : kPg.R w S p cs) (hn : p.cls.length ≤ 1048576) : Calls Tryz.prog 28 #[.agg cs.toArray] w (TreP p S w) := by
  obtain ⟨y, rfl, hV⟩ := hR
  have hV2 := hV
  obtain ⟨ao, cap, rfl, -, -⟩ := hV2
  have HZ : Hid ((w.alloc (.cells #[.int .i64 p.main, .slice ao p.cls.length cap] 25)).drew.heap.size = w.heap.size + 1) := by show _ = _; simp
  have hc0 : (w.alloc (.cells #[.int .i64 p.main, .slice ao p.cls.length cap] 25)).heap[w.heap.size]? = some (.cells #[.int .i64 p.main, .slice ao p.cls.length cap] 25 (0, 0)) := heap_alloc_new _ _
  have HC0 : Hid _ := hc0
  have p1 : (w.alloc (.cells #[.int .i64 p.main, .slice ao p.cls.length cap] 25)).cell? ⟨w.heap.size, 1, none⟩ = some (.slice ao p.cls.length cap) := bxq_cell hc0 rfl
  have HX : Hid (∀ w2 : World, w2.heap[w.heap.size + 1]? = some (.cells (rowB 9 (.slice (some ⟨w.heap.size + 1 + 1, 0, none⟩) 1 1)) 31 (0, 0)) → w2.heap[w.heap.size + 1 + 1]? = some (.cells #[.string ⟨#[114, 117, 110]⟩, .bool false, .slice none 0 0, .int .i64 0, .int .i64 0, .int .i64 0, .slice none 0 0, .slice none 0 0, .slice none 0 0] 39 (0, 0)) → Below (w.heap.size + 1) (w.alloc (.cells #[.int .i64 p.main, .slice ao p.cls.length cap] 25)).drew w2 →
      ∃ a n c w3, (appY #[77, 23] 77 #[.slice (some ⟨w.heap.size + 1, 0, none⟩) 11 11, .slice ao p.cls.length cap]).run Tryz.prog w2 = .ok (.slice a n c) w3 ∧ w3.cell? ⟨w.heap.size, 1, none⟩ = some (.slice ao p.cls.length cap) ∧ Hid (TreP p S w (.returned (.slice a n c)) w3)) := fun w2 h1 h2 hb0 => by
    have hb : Below (w.heap.size + 1) (w.alloc (.cells #[.int .i64 p.main, .slice ao p.cls.length cap] 25)) w2 := ⟨hb0.os, hb0.tape, hb0.output, hb0.size, hb0.block⟩
    obtain ⟨a, n, c, w3, hr, hb3, hk3, hs⟩ := tre_run (w := w) (B := w.heap.size + 1) (by omega) h1 h2 (((Below.refl _ _).alloc (Nat.le_refl _) _).trans (hb.mono (by omega))) hV hS hn
    exact ⟨a, n, c, w3, hr, (cell_same ((hk3 _ (by have := (Array.getElem?_eq_some_iff.1 h2).1; omega) (by omega)).trans (hb.block _ (Nat.lt_succ_self _))) 1).trans p1, ⟨_, rfl, hb3, hs⟩⟩
  clear hV hS hn hc0
  go_enter Tryz.func28, Tryz.ntmps28
  go_upto_region 1 with (fail)
  go_region_held3 (fun w' => w'.cell? ⟨w.heap.size, 1, none⟩ = some (.slice ao p.cls.length cap)) (go_keep) ((go_at_call 47; refine (builtIn_ok _).mono ?_; rintro e w2 ⟨rfl, h1, h2, hb, -⟩; rw [HZ.out] at h1 h2 hb ⊢; have p2 : w2.cell? ⟨w.heap.size, 1, none⟩ = some (.slice ao p.cls.length cap) := (cell_same (hb.block _ (Nat.lt_succ_self _)) 1).trans p1; obtain ⟨a, n, c, w3, hr, p3, HT⟩ := HX.out w2 h1 h2 hb; clear h1 h2 hb p1))
  all_goals
    go_wp2
    go_ret
    exact HT.out
end Go.Proofs.YtbdfpodglfpjnaaGreat
