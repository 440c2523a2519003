/- The program's own Load: rule 2. -/
import Derived.Test.YtllpjjglnopgaabGreatMY22
namespace Go.Proofs.YtllpjjglnopgaabGreat
open Go.RowKit Go.Shelf
attribute [local go_sem] Oper.semAt_some

/-- Between two rounds: nothing has turned, the class was not come to, nor the top. -/
def IcyQ (w3 : World) (p : Pg) (s c : Int) (i : Nat) (W : World) : Prop := Below w3.heap.size w3 W ∧ (∀ j, j < i → itQ p s j ≠ c) ∧ (∀ j, j + 1 < i → itQ p s j ≠ 0)
/-- The class was come to. -/
def XcyQ (w3 : World) (p : Pg) (s c : Int) (br : Nat) (W : World) : Prop := Bx br w3 W ∧ W.heap[br]? = some (.cells #[.bool true] 4 (0, 0)) ∧ ∃ j, itQ p s j = c ∧ ∀ e, e < j → itQ p s e ≠ 0
theorem icy_own {w3 : World} {p : Pg} {s c : Int} : OwnFrom w3.heap.size (IcyQ w3 p s c) :=
  OwnFrom.and (ownFrom_below (Nat.le_refl _) (Nat.le_refl _)) (fun _ _ _ _ h _ _ => h)
theorem xcy_own {w3 : World} {p : Pg} {s c : Int} {br : Nat} (hb : br < w3.heap.size) : OwnFrom w3.heap.size (fun _ : Unit => XcyQ w3 p s c br) := fun _ A A' row h hg hr => by
  obtain ⟨h1, h2, h3⟩ := h
  have hne : ∀ k, k < w3.heap.size → some k ≠ row := fun k hk e => by have := (hr k e.symm).1; omega
  have hl := (Array.getElem?_eq_some_iff.1 h2).1
  exact ⟨⟨hg.os.trans h1.os, hg.tape.trans h1.tape, hg.output.trans h1.output, Nat.le_trans h1.size hg.size, fun k hk hn => (hg.block k (Nat.lt_of_lt_of_le hk h1.size) (hne k hk)).trans (h1.block k hk hn)⟩, (hg.block br hl (hne br hb)).trans h2, h3⟩
theorem bx_put {br D : Nat} {w3 W : World} (h : Bx br w3 W) (hD : w3.heap.size ≤ D) (o : Obj) : Bx br w3 (W.putObj D o) := ⟨h.os, h.tape, h.output, by rw [World.putObj_size]; exact h.size, fun k hk hn => (World.putObj_heap_other (by omega)).trans (h.block k hk hn)⟩
set_option maxRecDepth 100000 in
set_option maxHeartbeats 8000000 in
theorem cycle_ok {w : World} {S : Nat → Prop} {v : Value} {p : Pg} (h1 : ∀ i, i < p.cls.length → bad1 p i = false) (hn : p.cls.length ≤ 1048576) (h : Sl kCs w S v (trQ p)) (hS : ∀ k, S k → k < w.heap.size) {i : Nat} (hi : i < p.cls.length) : Calls Tryz.prog 28 #[v, .int .i64 (11 + (i : Int))] w fun e w' => e = .returned (.bool (bad2 p i)) ∧ Below w.heap.size w w' := by
  have hp := upOk_of h1
  obtain ⟨hu, -, hk⟩ := user_of hi
  have hsp : isJ p (supJ p (11 + (i : Int))) = true := by
    have := hp _ hk
    rw [show nxQ p (11 + (i : Int)) = (clQ p (11 + (i : Int))).sup from rfl, cl_sup hk, if_neg (by omega)] at this
    exact this
  have HY : Hid (∀ j, itQ p (supJ p (11 + (i : Int))) j = 11 + (i : Int) → (∀ e, e < j → itQ p (supJ p (11 + (i : Int))) e ≠ 0) → bad2 p i = true) := fun j a b => cyc_yes h1 hi a b
  have HNO : Hid (∀ m, (∀ j, j < m → itQ p (supJ p (11 + (i : Int))) j ≠ 11 + (i : Int)) → (p.cls.length + 1 ≤ m ∨ hasQ p (supJ p (11 + (i : Int))) m = false) → bad2 p i = false) := fun m a b => cyc_no h1 hi a b
  have hs3 : (clQ p (11 + (i : Int))).sup = supJ p (11 + (i : Int)) := by rw [cl_sup hk, if_neg (by omega)]
  obtain ⟨R, hR⟩ : ∃ R, bad2 p i = R := ⟨_, rfl⟩
  rw [hR] at HY HNO ⊢
  generalize supJ p (11 + (i : Int)) = s at *
  generalize hc : 11 + (i : Int) = c at *
  have hb2 : Below w.heap.size w ((w.alloc (.cells #[.int .i64 c] 3)).alloc (.cells #[.bool false] 4)) := ((Below.refl _ _).alloc (Nat.le_refl _) _).alloc (by simp) _
  have z1 : (w.alloc (.cells #[.int .i64 c] 3)).heap.size = w.heap.size + 1 := by simp
  have z2 : ((w.alloc (.cells #[.int .i64 c] 3)).alloc (.cells #[.bool false] 4)).heap.size = w.heap.size + 2 := by simp
  have nr : ((w.alloc (.cells #[.int .i64 c] 3)).alloc (.cells #[.bool false] 4)).heap[w.heap.size + 1]? = some (.cells #[.bool false] 4 (0, 0)) := by have := heap_alloc_new (w.alloc (.cells #[.int .i64 c] 3)) (.cells #[.bool false] 4); rw [z1] at this; exact this
  have nc : ((w.alloc (.cells #[.int .i64 c] 3)).alloc (.cells #[.bool false] 4)).heap[w.heap.size]? = some (.cells #[.int .i64 c] 3 (0, 0)) := (Below.heap_alloc _ _ _ (by omega)).trans (heap_alloc_new _ _)
  obtain ⟨W2, hW2⟩ : ∃ W2, (w.alloc (.cells #[.int .i64 c] 3)).alloc (.cells #[.bool false] 4) = W2 := ⟨_, rfl⟩
  rw [hW2] at hb2 z2 nr nc
  have ht2 : Sl kCs W2 S v (trQ p) := h.keep fun b q => hb2.block b (hS b q)
  have hS2 : ∀ k, S k → k < W2.heap.size := fun k q => by have := hS k q; omega
  have hv := h
  obtain ⟨ao, cap, rfl, -⟩ := hv
  have hL := line_ok ht2 hS2 s
  obtain ⟨i1, sb, so, _, _, _, _, _, _, _, _, rfl, hi1, rfl, -, ⟨-, -, -, t3, -, -, -, -⟩, -⟩ := tq_get ht2 hk
  rw [hs3] at t3
  have hl : (i1 : Int) < ((trQ p).length : Int) := by omega
  have c0 : W2.cell? ⟨w.heap.size, 0, none⟩ = some (.int .i64 i1) := bxq_cell nc rfl
  have HP : Hid (UpOk p ∧ isJ p s = true) := ⟨hp, hsp⟩
  have HB2 : Hid (Below w.heap.size w W2) := hb2
  have HNR : Hid (W2.heap[w.heap.size + 1]? = some (.cells #[.bool false] 4 (0, 0))) := nr
  have HNC : Hid (W2.heap[w.heap.size]? = some (.cells #[.int .i64 i1] 3 (0, 0))) := nc
  have HZ2 : Hid (W2.heap.size = w.heap.size + 2) := z2
  have hNl : (trQ p).length = 11 + p.cls.length := trQ_len p
  have HNL : Hid ((trQ p).length = 11 + p.cls.length) := hNl
  have hL2 := callsIn_wide (n := 4).2 hL
  generalize (trQ p).length = N at *
  clear h hS ht2 hS2 hk hu hp hsp hb2 z1 z2 nr nc hs3 hc hi h1 hL hi1 hR hNl
  subst hW2
  refine (callsIn_wide (n := 5)).1 ?_
  refine callsIn_of_wp_marks Tryz.func28 rfl trivial ?_ rfl
  simp only [Tryz.ntmps28, List.size_toArray, List.length_cons, List.length_nil, Nat.reduceAdd, Nat.reduceSub, Array.replicate_succ, Array.replicate_zero, List.push_toArray, List.append_toArray, List.nil_append, List.cons_append]
  gi_wp2_with (refine ⟨trivial, ?_⟩; gi_at_call 46; refine hL2.mono ?_; rintro e w3 ⟨rfl, hU, hl3, hz3⟩; have HU : Hid _ := hU; have HL3 : Hid _ := hl3; have HZ3 : Hid _ := hz3; clear hL2 hU hl3 hz3)
  have HUB : Hid (UpB w3 S (.slice (some ⟨sb, so, none⟩) N cap) p s (w.heap.size + 1 + 1) N) := by have := HU.out; rw [HZ2.out] at this; exact this
  have HC3 : Hid (w3.heap[w.heap.size]? = some (.cells #[.int .i64 i1] 3 (0, 0))) := (HL3.out.bl.block _ (by rw [HZ2.out]; omega)).trans HNC.out
  have HR3 : Hid (w3.heap[w.heap.size + 1]? = some (.cells #[.bool false] 4 (0, 0))) := (HL3.out.bl.block _ (by rw [HZ2.out]; omega)).trans HNR.out
  have HB3 : Hid (Below w.heap.size w w3) := HB2.out.trans (HL3.out.bl.mono HB2.out.size)
  have hbr : w.heap.size + 1 < w3.heap.size := (Array.getElem?_eq_some_iff.1 HR3.out).1
  have HBR : Hid (w.heap.size + 1 < w3.heap.size) := hbr
  have HXO : Hid _ := xcy_own (p := p) (s := s) (c := (i1 : Int)) hbr
  have HN1 : Hid (N ≤ 1073741824) := by show _ ≤ _; have := HNL.out; omega
  have H0 : Hid (IcyQ w3 p s i1 0 w3) := ⟨Below.refl _ _, fun j hj => absurd hj (by omega), fun j hj => absurd hj (by omega)⟩
  clear HU HZ3 HNR HNC HB2 HL3 hbr
  refine range_jointQ (F := Fence.wide) (n := 5) rfl (by decide) (gf := 89) (lb := #[.pointer (some ⟨w.heap.size + 1 + 1 + 1, 0, none⟩), .pointer (some ⟨w.heap.size + 1 + 1 + 3, 0, none⟩), .pointer (some ⟨w.heap.size + 1 + 1 + 2, 0, none⟩)]) rfl trivial (enters_of Tryz.func89 (by kernel_rfl) rfl) (XcyQ w3 p s i1 (w.heap.size + 1))
    (up_joint (I := IcyQ w3 p s i1) HN1.out HP.out.1 HP.out.2 (fun i W h => HUB.out.go h.1) 4 (by decide)) (fun _ => rfl)
    icy_own HXO.out (fun x i A A' row h hg hr => ⟨h.1, icy_own i A A' row h.2 hg hr⟩) H0.out
    (fun x => { tmps := #[.slice (some ⟨sb, so, none⟩) N cap, .int .i64 i1, undef, .pointer (some ⟨w.heap.size, 0, none⟩), .pointer (some ⟨w.heap.size + 1, 0, none⟩), .int .i64 x, .slice (some ⟨sb, so, none⟩) N cap, .slice (some ⟨sb, so, none⟩) N cap, .int .i64 i1, .pointer (some ⟨sb, so + i1 * 8, none⟩), .pointer (some ⟨sb, so + i1 * 8 + 3, none⟩), .int .i64 s, .func (.func 89) #[] #[.pointer (some ⟨w.heap.size + 1 + 1 + 1, 0, none⟩), .pointer (some ⟨w.heap.size + 1 + 1 + 3, 0, none⟩), .pointer (some ⟨w.heap.size + 1 + 1 + 2, 0, none⟩)], .int .i64 x, undef, undef, undef], defers := [] }) ?assign ?body ?done ?stop
  case assign =>
    intro l x W K hK
    gi_wp2
    exact hK
  case body =>
    rintro l j x W ⟨⟨rfl, hjN, hh⟩, hI⟩
    have HI : Hid (IcyQ w3 p s i1 j W) := hI
    have hcb := (hI.1.block _ (Nat.lt_of_le_of_lt (by omega) HBR.out)).trans HC3.out
    have hrb := (hI.1.block _ HBR.out).trans HR3.out
    have c0 : W.cell? ⟨w.heap.size, 0, none⟩ = some (.int .i64 i1) := bxq_cell hcb rfl
    have r0 : W.cell? ⟨w.heap.size + 1, 0, none⟩ = some (.bool false) := bxq_cell hrb rfl
    have f0 : W.frozen? ⟨w.heap.size + 1, 0, none⟩ = false := by simp [World.frozen?, hrb]
    have HRB : Hid (W.heap[w.heap.size + 1]? = some (.cells #[.bool false] 4 (0, 0))) := hrb
    have HH : Hid (hasQ p s j = true) := hh
    have HZJ : Hid (∀ e, e < j → itQ p s e ≠ 0) := fun e he => by
      by_cases hej : e + 1 < j
      · exact hI.2.2 e hej
      · have := HH.out
        rw [show j = e + 1 by omega] at this
        simpa [hasQ] using this
    by_cases hx : itQ p s j = (i1 : Int)
    · have HX : Hid (itQ p s j = (i1 : Int)) := hx
      have hxb : (itQ p s j == (i1 : Int)) = true := by simp [hx]
      clear hI hcb hrb hh hx H0 HNO
      gi_wp2
      exact ⟨(KeepsOthers.setCell _ _ _).from _, rfl, (Bx.of_below HI.out.1).set _ _, hset HRB.out _, j, HX.out, HZJ.out⟩
    · have HX : Hid (itQ p s j ≠ (i1 : Int)) := hx
      have hxb : (itQ p s j == (i1 : Int)) = false := by simp [hx]
      clear hI hcb hrb hh hx H0 HNO
      gi_wp2
      refine ⟨KeepsFrom.refl _ _, trivial, HI.out.1, fun e he => ?_, fun e he => HZJ.out e (by omega)⟩
      by_cases hej : e < j
      · exact HI.out.2.1 e hej
      · rw [show e = j by omega]; exact HX.out
  case done =>
    rintro D j W hD ⟨hjN, hE⟩ hI hK
    obtain rfl : R = false := HNO.out j hI.2.1 (hE.imp (fun e => by have := HNL.out; omega) id)
    have hrb := (hI.1.block _ HBR.out).trans HR3.out
    have r0 : W.cell? ⟨w.heap.size + 1, 0, none⟩ = some (.bool false) := bxq_cell hrb rfl
    have f0 : W.frozen? ⟨w.heap.size + 1, 0, none⟩ = false := by simp [World.frozen?, hrb]
    have HRB : Hid (W.heap[w.heap.size + 1]? = some (.cells #[.bool false] 4 (0, 0))) := hrb
    have HI : Hid (IcyQ w3 p s i1 j W) := hI
    have HK : Hid (W.heap[D]? = some (.deferred (some []))) := hK
    clear hI hrb hK H0 HNO HY
    gi_wp2
    have hne : D ≠ w.heap.size + 1 := by have := HBR.out; omega
    have hK2 := (KeepsOthers.setCell W ⟨w.heap.size + 1, 0, none⟩ (.bool false)).same D _ HK.out rfl
    refine ⟨by simp, .inl ⟨_, _, rfl, run_takeDeferred hK2, ?_⟩⟩
    have hr2 : ((W.setCell ⟨w.heap.size + 1, 0, none⟩ (.bool false)).putObj D (.deferred none)).cell? ⟨w.heap.size + 1, 0, none⟩ = some (.bool false) := bxq_cell ((World.putObj_heap_other (Ne.symm hne)).trans (hset HRB.out _)) rfl
    refine ⟨.bool false, ?_, rfl, ?_⟩
    · simp [results, Tryz.results28, go_sem, hr2]
    · have hx := bx_put ((Bx.of_below (rh := w.heap.size + 1) HI.out.1).set 0 (.bool false)) hD (.deferred none)
      exact HB3.out.trans ⟨hx.os, hx.tape, hx.output, hx.size, fun k hk => hx.block k (by have := HB3.out.size; omega) (by omega)⟩
  case stop =>
    rintro D W hD hX hK
    obtain ⟨hb, hr, j, hj, hz⟩ := hX
    obtain rfl : R = true := HY.out j hj hz
    have hne : D ≠ w.heap.size + 1 := by have := HBR.out; omega
    have hr2 : (W.putObj D (.deferred none)).cell? ⟨w.heap.size + 1, 0, none⟩ = some (.bool true) := bxq_cell ((World.putObj_heap_other (Ne.symm hne)).trans hr) rfl
    have HB : Hid _ := hb
    have HK : Hid _ := hK
    clear hb hr hK H0 HNO HY
    gi_wp2
    refine ⟨by simp, .inl ⟨_, _, rfl, run_takeDeferred HK.out, ?_⟩⟩
    refine ⟨.bool true, ?_, rfl, ?_⟩
    · simp [results, Tryz.results28, go_sem, hr2]
    · have hx := bx_put HB.out hD (.deferred none)
      exact HB3.out.trans ⟨hx.os, hx.tape, hx.output, hx.size, fun k hk => hx.block k (by have := HB3.out.size; omega) (by omega)⟩
end Go.Proofs.YtllpjjglnopgaabGreat
