/- A row of ints of a call's own that is appended to and stored into. -/
import Derived.Test.YtbbmgjcabmjjdaaGreatDoorMGJ1
import Derived.Maps.AppendAt
import Derived.Test.YtbbmgjcabmjjdaaGreatDoorMGJ2
namespace Go.Proofs.YtbbmgjcabmjjdaaGreatDoor
open Go.RowKit

def Rj (w : World) (B : Nat) (v : Value) (U : List Int) : Prop := w.ownsRow B 3 1 v U.length (U.map fun u => .int .i64 u)
section
variable {w w' : World} {B : Nat} {v : Value} {U : List Int}
theorem Rj.nil (w : World) (B : Nat) : Rj w B (.slice none 0 0) [] := World.ownsRow_nil w B 3 1
theorem Rj.of_block (h : Rj w B v U) (q : ∀ j, v.ownBlock = some j → w'.heap[j]? = w.heap[j]?) : Rj w' B v U := by
  refine ⟨h.1, ?_⟩
  rcases h.2 with r | ⟨g, cap, cur, rfl, h1, h2, h3⟩
  · exact .inl r
  · exact .inr ⟨g, cap, cur, rfl, h1, (q g rfl).trans h2, h3⟩
theorem Rj.lt (h : Rj w B v U) {j : Nat} (hj : v.ownBlock = some j) : B ≤ j ∧ j < w.heap.size := World.ownsRow.lt h j hj
theorem Rj.below (h : Rj w B v U) (b : Below w.heap.size w w') : Rj w' B v U := h.of_block fun j hj => b.block j (h.lt hj).2
theorem Rj.form (h : Rj w B v U) : ∃ ao cap, v = .slice ao U.length cap := by
  rcases h.2 with ⟨rfl, h0⟩ | ⟨g, cap, cur, rfl, _⟩
  · exact ⟨none, 0, by rw [h0]⟩
  · exact ⟨_, _, rfl⟩
theorem Rj.cells {ao : Option Addr} {m cap : Nat} (h : Rj w B (.slice ao m cap) U) (hn : 0 < U.length) : ∃ p, ao = some ⟨p, 0, none⟩ ∧ (B ≤ p ∧ p < w.heap.size) ∧ (∀ j, w.frozen? ⟨p, j, none⟩ = false) ∧ ∀ i u, U[i]? = some u → w.cell? ⟨p, i, none⟩ = some (.int .i64 u) := by
  rcases h.2 with ⟨_, h0⟩ | ⟨g, cap', cur, q, h1, h2, h3, h4, h5, h6⟩
  · omega
  · simp only [Value.slice.injEq] at q
    obtain ⟨rfl, rfl, rfl⟩ := q
    refine ⟨g, rfl, ⟨h1, (Array.getElem?_eq_some_iff.1 h2).1⟩, fun j => by simp [World.frozen?, h2], fun i u hu => ?_⟩
    have hi : i < U.length := (List.getElem?_eq_some_iff.1 hu).1
    have hf : (U.map fun u => Value.int .i64 u)[i]? = some (.int .i64 u) := by rw [List.getElem?_map, hu]; rfl
    rw [← h6, List.getElem?_take, if_pos (by omega)] at hf
    simp only [World.cell?, h2]
    simpa using hf
theorem Rj.set {p m cap i : Nat} (h : Rj w B (.slice (some ⟨p, 0, none⟩) m cap) U) (x : Int) : Rj (w.setCell ⟨p, i, none⟩ (.int .i64 x)) B (.slice (some ⟨p, 0, none⟩) m cap) (U.set i x) := by
  rcases h.2 with ⟨q, _⟩ | ⟨g, cap', cur, q, h1, h2, h3, h4, h5, h6⟩
  · simp at q
  · simp only [Value.slice.injEq, Option.some.injEq, Addr.mk.injEq, and_true] at q
    obtain ⟨rfl, rfl, rfl⟩ := q
    refine ⟨by simp, .inr ⟨p, cap, cur.setIfInBounds i (.int .i64 x), by rw [List.length_set], h1, hset h2 _, by rw [List.length_set]; exact h3, h4, by rw [Array.size_setIfInBounds]; exact h5, ?_⟩⟩
    rw [List.length_set, Array.toList_setIfInBounds, List.take_set, h6, List.map_set]
theorem Rj.sl (h : Rj w B v U) : Sl kIU w (fun b => B ≤ b ∧ b < w.heap.size) v U := by
  rcases h.2 with ⟨e1, e2⟩ | ⟨g, cap, cur, e1, e2, e3, e4, e5, _⟩
  · exact ⟨none, 0, by rw [e1, e2], by rw [e2]; exact Nat.zero_le _, .inl (List.length_eq_zero_iff.1 e2)⟩
  · subst e1
    refine ⟨_, cap, rfl, Nat.le_trans e4 e5, ?_⟩
    rcases Nat.eq_zero_or_pos U.length with h0 | h0
    · exact .inl (List.length_eq_zero_iff.1 h0)
    · obtain ⟨p, q1, q2, q3, q4⟩ := h.cells h0
      refine .inr ⟨p, 0, q1, q2, ⟨q2.2, fun _ => q3⟩, fun i x hx => ⟨_, rfl, fun j u hu => ?_⟩⟩
      rcases j with _ | j
      · obtain rfl := Option.some.inj hu
        rw [show 0 + (i * kIU.k + 0) = i by show 0 + (i * 1 + 0) = i; omega]; exact q4 i x hx
      · simp at hu
theorem Rj.app {P : Program} (h : Rj w B v U) {t ty : TypeId} {i : TypeInfo} {z : Value} {bytes : Nat} (ht : P.underlying t = some (.slice 3)) (hi : P.info? 3 = some i) (hz : i.zero = some z) (hs : i.size = 1) (hby : i.bytes = bytes) (hzs : z.cells.size = 1) (x : Int)
    (hB : B ≤ w.heap.size) (hn : U.length + 1 ≤ maxLen) (hb : (U.length + 1) * bytes ≤ 140737488355328) {W : World} {a : Nat} (hW : W.heap[a]? = some (.cells #[.int .i64 x] 3 (0, 0))) (hbW : Below w.heap.size w W) :
    ∃ g cap w', (appY #[t, t] ty #[v, .slice (some ⟨a, 0, none⟩) 1 1]).run P W = .ok (.slice (some ⟨g, 0, none⟩) (U.length + 1) cap) w' ∧ Rj w' B (.slice (some ⟨g, 0, none⟩) (U.length + 1) cap) (U ++ [x]) ∧ Below B w w' := by
  have hnew : ∀ j u, ([.int .i64 x] : List Value)[j]? = some u → W.cell? ((⟨a, 0, none⟩ : Addr).add j) = some u := by
    intro j u hu
    have hadd : (⟨a, 0, none⟩ : Addr).add j = ⟨a, 0 + j, none⟩ := by unfold Addr.add; split <;> simp_all
    rw [hadd, Nat.zero_add]
    simp only [World.cell?, hW]
    simpa using hu
  obtain ⟨v', w', hrun, hown, hg, _, hat⟩ := run_append_own_at (P := P) W B t ty 3 i z 1 bytes ht hi hz hs hby hzs (by decide) v U.length _ (h.below hbW) ⟨a, 0, none⟩ 1 1 [.int .i64 x] rfl hnew (by simp [Value.oneCell']) hn hb (Nat.le_trans hB hbW.size)
  have hR : Rj w' B v' (U ++ [x]) := by unfold Rj; rw [List.map_append, List.length_append]; exact hown
  obtain ⟨ao, cap, e⟩ := hR.form
  rw [List.length_append, List.length_singleton] at e
  subst e
  obtain ⟨g, rfl, -⟩ := hR.cells (by simp)
  refine ⟨g, cap, w', hrun, hR, ⟨hg.os.trans hbW.os, hg.tape.trans hbW.tape, hg.output.trans hbW.output, Nat.le_trans hbW.size hg.size, fun j hj => ?_⟩⟩
  have hj2 : j < w.heap.size := Nat.lt_of_lt_of_le hj hB
  rw [hg.block j (Nat.lt_of_lt_of_le hj2 hbW.size) (fun q => by have := (h.lt q.symm).1; omega), hbW.block j hj2]
end
end Go.Proofs.YtbbmgjcabmjjdaaGreatDoor
/- The document's own Load: sorted. -/
namespace Go.Proofs.YtbbmgjcabmjjdaaGreatDoor
open Go.RowKit

theorem ins_at {x : Int} : ∀ {l : List Int} {k : Nat}, (∀ y ∈ l.take k, y ≤ x) → (∀ y ∈ l.drop k, x < y) → insJ x l = l.take k ++ x :: l.drop k
  | [], k, _, _ => by simp [insJ]
  | a :: l, 0, _, h2 => by
    unfold insJ; rw [if_pos (h2 a (by simp))]; simp
  | a :: l, k + 1, h1, h2 => by
    unfold insJ
    have ha : a ≤ x := h1 a (by simp)
    rw [if_neg (by omega), ins_at (l := l) (k := k) (fun y hy => h1 y (by simp [hy])) (fun y hy => h2 y (by simpa using hy))]
    simp
def Sorted (l : List Int) : Prop := l.Pairwise (· ≤ ·)
theorem mem_insJ {x y : Int} : ∀ {l : List Int}, y ∈ insJ x l ↔ y = x ∨ y ∈ l
  | [] => by simp [insJ]
  | a :: l => by
    unfold insJ
    split
    · simp
    · rw [List.mem_cons, mem_insJ (l := l), List.mem_cons]
      constructor
      · rintro (h | h | h)
        · exact .inr (.inl h)
        · exact .inl h
        · exact .inr (.inr h)
      · rintro (h | h | h)
        · exact .inr (.inl h)
        · exact .inl h
        · exact .inr (.inr h)
theorem sorted_ins {x : Int} : ∀ {l : List Int}, Sorted l → Sorted (insJ x l)
  | [], _ => by simp [insJ, Sorted]
  | a :: l, h => by
    unfold Sorted at h ⊢
    rw [List.pairwise_cons] at h
    unfold insJ
    split
    · rename_i hx
      rw [List.pairwise_cons, List.pairwise_cons]
      refine ⟨fun y hy => ?_, h⟩
      rcases List.mem_cons.1 hy with rfl | hy
      · omega
      · have := h.1 y hy; omega
    · rename_i hx
      rw [List.pairwise_cons]
      refine ⟨fun y hy => ?_, sorted_ins (l := l) h.2⟩
      rcases mem_insJ.1 hy with rfl | hy
      · omega
      · exact h.1 y hy
theorem len_insJ (x : Int) : ∀ l : List Int, (insJ x l).length = l.length + 1
  | [] => rfl
  | a :: l => by
    unfold insJ
    split
    · rfl
    · rw [List.length_cons, len_insJ x l]; rfl
theorem sortJ_snoc (xs : List Int) (x : Int) : sortJ (xs ++ [x]) = insJ x (sortJ xs) := by unfold sortJ; rw [List.foldl_append]; rfl
theorem sort_take {xs : List Int} {i : Nat} {x : Int} (h : xs[i]? = some x) : sortJ (xs.take (i + 1)) = insJ x (sortJ (xs.take i)) := by
  rw [List.take_add_one, h]; exact sortJ_snoc _ _
theorem sorted_sort : ∀ n (xs : List Int), xs.length = n → Sorted (sortJ xs) ∧ (sortJ xs).length = n
  | 0, xs, h => by
    have : xs = [] := List.eq_nil_of_length_eq_zero h
    subst this; exact ⟨by simp [sortJ, Sorted], rfl⟩
  | n + 1, xs, h => by
    obtain ⟨ys, y, rfl⟩ : ∃ ys y, xs = ys ++ [y] := ⟨xs.dropLast, xs.getLast (by intro e; rw [e] at h; simp at h), (List.dropLast_concat_getLast _).symm⟩
    rw [List.length_append, List.length_singleton] at h
    have := sorted_sort n ys (by omega)
    rw [sortJ_snoc]
    exact ⟨sorted_ins this.1, by rw [len_insJ, this.2]⟩
/-- The hole moves one place down. -/
theorem hole_down {l : List Int} {k : Nat} {y z : Int} (hk : k < l.length) (hz : l[k]? = some z) : (l.take (k + 1) ++ y :: l.drop (k + 1)).set (k + 1) z = l.take k ++ z :: l.drop k := by
  have h1 : (l.take (k + 1)).length = k + 1 := by rw [List.length_take]; omega
  have h2 : z :: l.drop (k + 1) = l.drop k := by
    rw [← (List.getElem?_eq_some_iff.1 hz).2]; exact List.getElem_cons_drop hk
  rw [List.set_append_right _ _ (by omega), h1, Nat.sub_self, List.set_cons_zero, List.take_add_one, hz, h2]
  simp
theorem hole_set {l : List Int} {k : Nat} {y z : Int} (hk : k ≤ l.length) : (l.take k ++ y :: l.drop k).set k z = l.take k ++ z :: l.drop k := by
  have h1 : (l.take k).length = k := by rw [List.length_take]; omega
  rw [List.set_append_right _ _ (by omega), h1, Nat.sub_self, List.set_cons_zero]
theorem hole_left {l : List Int} {k : Nat} {y z : Int} (hk : k < l.length) (hz : l[k]? = some z) : (l.take (k + 1) ++ y :: l.drop (k + 1))[k]? = some z := by
  rw [List.getElem?_append_left (by rw [List.length_take]; omega), List.getElem?_take, if_pos (by omega)]; exact hz
theorem sorted_take {l : List Int} (h : Sorted l) {k : Nat} {z x : Int} (hz : l[k]? = some z) (hx : z ≤ x) : ∀ y ∈ l.take (k + 1), y ≤ x := fun y hy => by
  rw [List.take_add_one, hz] at hy
  simp at hy
  rcases hy with hy | rfl
  · obtain ⟨j, hj, rfl⟩ := List.getElem_of_mem hy
    rw [List.length_take] at hj
    have hk : k < l.length := (List.getElem?_eq_some_iff.1 hz).1
    rw [List.getElem_take]
    have := List.pairwise_iff_getElem.1 h j k (by omega) hk (by omega)
    rw [(List.getElem?_eq_some_iff.1 hz).2] at this
    omega
  · exact hx
theorem drop_more {l : List Int} {k : Nat} {z x : Int} (hk : k < l.length) (hz : l[k]? = some z) (hx : x < z) (h : ∀ y ∈ l.drop (k + 1), x < y) : ∀ y ∈ l.drop k, x < y := fun y hy => by
  rw [← List.getElem_cons_drop hk, (List.getElem?_eq_some_iff.1 hz).2] at hy
  rcases List.mem_cons.1 hy with rfl | hy
  · exact hx
  · exact h y hy

attribute [local go_sem ↓] app_Y
set_option maxHeartbeats 8000000 in
set_option maxRecDepth 20000 in
theorem jsorted_ok {S : Nat → Prop} {v : Value} {xs : List Int} {w : World} (h : Sl kI w S v xs) (hS : ∀ k, S k → k < w.heap.size) (hn : xs.length ≤ 2097152) : Calls Tryz.prog 52 #[v] w fun e w' => ∃ v', e = .returned v' ∧ Hid (Rj w' w.heap.size v' (sortJ xs)) ∧ Hid (Below w.heap.size w w') := by
  obtain ⟨i0, hi0, hz0, hz1, hz2⟩ := info_parts infoLI
  have hA2 := h
  obtain ⟨aa, ca, rfl, -, -⟩ := hA2
  have HC : Hid (∀ i x, xs[i]? = some x → (∃ b o, aa = some ⟨b, o, none⟩ ∧ b < w.heap.size ∧ w.cell? ⟨b, o + i, none⟩ = some (.int .i64 x))) := fun i x hx => by
    obtain ⟨b, o, e, hc⟩ := h.int hx
    obtain ⟨b', o', e', hs, -⟩ := h.atJ hx
    rw [e] at e'
    obtain ⟨rfl, rfl⟩ : b = b' ∧ o = o' := by injection e' with e'; injection e' with e1 e2; exact ⟨e1, e2⟩
    exact ⟨b, o, e, hS b hs, hc⟩
  clear h hS
  go_enter Tryz.func52, Tryz.ntmps52
  go_wp2
  go_loopg [3, 4] (xs.length + 1) (fun kx s3 s4 wr => ∃ (i : Nat) (vo : Value), vo = s3 ∧ s4 = .int .i64 i ∧ i ≤ xs.length ∧ xs.length - i ≤ kx ∧ Hid (Rj wr w.heap.size vo (sortJ (xs.take i))) ∧ Hid (Below w.heap.size w wr))
  case atStart => exact ⟨0, _, rfl, rfl, by omega, by omega, Rj.nil _ _, Below.refl _ _⟩
  case round =>
    obtain ⟨i, vo, hvo, rfl, hi, hk, HR, HB⟩ := hrel
    subst hvo
    have HSL : Hid _ := sorted_sort i (xs.take i) (by rw [List.length_take]; omega)
    by_cases hlt : i < xs.length
    · have hl2 : (i : Int) < (xs.length : Int) := by omega
      obtain ⟨x, hx⟩ : ∃ c, xs[i]? = some c := ⟨_, List.getElem?_eq_getElem hlt⟩
      obtain ⟨b1, o1, rfl, hb1, a0⟩ := HC.out i x hx
      have HXS : Hid (sortJ (xs.take (i + 1)) = insJ x (sortJ (xs.take i))) := sort_take hx
      generalize sortJ (xs.take i) = l at *
      have hll : l.length = i := HSL.out.2
      have ax : wr.cell? ⟨b1, o1 + i, none⟩ = some (.int .i64 x) := (cell_same (HB.out.block b1 hb1) _).trans a0
      obtain ⟨g, cap, w2, hrun, hR2, hB2⟩ := HR.out.app (P := Tryz.prog) (ty := 26) (t := 26) Tryz.underlying26 hi0 hz0 hz1 hz2 rfl x HB.out.size (by rw [hll]; unfold maxLen; omega) (by rw [hll]; omega) (heap_alloc_new wr _) ((Below.refl _ _).alloc (Nat.le_refl _) _)
      obtain ⟨ao, cp, hvf⟩ := HR.out.form
      subst hvf
      rw [hll] at hrun hR2 ⊢
      have HR2 : Hid (Rj w2 w.heap.size (.slice (some ⟨g, 0, none⟩) (i + 1) cap) (l ++ [x])) := hR2
      have HB2 : Hid (Below w.heap.size w w2) := HB.out.trans hB2
      have HLL : Hid (l.length = i) := hll
      clear HC hx hR2 hB2 hll HR
      go_wp2_with (fail)
      go_loopg [5] (i + 1) (fun kx s5 wr => ∃ (k : Nat) (y : Int), s5 = .int .i64 k ∧ k ≤ i ∧ k ≤ kx ∧ Hid (Rj wr w.heap.size (.slice (some ⟨g, 0, none⟩) (i + 1) cap) (l.take k ++ y :: l.drop k)) ∧ Hid (Below w.heap.size w wr) ∧ Hid (∀ y ∈ l.drop k, x < y))
      case atStart => exact ⟨i, x, rfl, by omega, by omega, by rw [List.take_of_length_le (by rw [HLL.out]; exact Nat.le_refl _), List.drop_eq_nil_of_le (by rw [HLL.out]; exact Nat.le_refl _)]; exact HR2.out, HB2.out, by rw [List.drop_eq_nil_of_le (by rw [HLL.out]; exact Nat.le_refl _)]; intro y hy; simp at hy⟩
      case round =>
        obtain ⟨k, y, rfl, hki, hkk, HR, HBk, HD⟩ := hrel
        clear HR2 HB2 hrun ax
        have ax : wr.cell? ⟨b1, o1 + i, none⟩ = some (.int .i64 x) := (cell_same (HBk.out.block b1 hb1) _).trans a0
        have hln : (l.take k ++ y :: l.drop k).length = i + 1 := by have := HLL.out; rw [List.length_append, List.length_cons, List.length_take, List.length_drop]; omega
        obtain ⟨g', hg', hgb, hgf, hgc⟩ := HR.out.cells (by omega)
        obtain rfl : g = g' := by injection hg' with e; injection e
        have fz : wr.frozen? ⟨g, k, none⟩ = false := hgf k
        have HW : Hid (∀ (n : Nat) (z : Int), Below w.heap.size w ((wr.drewN n).setCell ⟨g, k, none⟩ (.int .i64 z))) := fun n z => ⟨HBk.out.os, HBk.out.tape, HBk.out.output, by simp [World.setCell]; exact HBk.out.size, fun b hb => by rw [Below.heap_setCell _ _ _ _ (show b ≠ g by omega)]; exact HBk.out.block b hb⟩
        have HRn : Hid (∀ n, Rj (wr.drewN n) w.heap.size (.slice (some ⟨g, 0, none⟩) (i + 1) cap) (l.take k ++ y :: l.drop k)) := fun n => HR.out.of_block (fun _ _ => rfl)
        obtain ⟨yk, hyk⟩ : ∃ yk, (l.take k ++ y :: l.drop k)[k]? = some yk := ⟨_, List.getElem?_eq_getElem (by omega)⟩
        have ck : wr.cell? ⟨g, k, none⟩ = some (.int .i64 yk) := hgc k yk hyk
        have hg2 := hgb.2
        rcases k with _ | k
        · have HE : Hid (∀ n, Rj ((wr.drewN n).setCell ⟨g, 0, none⟩ (.int .i64 x)) w.heap.size (.slice (some ⟨g, 0, none⟩) (i + 1) cap) (sortJ (xs.take (i + 1)))) := fun n => by
            have := (HRn.out n).set (i := 0) x
            rw [hole_set (by omega), ← ins_at (by simp) HD.out, ← HXS.out] at this
            exact this
          clear hgc HR HRn hyk hln HD HXS
          go_wp2_with (fail)
          go_quiet (fail)
          go_wp2_with (fail)
          go_roundg (xs.length - (i + 1))
          case measure => omega
          case rel => exact ⟨i + 1, _, rfl, by go_num, by omega, by omega, HE.out _, HW.out _ x⟩
        · obtain ⟨z, hz⟩ : ∃ z, l[k]? = some z := ⟨_, List.getElem?_eq_getElem (by have := HLL.out; omega)⟩
          have hkl : k < l.length := by have := HLL.out; omega
          have cz : wr.cell? ⟨g, k, none⟩ = some (.int .i64 z) := hgc k z (hole_left hkl hz)
          have hp : (0 : Int) < (k : Int) + 1 := by omega
          have hs1 : (k : Int) + 1 - 1 = (k : Int) := by omega
          have hb5 : (k : Int) < (i : Int) + 1 := by omega
          have hb6 : (k : Int) + 1 < (i : Int) + 1 := by omega
          by_cases hzx : x < z
          · have HE : Hid (∀ n, Rj ((wr.drewN n).setCell ⟨g, k + 1, none⟩ (.int .i64 z)) w.heap.size (.slice (some ⟨g, 0, none⟩) (i + 1) cap) (l.take k ++ z :: l.drop k)) := fun n => by
              have := (HRn.out n).set (i := k + 1) z
              rw [hole_down hkl hz] at this
              exact this
            have HD2 : Hid (∀ y ∈ l.drop k, x < y) := drop_more hkl hz hzx HD.out
            clear hgc HR HRn hyk hln HD hz hkl
            go_wp2_with (fail)
            go_quiet (fail)
            go_wp2_with (fail)
            go_roundg k
            case measure => omega
            case rel => exact ⟨k, z, by go_num, by omega, by omega, HE.out _, HW.out _ z, HD2.out⟩
          · have hzd : decide (x < z) = false := by simp; omega
            have HE : Hid (∀ n, Rj ((wr.drewN n).setCell ⟨g, k + 1, none⟩ (.int .i64 x)) w.heap.size (.slice (some ⟨g, 0, none⟩) (i + 1) cap) (sortJ (xs.take (i + 1)))) := fun n => by
              have := (HRn.out n).set (i := k + 1) x
              rw [hole_set (by omega), ← ins_at (sorted_take HSL.out.1 hz (by omega)) HD.out, ← HXS.out] at this
              exact this
            clear hgc HR HRn hyk hln HD HXS hz hkl hzx
            go_wp2_with (fail)
            go_quiet (fail)
            go_wp2_with (fail)
            go_roundg (xs.length - (i + 1))
            case measure => omega
            case rel => exact ⟨i + 1, _, rfl, by go_num, by omega, by omega, HE.out _, HW.out _ x⟩
    · have hn2 : i = xs.length := by omega
      subst hn2
      have hl : ¬ ((xs.length : Nat) : Int) < ((xs.length : Nat) : Int) := by omega
      have HE : Hid (Rj wr w.heap.size vo (sortJ xs)) := by have := HR.out; rw [List.take_length] at this; exact this
      clear HC HR HSL
      go_wp2
      go_ret
      exact ⟨_, rfl, HE.out, HB.out⟩
end Go.Proofs.YtbbmgjcabmjjdaaGreatDoor
/- The document's own Load: above (it calls itself). -/
namespace Go.Proofs.YtbbmgjcabmjjdaaGreatDoor
open Go.RowKit

theorem nodup_len : ∀ (N : Nat) (l : List Int), l.Nodup → (∀ x ∈ l, 0 ≤ x ∧ x < (N : Int)) → l.length ≤ N
  | 0, l, _, h => by
    cases l with
    | nil => simp
    | cons a l => have := h a (by simp); omega
  | N + 1, l, hn, h => by
    by_cases hm : (N : Int) ∈ l
    · have h1 := nodup_len N (l.erase N) (hn.erase _) (fun x hx => by
        have h2 := h x (List.mem_of_mem_erase hx)
        have h3 : x ≠ (N : Int) := fun e => by subst e; exact (List.Nodup.not_mem_erase hn) hx
        omega)
      rw [List.length_erase_of_mem hm] at h1
      omega
    · have := nodup_len N l hn (fun x hx => by
        have h2 := h x hx
        have h3 : x ≠ (N : Int) := fun e => by subst e; exact hm hx
        omega)
      omega
/-- A list of classes that are there, none twice. -/
def Gd (p : Pg) (out : List Int) : Prop := out.Nodup ∧ ∀ x ∈ out, isJ p x = true
theorem Gd.le {p : Pg} {out : List Int} (h : Gd p out) : out.length ≤ nJ p := nodup_len _ _ h.1 fun x hx => by
  have := h.2 x hx
  simp [isJ] at this
  unfold nJ
  omega
theorem Gd.add {p : Pg} {out : List Int} (h : Gd p out) {k : Int} (hk : isJ p k = true) (hc : out.contains k = false) : Gd p (out ++ [k]) := by
  have hc2 : k ∉ out := by simpa using hc
  refine ⟨?_, fun x hx => ?_⟩
  · rw [List.nodup_append]
    refine ⟨h.1, by simp, fun a ha b hb => ?_⟩
    simp at hb
    subst hb
    exact fun e => hc2 (e ▸ ha)
  · rcases List.mem_append.1 hx with hx | hx
    · exact h.2 x hx
    · simp at hx; subst hx; exact hk
/-- What a program's Faces name are classes. -/
def FaceOk (p : Pg) : Prop := ∀ k, userJ p k = true → ∀ x ∈ (ofJ p k).faces, isJ p x = true
theorem above_gd {p : Pg} (hS : SupOk p) (hF : FaceOk p) : ∀ (f : Nat) (k : Int) (out : List Int), isJ p k = true → Gd p out → Gd p (aboveJ p f k out) ∧ out.length ≤ (aboveJ p f k out).length
  | 0, _, out, _, hg => ⟨hg, Nat.le_refl _⟩
  | f + 1, k, out, hk, hg => by
    rw [aboveJ]
    by_cases hc : out.contains k = true
    · rw [if_pos hc]; exact ⟨hg, Nat.le_refl _⟩
    · rw [if_neg hc]
      rw [Bool.not_eq_true] at hc
      have h1 := hg.add hk hc
      have hfold : ∀ (xs : List Int) (o : List Int), (∀ x ∈ xs, isJ p x = true) → Gd p o → Gd p (xs.foldl (fun o x => aboveJ p f x o) o) ∧ o.length ≤ (xs.foldl (fun o x => aboveJ p f x o) o).length := by
        intro xs
        induction xs with
        | nil => intro o _ ho; exact ⟨ho, Nat.le_refl _⟩
        | cons x xs ih =>
          intro o hx ho
          have q := above_gd hS hF f x o (hx x (by simp)) ho
          have r := ih (aboveJ p f x o) (fun y hy => hx y (by simp [hy])) q.1
          exact ⟨r.1, Nat.le_trans q.2 r.2⟩
      have h2 : Gd p (if userJ p k then (ofJ p k).faces.foldl (fun o x => aboveJ p f x o) (out ++ [k]) else out ++ [k]) ∧ out.length ≤ (if userJ p k then (ofJ p k).faces.foldl (fun o x => aboveJ p f x o) (out ++ [k]) else out ++ [k]).length := by
        by_cases hu : userJ p k = true
        · rw [if_pos hu]
          have q := hfold _ (out ++ [k]) (hF k hu) h1
          exact ⟨q.1, by have := q.2; simp at this; omega⟩
        · rw [if_neg hu]; exact ⟨h1, by simp⟩
      simp only
      generalize (if userJ p k then (ofJ p k).faces.foldl (fun o x => aboveJ p f x o) (out ++ [k]) else out ++ [k]) = o2 at h2 ⊢
      by_cases hs : 0 ≤ supJ p k
      · rw [if_pos hs]
        have q := above_gd hS hF f (supJ p k) o2 ((hS k hk).resolve_left (by omega)) h2.1
        exact ⟨q.1, Nat.le_trans h2.2 q.2⟩
      · rw [if_neg hs]; exact h2
theorem Jc.belowB {w w' : World} {cb : Nat} {p : Pg} {S : Nat → Prop} {v : Value} {s : Fs} {B : Nat} (h : Jc w cb p S v s) (hb : Below B w w') (hc : cb < B) (hS : ∀ b, S b → b < B) : Jc w' cb p S v s :=
  ⟨(hb.block cb hc).trans h.box, h.dat.keep (fun b hs => hb.block b (hS b hs)), h.far, fun b hs => Nat.lt_of_lt_of_le (h.low b hs) hb.size, h.ok⟩
/-- What stands while above gathers: w the world at its beginning, u now. -/
structure AbS (u w : World) (cb : Nat) (p : Pg) (S : Nat → Prop) (v : Value) (s : Fs) (B : Nat) (vo : Value) (o out : List Int) : Prop where
  jc : Jc u cb p S v s
  row : Rj u B vo o
  bel : Below B w u
  sz : B ≤ u.heap.size
  cb_ : cb < B
  S_ : ∀ b, S b → b < B
  gd : Gd p o
  len : out.length + 1 ≤ o.length
theorem AbS.below {u u' w : World} {cb : Nat} {p : Pg} {S : Nat → Prop} {v : Value} {s : Fs} {B : Nat} {vo : Value} {o out : List Int} (h : AbS u w cb p S v s B vo o out) (hb : Below u.heap.size u u') : AbS u' w cb p S v s B vo o out :=
  ⟨h.jc.below hb, h.row.below hb, h.bel.trans (hb.mono h.sz), Nat.le_trans h.sz hb.size, h.cb_, h.S_, h.gd, h.len⟩
theorem AbS.next {u u' w : World} {cb : Nat} {p : Pg} {S : Nat → Prop} {v : Value} {s : Fs} {B : Nat} {vo vo' : Value} {o o' out : List Int} (h : AbS u w cb p S v s B vo o out) (hb : Below B u u') (hr : Rj u' B vo' o') (hg : Gd p o') (hl : o.length ≤ o'.length) : AbS u' w cb p S v s B vo' o' out :=
  ⟨h.jc.belowB hb h.cb_ h.S_, hr, h.bel.trans hb, Nat.le_trans h.sz hb.size, h.cb_, h.S_, hg, Nat.le_trans h.len hl⟩
theorem fold_take {p : Pg} {f : Nat} {xs : List Int} {j : Nat} {x : Int} (o : List Int) (hx : xs[j]? = some x) : (xs.take (j + 1)).foldl (fun o x => aboveJ p f x o) o = aboveJ p f x ((xs.take j).foldl (fun o x => aboveJ p f x o) o) := by
  rw [List.take_add_one, hx, List.foldl_append]; rfl
set_option maxRecDepth 20000 in
theorem fld4 (a : ByteArray) (b c : Bool) (d : Int) (f g h : Value) (q : Option Addr) (n m : Nat) (w : World) : (Instr.field 34 (.agg #[.string a, .bool b, .bool c, .int .i64 d, .slice q n m, f, g, h]) 4).run Tryz.prog w = .ok (.slice q n m) w := by kernel_rfl
attribute [local go_sem ↓] app_Y
set_option maxHeartbeats 8000000 in
set_option maxRecDepth 20000 in
theorem jabove_ok {p : Pg} (hS : SupOk p) (hF : FaceOk p) {cb : Nat} {S : Nat → Prop} {v : Value} {s : Fs} {B : Nat} (hcb : cb < B) (hSB : ∀ b, S b → b < B) : ∀ (f : Nat) (w : World) (vo : Value) (out : List Int) (k : Int), Jc w cb p S v s → Rj w B vo out → B ≤ w.heap.size → isJ p k = true → Gd p out → nJ p < f + out.length →
    Calls Tryz.prog 53 #[.pointer (some ⟨cb, 0, none⟩), .int .i64 k, vo] w fun e w' => ∃ v', e = .returned v' ∧ Hid (Rj w' B v' (aboveJ p f k out)) ∧ Hid (Below B w w')
  | 0, w, vo, out, k, _, _, _, _, hg, hf => by have := hg.le; omega
  | f + 1, w, vo, out, k, hj, hr, hB, hk, hg, hf => by
    have hH := jhas_ok k (soft_I hr.sl)
    have HIH : Hid (∀ (w : World) (vo : Value) (out : List Int) (k : Int), Jc w cb p S v s → Rj w B vo out → B ≤ w.heap.size → isJ p k = true → Gd p out → nJ p < f + out.length → Calls Tryz.prog 53 #[.pointer (some ⟨cb, 0, none⟩), .int .i64 k, vo] w fun e w' => ∃ v', e = .returned v' ∧ Hid (Rj w' B v' (aboveJ p f k out)) ∧ Hid (Below B w w')) := jabove_ok hS hF hcb hSB f
    have HSU : Hid (SupOk p) := hS
    have HFC : Hid (FaceOk p) := hF
    have HFU : Hid (nJ p < f + 1 + out.length) := hf
    obtain ⟨ao, cp, hvf⟩ := hr.form
    subst hvf
    rcases hc : out.contains k with _ | _
    · rw [hc] at hH
      obtain ⟨i0, hi0, hz0, hz1, hz2⟩ := info_parts infoLI
      have hle := hg.le
      have hnn : nJ p ≤ 2000000 := by have := hj.ok.n; unfold nJ; omega
      obtain ⟨g, cap, w2, hrun, hR2, hB2⟩ := hr.app (P := Tryz.prog) (ty := 26) (t := 26) Tryz.underlying26 hi0 hz0 hz1 hz2 rfl k hB (by unfold maxLen; omega) (by omega) (heap_alloc_new w _) ((Below.refl _ _).alloc (Nat.le_refl _) _)
      have HA0 : Hid (AbS w2 w cb p S v s B (.slice (some ⟨g, 0, none⟩) (out.length + 1) cap) (out ++ [k]) out) := ⟨hj.belowB hB2 hcb hSB, hR2, hB2, Nat.le_trans hB hB2.size, hcb, hSB, hg.add hk hc, by simp⟩
      have hU := juser_ok HA0.out.jc k
      have HE0 : Hid (aboveJ p (f + 1) k out = (if 0 ≤ supJ p k then aboveJ p f (supJ p k) (if userJ p k then (ofJ p k).faces.foldl (fun o x => aboveJ p f x o) (out ++ [k]) else out ++ [k]) else (if userJ p k then (ofJ p k).faces.foldl (fun o x => aboveJ p f x o) (out ++ [k]) else out ++ [k]))) := by
        show _ = _
        rw [aboveJ, if_neg (by rw [hc]; decide)]
      have hcl : out.length ≤ 2000000 := by omega
      clear hj hr hR2 hB2 hc hf hg hle hnn hi0 hz0 hz1 hz2
      by_cases hu : userJ p k = true
      · rw [hu] at hU
        have hO := jof_ok HA0.out.jc hu
        have HFK : Hid (∀ x ∈ (ofJ p k).faces, isJ p x = true) := HFC.out k hu
        have HEQ0 : Hid (aboveJ p (f + 1) k out = (if 0 ≤ supJ p k then aboveJ p f (supJ p k) ((ofJ p k).faces.foldl (fun o x => aboveJ p f x o) (out ++ [k])) else ((ofJ p k).faces.foldl (fun o x => aboveJ p f x o) (out ++ [k])))) := by have := HE0.out; rw [if_pos hu] at this; exact this
        have HNF : Hid ((ofJ p k).faces.length ≤ 1048576) := by
          obtain ⟨i, -, -, hi⟩ := user_at hu
          exact (badOk HA0.out.jc.ok hi).nfaces
        have hnf := HNF.out
        clear hu HE0 HFC
        generalize ofJ p k = c at *
        go_enter Tryz.func53, Tryz.ntmps53
        go_wp2_with (first
          | (go_at_call 88; refine hH.mono ?_; rintro e w9 ⟨rfl, hw9⟩; replace hw9 := hw9.symm; subst hw9)
          | (go_at_call 51; refine hU.mono ?_; rintro e w9 ⟨rfl, hw9⟩; replace hw9 := hw9.symm; subst hw9)
          | (go_at_call 49; refine hO.mono ?_; rintro e u1 ⟨a1, d1, a2, d2, a3, d3, a4, d4, rfl, hsl, hb1⟩; have HA1 : Hid (AbS u1 w cb p S v s B (.slice (some ⟨g, 0, none⟩) (out.length + 1) cap) (out ++ [k]) out) := HA0.out.below hb1; have HSL : Hid (Sl kI u1 S (.slice a1 c.faces.length d1) c.faces) := hsl.1; have hfl := fld4 c.nm c.face c.fin c.sup (.slice a2 c.flds.length d2) (.slice a3 c.stcs.length d3) (.slice a4 c.mds.length d4) a1 c.faces.length d1 u1; clear HA0 hO hsl hb1))
        go_loopg [2, 8] (c.faces.length + 1) (fun kx s2 s8 wr => ∃ (j : Nat) (vo : Value), vo = s2 ∧ s8 = .int .i64 j ∧ j ≤ c.faces.length ∧ c.faces.length - j ≤ kx ∧ Hid (AbS wr w cb p S v s B vo ((c.faces.take j).foldl (fun o x => aboveJ p f x o) (out ++ [k])) out) ∧ Hid (Below B u1 wr))
        case atStart => exact ⟨0, _, rfl, rfl, by omega, by omega, HA1.out, Below.refl _ _⟩
        case round =>
          obtain ⟨j, vo, hvo, rfl, hj, hkj, HA, HBU⟩ := hrel
          subst hvo
          clear hrun hfl
          have HSB : Hid (∀ b, S b → b < B) := HA1.out.S_
          clear HA1
          by_cases hjl : j < c.faces.length
          · have hl2 : (j : Int) < (c.faces.length : Int) := by omega
            obtain ⟨x, hx⟩ : ∃ x, c.faces[j]? = some x := ⟨_, List.getElem?_eq_getElem hjl⟩
            obtain ⟨ab, ao2, rfl, a0⟩ := (HSL.out.keep (w' := wr) (fun b hb => HBU.out.block b (HSB.out b hb))).int hx
            have HX : Hid (isJ p x = true) := HFK.out x (List.mem_of_getElem? hx)
            have HFT : Hid _ := fold_take (p := p) (f := f) (out ++ [k]) hx
            generalize (c.faces.take j).foldl (fun o x => aboveJ p f x o) (out ++ [k]) = o1 at *
            have HG2 : Hid _ := above_gd HSU.out (fun q hq y hy => (‹FaceOk p›) q hq y hy) f x o1 HX.out HA.out.gd
            obtain ⟨ao3, cp3, hv3⟩ := HA.out.row.form
            subst hv3
            go_wp2_with (go_at_call 53; refine (HIH.out wr _ _ _ HA.out.jc HA.out.row HA.out.sz HX.out HA.out.gd (by have := HA.out.len; have := HFU.out; omega)).mono ?_; rintro e u4 ⟨v4, rfl, hr4, hb4⟩; have HA4 : Hid (AbS u4 w cb p S v s B v4 (aboveJ p f x o1) out) := HA.out.next hb4.out hr4.out HG2.out.1 HG2.out.2; have HB4 : Hid (Below B u1 u4) := HBU.out.trans hb4.out; clear HA HBU hr4 hb4)
            go_roundg (c.faces.length - (j + 1))
            case measure => omega
            case rel => exact ⟨j + 1, _, rfl, by go_num, by omega, by omega, by rw [HFT.out]; exact HA4.out, HB4.out⟩
          · have hj2 : j = c.faces.length := by omega
            subst hj2
            have hl2 : ¬ ((c.faces.length : Nat) : Int) < ((c.faces.length : Nat) : Int) := by omega
            rw [List.take_length] at HA
            have HEQ := HEQ0
            generalize c.faces.foldl (fun o x => aboveJ p f x o) (out ++ [k]) = o2 at *
            obtain ⟨ao9, cp9, hv9⟩ := HA.out.row.form
            subst hv9
            have hP := jsup_ok HA.out.jc hk
            have HEQ2 : Hid (aboveJ p (f + 1) k out = if 0 ≤ supJ p k then aboveJ p f (supJ p k) o2 else o2) := HEQ.out
            by_cases hs : 0 ≤ supJ p k
            · have HX : Hid (isJ p (supJ p k) = true) := (HSU.out k hk).resolve_left (by omega)
              have HE2 : Hid (aboveJ p (f + 1) k out = aboveJ p f (supJ p k) o2) := by show _ = _; rw [HEQ2.out, if_pos hs]
              go_wp2_with (first
                | (go_at_call 45; refine hP.mono ?_; rintro e u3 ⟨rfl, hb3⟩; have HA3 : Hid (AbS u3 w cb p S v s B (.slice ao9 o2.length cp9) o2 out) := HA.out.below hb3; clear HA hP hb3)
                | (go_at_call 53; refine (HIH.out u3 _ _ _ HA3.out.jc HA3.out.row HA3.out.sz HX.out HA3.out.gd (by have := HA3.out.len; have := HFU.out; omega)).mono ?_; rintro e u4 ⟨v4, rfl, hr4, hb4⟩; have HF : Hid (Rj u4 B v4 (aboveJ p (f + 1) k out) ∧ Below B w u4) := ⟨by rw [HE2.out]; exact hr4.out, HA3.out.bel.trans hb4.out⟩; clear hr4 hb4 HA3))
              go_ret
              exact ⟨_, rfl, HF.out.1, HF.out.2⟩
            · have hsd : decide (0 ≤ supJ p k) = false := by simp; omega
              have HE2 : Hid (aboveJ p (f + 1) k out = o2) := by show _ = _; rw [HEQ2.out, if_neg hs]
              clear hs
              go_wp2_with (go_at_call 45; refine hP.mono ?_; rintro e u3 ⟨rfl, hb3⟩; have HA3 : Hid (AbS u3 w cb p S v s B (.slice ao9 o2.length cp9) o2 out) := HA.out.below hb3; clear HA hP hb3)
              go_ret
              exact ⟨_, rfl, by rw [HE2.out]; exact HA3.out.row, HA3.out.bel⟩
      · rw [Bool.not_eq_true] at hu
        rw [hu] at hU
        have HEQ : Hid (aboveJ p (f + 1) k out = (if 0 ≤ supJ p k then aboveJ p f (supJ p k) (out ++ [k]) else (out ++ [k]))) := by have := HE0.out; rw [hu] at this; exact this
        clear hu HE0
        have HRN : Hid (out.length + 1 = (out ++ [k]).length) := by show _ = _; simp
        go_enter Tryz.func53, Tryz.ntmps53
        go_upto_region 10 with (first
          | (go_at_call 88; refine hH.mono ?_; rintro e w9 ⟨rfl, hw9⟩; replace hw9 := hw9.symm; subst hw9)
          | (go_at_call 51; refine hU.mono ?_; rintro e w9 ⟨rfl, hw9⟩; replace hw9 := hw9.symm; subst hw9))
        have HA := HA0
        clear HA0 hrun
        generalize out ++ [k] = o2 at *
        have hP := jsup_ok HA.out.jc hk
        have HEQ2 : Hid (aboveJ p (f + 1) k out = if 0 ≤ supJ p k then aboveJ p f (supJ p k) o2 else o2) := HEQ.out
        by_cases hs : 0 ≤ supJ p k
        · have HX : Hid (isJ p (supJ p k) = true) := (HSU.out k hk).resolve_left (by omega)
          have HE2 : Hid (aboveJ p (f + 1) k out = aboveJ p f (supJ p k) o2) := by show _ = _; rw [HEQ2.out, if_pos hs]
          go_wp2_with (first
            | (go_at_call 45; refine hP.mono ?_; rintro e u3 ⟨rfl, hb3⟩; have HA3 : Hid (AbS u3 w cb p S v s B (.slice (some ⟨g, 0, none⟩) (out.length + 1) cap) o2 out) := HA.out.below hb3; clear HA hP hb3)
            | (go_at_call 53; refine (HIH.out u3 _ _ _ HA3.out.jc HA3.out.row HA3.out.sz HX.out HA3.out.gd (by have := HA3.out.len; have := HFU.out; omega)).mono ?_; rintro e u4 ⟨v4, rfl, hr4, hb4⟩; have HF : Hid (Rj u4 B v4 (aboveJ p (f + 1) k out) ∧ Below B w u4) := ⟨by rw [HE2.out]; exact hr4.out, HA3.out.bel.trans hb4.out⟩; clear hr4 hb4 HA3))
          go_ret
          exact ⟨_, rfl, HF.out.1, HF.out.2⟩
        · have hsd : decide (0 ≤ supJ p k) = false := by simp; omega
          have HE2 : Hid (aboveJ p (f + 1) k out = o2) := by show _ = _; rw [HEQ2.out, if_neg hs]
          clear hs
          go_wp2_with (go_at_call 45; refine hP.mono ?_; rintro e u3 ⟨rfl, hb3⟩; have HA3 : Hid (AbS u3 w cb p S v s B (.slice (some ⟨g, 0, none⟩) (out.length + 1) cap) o2 out) := HA.out.below hb3; clear HA hP hb3)
          go_ret
          exact ⟨_, rfl, by rw [HE2.out]; exact HA3.out.row, HA3.out.bel⟩
    · rw [hc] at hH
      have HE : Hid (aboveJ p (f + 1) k out = out) := by show _ = _; rw [aboveJ, if_pos hc]
      have HR : Hid (Rj w B (.slice ao out.length cp) out) := hr
      clear hj hr hc hg
      go_enter Tryz.func53, Tryz.ntmps53
      go_wp2_with (go_at_call 88; refine hH.mono ?_; rintro e w9 ⟨rfl, hw9⟩; replace hw9 := hw9.symm; subst hw9)
      go_ret
      exact ⟨_, rfl, by rw [HE.out]; exact HR.out, Below.refl _ _⟩
end Go.Proofs.YtbbmgjcabmjjdaaGreatDoor
