/- The program's own Load: a set of classes' numbers, a map as it lies in memory; its keys, sorted. -/
import Derived.Test.YtbbmgjcabmjjdaaGreatDoorMY35
import Derived.Test.YtbbmgjcabmjjdaaGreatDoorMY32
import Derived.Shelf.SlIterI.Nil
import Derived.Shelf.SortM.Plain
import Derived.Shelf.SortM.SortNone
import Derived.Maps.OwnSet
namespace Go.Proofs.YtbbmgjcabmjjdaaGreatDoor
open Go.RowKit Go.Shelf

section
variable {F : Fence} {n : Nat} {P : Program} {fn : Func} {tmps : Array Value} {R : Ending → World → Prop}
/-- What the marks' blocks being shut leaves. -/
structure Tko (L : List Nat) (w w' : World) : Prop where
  os : w'.os = w.os
  tape : w'.tape = w.tape
  output : w'.output = w.output
  size : w'.heap.size = w.heap.size
  but : ∀ b, b ∉ L → w'.heap[b]? = w.heap[b]?
/-- A function with many marks leaves. -/
theorem leaves_marks : ∀ (L : List Nat) (w : World), L.Nodup → (∀ D ∈ L, w.heap[D]? = some (.deferred (some []))) → (∀ w', Tko L w w' → LeavesIn F n P fn tmps R [] .returning w') → LeavesInM F n P fn tmps R (L.map fun D => { target := .collected D, args := #[] }) .returning w
  | [], w, _, _, h => h w ⟨rfl, rfl, rfl, rfl, fun _ _ => rfl⟩
  | D :: L, w, hn, hd, h => by
    have h0 := hd D (by simp)
    refine ⟨by simp, .inl ⟨D, _, rfl, run_takeDeferred h0, ?_⟩⟩
    refine leaves_marks L _ (List.nodup_cons.1 hn).2 (fun E hE => ?_) (fun w' h' => h w' ⟨h'.os, h'.tape, h'.output, h'.size.trans (by simp [World.putObj]), fun b hb => (h'.but b (fun q => hb (by simp [q]))).trans (World.putObj_heap_other fun e => hb (by simp [e]))⟩)
    have hne : E ≠ D := fun e => (List.nodup_cons.1 hn).1 (e ▸ hE)
    exact (World.putObj_heap_other hne).trans (hd E (by simp [hE]))
end
/-- What layouts' memory is between two calls: the tree's box, the layouts under way at block g, that block's box. -/
structure LsI (w : World) (S : Nat → Prop) (v : Value) (p : Pg) (W : World) (xs : List Ly) : Prop where
  tr : Sl kCs W S v (trQ p)
  low : ∀ k, S k → k < w.heap.size
  bt : W.cell? ⟨w.heap.size, 0, none⟩ = some v
  bl : W.cell? ⟨w.heap.size + 2, 0, none⟩ = some (.slice (some ⟨w.heap.size + 1, 0, none⟩) (11 + p.cls.length) (11 + p.cls.length))
  row : LsR W w.heap.size (w.heap.size + 1) (11 + p.cls.length) xs
  bel : Below w.heap.size w W
  sz : w.heap.size + 3 ≤ W.heap.size
  cur : ∀ (k : Nat) x, xs[k]? = some x → x = ly0 ∨ x = lyJ p k
section
variable {w W W' : World} {S : Nat → Prop} {v : Value} {p : Pg} {xs : List Ly}
theorem LsI.turn (h : LsI w S v p W xs) (hos : W'.os = W.os) (ht : W'.tape = W.tape) (ho : W'.output = W.output) (hz : W.heap.size ≤ W'.heap.size) (hb : ∀ b, b < W.heap.size → (b < w.heap.size ∨ Ck W b) → W'.heap[b]? = W.heap[b]?) : LsI w S v p W' xs := by
  have hk : ∀ b, Ck W b → W'.heap[b]? = W.heap[b]? := fun b q => hb b q.lt (.inr q)
  have hs := h.sz
  exact ⟨h.tr.keep fun b q => hb b (by have := h.low b q; omega) (.inl (h.low b q)), h.low, (cell_same (hk _ (ck_cell h.bt)) _).trans h.bt, (cell_same (hk _ (ck_cell h.bl)) _).trans h.bl, h.row.turn fun b q _ => hk b q, h.bel.trans ⟨hos, ht, ho, hz, fun b q => hb b (by omega) (.inl q)⟩, by omega, h.cur⟩
theorem LsI.below (h : LsI w S v p W xs) (hb : Below W.heap.size W W') : LsI w S v p W' xs := h.turn hb.os hb.tape hb.output hb.size fun b q _ => hb.block b q
theorem LsI.tko {L : List Nat} (h : LsI w S v p W xs) (hL : ∀ D ∈ L, w.heap.size ≤ D ∧ W.heap[D]? = some (.deferred (some []))) (hb : Tko L W W') : LsI w S v p W' xs := h.turn hb.os hb.tape hb.output (by have := hb.size; omega) fun b _ q => hb.but b fun hm => by
  obtain ⟨h1, h2⟩ := hL b hm
  rcases q with q | ⟨o, q1, q2⟩
  · omega
  · rw [h2] at q1; cases q1; cases q2
/-- A layout is stored. -/
theorem LsI.set (h : LsI w S v p W xs) (hb : Below W.heap.size W W') {i : Nat} (hi : i < 11 + p.cls.length) {cs : List Value} (hR : kLyU.R W' (fun b => W.heap.size ≤ b ∧ b < W'.heap.size) (lyJ p i) cs) : LsI w S v p (W'.setCells (w.heap.size + 1) (i * 4) cs) (xs.set i (lyJ p i)) := by
  have h' := h.below hb
  have hz := h.sz
  have e : ∀ b, b ≠ w.heap.size + 1 → (W'.setCells (w.heap.size + 1) (i * 4) cs).heap[b]? = W'.heap[b]? := fun b q => setCellsJ_else q _ _ _
  have z : (W'.setCells (w.heap.size + 1) (i * 4) cs).heap.size = W'.heap.size := setCellsJ_size _ _ _ _
  obtain ⟨r1, r2, r3⟩ := setCellsJ_rest (w.heap.size + 1) cs (i * 4) W'
  refine ⟨h'.tr.keep fun b q => e b (by have := h.low b q; omega), h.low, (cell_same (e _ (by omega)) _).trans h'.bt, (cell_same (e _ (by omega)) _).trans h'.bl, h'.row.set hi (kLyU.mono (fun b q => ⟨by omega, by omega⟩) hR), h'.bel.trans ⟨r1, r2, r3, by rw [z]; exact Nat.le_refl _, fun b q => e b (by omega)⟩, by rw [z]; exact h'.sz, fun k x hx => ?_⟩
  by_cases q : i = k
  · subst q
    rw [List.getElem?_set_self (by rw [h.row.len]; exact hi)] at hx
    injection hx with hx
    exact .inr hx.symm
  · rw [List.getElem?_set_ne q] at hx
    exact h.cur k x hx
end
/-- Class k has its layout. -/
def Dn (p : Pg) (xs : List Ly) (k : Int) : Prop := ∃ i : Nat, k = (i : Int) ∧ xs[i]? = some (lyJ p (i : Int))
theorem Dn.set {p : Pg} {xs : List Ly} {k : Int} (h : Dn p xs k) {i : Nat} : Dn p (xs.set i (lyJ p i)) k := by
  obtain ⟨j, rfl, h⟩ := h
  refine ⟨j, rfl, ?_⟩
  by_cases e : i = j
  · subst e
    rw [List.getElem?_set_self (List.getElem?_eq_some_iff.1 h).1]
  · rw [List.getElem?_set_ne e]; exact h
theorem Dn.new {p : Pg} {xs : List Ly} {i : Nat} (hi : i < xs.length) : Dn p (xs.set i (lyJ p i)) i := ⟨i, rfl, by rw [List.getElem?_set_self hi]⟩
/-- Along a line, backward: i of it are gone through; W0: the world in which that began. -/
structure LnI (w W0 : World) (S : Nat → Prop) (v : Value) (p : Pg) (c : Nat) (U : List Int) (i : Nat) (W : World) : Prop where
  ex : ∃ xs, LsI w S v p W xs ∧ (∀ k : Nat, k < c → Dn p xs k) ∧ ∀ j x, U.length < j + i + 1 → U[j]? = some x → Dn p xs x
  oth : ∀ b, b < W0.heap.size → b ≠ w.heap.size + 1 → W.heap[b]? = W0.heap[b]?
  sz : W0.heap.size ≤ W.heap.size
theorem lnI_own {w W0 : World} {S : Nat → Prop} {v : Value} {p : Pg} {c : Nat} {U : List Int} (hw : w.heap.size ≤ W0.heap.size) : OwnFrom W0.heap.size (LnI w W0 S v p c U) := fun i A A' row h hg hr => by
  obtain ⟨⟨xs, h1, h2, h3⟩, h4, h5⟩ := h
  have hne : ∀ b, b < A.heap.size → (b < W0.heap.size ∨ Ck A b) → A'.heap[b]? = A.heap[b]? := fun b hb hq => hg.block b hb fun e => by
    obtain ⟨q1, o, q2, q3⟩ := hr b e.symm
    rcases hq with q | ⟨o2, q, q4⟩
    · omega
    · rw [q2] at q; cases q; rw [q3] at q4; cases q4
  exact ⟨⟨xs, h1.turn hg.os hg.tape hg.output hg.size fun b hb hq => hne b hb (hq.imp (fun q => by omega) id), h2, h3⟩, fun b hb hx => (hne b (by omega) (.inl hb)).trans (h4 b hb hx), Nat.le_trans h5 hg.size⟩
/-- Between two classes. -/
structure LsO (w : World) (S : Nat → Prop) (v : Value) (p : Pg) (c : Nat) (Ds : List Nat) (W : World) : Prop where
  ex : ∃ xs, LsI w S v p W xs ∧ ∀ k : Nat, k < c → Dn p xs k
  ds : ∀ D ∈ Ds, w.heap.size ≤ D ∧ W.heap[D]? = some (.deferred (some []))
theorem LsI.all {w W : World} {S : Nat → Prop} {v : Value} {p : Pg} {xs : List Ly} (h : LsI w S v p W xs) (hd : ∀ k : Nat, k < 11 + p.cls.length → Dn p xs k) : xs = allJ p := by
  apply List.ext_getElem?
  intro i
  by_cases hi : i < 11 + p.cls.length
  · obtain ⟨j, hj, hx⟩ := hd i hi
    obtain rfl : i = j := by omega
    rw [hx]
    simp [allJ, nJ, hi]
  · rw [List.getElem?_eq_none (by rw [h.row.len]; omega), List.getElem?_eq_none (by simp [allJ, nJ]; omega)]
/-- A line's next one, its super's layout. -/
theorem line_at {w W W0 : World} {S : Nat → Prop} {v : Value} {p : Pg} (k5 : Kp5 p) {c i j : Nat} {x : Int} (hc : isJ p c = true) (h : LnI w W0 S v p c (lnQ p (11 + p.cls.length) c) i W) (hm : BkM (lnQ p (11 + p.cls.length) c) i (j, x)) : ∃ (xs : List Ly) (a b : Nat) (ya : Ly), x = (a : Int) ∧ nxQ p x = (b : Int) ∧ a < 11 + p.cls.length ∧ b < 11 + p.cls.length ∧ xs[a]? = some ya ∧ (ya = lyJ p a ∨ ya = ly0 ∧ xs[b]? = some (upL p x)) ∧ LsI w S v p W xs ∧ (∀ k : Nat, k < c → Dn p xs k) ∧ ∀ j x, (lnQ p (11 + p.cls.length) c).length < j + i + 1 → (lnQ p (11 + p.cls.length) c)[j]? = some x → Dn p xs x := by
  obtain ⟨xs, h1, h2, h3⟩ := h.ex
  have hp := upOk_of k5.b1
  obtain ⟨hm1, hm2⟩ := hm
  simp only at hm1 hm2
  obtain ⟨hx, -, -⟩ := lnQ_get _ _ _ _ hm2
  have hjx : isJ p x = true := by rw [hx]; exact itQ_ok hp hc j
  obtain ⟨a, rfl, ha⟩ := isJ_nat hjx
  obtain ⟨b, hb, hbl⟩ := isJ_nat (hp _ hjx)
  obtain ⟨ya, hya⟩ : ∃ ya, xs[a]? = some ya := ⟨_, List.getElem?_eq_getElem (by rw [h1.row.len]; exact ha)⟩
  refine ⟨xs, a, b, ya, rfl, hb, ha, hbl, hya, ?_, h1, h2, h3⟩
  rcases h1.cur a ya hya with e | e
  · refine .inr ⟨e, ?_⟩
    by_cases h0 : (a : Int) = 0
    · have : b = 0 := by rw [h0] at hb; have : nxQ p 0 = 0 := nx_zero; omega
      have ea : a = 0 := by omega
      subst this ea
      rw [hya, e]
      rfl
    · obtain ⟨m, hml, hmz⟩ := line_top k5.b1 k5.b2 hc
      have hjm : j ≠ m := fun q => h0 (by rw [hx, q]; exact hmz)
      obtain ⟨y, hy⟩ : ∃ y, (lnQ p (11 + p.cls.length) c)[j + 1]? = some y := ⟨_, List.getElem?_eq_getElem (by omega)⟩
      obtain ⟨hy1, -, -⟩ := lnQ_get _ _ _ _ hy
      obtain ⟨b', hb', hd⟩ := h3 (j + 1) y (by omega) hy
      have e2 : y = nxQ p (a : Int) := by rw [hy1, hx]; rfl
      obtain rfl : b' = b := by rw [e2, hb] at hb'; omega
      rw [hd]
      unfold upL
      rw [if_neg h0, hb]
  · exact .inl e
end Go.Proofs.YtbbmgjcabmjjdaaGreatDoor
namespace Go.Proofs.YtbbmgjcabmjjdaaGreatDoor
open Go.RowKit Go.Maps Go.Sort Go.Shelf

def qkeys_ren : Go.Shelf.Ren := ⟨fun | 7 => 130 | 10 => 143 | n => n, fun | 23 => 149 | 26 => 3 | 3 => 150 | 28 => 84 | 0 => 0 | 27 => 83 | 33 => 49 | 4 => 4 | n => n, fun | n => n⟩
theorem qkeys : Go.Proofs.SlLaysZI.n7 Tryz.prog qkeys_ren := {
  mixed := by kernel_rfl
  f7 := ⟨Tryz.f130.name, by decide, Tryz.func130.trans (congrArg some (by kernel_rfl))⟩
  f10 := ⟨Tryz.f143.name, by decide, Tryz.func143.trans (congrArg some (by kernel_rfl))⟩
  t0 := Tryz.underlying0
  a0 := Tryz.isAgg0
  z0 := Tryz.sizeOf0
  v0 := Tryz.zeroValue0
  t4 := Tryz.underlying4
  a4 := Tryz.isAgg4
  z4 := Tryz.sizeOf4
  v4 := Tryz.zeroValue4
  t23 := Tryz.underlying149
  a23 := Tryz.isAgg149
  z23 := Tryz.sizeOf149
  v23 := Tryz.zeroValue149
  t26 := Tryz.underlying3
  a26 := Tryz.isAgg3
  z26 := Tryz.sizeOf3
  v26 := Tryz.zeroValue3
  t27 := Tryz.underlying83
  a27 := Tryz.isAgg83
  z27 := Tryz.sizeOf83
  v27 := Tryz.zeroValue83
  t28 := Tryz.underlying84
  a28 := Tryz.isAgg84
  z28 := Tryz.sizeOf84
  v28 := Tryz.zeroValue84
  t33 := Tryz.underlying49
  a33 := Tryz.isAgg49
  z33 := Tryz.sizeOf49
  v33 := Tryz.zeroValue49 }
def qsorted_ren : Go.Shelf.Ren := ⟨fun | 6 => 129 | 8 => 77 | 9 => 142 | 11 => 105 | 13 => 138 | 12 => 163 | 23 => 154 | 24 => 132 | 14 => 172 | 15 => 173 | 16 => 174 | 17 => 175 | 18 => 176 | 19 => 177 | 20 => 178 | 21 => 179 | 22 => 180 | 25 => 183 | 26 => 165 | 27 => 166 | 28 => 184 | 29 => 185 | 30 => 118 | 31 => 186 | n => n, fun | 26 => 3 | 28 => 84 | 24 => 26 | 0 => 0 | 3 => 3 | 37 => 157 | 48 => 155 | 50 => 135 | 4 => 4 | 40 => 167 | 39 => 166 | 45 => 141 | 5 => 5 | 9 => 9 | 51 => 181 | 55 => 185 | 57 => 194 | 58 => 195 | 33 => 49 | n => n, fun | n => n⟩
theorem qsorted : Go.Proofs.SlLaysZI.n6 Tryz.prog qsorted_ren := {
  mixed := by kernel_rfl
  f6 := ⟨Tryz.f129.name, by decide, Tryz.func129.trans (congrArg some (by kernel_rfl))⟩
  f8 := ⟨Tryz.f77.name, by decide, Tryz.func77.trans (congrArg some (by kernel_rfl))⟩
  f11 := ⟨Tryz.f105.name, by decide, Tryz.func105.trans (congrArg some (by kernel_rfl))⟩
  t0 := Tryz.underlying0
  a0 := Tryz.isAgg0
  z0 := Tryz.sizeOf0
  v0 := Tryz.zeroValue0
  t24 := Tryz.underlying26
  a24 := Tryz.isAgg26
  z24 := Tryz.sizeOf26
  v24 := Tryz.zeroValue26
  t26 := Tryz.underlying3
  a26 := Tryz.isAgg3
  z26 := Tryz.sizeOf3
  v26 := Tryz.zeroValue3
  t28 := Tryz.underlying84
  a28 := Tryz.isAgg84
  z28 := Tryz.sizeOf84
  v28 := Tryz.zeroValue84
  i26 := by kernel_rfl }
def qsort_ren : Go.Shelf.Ren := ⟨fun | 5 => 142 | 8 => 138 | 7 => 163 | 19 => 154 | 20 => 132 | 10 => 172 | 11 => 173 | 12 => 174 | 13 => 175 | 14 => 176 | 15 => 177 | 16 => 178 | 17 => 179 | 18 => 180 | 30 => 183 | 31 => 165 | 32 => 166 | 33 => 184 | 34 => 185 | 35 => 118 | 40 => 186 | n => n, fun | 23 => 26 | 25 => 3 | 3 => 3 | 32 => 157 | 22 => 26 | 0 => 0 | 44 => 155 | 46 => 135 | 4 => 4 | 36 => 167 | 35 => 166 | 41 => 141 | 5 => 5 | 9 => 9 | 53 => 181 | 57 => 185 | 63 => 194 | 64 => 195 | n => n, fun | n => n⟩
theorem qsort : Go.Proofs.SlLaysM.n5 Tryz.prog qsort_ren := {
  mixed := by kernel_rfl
  f5 := ⟨Tryz.f142.name, by decide, Tryz.func142.trans (congrArg some (by kernel_rfl))⟩
  f7 := ⟨Tryz.f163.name, by decide, Tryz.func163.trans (congrArg some (by kernel_rfl))⟩
  f8 := Tryz.func138.trans (congrArg some (by kernel_rfl))
  f10 := ⟨Tryz.f172.name, by decide, Tryz.func172.trans (congrArg some (by kernel_rfl))⟩
  f11 := ⟨Tryz.f173.name, by decide, Tryz.func173.trans (congrArg some (by kernel_rfl))⟩
  f12 := ⟨Tryz.f174.name, by decide, Tryz.func174.trans (congrArg some (by kernel_rfl))⟩
  f13 := ⟨Tryz.f175.name, by decide, Tryz.func175.trans (congrArg some (by kernel_rfl))⟩
  f14 := ⟨Tryz.f176.name, by decide, Tryz.func176.trans (congrArg some (by kernel_rfl))⟩
  f15 := ⟨Tryz.f177.name, by decide, Tryz.func177.trans (congrArg some (by kernel_rfl))⟩
  f16 := ⟨Tryz.f178.name, by decide, Tryz.func178.trans (congrArg some (by kernel_rfl))⟩
  f17 := ⟨Tryz.f179.name, by decide, Tryz.func179.trans (congrArg some (by kernel_rfl))⟩
  f18 := ⟨Tryz.f180.name, by decide, Tryz.func180.trans (congrArg some (by kernel_rfl))⟩
  f19 := Tryz.func154.trans (congrArg some (by kernel_rfl))
  f20 := Tryz.func132.trans (congrArg some (by kernel_rfl))
  f30 := ⟨Tryz.f183.name, by decide, Tryz.func183.trans (congrArg some (by kernel_rfl))⟩
  f31 := Tryz.func165.trans (congrArg some (by kernel_rfl))
  f32 := Tryz.func166.trans (congrArg some (by kernel_rfl))
  f33 := ⟨Tryz.f184.name, by decide, Tryz.func184.trans (congrArg some (by kernel_rfl))⟩
  f34 := ⟨Tryz.f185.name, by decide, Tryz.func185.trans (congrArg some (by kernel_rfl))⟩
  f35 := ⟨Tryz.f118.name, by decide, Tryz.func118.trans (congrArg some (by kernel_rfl))⟩
  f40 := ⟨Tryz.f186.name, by decide, Tryz.func186.trans (congrArg some (by kernel_rfl))⟩
  t0 := Tryz.underlying0
  a0 := Tryz.isAgg0
  z0 := Tryz.sizeOf0
  v0 := Tryz.zeroValue0
  t3 := Tryz.underlying3
  a3 := Tryz.isAgg3
  z3 := Tryz.sizeOf3
  v3 := Tryz.zeroValue3
  t4 := Tryz.underlying4
  a4 := Tryz.isAgg4
  z4 := Tryz.sizeOf4
  v4 := Tryz.zeroValue4
  t5 := Tryz.underlying5
  a5 := Tryz.isAgg5
  z5 := Tryz.sizeOf5
  v5 := Tryz.zeroValue5
  t9 := Tryz.underlying9
  a9 := Tryz.isAgg9
  z9 := Tryz.sizeOf9
  v9 := Tryz.zeroValue9
  t22 := Tryz.underlying26
  a22 := Tryz.isAgg26
  z22 := Tryz.sizeOf26
  v22 := Tryz.zeroValue26
  t23 := Tryz.underlying26
  a23 := Tryz.isAgg26
  z23 := Tryz.sizeOf26
  v23 := Tryz.zeroValue26
  t25 := Tryz.underlying3
  a25 := Tryz.isAgg3
  z25 := Tryz.sizeOf3
  v25 := Tryz.zeroValue3
  t32 := Tryz.underlying157
  a32 := Tryz.isAgg157
  z32 := Tryz.sizeOf157
  v32 := Tryz.zeroValue157
  t35 := Tryz.underlying166
  a35 := Tryz.isAgg166
  z35 := Tryz.sizeOf166
  v35 := Tryz.zeroValue166
  t36 := Tryz.underlying167
  a36 := Tryz.isAgg167
  z36 := Tryz.sizeOf167
  v36 := Tryz.zeroValue167
  t41 := Tryz.underlying141
  a41 := Tryz.isAgg141
  z41 := Tryz.sizeOf141
  v41 := Tryz.zeroValue141
  t44 := Tryz.underlying155
  a44 := Tryz.isAgg155
  z44 := Tryz.sizeOf155
  v44 := Tryz.zeroValue155
  t46 := Tryz.underlying135
  a46 := Tryz.isAgg135
  z46 := Tryz.sizeOf135
  v46 := Tryz.zeroValue135
  t53 := Tryz.underlying181
  a53 := Tryz.isAgg181
  z53 := Tryz.sizeOf181
  v53 := Tryz.zeroValue181
  t57 := Tryz.underlying185
  a57 := Tryz.isAgg185
  z57 := Tryz.sizeOf185
  v57 := Tryz.zeroValue185
  t63 := Tryz.underlying194
  a63 := Tryz.isAgg194
  z63 := Tryz.sizeOf194
  v63 := Tryz.zeroValue194
  t64 := Tryz.underlying195
  a64 := Tryz.isAgg195
  z64 := Tryz.sizeOf195
  v64 := Tryz.zeroValue195 }

theorem qkeyed : Maps.Keyed Tryz.prog 3 := Maps.int_keyed Tryz.underlying3
/-- Block m is a set: it has the numbers of A below N, and no others; c bounds what was stored. -/
def Ts (w : World) (m N : Nat) (A : Nat → Bool) (c : Nat) : Prop :=
  ∃ D : DataW Unit, w.ownsMap Tryz.prog 3 unitElem m c D ∧ ∀ x : Int, Maps.has D (.int .i64 x) = true ↔ ∃ t : Nat, t < N ∧ A t = true ∧ x = (t : Int)
section
variable {w w' : World} {m N c : Nat} {A : Nat → Bool}
theorem Ts.of_block (h : Ts w m N A c) (e : w'.heap[m]? = w.heap[m]?) : Ts w' m N A c := by
  obtain ⟨D, ⟨es, clock, hb, r⟩, h2⟩ := h
  exact ⟨D, ⟨es, clock, e.trans hb, r⟩, h2⟩
theorem Ts.lt (h : Ts w m N A c) : m < w.heap.size := let ⟨_, h1, _⟩ := h; h1.lt
theorem Ts.is_map (h : Ts w m N A c) : ∃ es clock, w.heap[m]? = some (.map es clock) := let ⟨_, ⟨es, clock, hb, _⟩, _⟩ := h; ⟨es, clock, hb⟩
theorem Ts.congr (h : Ts w m N A c) {C : Nat → Bool} (e : ∀ i, i < N → A i = C i) : Ts w m N C c := by
  obtain ⟨D, h1, h2⟩ := h
  refine ⟨D, h1, fun x => (h2 x).trans ?_⟩
  constructor
  · rintro ⟨t, a, b, d⟩; exact ⟨t, a, by rw [← e t a]; exact b, d⟩
  · rintro ⟨t, a, b, d⟩; exact ⟨t, a, by rw [e t a]; exact b, d⟩
theorem Ts.made (w : World) (N : Nat) : Ts (w.alloc (.map #[] 0)) w.heap.size N (fun _ => false) 0 :=
  ⟨_, World.ownsMap_made w Tryz.prog 3 unitElem, fun x => by
    constructor
    · intro h; cases h
    · rintro ⟨_, _, h, _⟩; cases h⟩
theorem Ts.look (h : Ts w m N A c) {t : Nat} (ht : t < N) (hN : N ≤ 4611686018427387904) : (Instr.lookup 149 (.map (some m)) (.int .i64 t) true).run Tryz.prog w = .ok (.tuple #[.agg #[], .bool (A t)]) w := by
  obtain ⟨D, h1, h2⟩ := h
  have hz : (zeroValue 150).run Tryz.prog w = .ok (.agg #[]) w := by kernel_rfl
  obtain ⟨v, ps, hrun, hv⟩ := h1.look_ok qkeyed Tryz.underlying149 hz unitElem_mk (Maps.keyOf_int_mk Tryz.underlying3 (WalkArith.wf_i64 (by omega) : (Lit.int .i64 (t : Int)).wf = true))
  obtain ⟨rfl, _⟩ := unitElem_inv hv
  have : Maps.has D (.int .i64 (t : Int)) = A t := by
    rcases hA : A t with _ | _
    · rcases hh : Maps.has D (.int .i64 (t : Int)) with _ | _
      · rfl
      · obtain ⟨s, _, hs, e⟩ := (h2 t).1 hh
        have : s = t := by omega
        rw [this, hA] at hs; cases hs
    · exact (h2 t).2 ⟨t, ht, hA, rfl⟩
  rw [this] at hrun
  exact hrun
theorem Ts.store (h : Ts w m N A c) {t : Nat} (ht : t < N) (hN : N ≤ 4611686018427387904) (hc : c < maxLen) :
    ∃ w', (Instr.mapUpdate 149 (.map (some m)) (.int .i64 t) (.agg #[])).run Tryz.prog w = .ok () w' ∧ Ts w' m N (fun s => if s = t then true else A s) (c + 1) ∧ w.mapTurned w' m := by
  obtain ⟨D, h1, h2⟩ := h
  obtain ⟨w1, hrun, ho, hturn⟩ := h1.store qkeyed Tryz.underlying149 hc (Maps.keyOf_int_mk Tryz.underlying3 (WalkArith.wf_i64 (by omega) : (Lit.int .i64 (t : Int)).wf = true)) (unitElem_mk (H := Unit))
  refine ⟨w1, hrun, ⟨_, ho, fun x => ?_⟩, hturn⟩
  have hk : WideAt.IsKeyLit (.int .i64 (t : Int)) := trivial
  by_cases e : x = (t : Int)
  · subst e
    rw [Maps.has_put_same h1.isMap hk]
    exact ⟨fun _ => ⟨t, ht, by show (if t = t then true else A t) = true; rw [if_pos rfl], rfl⟩, fun _ => rfl⟩
  · rw [Maps.has_put_other (by intro q; injection q with _ q; exact e q), h2 x]
    constructor
    · rintro ⟨s, a, b, d⟩
      refine ⟨s, a, ?_, d⟩
      show (if s = t then true else A s) = true
      split
      · rfl
      · exact b
    · rintro ⟨s, a, b, d⟩
      refine ⟨s, a, ?_, d⟩
      have b : (if s = t then true else A s) = true := b
      rw [if_neg (fun q => e (by rw [d, q]))] at b
      exact b
theorem qsorts (n : Nat) : AnyZI.SortsIn Tryz.prog qsorted_ren Fence.wide n :=
  ⟨fun blk off cap ss W hH hblk hsz => callsIn_wide.2 (AnyM.slices_Sort_int qsort blk off cap ss W hH hblk hsz),
   fun p cap W => callsIn_wide.2 (AnyM.slices_Sort_int_none qsort p cap W)⟩
theorem Ts.keys {D : DataW Unit} (h1 : w.ownsMap Tryz.prog 3 unitElem m c D) (h2 : ∀ x : Int, Maps.has D (.int .i64 x) = true ↔ ∃ t : Nat, t < N ∧ A t = true ∧ x = (t : Int)) : (rise N A).Perm (intKeys D) := by
  obtain ⟨es, hD, hpw, _⟩ := h1.entries qkeyed
  obtain ⟨es', hD', hko⟩ := h1.keysOf
  obtain rfl : es = es' := by rw [hD] at hD'; simpa using hD'
  subst hD
  refine perm_intKeys hpw (fun p hp => by obtain ⟨v, hv⟩ := hko p hp; obtain ⟨x, _, hx, _⟩ := Maps.keyOf_i64 Tryz.underlying3 hv; exact ⟨x, hx⟩) ((rise_pw N A).imp fun h => by omega) fun x => ?_
  rw [h2 x, rise_mem]
theorem mergeQ {ss : List Int} (h : ss.Perm (rise N A)) : ss.mergeSort leI = rise N A := by
  have hp2 : (ss.mergeSort leI).Perm (rise N A) := (List.mergeSort_perm ss leI).trans h
  have tr : ∀ a b c : Int, leI a b = true → leI b c = true → leI a c = true := fun a b c h1 h2 => by simp only [leI, decide_eq_true_eq] at *; exact Int.le_trans h1 h2
  have to_ : ∀ a b : Int, (leI a b || leI b a) = true := fun a b => by simp only [leI, Bool.or_eq_true, decide_eq_true_eq]; exact Int.le_total a b
  have hs := List.pairwise_mergeSort tr to_ ss
  have hnd : (ss.mergeSort leI).Nodup := hp2.nodup_iff.2 ((rise_pw N A).imp fun h => by omega)
  refine ext_sorted _ _ (List.pairwise_iff_getElem.2 fun i j hi hj hij => ?_) (rise_pw N A) fun x => hp2.mem_iff
  have a := List.pairwise_iff_getElem.1 hs i j hi hj hij
  have b := List.pairwise_iff_getElem.1 hnd i j hi hj hij
  simp only [leI, decide_eq_true_eq] at a
  omega
/-- The keys, as maps.Keys gives them and slices.Sorted lays them. -/
theorem keys_in (n : Nat) (mb : Option Nat) (W : World) : CallsIn Fence.wide (n + 1) Tryz.prog 130 #[.map mb] W fun e w' => e = .returned (.func (.func 143) #[] #[.pointer (some ⟨W.heap.size, 0, none⟩)]) ∧ w' = W.alloc (.cells #[.map mb] 149) :=
  AnyZI.keys_in qkeys Fence.wide (n + 1) trivial rfl mb W
theorem rise_len (N : Nat) (A : Nat → Bool) : (rise N A).length ≤ N := by
  unfold rise
  rw [List.length_map]
  exact Nat.le_trans (List.length_filter_le _ _) (by simp)
/-- What sorting the keys leaves. -/
def KsP (w : World) (xs : List Int) (e : Ending) (w' : World) : Prop := ∃ v, e = .returned v ∧ w'.ownsRow w.heap.size 3 1 v xs.length (xs.map fun x => Value.int .i64 x) ∧ Below w.heap.size w w'
set_option maxRecDepth 20000 in
set_option maxHeartbeats 1000000 in
theorem sorted_ts (h : Ts w m N A c) (hN : N ≤ 1073741824) : CallsIn Fence.wide 5 Tryz.prog 129 #[.func (.func 143) #[] #[.pointer (some ⟨w.heap.size, 0, none⟩)]] (w.alloc (.cells #[.map (some m)] 149)) (KsP w (rise N A)) := by
  obtain ⟨D, hown, h2⟩ := h
  have hkeys := Ts.keys hown h2
  have hsz : Maps.size D = (rise N A).length := by
    have h1 := hkeys.length_eq
    obtain ⟨es, rfl, _⟩ := hown.keysOf
    rw [h1]
    simp [Maps.size, intKeys]
  have hlen := rise_len N A
  have hbl := hown.lt
  have hseq : SeqGives Fence.wide 2 Tryz.prog 143 #[.pointer (some ⟨w.heap.size, 0, none⟩)] encZ (fun ss => ss.Perm (intKeys D)) (Maps.size D) (w.alloc (.cells #[.map (some m)] 149)) :=
    AnyZI.keys_gives (ρ := qkeys_ren) { qkeys with } Fence.wide _ trivial rfl (by omega) w.heap.size m c D _ (by simp) (by simp) (by
      obtain ⟨es, clock, hb, Ft, hs, hD⟩ := hown
      exact ⟨es, clock, (Below.heap_alloc _ _ m hbl).trans hb, Ft, hs, hD⟩)
  have cS := AnyZI.sorted_in qsorted Fence.wide 5 trivial trivial trivial trivial rfl (by omega) (qsorts _) (enters_of Tryz.func142 (by kernel_rfl) rfl) 143 #[.pointer (some ⟨w.heap.size, 0, none⟩)] trivial (enters_of Tryz.func143 (by kernel_rfl) rfl) _ _ (by rw [hsz]; unfold maxLen; omega) (by rw [hsz]; omega) _ hseq
  change CallsIn _ _ Tryz.prog 129 _ _ _ at cS
  refine cS.mono ?_
  rintro e w' ⟨v, ss, rfl, hS, hrow, hnil, hb⟩
  have hm := mergeQ (hS.trans hkeys.symm)
  have hrow2 : w'.ownsRow w.heap.size 3 1 v ss.length ((ss.mergeSort leI).map encZ) := ownsRow_base_a hrow (by simp)
  rw [hm, ← (List.mergeSort_perm ss leI).length_eq, hm] at hrow2
  exact ⟨v, rfl, hrow2, ((Below.refl _ w).alloc (Nat.le_refl _) _).trans (hb.mono (by simp))⟩
end
end Go.Proofs.YtbbmgjcabmjjdaaGreatDoor
