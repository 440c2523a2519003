/- The program's own Load: a set of classes' numbers, a map as it lies in memory; its keys, sorted. -/
import Derived.Test.YtbdfpodglfpjnaaGreatMY34
import Derived.Test.YtbdfpodglfpjnaaGreatMY30
import Derived.Shelf.SlIterI.Nil
import Derived.Shelf.SortM.Plain
import Derived.Shelf.SortM.SortNone
import Derived.Maps.OwnSet
namespace Go.Proofs.YtbdfpodglfpjnaaGreat
open Go.RowKit Go.Shelf

section
variable {F : Fence} {n : Nat} {P : Program} {fn : Func} {tmps : Array Value} {R : Ending → World → Prop}
/-- What the marks' blocks being shut leaves. -/
structure Tko (L : List Nat) (w w' : World) : Prop where
  os : w'.os = w.os
  tape : w'.tape = w.tape
  output : w'.output = w.output
  size : w'.heap.size = w.heap.size
  but : ∀ b, b ∉ L → w'.heap[b]? = w.heap[b]?
/-- A function with many marks leaves. -/
theorem leaves_marks : ∀ (L : List Nat) (w : World), L.Nodup → (∀ D ∈ L, w.heap[D]? = some (.deferred (some []))) → (∀ w', Tko L w w' → LeavesIn F n P fn tmps R [] .returning w') → LeavesInM F n P fn tmps R (L.map fun D => { target := .collected D, args := #[] }) .returning w
  | [], w, _, _, h => h w ⟨rfl, rfl, rfl, rfl, fun _ _ => rfl⟩
  | D :: L, w, hn, hd, h => by
    have h0 := hd D (by simp)
    refine ⟨by simp, .inl ⟨D, _, rfl, run_takeDeferred h0, ?_⟩⟩
    refine leaves_marks L _ (List.nodup_cons.1 hn).2 (fun E hE => ?_) (fun w' h' => h w' ⟨h'.os, h'.tape, h'.output, h'.size.trans (by simp [World.putObj]), fun b hb => (h'.but b (fun q => hb (by simp [q]))).trans (World.putObj_heap_other fun e => hb (by simp [e]))⟩)
    have hne : E ≠ D := fun e => (List.nodup_cons.1 hn).1 (e ▸ hE)
    exact (World.putObj_heap_other hne).trans (hd E (by simp [hE]))
end
/-- What layouts' memory is between two calls: the tree's box, the layouts under way at block g, that block's box. -/
structure LsI (w : World) (S : Nat → Prop) (v : Value) (p : Pg) (W : World) (xs : List Ly) : Prop where
  tr : Sl kCs W S v (trQ p)
  low : ∀ k, S k → k < w.heap.size
  bt : W.cell? ⟨w.heap.size, 0, none⟩ = some v
  bl : W.cell? ⟨w.heap.size + 2, 0, none⟩ = some (.slice (some ⟨w.heap.size + 1, 0, none⟩) (11 + p.cls.length) (11 + p.cls.length))
  row : LsR W w.heap.size (w.heap.size + 1) (11 + p.cls.length) xs
  bel : Below w.heap.size w W
  sz : w.heap.size + 3 ≤ W.heap.size
  cur : ∀ (k : Nat) x, xs[k]? = some x → x = ly0 ∨ x = lyJ p k
section
variable {w W W' : World} {S : Nat → Prop} {v : Value} {p : Pg} {xs : List Ly}
theorem LsI.turn (h : LsI w S v p W xs) (hos : W'.os = W.os) (ht : W'.tape = W.tape) (ho : W'.output = W.output) (hz : W.heap.size ≤ W'.heap.size) (hb : ∀ b, b < W.heap.size → (b < w.heap.size ∨ Ck W b) → W'.heap[b]? = W.heap[b]?) : LsI w S v p W' xs := by
  have hk : ∀ b, Ck W b → W'.heap[b]? = W.heap[b]? := fun b q => hb b q.lt (.inr q)
  have hs := h.sz
  exact ⟨h.tr.keep fun b q => hb b (by have := h.low b q; omega) (.inl (h.low b q)), h.low, (cell_same (hk _ (ck_cell h.bt)) _).trans h.bt, (cell_same (hk _ (ck_cell h.bl)) _).trans h.bl, h.row.turn fun b q _ => hk b q, h.bel.trans ⟨hos, ht, ho, hz, fun b q => hb b (by omega) (.inl q)⟩, by omega, h.cur⟩
theorem LsI.below (h : LsI w S v p W xs) (hb : Below W.heap.size W W') : LsI w S v p W' xs := h.turn hb.os hb.tape hb.output hb.size fun b q _ => hb.block b q
theorem LsI.tko {L : List Nat} (h : LsI w S v p W xs) (hL : ∀ D ∈ L, w.heap.size ≤ D ∧ W.heap[D]? = some (.deferred (some []))) (hb : Tko L W W') : LsI w S v p W' xs := h.turn hb.os hb.tape hb.output (by have := hb.size; omega) fun b _ q => hb.but b fun hm => by
  obtain ⟨h1, h2⟩ := hL b hm
  rcases q with q | ⟨o, q1, q2⟩
  · omega
  · rw [h2] at q1; cases q1; cases q2
/-- A layout is stored. -/
theorem LsI.set (h : LsI w S v p W xs) (hb : Below W.heap.size W W') {i : Nat} (hi : i < 11 + p.cls.length) {cs : List Value} (hR : kLyU.R W' (fun b => W.heap.size ≤ b ∧ b < W'.heap.size) (lyJ p i) cs) : LsI w S v p (W'.setCells (w.heap.size + 1) (i * 4) cs) (xs.set i (lyJ p i)) := by
  have h' := h.below hb
  have hz := h.sz
  have e : ∀ b, b ≠ w.heap.size + 1 → (W'.setCells (w.heap.size + 1) (i * 4) cs).heap[b]? = W'.heap[b]? := fun b q => setCellsJ_else q _ _ _
  have z : (W'.setCells (w.heap.size + 1) (i * 4) cs).heap.size = W'.heap.size := setCellsJ_size _ _ _ _
  obtain ⟨r1, r2, r3⟩ := setCellsJ_rest (w.heap.size + 1) cs (i * 4) W'
  refine ⟨h'.tr.keep fun b q => e b (by have := h.low b q; omega), h.low, (cell_same (e _ (by omega)) _).trans h'.bt, (cell_same (e _ (by omega)) _).trans h'.bl, h'.row.set hi (kLyU.mono (fun b q => ⟨by omega, by omega⟩) hR), h'.bel.trans ⟨r1, r2, r3, by rw [z]; exact Nat.le_refl _, fun b q => e b (by omega)⟩, by rw [z]; exact h'.sz, fun k x hx => ?_⟩
  by_cases q : i = k
  · subst q
    rw [List.getElem?_set_self (by rw [h.row.len]; exact hi)] at hx
    injection hx with hx
    exact .inr hx.symm
  · rw [List.getElem?_set_ne q] at hx
    exact h.cur k x hx
end
/-- Class k has its layout. -/
def Dn (p : Pg) (xs : List Ly) (k : Int) : Prop := ∃ i : Nat, k = (i : Int) ∧ xs[i]? = some (lyJ p (i : Int))
theorem Dn.set {p : Pg} {xs : List Ly} {k : Int} (h : Dn p xs k) {i : Nat} : Dn p (xs.set i (lyJ p i)) k := by
  obtain ⟨j, rfl, h⟩ := h
  refine ⟨j, rfl, ?_⟩
  by_cases e : i = j
  · subst e
    rw [List.getElem?_set_self (List.getElem?_eq_some_iff.1 h).1]
  · rw [List.getElem?_set_ne e]; exact h
theorem Dn.new {p : Pg} {xs : List Ly} {i : Nat} (hi : i < xs.length) : Dn p (xs.set i (lyJ p i)) i := ⟨i, rfl, by rw [List.getElem?_set_self hi]⟩
/-- Along a line, backward: i of it are gone through; W0: the world in which that began. -/
structure LnI (w W0 : World) (S : Nat → Prop) (v : Value) (p : Pg) (c : Nat) (U : List Int) (i : Nat) (W : World) : Prop where
  ex : ∃ xs, LsI w S v p W xs ∧ (∀ k : Nat, k < c → Dn p xs k) ∧ ∀ j x, U.length < j + i + 1 → U[j]? = some x → Dn p xs x
  oth : ∀ b, b < W0.heap.size → b ≠ w.heap.size + 1 → W.heap[b]? = W0.heap[b]?
  sz : W0.heap.size ≤ W.heap.size
theorem lnI_own {w W0 : World} {S : Nat → Prop} {v : Value} {p : Pg} {c : Nat} {U : List Int} (hw : w.heap.size ≤ W0.heap.size) : OwnFrom W0.heap.size (LnI w W0 S v p c U) := fun i A A' row h hg hr => by
  obtain ⟨⟨xs, h1, h2, h3⟩, h4, h5⟩ := h
  have hne : ∀ b, b < A.heap.size → (b < W0.heap.size ∨ Ck A b) → A'.heap[b]? = A.heap[b]? := fun b hb hq => hg.block b hb fun e => by
    obtain ⟨q1, o, q2, q3⟩ := hr b e.symm
    rcases hq with q | ⟨o2, q, q4⟩
    · omega
    · rw [q2] at q; cases q; rw [q3] at q4; cases q4
  exact ⟨⟨xs, h1.turn hg.os hg.tape hg.output hg.size fun b hb hq => hne b hb (hq.imp (fun q => by omega) id), h2, h3⟩, fun b hb hx => (hne b (by omega) (.inl hb)).trans (h4 b hb hx), Nat.le_trans h5 hg.size⟩
/-- Between two classes. -/
structure LsO (w : World) (S : Nat → Prop) (v : Value) (p : Pg) (c : Nat) (Ds : List Nat) (W : World) : Prop where
  ex : ∃ xs, LsI w S v p W xs ∧ ∀ k : Nat, k < c → Dn p xs k
  ds : ∀ D ∈ Ds, w.heap.size ≤ D ∧ W.heap[D]? = some (.deferred (some []))
theorem LsI.all {w W : World} {S : Nat → Prop} {v : Value} {p : Pg} {xs : List Ly} (h : LsI w S v p W xs) (hd : ∀ k : Nat, k < 11 + p.cls.length → Dn p xs k) : xs = allJ p := by
  apply List.ext_getElem?
  intro i
  by_cases hi : i < 11 + p.cls.length
  · obtain ⟨j, hj, hx⟩ := hd i hi
    obtain rfl : i = j := by omega
    rw [hx]
    simp [allJ, nJ, hi]
  · rw [List.getElem?_eq_none (by rw [h.row.len]; omega), List.getElem?_eq_none (by simp [allJ, nJ]; omega)]
/-- A line's next one, its super's layout. -/
theorem line_at {w W W0 : World} {S : Nat → Prop} {v : Value} {p : Pg} (k5 : Kp5 p) {c i j : Nat} {x : Int} (hc : isJ p c = true) (h : LnI w W0 S v p c (lnQ p (11 + p.cls.length) c) i W) (hm : BkM (lnQ p (11 + p.cls.length) c) i (j, x)) : ∃ (xs : List Ly) (a b : Nat) (ya : Ly), x = (a : Int) ∧ nxQ p x = (b : Int) ∧ a < 11 + p.cls.length ∧ b < 11 + p.cls.length ∧ xs[a]? = some ya ∧ (ya = lyJ p a ∨ ya = ly0 ∧ xs[b]? = some (upL p x)) ∧ LsI w S v p W xs ∧ (∀ k : Nat, k < c → Dn p xs k) ∧ ∀ j x, (lnQ p (11 + p.cls.length) c).length < j + i + 1 → (lnQ p (11 + p.cls.length) c)[j]? = some x → Dn p xs x := by
  obtain ⟨xs, h1, h2, h3⟩ := h.ex
  have hp := upOk_of k5.b1
  obtain ⟨hm1, hm2⟩ := hm
  simp only at hm1 hm2
  obtain ⟨hx, -, -⟩ := lnQ_get _ _ _ _ hm2
  have hjx : isJ p x = true := by rw [hx]; exact itQ_ok hp hc j
  obtain ⟨a, rfl, ha⟩ := isJ_nat hjx
  obtain ⟨b, hb, hbl⟩ := isJ_nat (hp _ hjx)
  obtain ⟨ya, hya⟩ : ∃ ya, xs[a]? = some ya := ⟨_, List.getElem?_eq_getElem (by rw [h1.row.len]; exact ha)⟩
  refine ⟨xs, a, b, ya, rfl, hb, ha, hbl, hya, ?_, h1, h2, h3⟩
  rcases h1.cur a ya hya with e | e
  · refine .inr ⟨e, ?_⟩
    by_cases h0 : (a : Int) = 0
    · have : b = 0 := by rw [h0] at hb; have : nxQ p 0 = 0 := nx_zero; omega
      have ea : a = 0 := by omega
      subst this ea
      rw [hya, e]
      rfl
    · obtain ⟨m, hml, hmz⟩ := line_top k5.b1 k5.b2 hc
      have hjm : j ≠ m := fun q => h0 (by rw [hx, q]; exact hmz)
      obtain ⟨y, hy⟩ : ∃ y, (lnQ p (11 + p.cls.length) c)[j + 1]? = some y := ⟨_, List.getElem?_eq_getElem (by omega)⟩
      obtain ⟨hy1, -, -⟩ := lnQ_get _ _ _ _ hy
      obtain ⟨b', hb', hd⟩ := h3 (j + 1) y (by omega) hy
      have e2 : y = nxQ p (a : Int) := by rw [hy1, hx]; rfl
      obtain rfl : b' = b := by rw [e2, hb] at hb'; omega
      rw [hd]
      unfold upL
      rw [if_neg h0, hb]
  · exact .inl e
end Go.Proofs.YtbdfpodglfpjnaaGreat
namespace Go.Proofs.YtbdfpodglfpjnaaGreat
open Go.RowKit Go.Maps Go.Sort Go.Shelf

def qkeys_ren : Go.Shelf.Ren := ⟨fun | 7 => 105 | 10 => 113 | n => n, fun | 23 => 137 | 26 => 3 | 3 => 138 | 28 => 89 | 0 => 0 | 27 => 88 | 33 => 33 | 4 => 4 | n => n, fun | n => n⟩
theorem qkeys : Go.Proofs.SlLaysZI.n7 Tryz.prog qkeys_ren := {
  mixed := by kernel_rfl
  f7 := ⟨Tryz.f105.name, by decide, Tryz.func105.trans (congrArg some (by kernel_rfl))⟩
  f10 := ⟨Tryz.f113.name, by decide, Tryz.func113.trans (congrArg some (by kernel_rfl))⟩
  t0 := Tryz.underlying0
  a0 := Tryz.isAgg0
  z0 := Tryz.sizeOf0
  v0 := Tryz.zeroValue0
  t4 := Tryz.underlying4
  a4 := Tryz.isAgg4
  z4 := Tryz.sizeOf4
  v4 := Tryz.zeroValue4
  t23 := Tryz.underlying137
  a23 := Tryz.isAgg137
  z23 := Tryz.sizeOf137
  v23 := Tryz.zeroValue137
  t26 := Tryz.underlying3
  a26 := Tryz.isAgg3
  z26 := Tryz.sizeOf3
  v26 := Tryz.zeroValue3
  t27 := Tryz.underlying88
  a27 := Tryz.isAgg88
  z27 := Tryz.sizeOf88
  v27 := Tryz.zeroValue88
  t28 := Tryz.underlying89
  a28 := Tryz.isAgg89
  z28 := Tryz.sizeOf89
  v28 := Tryz.zeroValue89
  t33 := Tryz.underlying33
  a33 := Tryz.isAgg33
  z33 := Tryz.sizeOf33
  v33 := Tryz.zeroValue33 }
def qsorted_ren : Go.Shelf.Ren := ⟨fun | 6 => 104 | 8 => 67 | 9 => 112 | 11 => 87 | 13 => 108 | 12 => 132 | 23 => 122 | 24 => 123 | 14 => 141 | 15 => 142 | 16 => 143 | 17 => 144 | 18 => 145 | 19 => 146 | 20 => 147 | 21 => 148 | 22 => 149 | 25 => 152 | 26 => 134 | 27 => 135 | 28 => 153 | 29 => 154 | 30 => 91 | 31 => 155 | n => n, fun | 26 => 3 | 28 => 89 | 24 => 27 | 0 => 0 | 3 => 3 | 37 => 59 | 48 => 155 | 50 => 157 | 4 => 4 | 40 => 149 | 39 => 148 | 45 => 128 | 5 => 5 | 9 => 9 | 51 => 166 | 55 => 170 | 57 => 179 | 58 => 180 | 33 => 33 | n => n, fun | n => n⟩
theorem qsorted : Go.Proofs.SlLaysZI.n6 Tryz.prog qsorted_ren := {
  mixed := by kernel_rfl
  f6 := ⟨Tryz.f104.name, by decide, Tryz.func104.trans (congrArg some (by kernel_rfl))⟩
  f8 := ⟨Tryz.f67.name, by decide, Tryz.func67.trans (congrArg some (by kernel_rfl))⟩
  f11 := ⟨Tryz.f87.name, by decide, Tryz.func87.trans (congrArg some (by kernel_rfl))⟩
  t0 := Tryz.underlying0
  a0 := Tryz.isAgg0
  z0 := Tryz.sizeOf0
  v0 := Tryz.zeroValue0
  t24 := Tryz.underlying27
  a24 := Tryz.isAgg27
  z24 := Tryz.sizeOf27
  v24 := Tryz.zeroValue27
  t26 := Tryz.underlying3
  a26 := Tryz.isAgg3
  z26 := Tryz.sizeOf3
  v26 := Tryz.zeroValue3
  t28 := Tryz.underlying89
  a28 := Tryz.isAgg89
  z28 := Tryz.sizeOf89
  v28 := Tryz.zeroValue89
  i26 := by kernel_rfl }
def qsort_ren : Go.Shelf.Ren := ⟨fun | 5 => 112 | 8 => 108 | 7 => 132 | 19 => 122 | 20 => 123 | 10 => 141 | 11 => 142 | 12 => 143 | 13 => 144 | 14 => 145 | 15 => 146 | 16 => 147 | 17 => 148 | 18 => 149 | 30 => 152 | 31 => 134 | 32 => 135 | 33 => 153 | 34 => 154 | 35 => 91 | 40 => 155 | n => n, fun | 23 => 27 | 25 => 3 | 3 => 3 | 32 => 59 | 22 => 27 | 0 => 0 | 44 => 155 | 46 => 157 | 4 => 4 | 36 => 149 | 35 => 148 | 41 => 128 | 5 => 5 | 9 => 9 | 53 => 166 | 57 => 170 | 63 => 179 | 64 => 180 | n => n, fun | n => n⟩
theorem qsort : Go.Proofs.SlLaysM.n5 Tryz.prog qsort_ren := {
  mixed := by kernel_rfl
  f5 := ⟨Tryz.f112.name, by decide, Tryz.func112.trans (congrArg some (by kernel_rfl))⟩
  f7 := ⟨Tryz.f132.name, by decide, Tryz.func132.trans (congrArg some (by kernel_rfl))⟩
  f8 := Tryz.func108.trans (congrArg some (by kernel_rfl))
  f10 := ⟨Tryz.f141.name, by decide, Tryz.func141.trans (congrArg some (by kernel_rfl))⟩
  f11 := ⟨Tryz.f142.name, by decide, Tryz.func142.trans (congrArg some (by kernel_rfl))⟩
  f12 := ⟨Tryz.f143.name, by decide, Tryz.func143.trans (congrArg some (by kernel_rfl))⟩
  f13 := ⟨Tryz.f144.name, by decide, Tryz.func144.trans (congrArg some (by kernel_rfl))⟩
  f14 := ⟨Tryz.f145.name, by decide, Tryz.func145.trans (congrArg some (by kernel_rfl))⟩
  f15 := ⟨Tryz.f146.name, by decide, Tryz.func146.trans (congrArg some (by kernel_rfl))⟩
  f16 := ⟨Tryz.f147.name, by decide, Tryz.func147.trans (congrArg some (by kernel_rfl))⟩
  f17 := ⟨Tryz.f148.name, by decide, Tryz.func148.trans (congrArg some (by kernel_rfl))⟩
  f18 := ⟨Tryz.f149.name, by decide, Tryz.func149.trans (congrArg some (by kernel_rfl))⟩
  f19 := Tryz.func122.trans (congrArg some (by kernel_rfl))
  f20 := Tryz.func123.trans (congrArg some (by kernel_rfl))
  f30 := ⟨Tryz.f152.name, by decide, Tryz.func152.trans (congrArg some (by kernel_rfl))⟩
  f31 := Tryz.func134.trans (congrArg some (by kernel_rfl))
  f32 := Tryz.func135.trans (congrArg some (by kernel_rfl))
  f33 := ⟨Tryz.f153.name, by decide, Tryz.func153.trans (congrArg some (by kernel_rfl))⟩
  f34 := ⟨Tryz.f154.name, by decide, Tryz.func154.trans (congrArg some (by kernel_rfl))⟩
  f35 := ⟨Tryz.f91.name, by decide, Tryz.func91.trans (congrArg some (by kernel_rfl))⟩
  f40 := ⟨Tryz.f155.name, by decide, Tryz.func155.trans (congrArg some (by kernel_rfl))⟩
  t0 := Tryz.underlying0
  a0 := Tryz.isAgg0
  z0 := Tryz.sizeOf0
  v0 := Tryz.zeroValue0
  t3 := Tryz.underlying3
  a3 := Tryz.isAgg3
  z3 := Tryz.sizeOf3
  v3 := Tryz.zeroValue3
  t4 := Tryz.underlying4
  a4 := Tryz.isAgg4
  z4 := Tryz.sizeOf4
  v4 := Tryz.zeroValue4
  t5 := Tryz.underlying5
  a5 := Tryz.isAgg5
  z5 := Tryz.sizeOf5
  v5 := Tryz.zeroValue5
  t9 := Tryz.underlying9
  a9 := Tryz.isAgg9
  z9 := Tryz.sizeOf9
  v9 := Tryz.zeroValue9
  t22 := Tryz.underlying27
  a22 := Tryz.isAgg27
  z22 := Tryz.sizeOf27
  v22 := Tryz.zeroValue27
  t23 := Tryz.underlying27
  a23 := Tryz.isAgg27
  z23 := Tryz.sizeOf27
  v23 := Tryz.zeroValue27
  t25 := Tryz.underlying3
  a25 := Tryz.isAgg3
  z25 := Tryz.sizeOf3
  v25 := Tryz.zeroValue3
  t32 := Tryz.underlying59
  a32 := Tryz.isAgg59
  z32 := Tryz.sizeOf59
  v32 := Tryz.zeroValue59
  t35 := Tryz.underlying148
  a35 := Tryz.isAgg148
  z35 := Tryz.sizeOf148
  v35 := Tryz.zeroValue148
  t36 := Tryz.underlying149
  a36 := Tryz.isAgg149
  z36 := Tryz.sizeOf149
  v36 := Tryz.zeroValue149
  t41 := Tryz.underlying128
  a41 := Tryz.isAgg128
  z41 := Tryz.sizeOf128
  v41 := Tryz.zeroValue128
  t44 := Tryz.underlying155
  a44 := Tryz.isAgg155
  z44 := Tryz.sizeOf155
  v44 := Tryz.zeroValue155
  t46 := Tryz.underlying157
  a46 := Tryz.isAgg157
  z46 := Tryz.sizeOf157
  v46 := Tryz.zeroValue157
  t53 := Tryz.underlying166
  a53 := Tryz.isAgg166
  z53 := Tryz.sizeOf166
  v53 := Tryz.zeroValue166
  t57 := Tryz.underlying170
  a57 := Tryz.isAgg170
  z57 := Tryz.sizeOf170
  v57 := Tryz.zeroValue170
  t63 := Tryz.underlying179
  a63 := Tryz.isAgg179
  z63 := Tryz.sizeOf179
  v63 := Tryz.zeroValue179
  t64 := Tryz.underlying180
  a64 := Tryz.isAgg180
  z64 := Tryz.sizeOf180
  v64 := Tryz.zeroValue180 }

theorem qkeyed : Maps.Keyed Tryz.prog 3 := Maps.int_keyed Tryz.underlying3
/-- Block m is a set: it has the numbers of A below N, and no others; c bounds what was stored. -/
def Ts (w : World) (m N : Nat) (A : Nat → Bool) (c : Nat) : Prop :=
  ∃ D : DataW Unit, w.ownsMap Tryz.prog 3 unitElem m c D ∧ ∀ x : Int, Maps.has D (.int .i64 x) = true ↔ ∃ t : Nat, t < N ∧ A t = true ∧ x = (t : Int)
section
variable {w w' : World} {m N c : Nat} {A : Nat → Bool}
theorem Ts.of_block (h : Ts w m N A c) (e : w'.heap[m]? = w.heap[m]?) : Ts w' m N A c := by
  obtain ⟨D, ⟨es, clock, hb, r⟩, h2⟩ := h
  exact ⟨D, ⟨es, clock, e.trans hb, r⟩, h2⟩
theorem Ts.lt (h : Ts w m N A c) : m < w.heap.size := let ⟨_, h1, _⟩ := h; h1.lt
theorem Ts.is_map (h : Ts w m N A c) : ∃ es clock, w.heap[m]? = some (.map es clock) := let ⟨_, ⟨es, clock, hb, _⟩, _⟩ := h; ⟨es, clock, hb⟩
theorem Ts.congr (h : Ts w m N A c) {C : Nat → Bool} (e : ∀ i, i < N → A i = C i) : Ts w m N C c := by
  obtain ⟨D, h1, h2⟩ := h
  refine ⟨D, h1, fun x => (h2 x).trans ?_⟩
  constructor
  · rintro ⟨t, a, b, d⟩; exact ⟨t, a, by rw [← e t a]; exact b, d⟩
  · rintro ⟨t, a, b, d⟩; exact ⟨t, a, by rw [e t a]; exact b, d⟩
theorem Ts.made (w : World) (N : Nat) : Ts (w.alloc (.map #[] 0)) w.heap.size N (fun _ => false) 0 :=
  ⟨_, World.ownsMap_made w Tryz.prog 3 unitElem, fun x => by
    constructor
    · intro h; cases h
    · rintro ⟨_, _, h, _⟩; cases h⟩
theorem Ts.look (h : Ts w m N A c) {t : Nat} (ht : t < N) (hN : N ≤ 4611686018427387904) : (Instr.lookup 137 (.map (some m)) (.int .i64 t) true).run Tryz.prog w = .ok (.tuple #[.agg #[], .bool (A t)]) w := by
  obtain ⟨D, h1, h2⟩ := h
  have hz : (zeroValue 138).run Tryz.prog w = .ok (.agg #[]) w := by kernel_rfl
  obtain ⟨v, ps, hrun, hv⟩ := h1.look_ok qkeyed Tryz.underlying137 hz unitElem_mk (Maps.keyOf_int_mk Tryz.underlying3 (WalkArith.wf_i64 (by omega) : (Lit.int .i64 (t : Int)).wf = true))
  obtain ⟨rfl, _⟩ := unitElem_inv hv
  have : Maps.has D (.int .i64 (t : Int)) = A t := by
    rcases hA : A t with _ | _
    · rcases hh : Maps.has D (.int .i64 (t : Int)) with _ | _
      · rfl
      · obtain ⟨s, _, hs, e⟩ := (h2 t).1 hh
        have : s = t := by omega
        rw [this, hA] at hs; cases hs
    · exact (h2 t).2 ⟨t, ht, hA, rfl⟩
  rw [this] at hrun
  exact hrun
theorem Ts.store (h : Ts w m N A c) {t : Nat} (ht : t < N) (hN : N ≤ 4611686018427387904) (hc : c < maxLen) :
    ∃ w', (Instr.mapUpdate 137 (.map (some m)) (.int .i64 t) (.agg #[])).run Tryz.prog w = .ok () w' ∧ Ts w' m N (fun s => if s = t then true else A s) (c + 1) ∧ w.mapTurned w' m := by
  obtain ⟨D, h1, h2⟩ := h
  obtain ⟨w1, hrun, ho, hturn⟩ := h1.store qkeyed Tryz.underlying137 hc (Maps.keyOf_int_mk Tryz.underlying3 (WalkArith.wf_i64 (by omega) : (Lit.int .i64 (t : Int)).wf = true)) (unitElem_mk (H := Unit))
  refine ⟨w1, hrun, ⟨_, ho, fun x => ?_⟩, hturn⟩
  have hk : WideAt.IsKeyLit (.int .i64 (t : Int)) := trivial
  by_cases e : x = (t : Int)
  · subst e
    rw [Maps.has_put_same h1.isMap hk]
    exact ⟨fun _ => ⟨t, ht, by show (if t = t then true else A t) = true; rw [if_pos rfl], rfl⟩, fun _ => rfl⟩
  · rw [Maps.has_put_other (by intro q; injection q with _ q; exact e q), h2 x]
    constructor
    · rintro ⟨s, a, b, d⟩
      refine ⟨s, a, ?_, d⟩
      show (if s = t then true else A s) = true
      split
      · rfl
      · exact b
    · rintro ⟨s, a, b, d⟩
      refine ⟨s, a, ?_, d⟩
      have b : (if s = t then true else A s) = true := b
      rw [if_neg (fun q => e (by rw [d, q]))] at b
      exact b
theorem qsorts (n : Nat) : AnyZI.SortsIn Tryz.prog qsorted_ren Fence.wide n :=
  ⟨fun blk off cap ss W hH hblk hsz => callsIn_wide.2 (AnyM.slices_Sort_int qsort blk off cap ss W hH hblk hsz),
   fun p cap W => callsIn_wide.2 (AnyM.slices_Sort_int_none qsort p cap W)⟩
theorem Ts.keys {D : DataW Unit} (h1 : w.ownsMap Tryz.prog 3 unitElem m c D) (h2 : ∀ x : Int, Maps.has D (.int .i64 x) = true ↔ ∃ t : Nat, t < N ∧ A t = true ∧ x = (t : Int)) : (rise N A).Perm (intKeys D) := by
  obtain ⟨es, hD, hpw, _⟩ := h1.entries qkeyed
  obtain ⟨es', hD', hko⟩ := h1.keysOf
  obtain rfl : es = es' := by rw [hD] at hD'; simpa using hD'
  subst hD
  refine perm_intKeys hpw (fun p hp => by obtain ⟨v, hv⟩ := hko p hp; obtain ⟨x, _, hx, _⟩ := Maps.keyOf_i64 Tryz.underlying3 hv; exact ⟨x, hx⟩) ((rise_pw N A).imp fun h => by omega) fun x => ?_
  rw [h2 x, rise_mem]
theorem mergeQ {ss : List Int} (h : ss.Perm (rise N A)) : ss.mergeSort leI = rise N A := by
  have hp2 : (ss.mergeSort leI).Perm (rise N A) := (List.mergeSort_perm ss leI).trans h
  have tr : ∀ a b c : Int, leI a b = true → leI b c = true → leI a c = true := fun a b c h1 h2 => by simp only [leI, decide_eq_true_eq] at *; exact Int.le_trans h1 h2
  have to_ : ∀ a b : Int, (leI a b || leI b a) = true := fun a b => by simp only [leI, Bool.or_eq_true, decide_eq_true_eq]; exact Int.le_total a b
  have hs := List.pairwise_mergeSort tr to_ ss
  have hnd : (ss.mergeSort leI).Nodup := hp2.nodup_iff.2 ((rise_pw N A).imp fun h => by omega)
  refine ext_sorted _ _ (List.pairwise_iff_getElem.2 fun i j hi hj hij => ?_) (rise_pw N A) fun x => hp2.mem_iff
  have a := List.pairwise_iff_getElem.1 hs i j hi hj hij
  have b := List.pairwise_iff_getElem.1 hnd i j hi hj hij
  simp only [leI, decide_eq_true_eq] at a
  omega
/-- The keys, as maps.Keys gives them and slices.Sorted lays them. -/
theorem keys_in (n : Nat) (mb : Option Nat) (W : World) : CallsIn Fence.wide (n + 1) Tryz.prog 105 #[.map mb] W fun e w' => e = .returned (.func (.func 113) #[] #[.pointer (some ⟨W.heap.size, 0, none⟩)]) ∧ w' = W.alloc (.cells #[.map mb] 137) :=
  AnyZI.keys_in qkeys Fence.wide (n + 1) trivial rfl mb W
theorem rise_len (N : Nat) (A : Nat → Bool) : (rise N A).length ≤ N := by
  unfold rise
  rw [List.length_map]
  exact Nat.le_trans (List.length_filter_le _ _) (by simp)
/-- What sorting the keys leaves. -/
def KsP (w : World) (xs : List Int) (e : Ending) (w' : World) : Prop := ∃ v, e = .returned v ∧ w'.ownsRow w.heap.size 3 1 v xs.length (xs.map fun x => Value.int .i64 x) ∧ Below w.heap.size w w'
set_option maxRecDepth 20000 in
set_option maxHeartbeats 1000000 in
theorem sorted_ts (h : Ts w m N A c) (hN : N ≤ 1073741824) : CallsIn Fence.wide 5 Tryz.prog 104 #[.func (.func 113) #[] #[.pointer (some ⟨w.heap.size, 0, none⟩)]] (w.alloc (.cells #[.map (some m)] 137)) (KsP w (rise N A)) := by
  obtain ⟨D, hown, h2⟩ := h
  have hkeys := Ts.keys hown h2
  have hsz : Maps.size D = (rise N A).length := by
    have h1 := hkeys.length_eq
    obtain ⟨es, rfl, _⟩ := hown.keysOf
    rw [h1]
    simp [Maps.size, intKeys]
  have hlen := rise_len N A
  have hbl := hown.lt
  have hseq : SeqGives Fence.wide 2 Tryz.prog 113 #[.pointer (some ⟨w.heap.size, 0, none⟩)] encZ (fun ss => ss.Perm (intKeys D)) (Maps.size D) (w.alloc (.cells #[.map (some m)] 137)) :=
    AnyZI.keys_gives (ρ := qkeys_ren) { qkeys with } Fence.wide _ trivial rfl (by omega) w.heap.size m c D _ (by simp) (by simp) (by
      obtain ⟨es, clock, hb, Ft, hs, hD⟩ := hown
      exact ⟨es, clock, (Below.heap_alloc _ _ m hbl).trans hb, Ft, hs, hD⟩)
  have cS := AnyZI.sorted_in qsorted Fence.wide 5 trivial trivial trivial trivial rfl (by omega) (qsorts _) (enters_of Tryz.func112 (by kernel_rfl) rfl) 113 #[.pointer (some ⟨w.heap.size, 0, none⟩)] trivial (enters_of Tryz.func113 (by kernel_rfl) rfl) _ _ (by rw [hsz]; unfold maxLen; omega) (by rw [hsz]; omega) _ hseq
  change CallsIn _ _ Tryz.prog 104 _ _ _ at cS
  refine cS.mono ?_
  rintro e w' ⟨v, ss, rfl, hS, hrow, hnil, hb⟩
  have hm := mergeQ (hS.trans hkeys.symm)
  have hrow2 : w'.ownsRow w.heap.size 3 1 v ss.length ((ss.mergeSort leI).map encZ) := ownsRow_base_a hrow (by simp)
  rw [hm, ← (List.mergeSort_perm ss leI).length_eq, hm] at hrow2
  exact ⟨v, rfl, hrow2, ((Below.refl _ w).alloc (Nat.le_refl _) _).trans (hb.mono (by simp))⟩
end
end Go.Proofs.YtbdfpodglfpjnaaGreat
