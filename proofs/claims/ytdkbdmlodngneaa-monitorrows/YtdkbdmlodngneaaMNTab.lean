/- A table of monitors as it lies in memory; hasThread, acts, owns, take. -/
import Derived.Test.YtdkbdmlodngneaaMNDel
import Derived.BigRegion
import Derived.Deep.RegionHeld3
import Derived.Deep.QuietTactic
import Derived.Deep.DeepCutAuto
import Derived.Deep.LoopGhost
namespace Go.Proofs.Ytdkbdmlodngneaa
open Go.RowKit

def encV (x : Int × Int) : List Value := [.int .i64 x.1, .int .i64 x.2]
/-- Monitors, plain: how many threads, their states; who owns which, how deep; how deep who comes back was; who waits. -/
structure Mt where
  N : Nat
  st : Nat → Int
  ow : Int → Option (Int × Int)
  bk : Int × Int → Option Int
  wt : List (Int × Int)
structure MnC (B : Nat) (w : World) (s bs mo mb : Nat) (wv : Value) (M : Mt) (c : Nat) : Prop where
  hB : B ≤ s ∧ B ≤ bs ∧ B ≤ mo ∧ B ≤ mb
  hs : w.heap[s]? = some (.cells #[.slice (some ⟨bs, 0, none⟩) M.N M.N, .map (some mo), wv, .map (some mb)] 46 (0, 0))
  hst : w.rowIs bs 3 M.N (fun i => .int .i64 (M.st i))
  ho : Mv kO w mo M.ow c
  hb : Mv kB w mb M.bk c
  hne : mo ≠ mb
  hw : Rs w B 53 2 wv (M.wt.map encV)
  hN : M.N ≤ 8
  hc : c ≤ 1000000
  wl : M.wt.length ≤ c
section
variable {B : Nat} {w w' : World} {s bs mo mb : Nat} {wv : Value} {M : Mt} {c : Nat}
theorem MnC.bs_blk (h : MnC B w s bs mo mb wv M c) : ∃ cs, w.heap[bs]? = some (.cells cs 3 (0, 0)) := let ⟨cs, h1, _⟩ := h.hst; ⟨cs, h1⟩
theorem MnC.of_blocks (h : MnC B w s bs mo mb wv M c) (e1 : w'.heap[s]? = w.heap[s]?) (e2 : w'.heap[bs]? = w.heap[bs]?) (e3 : w'.heap[mo]? = w.heap[mo]?) (e4 : w'.heap[mb]? = w.heap[mb]?) (e5 : ∀ j, wv.ownBlock = some j → w'.heap[j]? = w.heap[j]?) : MnC B w' s bs mo mb wv M c where
  hB := h.hB
  hs := e1.trans h.hs
  hst := by obtain ⟨cs, q1, q2⟩ := h.hst; exact ⟨cs, e2.trans q1, q2⟩
  ho := h.ho.of_block e3
  hb := h.hb.of_block e4
  hne := h.hne
  hw := h.hw.of_block e5
  hN := h.hN
  hc := h.hc
  wl := h.wl
theorem MnC.lt (h : MnC B w s bs mo mb wv M c) : s < w.heap.size ∧ bs < w.heap.size ∧ mo < w.heap.size ∧ mb < w.heap.size := by
  obtain ⟨cs, hb⟩ := h.bs_blk
  exact ⟨box_lt h.hs, box_lt hb, h.ho.lt, h.hb.lt⟩
theorem MnC.below (h : MnC B w s bs mo mb wv M c) (b : Below w.heap.size w w') : MnC B w' s bs mo mb wv M c :=
  h.of_blocks (b.block s h.lt.1) (b.block bs h.lt.2.1) (b.block mo h.lt.2.2.1) (b.block mb h.lt.2.2.2) fun j hj => b.block j (h.hw.lt hj).2
theorem MnC.mono (h : MnC B w s bs mo mb wv M c) {c' : Nat} (h1 : c ≤ c') (h2 : c' ≤ 1000000) : MnC B w s bs mo mb wv M c' := ⟨h.hB, h.hs, h.hst, h.ho.mono h1, h.hb.mono h1, h.hne, h.hw, h.hN, h2, Nat.le_trans h.wl h1⟩
/-- The blocks are apart. -/
theorem MnC.apart (h : MnC B w s bs mo mb wv M c) : (s ≠ bs ∧ s ≠ mo ∧ s ≠ mb) ∧ (bs ≠ mo ∧ bs ≠ mb) ∧ ∀ j, wv.ownBlock = some j → j ≠ s ∧ j ≠ bs ∧ j ≠ mo ∧ j ≠ mb := by
  obtain ⟨cs, hb⟩ := h.bs_blk
  obtain ⟨e1, k1, hmo⟩ := h.ho.is_map
  obtain ⟨e2, k2, hmb⟩ := h.hb.is_map
  have hs := h.hs
  refine ⟨⟨?_, ?_, ?_⟩, ⟨?_, ?_⟩, fun j hj => ?_⟩
  · rintro rfl; rw [hb] at hs; simp at hs
  · rintro rfl; rw [hmo] at hs; simp at hs
  · rintro rfl; rw [hmb] at hs; simp at hs
  · rintro rfl; rw [hmo] at hb; simp at hb
  · rintro rfl; rw [hmb] at hb; simp at hb
  · obtain ⟨cur, hj⟩ := h.hw.kind hj
    refine ⟨?_, ?_, ?_, ?_⟩
    · rintro rfl; rw [hj] at hs; simp at hs
    · rintro rfl; rw [hj] at hb; simp at hb
    · rintro rfl; rw [hj] at hmo; simp at hmo
    · rintro rfl; rw [hj] at hmb; simp at hmb
theorem MnC.cells (h : MnC B w s bs mo mb wv M c) : w.cell? ⟨s, 0, none⟩ = some (.slice (some ⟨bs, 0, none⟩) M.N M.N) ∧ w.cell? ⟨s, 1, none⟩ = some (.map (some mo)) ∧ w.cell? ⟨s, 2, none⟩ = some wv ∧ w.cell? ⟨s, 3, none⟩ = some (.map (some mb)) := by
  have hs := h.hs
  refine ⟨?_, ?_, ?_, ?_⟩ <;> simp [World.cell?, hs]
/-- A state is told. -/
theorem MnC.set (h : MnC B w s bs mo mb wv M c) (t : Nat) (x : Int) : MnC B (w.setCell ⟨bs, t, none⟩ (.int .i64 x)) s bs mo mb wv { M with st := fun i => if i = t then x else M.st i } c := by
  obtain ⟨⟨a1, a2, a3⟩, ⟨b1, b2⟩, c1⟩ := h.apart
  refine ⟨h.hB, (heap_put _ _ a1).trans h.hs, ?_, h.ho.of_block (heap_put _ _ (fun e => b1 e.symm)), h.hb.of_block (heap_put _ _ (fun e => b2 e.symm)), h.hne, h.hw.of_block fun j hj => heap_put _ _ (c1 j hj).2.1, h.hN, h.hc, h.wl⟩
  obtain ⟨cs, q1, q2, q3⟩ := h.hst
  refine ⟨_, set_blk q1 t _, by simpa using q2, fun i hi => ?_⟩
  rw [Array.getElem?_setIfInBounds]
  by_cases e : t = i
  · subst e
    rw [if_pos rfl, if_pos (by rw [q2]; exact hi)]
    simp
  · rw [if_neg e, q3 i hi]
    show _ = some (Value.int .i64 (if i = t then x else M.st i))
    rw [if_neg (fun q => e q.symm)]
theorem below_set {B : Nat} {a w : World} {b i : Nat} {v : Value} (h : Below B a w) (hb : B ≤ b) : Below B a (w.setCell ⟨b, i, none⟩ v) :=
  h.trans ⟨rfl, rfl, rfl, by simp [World.setCell], fun k hk => heap_put _ _ (by show k ≠ b; omega)⟩
theorem below_map {B : Nat} {a w w' : World} {m : Nat} (h : Below B a w) (ht : w.mapTurned w' m) (hm : B ≤ m) (hw : B ≤ w.heap.size) : Below B a w' := by
  have g := ht.grown
  exact h.trans ⟨g.os, g.tape, g.output, by have := g.size; omega, fun k hk => g.block k (by omega) (fun e => by injection e with e; omega)⟩
theorem MnC.Bw (h : MnC B w s bs mo mb wv M c) : B ≤ w.heap.size := by have := h.hB.1; have := h.lt.1; omega
/-- Who owns which is told. -/
theorem MnC.own (h : MnC B w s bs mo mb wv M c) {f : Int → Option (Int × Int)} {c' : Nat} (ho : Mv kO w' mo f c') (ht : w.mapTurned w' mo) (h1 : c ≤ c') (h2 : c' ≤ 1000000) : MnC B w' s bs mo mb wv { M with ow := f } c' := by
  obtain ⟨⟨a1, a2, a3⟩, ⟨b1, b2⟩, c1⟩ := h.apart
  have g := ht.grown
  have e : ∀ k, k < w.heap.size → k ≠ mo → w'.heap[k]? = w.heap[k]? := fun k hk q => g.block k hk (fun e => by injection e with e; exact q e)
  have h' := h.mono h1 h2
  exact ⟨h.hB, (e s h.lt.1 a2).trans h.hs, (by obtain ⟨cs, q1, q2⟩ := h.hst; exact ⟨cs, (e bs h.lt.2.1 b1).trans q1, q2⟩), ho, h'.hb.of_block (e mb h.lt.2.2.2 (fun q => h.hne q.symm)), h.hne, h.hw.of_block fun j hj => e j (h.hw.lt hj).2 (c1 j hj).2.2.1, h.hN, h2, h'.wl⟩
theorem MnC.bak (h : MnC B w s bs mo mb wv M c) {f : Int × Int → Option Int} {c' : Nat} (ho : Mv kB w' mb f c') (ht : w.mapTurned w' mb) (h1 : c ≤ c') (h2 : c' ≤ 1000000) : MnC B w' s bs mo mb wv { M with bk := f } c' := by
  obtain ⟨⟨a1, a2, a3⟩, ⟨b1, b2⟩, c1⟩ := h.apart
  have g := ht.grown
  have e : ∀ k, k < w.heap.size → k ≠ mb → w'.heap[k]? = w.heap[k]? := fun k hk q => g.block k hk (fun e => by injection e with e; exact q e)
  have h' := h.mono h1 h2
  exact ⟨h.hB, (e s h.lt.1 a3).trans h.hs, (by obtain ⟨cs, q1, q2⟩ := h.hst; exact ⟨cs, (e bs h.lt.2.1 b2).trans q1, q2⟩), h'.ho.of_block (e mo h.lt.2.2.1 h.hne), ho, h.hne, h.hw.of_block fun j hj => e j (h.hw.lt hj).2 (c1 j hj).2.2.2, h.hN, h2, h'.wl⟩
set_option maxRecDepth 20000 in
theorem nhas_ok (h : MnC B w s bs mo mb wv M c) {t : Nat} (ht : t < M.N) : Calls Try.prog 21 #[.pointer (some ⟨s, 0, none⟩), .int .i64 t] w fun e w' => e = .returned (.bool true) ∧ w' = w := by
  obtain ⟨c0, -, -, -⟩ := h.cells
  have h1 : (t : Int) < (M.N : Int) := by omega
  have hN := h.hN
  have h0 : (0 : Int) ≤ (t : Int) := by omega
  clear h
  generalize M.N = N at *
  go_enter Try.func21, Try.ntmps21
  go_wp2
  go_ret
  exact ⟨rfl, rfl⟩
set_option maxRecDepth 20000 in
theorem nacts_ok (h : MnC B w s bs mo mb wv M c) {t : Nat} (ht : t < M.N) (hs : M.st t ≠ 2) : Calls Try.prog 15 #[.pointer (some ⟨s, 0, none⟩), .int .i64 t] w fun e w' => e = .returned (.int .i64 0) ∧ w' = w := by
  have hH := nhas_ok h ht
  obtain ⟨c0, -, -, -⟩ := h.cells
  have cst := h.hst.cell ht
  have h1 : (t : Int) < (M.N : Int) := by omega
  have h0 : (0 : Int) ≤ (t : Int) := by omega
  have e2 : (M.st t == 2) = false := by simp [hs]
  clear h hs
  generalize M.st t = x at *
  generalize M.N = N at *
  go_enter Try.func15, Try.ntmps15
  go_wp2_with (go_at_call 21; refine hH.mono ?_; rintro e w9 ⟨rfl, hw9⟩; replace hw9 := hw9.symm; subst hw9)
  go_ret
  exact ⟨rfl, rfl⟩
end
end Go.Proofs.Ytdkbdmlodngneaa
