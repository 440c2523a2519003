/- The arena as it lies in memory; its small functions: whatever they are asked, what they answer. -/
import Derived.Test.YtojblddfggoecaaGreatRows
import Derived.WalkKit
import Derived.ProofKit
import Derived.BigQuiet
import Derived.Deep.OwnRows
import Derived.Deep.RegionWith
import Derived.Laws.Rows
import Derived.Deep.Draws
namespace Go.Proofs.YtojblddfggoecaaGreat
open Go.RowKit

/-- The struct at block b, its words' row at bw, its steps' row at bs. -/
structure Ar (w : World) (b bw bs W G : Nat) (ws cs : Nat → Int) : Prop where
  here : w.heap[b]? = some (.cells #[.slice (some ⟨bw, 0, none⟩) W W, .slice (some ⟨bs, 0, none⟩) G G] 85 (0, 0))
  words : w.rowIs bw 3 W (fun i => .int .i64 (ws i))
  steps : w.rowIs bs 3 G (fun i => .int .i64 (cs i))
  part : bw ≠ bs

theorem Ar.c0 {w : World} {b bw bs W G : Nat} {ws cs : Nat → Int} (h : Ar w b bw bs W G ws cs) : w.cell? ⟨b, 0, none⟩ = some (.slice (some ⟨bw, 0, none⟩) W W) := by
  simp [World.cell?, h.here]
theorem Ar.c1 {w : World} {b bw bs W G : Nat} {ws cs : Nat → Int} (h : Ar w b bw bs W G ws cs) : w.cell? ⟨b, 1, none⟩ = some (.slice (some ⟨bs, 0, none⟩) G G) := by
  simp [World.cell?, h.here]
theorem Ar.b_bw {w : World} {b bw bs W G : Nat} {ws cs : Nat → Int} (h : Ar w b bw bs W G ws cs) : b ≠ bw := by
  rintro rfl
  obtain ⟨c, hc, _⟩ := h.words
  rw [h.here] at hc; simp at hc
theorem Ar.b_bs {w : World} {b bw bs W G : Nat} {ws cs : Nat → Int} (h : Ar w b bw bs W G ws cs) : b ≠ bs := by
  rintro rfl
  obtain ⟨c, hc, _⟩ := h.steps
  rw [h.here] at hc; simp at hc

/-- f, but v at place i. -/
def upd (f : Nat → Int) (i : Nat) (v : Int) : Nat → Int := fun j => if j = i then v else f j
theorem upd_at (f : Nat → Int) (i : Nat) (v : Int) : upd f i v i = v := by simp [upd]
theorem upd_else (f : Nat → Int) {i j : Nat} (v : Int) (h : j ≠ i) : upd f i v j = f j := by simp [upd, h]

theorem Ar.of_blocks {w w' : World} {b bw bs W G : Nat} {ws cs : Nat → Int} (h : Ar w b bw bs W G ws cs) (e : ∀ k, k < w.heap.size → w'.heap[k]? = w.heap[k]?) : Ar w' b bw bs W G ws cs :=
  ⟨by rw [e b (Array.getElem?_eq_some_iff.1 h.here).1]; exact h.here, h.words.of_block (e _ h.words.lt), h.steps.of_block (e _ h.steps.lt), h.part⟩
theorem Ar.below {w w' : World} {b bw bs W G : Nat} {ws cs : Nat → Int} (h : Ar w b bw bs W G ws cs) (e : Below w.heap.size w w') : Ar w' b bw bs W G ws cs := h.of_blocks e.block
theorem Ar.alloc {w : World} {b bw bs W G : Nat} {ws cs : Nat → Int} (h : Ar w b bw bs W G ws cs) (o : Obj) : Ar (w.alloc o) b bw bs W G ws cs := h.of_blocks fun _ hk => Below.heap_alloc _ _ _ hk
theorem Ar.tick {w : World} {b bw bs W G : Nat} {ws cs : Nat → Int} (h : Ar w b bw bs W G ws cs) (g : Nat) (v : Int) : Ar (w.setCell ⟨bs, g, none⟩ (.int .i64 v)) b bw bs W G ws (upd cs g v) := by
  refine ⟨by rw [Below.heap_setCell _ _ _ _ h.b_bs]; exact h.here, h.words.setOther h.part _, (h.steps.set g (.int .i64 v)).congr fun i _ => ?_, h.part⟩
  unfold upd; split <;> rfl
theorem Ar.put {w : World} {b bw bs W G : Nat} {ws cs : Nat → Int} (h : Ar w b bw bs W G ws cs) (a : Nat) (v : Int) : Ar (w.setCell ⟨bw, a, none⟩ (.int .i64 v)) b bw bs W G (upd ws a v) cs := by
  refine ⟨by rw [Below.heap_setCell _ _ _ _ h.b_bw]; exact h.here, (h.words.set a (.int .i64 v)).congr fun i _ => ?_, h.steps.setOther (fun e => h.part e.symm) _, h.part⟩
  unfold upd; split <;> rfl
theorem Ar.lt {w : World} {b bw bs W G : Nat} {ws cs : Nat → Int} (h : Ar w b bw bs W G ws cs) : b < w.heap.size := (Array.getElem?_eq_some_iff.1 h.here).1

/-- Of what w held nothing has turned but the two rows. -/
structure But (bw bs : Nat) (w w' : World) : Prop where
  os : w'.os = w.os
  tape : w'.tape = w.tape
  output : w'.output = w.output
  size : w.heap.size ≤ w'.heap.size
  block : ∀ k, k < w.heap.size → k ≠ bw → k ≠ bs → w'.heap[k]? = w.heap[k]?
theorem But.refl (bw bs : Nat) (w : World) : But bw bs w w := ⟨rfl, rfl, rfl, Nat.le_refl _, fun _ _ _ _ => rfl⟩
theorem But.trans {bw bs : Nat} {a b c : World} (h : But bw bs a b) (k : But bw bs b c) : But bw bs a c :=
  ⟨k.os.trans h.os, k.tape.trans h.tape, k.output.trans h.output, Nat.le_trans h.size k.size, fun i hi e1 e2 => (k.block i (Nat.lt_of_lt_of_le hi h.size) e1 e2).trans (h.block i hi e1 e2)⟩
theorem But.of_below {bw bs : Nat} {w w' : World} (h : Below w.heap.size w w') : But bw bs w w' := ⟨h.os, h.tape, h.output, h.size, fun k hk _ _ => h.block k hk⟩
theorem But.setw {bw bs : Nat} {a w : World} (h : But bw bs a w) (i : Nat) (v : Value) : But bw bs a (w.setCell ⟨bw, i, none⟩ v) :=
  h.trans ⟨rfl, rfl, rfl, by simp [World.setCell], fun k _ e _ => Below.heap_setCell _ _ _ _ e⟩
theorem But.sets {bw bs : Nat} {a w : World} (h : But bw bs a w) (i : Nat) (v : Value) : But bw bs a (w.setCell ⟨bs, i, none⟩ v) :=
  h.trans ⟨rfl, rfl, rfl, by simp [World.setCell], fun k _ _ e => Below.heap_setCell _ _ _ _ e⟩
theorem But.alloc {bw bs : Nat} {a w : World} (h : But bw bs a w) (o : Obj) : But bw bs a (w.alloc o) := h.trans (But.of_below ((Below.refl _ _).alloc (Nat.le_refl _) o))
/-- What lies below B lies there still, if the two rows lie from B on. -/
theorem But.under {bw bs B : Nat} {w0 w w' : World} (h : Below B w0 w) (hB : B ≤ w.heap.size) (h1 : B ≤ bw) (h2 : B ≤ bs) (k : But bw bs w w') : Below B w0 w' :=
  h.trans ⟨k.os, k.tape, k.output, k.size, fun i hi => k.block i (by omega) (by omega) (by omega)⟩
theorem below_drewN (w : World) (n B : Nat) : Below B w (w.drewN n) := ⟨rfl, rfl, rfl, Nat.le_refl _, fun _ _ => rfl⟩

theorem num_any (x : Int) (w : World) : Calls Tryz.prog 11 #[.int .i64 x] w fun e w' => e = .returned (.int .i64 x) ∧ w' = w := by
  go_enter Tryz.func11, Tryz.ntmps11
  go_wp2
  go_ret
  exact ⟨rfl, rfl⟩
theorem same_any (x : Int) (w : World) : Calls Tryz.prog 100 #[.int .i64 x] w fun e w' => e = .returned (.int .i64 x) ∧ w' = w := by
  go_enter Tryz.func100, Tryz.ntmps100
  go_wp2
  go_ret
  exact ⟨rfl, rfl⟩
theorem isPlace_yes (x n : Int) (w : World) (h0 : 0 ≤ x) (h1 : x < n) : Calls Tryz.prog 75 #[.int .i64 x, .int .i64 n] w fun e w' => e = .returned (.bool true) ∧ w' = w := by
  go_enter Tryz.func75, Tryz.ntmps75
  go_wp2
  go_ret
  exact ⟨rfl, rfl⟩
theorem isPlace_no (x n : Int) (w : World) (h : ¬ (0 ≤ x ∧ x < n)) : Calls Tryz.prog 75 #[.int .i64 x, .int .i64 n] w fun e w' => e = .returned (.bool false) ∧ w' = w := by
  by_cases h0 : 0 ≤ x
  · have h1 : decide (x < n) = false := by simp; omega
    clear h
    go_enter Tryz.func75, Tryz.ntmps75
    go_wp2
    go_ret
    exact ⟨rfl, rfl⟩
  · have h1 : x < 0 := by omega
    clear h h0
    go_enter Tryz.func75, Tryz.ntmps75
    go_wp2
    go_ret
    exact ⟨rfl, rfl⟩
theorem isCount_yes (x n : Int) (w : World) (h0 : 1 ≤ x) (h1 : x ≤ n) : Calls Tryz.prog 40 #[.int .i64 x, .int .i64 n] w fun e w' => e = .returned (.bool true) ∧ w' = w := by
  go_enter Tryz.func40, Tryz.ntmps40
  go_wp2
  go_ret
  exact ⟨rfl, rfl⟩
theorem isCount_no (x n : Int) (w : World) (h : ¬ (1 ≤ x ∧ x ≤ n)) : Calls Tryz.prog 40 #[.int .i64 x, .int .i64 n] w fun e w' => e = .returned (.bool false) ∧ w' = w := by
  by_cases h0 : 1 ≤ x
  · have h1 : decide (x ≤ n) = false := by simp; omega
    clear h
    go_enter Tryz.func40, Tryz.ntmps40
    go_wp2
    go_ret
    exact ⟨rfl, rfl⟩
  · have h1 : x < 1 := by omega
    clear h h0
    go_enter Tryz.func40, Tryz.ntmps40
    go_wp2
    go_ret
    exact ⟨rfl, rfl⟩

theorem hasAgent_yes {w : World} {b bw bs W G : Nat} {ws cs : Nat → Int} (h : Ar w b bw bs W G ws cs) (g : Int) (h0 : 0 ≤ g) (h1 : g < G) :
    Calls Tryz.prog 54 #[.pointer (some ⟨b, 0, none⟩), .int .i64 g] w fun e w' => e = .returned (.bool true) ∧ w' = w := by
  have c1 := h.c1
  go_enter Tryz.func54, Tryz.ntmps54
  go_wp2_with (go_at_call 75; refine (isPlace_yes _ _ _ h0 h1).mono ?_; rintro e w1 ⟨rfl, rfl⟩)
  go_ret
  exact ⟨rfl, rfl⟩
theorem hasAgent_no {w : World} {b bw bs W G : Nat} {ws cs : Nat → Int} (h : Ar w b bw bs W G ws cs) (g : Int) (hg : ¬ (0 ≤ g ∧ g < G)) :
    Calls Tryz.prog 54 #[.pointer (some ⟨b, 0, none⟩), .int .i64 g] w fun e w' => e = .returned (.bool false) ∧ w' = w := by
  have c1 := h.c1
  have hp := isPlace_no g G w hg
  clear hg
  go_enter Tryz.func54, Tryz.ntmps54
  go_wp2_with (go_at_call 75; refine hp.mono ?_; rintro e w1 ⟨rfl, rfl⟩)
  go_ret
  exact ⟨rfl, rfl⟩
/-- word, where there is one. -/
theorem word_ok {w : World} {b bw bs W G : Nat} {ws cs : Nat → Int} (h : Ar w b bw bs W G ws cs) (a : Nat) (ha : a < W) :
    Calls Tryz.prog 74 #[.pointer (some ⟨b, 0, none⟩), .int .i64 a] w fun e w' => e = .returned (.tuple #[.pointer (some ⟨bw, a, none⟩), .int .i64 0]) ∧ w' = w := by
  have c0 := h.c0
  go_enter Tryz.func74, Tryz.ntmps74
  go_wp2_with (go_at_call 75; refine (isPlace_yes _ _ _ (by omega) (by omega)).mono ?_; rintro e w1 ⟨rfl, rfl⟩)
  go_ret2
  exact ⟨rfl, rfl⟩
theorem word_no {w : World} {b bw bs W G : Nat} {ws cs : Nat → Int} (h : Ar w b bw bs W G ws cs) (a : Int) (ha : ¬ (0 ≤ a ∧ a < W)) :
    Calls Tryz.prog 74 #[.pointer (some ⟨b, 0, none⟩), .int .i64 a] w fun e w' => e = .returned (.tuple #[.pointer none, .int .i64 301]) ∧ w' = w := by
  have c0 := h.c0
  have hp := isPlace_no a W w ha
  clear ha
  go_enter Tryz.func74, Tryz.ntmps74
  go_wp2_with (go_at_call 75; refine hp.mono ?_; rintro e w1 ⟨rfl, rfl⟩)
  go_ret2
  exact ⟨rfl, rfl⟩
/-- step, where there are agent and word. -/
theorem step_ok {w : World} {b bw bs W G : Nat} {ws cs : Nat → Int} (h : Ar w b bw bs W G ws cs) (g a : Nat) (hg : g < G) (ha : a < W) :
    Calls Tryz.prog 94 #[.pointer (some ⟨b, 0, none⟩), .int .i64 g, .int .i64 a] w fun e w' => e = .returned (.tuple #[.pointer (some ⟨bw, a, none⟩), .int .i64 0]) ∧ w' = w.setCell ⟨bs, g, none⟩ (.int .i64 (wrap64 (cs g + 1))) := by
  have c1 := h.c1
  have cg := h.steps.cell hg
  have fg := h.steps.frozen g
  go_enter Tryz.func94, Tryz.ntmps94
  go_wp2_with (first | (go_at_call 54; refine (hasAgent_yes h _ (by omega) (by omega)).mono ?_; rintro e w1 ⟨rfl, rfl⟩) | (go_at_call 74; refine (word_ok h _ ha).mono ?_; rintro e w1 ⟨rfl, rfl⟩))
  go_ret2
  exact ⟨rfl, rfl⟩

theorem step_agent {w : World} {b bw bs W G : Nat} {ws cs : Nat → Int} (h : Ar w b bw bs W G ws cs) (g a : Int) (hg : ¬ (0 ≤ g ∧ g < G)) :
    Calls Tryz.prog 94 #[.pointer (some ⟨b, 0, none⟩), .int .i64 g, .int .i64 a] w fun e w' => e = .returned (.tuple #[.pointer none, .int .i64 302]) ∧ w' = w := by
  have hp := hasAgent_no h g hg
  clear hg
  go_enter Tryz.func94, Tryz.ntmps94
  go_wp2_with (go_at_call 54; refine hp.mono ?_; rintro e w1 ⟨rfl, rfl⟩)
  go_ret2
  exact ⟨rfl, rfl⟩

theorem step_place {w : World} {b bw bs W G : Nat} {ws cs : Nat → Int} (h : Ar w b bw bs W G ws cs) (g : Nat) (a : Int) (hg : g < G) (ha : ¬ (0 ≤ a ∧ a < W)) :
    Calls Tryz.prog 94 #[.pointer (some ⟨b, 0, none⟩), .int .i64 g, .int .i64 a] w fun e w' => e = .returned (.tuple #[.pointer none, .int .i64 301]) ∧ w' = w := by
  have hp := word_no h a ha
  have hq := hasAgent_yes h g (by omega) (by omega)
  clear ha hg
  go_enter Tryz.func94, Tryz.ntmps94
  go_wp2_with (first | (go_at_call 54; refine hq.mono ?_; rintro e w1 ⟨rfl, rfl⟩) | (go_at_call 74; refine hp.mono ?_; rintro e w1 ⟨rfl, rfl⟩))
  go_ret2
  exact ⟨rfl, rfl⟩

end Go.Proofs.YtojblddfggoecaaGreat
