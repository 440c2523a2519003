/- A fault that is thrown is caught: the deferred closures. -/
import Derived.Test.YtajghalljkphiaaGreatMLMem
import Derived.Recover
import Derived.Laws.Pointers
namespace Go.Proofs.YtajghalljkphiaaGreat
open Go.RowKit

theorem ta_yes (v : Value) (w : World) : (Instr.typeAssert (.iface 83 v) 20 83 true).run Tryz.prog w = .ok (.tuple #[v, .bool true]) w := by kernel_rfl
theorem ta_nil (w : World) : (Instr.typeAssert .nilIface 20 83 true).run Tryz.prog w = .ok (.tuple #[.agg #[.int .i64 0, .int .i64 0], .bool false]) w := by kernel_rfl
/-- What the deferred closure leaves where a fault is under way. -/
structure CtP (h g : Nat) (q c : Int) (w w' : World) : Prop where
  os : w'.os = w.os
  tape : w'.tape = w.tape
  output : w'.output = w.output
  size : w.heap.size ≤ w'.heap.size
  at_ : w'.heap[h]? = some (.cells #[.int .i64 q] 3 (0, 0))
  code : w'.heap[g]? = some (.cells #[.int .i64 c] 25 (0, 0))
  block : ∀ k, k < w.heap.size → k ≠ h → k ≠ g → w'.heap[k]? = w.heap[k]?
theorem ctp_of {h g : Nat} {q c : Int} {w W : World} (hne : h ≠ g) (hH : W.heap[h]? = some (.cells #[.int .i64 0] 3 (0, 0))) (hG : W.heap[g]? = some (.cells #[.int .i64 0] 25 (0, 0))) (hz : W.heap.size = w.heap.size + 1)
    (hb : ∀ k, k < w.heap.size → W.heap[k]? = w.heap[k]?) (ho : W.os = w.os ∧ W.tape = w.tape ∧ W.output = w.output) : CtP h g q c w ((W.setCell ⟨h, 0, none⟩ (.int .i64 q)).setCell ⟨g, 0, none⟩ (.int .i64 c)).drew := by
  have e1 : (W.setCell ⟨h, 0, none⟩ (.int .i64 q)).heap[g]? = some (.cells #[.int .i64 0] 25 (0, 0)) := by rw [Below.heap_setCell _ _ _ _ (Ne.symm hne)]; exact hG
  refine ⟨ho.1, ho.2.1, ho.2.2, ?_, ?_, ?_, fun k hk h1 h2 => ?_⟩
  · show w.heap.size ≤ ((W.setCell ⟨h, 0, none⟩ (.int .i64 q)).setCell ⟨g, 0, none⟩ (.int .i64 c)).heap.size
    simp only [World.setCell, Array.size_modify]; omega
  · show ((W.setCell ⟨h, 0, none⟩ (.int .i64 q)).setCell ⟨g, 0, none⟩ (.int .i64 c)).heap[h]? = _
    rw [Below.heap_setCell _ _ _ _ hne]; exact hset hH _
  · exact hset e1 _
  · show ((W.setCell ⟨h, 0, none⟩ (.int .i64 q)).setCell ⟨g, 0, none⟩ (.int .i64 c)).heap[k]? = _
    rw [Below.heap_setCell _ _ _ _ h2, Below.heap_setCell _ _ _ _ h1]; exact hb k hk

theorem ctp_of2 {h g : Nat} {q c : Int} {w W : World} (hne : h ≠ g) (hH : W.heap[h]? = some (.cells #[.int .i64 0] 3 (0, 0))) (hG : W.heap[g]? = some (.cells #[.int .i64 0] 25 (0, 0))) (hz : W.heap.size = w.heap.size + 1)
    (hb : ∀ k, k < w.heap.size → W.heap[k]? = w.heap[k]?) (ho : W.os = w.os ∧ W.tape = w.tape ∧ W.output = w.output) : CtP h g q c w ((W.setCell ⟨g, 0, none⟩ (.int .i64 c)).setCell ⟨h, 0, none⟩ (.int .i64 q)).drew := by
  have e1 : (W.setCell ⟨g, 0, none⟩ (.int .i64 c)).heap[h]? = some (.cells #[.int .i64 0] 3 (0, 0)) := by rw [Below.heap_setCell _ _ _ _ hne]; exact hH
  refine ⟨ho.1, ho.2.1, ho.2.2, ?_, ?_, ?_, fun k hk h1 h2 => ?_⟩
  · show w.heap.size ≤ ((W.setCell ⟨g, 0, none⟩ (.int .i64 c)).setCell ⟨h, 0, none⟩ (.int .i64 q)).heap.size
    simp only [World.setCell, Array.size_modify]; omega
  · show ((W.setCell ⟨g, 0, none⟩ (.int .i64 c)).setCell ⟨h, 0, none⟩ (.int .i64 q)).heap[h]? = _
    exact hset e1 _
  · show ((W.setCell ⟨g, 0, none⟩ (.int .i64 c)).setCell ⟨h, 0, none⟩ (.int .i64 q)).heap[g]? = _
    rw [Below.heap_setCell _ _ _ _ (Ne.symm hne)]; exact hset hG _
  · show ((W.setCell ⟨g, 0, none⟩ (.int .i64 c)).setCell ⟨h, 0, none⟩ (.int .i64 q)).heap[k]? = _
    rw [Below.heap_setCell _ _ _ _ h1, Below.heap_setCell _ _ _ _ h2]; exact hb k hk

/-- The deferred closure, where a fault is under way: it lays it into the boxes at blocks h and g. -/
theorem catchP_panicking (h g : Nat) (q c : Int) (w : World) (hne : h ≠ g) (hh : w.heap[h]? = some (.cells #[.int .i64 0] 3 (0, 0))) (hg : w.heap[g]? = some (.cells #[.int .i64 0] 25 (0, 0))) :
    CallsD Tryz.prog 35 #[.pointer (some ⟨h, 0, none⟩), .pointer (some ⟨g, 0, none⟩)] (.panicking [{ v := .iface 83 (.agg #[.int .i64 q, .int .i64 c]), recovered := false }]) w fun e u' w' =>
      e = .returned (.tuple #[]) ∧ u' = .panicking [{ v := .iface 83 (.agg #[.int .i64 q, .int .i64 c]), recovered := true }] ∧ CtP h g q c w w' := by
  have hl : h < w.heap.size := (Array.getElem?_eq_some_iff.1 hh).1
  have gl : g < w.heap.size := (Array.getElem?_eq_some_iff.1 hg).1
  refine callsD_of_wpS Tryz.func35 rfl fun c₀ cs hu => ?_
  apply wpS_seq
  apply wpS_region
  simp [wpOpsS, go_sem, recoverD, hu, Tryz.ntmps35, Exit.thenS, ta_yes]
  apply wpS_seq
  apply wpS_region
  simp [wpOpsS, go_sem, Exit.thenS]
  refine wpS_cond (t := true) (by simp [Act.eval, Array.replicate]) ?_
  simp only [if_true]
  refine wpS_of_wp ?_
  have hH : (w.alloc (.cells #[.int .i64 q, .int .i64 c] 83)).heap[h]? = some (.cells #[.int .i64 0] 3 (0, 0)) := (Below.heap_alloc _ _ _ hl).trans hh
  have hG : (w.alloc (.cells #[.int .i64 q, .int .i64 c] 83)).heap[g]? = some (.cells #[.int .i64 0] 25 (0, 0)) := (Below.heap_alloc _ _ _ gl).trans hg
  have hN := heap_alloc_new w (.cells #[.int .i64 q, .int .i64 c] 83)
  have hz : (w.alloc (.cells #[.int .i64 q, .int .i64 c] 83)).heap.size = w.heap.size + 1 := by simp
  have HB : Hid (∀ k, k < w.heap.size → (w.alloc (.cells #[.int .i64 q, .int .i64 c] 83)).heap[k]? = w.heap[k]?) := fun k hk => Below.heap_alloc _ _ _ hk
  have HO : Hid ((w.alloc (.cells #[.int .i64 q, .int .i64 c] 83)).os = w.os ∧ (w.alloc (.cells #[.int .i64 q, .int .i64 c] 83)).tape = w.tape ∧ (w.alloc (.cells #[.int .i64 q, .int .i64 c] 83)).output = w.output) := ⟨rfl, rfl, rfl⟩
  generalize hW : w.alloc (.cells #[.int .i64 q, .int .i64 c] 83) = W at *
  have c0 : W.cell? ⟨h, 0, none⟩ = some (.int .i64 0) := by simp [World.cell?, hH]
  have c1 : W.cell? ⟨g, 0, none⟩ = some (.int .i64 0) := by simp [World.cell?, hG]
  have f0 : W.frozen? ⟨h, 0, none⟩ = false := by simp [World.frozen?, hH]
  have f1 : W.frozen? ⟨g, 0, none⟩ = false := by simp [World.frozen?, hG]
  have n0 : W.cell? ⟨w.heap.size, 0, none⟩ = some (.int .i64 q) := by simp [World.cell?, hN]
  have n1 : W.cell? ⟨w.heap.size, 1, none⟩ = some (.int .i64 c) := by simp [World.cell?, hN]
  have HH : Hid (W.heap[h]? = some (.cells #[.int .i64 0] 3 (0, 0))) := hH
  have HG : Hid (W.heap[g]? = some (.cells #[.int .i64 0] 25 (0, 0))) := hG
  have HZ : Hid (W.heap.size = w.heap.size + 1) := hz
  have d1 : h ≠ w.heap.size := by omega
  have d2 : g ≠ w.heap.size := by omega
  have l1 : h < W.heap.size := by omega
  have l2 : g < W.heap.size := by omega
  clear hW hH hG hN hh hg hz hl gl
  go_region
  all_goals
    simp [bodyPostS, results, Tryz.results35]
    first | exact ctp_of hne HH.out HG.out HZ.out HB.out HO.out | exact ctp_of2 hne HH.out HG.out HZ.out HB.out HO.out
/-- Where none is: nothing turns but that a box is made. -/
theorem catchP_idle (h g : Nat) (w : World) : CallsD Tryz.prog 35 #[.pointer (some ⟨h, 0, none⟩), .pointer (some ⟨g, 0, none⟩)] .returning w fun e u' w' => e = .returned (.tuple #[]) ∧ u' = .returning ∧ w' = w.alloc (.cells #[.int .i64 0, .int .i64 0] 83) := by
  refine callsD_of_wpS Tryz.func35 rfl fun c₀ cs hu => ?_
  apply wpS_seq
  apply wpS_region
  simp [wpOpsS, go_sem, recoverD, hu, Tryz.ntmps35, Exit.thenS, ta_nil]
  apply wpS_seq
  apply wpS_region
  simp [wpOpsS, go_sem, Exit.thenS]
  refine wpS_cond (t := false) (by simp [Act.eval, Array.replicate]) ?_
  simp only [Bool.false_eq_true, if_false]
  refine wpS_of_wp (wp_skip ?_)
  cases c₀
  simp_all [bodyPostS, results, Tryz.results35]
/-- The deferred closure, where a fault is under way: it lays it into the boxes at blocks h and g. -/
theorem catchS_panicking (h g : Nat) (q c : Int) (w : World) (hne : h ≠ g) (hh : w.heap[h]? = some (.cells #[.int .i64 0] 3 (0, 0))) (hg : w.heap[g]? = some (.cells #[.int .i64 0] 25 (0, 0))) :
    CallsD Tryz.prog 44 #[.pointer (some ⟨h, 0, none⟩), .pointer (some ⟨g, 0, none⟩)] (.panicking [{ v := .iface 83 (.agg #[.int .i64 q, .int .i64 c]), recovered := false }]) w fun e u' w' =>
      e = .returned (.tuple #[]) ∧ u' = .panicking [{ v := .iface 83 (.agg #[.int .i64 q, .int .i64 c]), recovered := true }] ∧ CtP h g q c w w' := by
  have hl : h < w.heap.size := (Array.getElem?_eq_some_iff.1 hh).1
  have gl : g < w.heap.size := (Array.getElem?_eq_some_iff.1 hg).1
  refine callsD_of_wpS Tryz.func44 rfl fun c₀ cs hu => ?_
  apply wpS_seq
  apply wpS_region
  simp [wpOpsS, go_sem, recoverD, hu, Tryz.ntmps44, Exit.thenS, ta_yes]
  apply wpS_seq
  apply wpS_region
  simp [wpOpsS, go_sem, Exit.thenS]
  refine wpS_cond (t := true) (by simp [Act.eval, Array.replicate]) ?_
  simp only [if_true]
  refine wpS_of_wp ?_
  have hH : (w.alloc (.cells #[.int .i64 q, .int .i64 c] 83)).heap[h]? = some (.cells #[.int .i64 0] 3 (0, 0)) := (Below.heap_alloc _ _ _ hl).trans hh
  have hG : (w.alloc (.cells #[.int .i64 q, .int .i64 c] 83)).heap[g]? = some (.cells #[.int .i64 0] 25 (0, 0)) := (Below.heap_alloc _ _ _ gl).trans hg
  have hN := heap_alloc_new w (.cells #[.int .i64 q, .int .i64 c] 83)
  have hz : (w.alloc (.cells #[.int .i64 q, .int .i64 c] 83)).heap.size = w.heap.size + 1 := by simp
  have HB : Hid (∀ k, k < w.heap.size → (w.alloc (.cells #[.int .i64 q, .int .i64 c] 83)).heap[k]? = w.heap[k]?) := fun k hk => Below.heap_alloc _ _ _ hk
  have HO : Hid ((w.alloc (.cells #[.int .i64 q, .int .i64 c] 83)).os = w.os ∧ (w.alloc (.cells #[.int .i64 q, .int .i64 c] 83)).tape = w.tape ∧ (w.alloc (.cells #[.int .i64 q, .int .i64 c] 83)).output = w.output) := ⟨rfl, rfl, rfl⟩
  generalize hW : w.alloc (.cells #[.int .i64 q, .int .i64 c] 83) = W at *
  have c0 : W.cell? ⟨h, 0, none⟩ = some (.int .i64 0) := by simp [World.cell?, hH]
  have c1 : W.cell? ⟨g, 0, none⟩ = some (.int .i64 0) := by simp [World.cell?, hG]
  have f0 : W.frozen? ⟨h, 0, none⟩ = false := by simp [World.frozen?, hH]
  have f1 : W.frozen? ⟨g, 0, none⟩ = false := by simp [World.frozen?, hG]
  have n0 : W.cell? ⟨w.heap.size, 0, none⟩ = some (.int .i64 q) := by simp [World.cell?, hN]
  have n1 : W.cell? ⟨w.heap.size, 1, none⟩ = some (.int .i64 c) := by simp [World.cell?, hN]
  have HH : Hid (W.heap[h]? = some (.cells #[.int .i64 0] 3 (0, 0))) := hH
  have HG : Hid (W.heap[g]? = some (.cells #[.int .i64 0] 25 (0, 0))) := hG
  have HZ : Hid (W.heap.size = w.heap.size + 1) := hz
  have d1 : h ≠ w.heap.size := by omega
  have d2 : g ≠ w.heap.size := by omega
  have l1 : h < W.heap.size := by omega
  have l2 : g < W.heap.size := by omega
  clear hW hH hG hN hh hg hz hl gl
  go_region
  all_goals
    simp [bodyPostS, results, Tryz.results44]
    first | exact ctp_of hne HH.out HG.out HZ.out HB.out HO.out | exact ctp_of2 hne HH.out HG.out HZ.out HB.out HO.out
/-- Where none is: nothing turns but that a box is made. -/
theorem catchS_idle (h g : Nat) (w : World) : CallsD Tryz.prog 44 #[.pointer (some ⟨h, 0, none⟩), .pointer (some ⟨g, 0, none⟩)] .returning w fun e u' w' => e = .returned (.tuple #[]) ∧ u' = .returning ∧ w' = w.alloc (.cells #[.int .i64 0, .int .i64 0] 83) := by
  refine callsD_of_wpS Tryz.func44 rfl fun c₀ cs hu => ?_
  apply wpS_seq
  apply wpS_region
  simp [wpOpsS, go_sem, recoverD, hu, Tryz.ntmps44, Exit.thenS, ta_nil]
  apply wpS_seq
  apply wpS_region
  simp [wpOpsS, go_sem, Exit.thenS]
  refine wpS_cond (t := false) (by simp [Act.eval, Array.replicate]) ?_
  simp only [Bool.false_eq_true, if_false]
  refine wpS_of_wp (wp_skip ?_)
  cases c₀
  simp_all [bodyPostS, results, Tryz.results44]
end Go.Proofs.YtajghalljkphiaaGreat
