/- A set of threads' numbers, a map as it lies in memory: has, add, setOf, clear. -/
import Derived.Test.YtggnmmnmgnffjaaKFrame
namespace Go.Proofs.Ytggnmmnmgnffjaa
open Go.RowKit
theorem kkey : Maps.Keyed Try.prog 3 := Maps.int_keyed Try.underlying3
theorem klit {t N : Nat} (h : t < N) (hN : N ≤ 4096) : (Lit.int .i64 (t : Int)).wf = true := WalkArith.wf_i64 (by omega)
theorem owns_tight {w : World} {m n : Nat} {D : DataW Unit} (h : w.ownsMap Try.prog 3 unitElem m n D) : w.ownsMap Try.prog 3 unitElem m (Maps.size D) D := by
  obtain ⟨es, clock, hb, F, _, rfl⟩ := h
  refine ⟨es, clock, hb, F, ?_, rfl⟩
  simp [Maps.size, length_sorted]
theorem owns_clear {w : World} {m n : Nat} {D : DataW Unit} (h : w.ownsMap Try.prog 3 unitElem m n D) (t e : TypeId) (ht : Try.prog.underlying t = some (.map 3 e)) (ty : TypeId) :
    ∃ w', (Builtin.clear_ #[t] ty #[.map (some m)]).run Try.prog w = .ok (.tuple #[]) w' ∧ w'.ownsMap Try.prog 3 unitElem m 0 (.map [] : DataW Unit) ∧ w.mapTurned w' m := by
  obtain ⟨es, clock, hb, F, _, rfl⟩ := h
  refine ⟨ChangeMaps.setBlock w m (.map #[] clock), ?_, ⟨#[], clock, ChangeMaps.heap_setBlock_same hb _, ⟨by simp [maxLen], ⟨by simp, by simp, by simp⟩, by simp⟩, Nat.le_refl _, rfl⟩, ⟨es, clock, #[], clock, hb, rfl⟩⟩
  simp [Builtin.clear_, run_underlying ht, MapKept.run_getObj_map hb, MapKept.run_setObj_map _ hb, Result.andThen, ChangeMaps.setBlock]
/-- Block m is a set: of the numbers below N it has those of A. -/
def Tset (w : World) (m N : Nat) (A : Nat → Bool) : Prop :=
  ∃ D : DataW Unit, w.ownsMap Try.prog 3 unitElem m N D ∧ (∀ t : Nat, t < N → Maps.has D (.int .i64 (t : Int)) = A t) ∧ Maps.size D = cntB N A
section
variable {w w' : World} {m N : Nat} {A : Nat → Bool}
theorem Tset.of_block (h : Tset w m N A) (e : w'.heap[m]? = w.heap[m]?) : Tset w' m N A := by
  obtain ⟨D, ⟨es, clock, hb, r⟩, h2⟩ := h
  exact ⟨D, ⟨es, clock, e.trans hb, r⟩, h2⟩
theorem Tset.lt (h : Tset w m N A) : m < w.heap.size := let ⟨_, h1, _⟩ := h; h1.lt
theorem Tset.below (h : Tset w m N A) (hb : Below w.heap.size w w') : Tset w' m N A := h.of_block (hb.block m h.lt)
theorem Tset.is_map (h : Tset w m N A) : ∃ es clock, w.heap[m]? = some (.map es clock) := let ⟨_, ⟨es, clock, hb, _⟩, _⟩ := h; ⟨es, clock, hb⟩
theorem Tset.congr {C : Nat → Bool} (h : Tset w m N A) (e : ∀ i, i < N → A i = C i) : Tset w m N C := by
  obtain ⟨D, h1, h2, h3⟩ := h
  exact ⟨D, h1, fun t ht => (h2 t ht).trans (e t ht), h3.trans (cntB_congr N e)⟩
theorem Tset.none (h : w.ownsMap Try.prog 3 unitElem m 0 (.map [] : DataW Unit)) : Tset w m N (fun _ => false) :=
  ⟨_, h.mono (Nat.zero_le _), fun _ _ => rfl, by rw [cntB_none]; rfl⟩
theorem Tset.made (w : World) (N : Nat) : Tset (w.alloc (.map #[] 0)) w.heap.size N (fun _ => false) := Tset.none (World.ownsMap_made w Try.prog 3 unitElem)
theorem kadd_ok (h : Tset w m N A) (t : Nat) (ht : t < N) (hN : N ≤ 4096) :
    Calls Try.prog 17 #[.map (some m), .int .i64 t] w fun e w' => e = .returned (.tuple #[]) ∧ Tset w' m N (setB A t true) ∧ w.mapTurned w' m := by
  obtain ⟨D, h1, h2, h3⟩ := h
  have hl := klit ht hN
  obtain ⟨w1, hrun, ho, hturn⟩ := h1.store kkey Try.underlying39 (show N < maxLen by unfold maxLen; omega) (Maps.keyOf_int_mk Try.underlying3 hl) (unitElem_mk (H := Unit))
  have HT : Hid (Tset w1 m N (setB A t true) ∧ w.mapTurned w1 m) := by
    refine ⟨?_, hturn⟩
    have hk : WideAt.IsKeyLit (.int .i64 (t : Int)) := trivial
    have hsz : Maps.size (D.put (.int .i64 (t : Int)) (.agg [])) = cntB N (setB A t true) := by
      rw [Maps.size_put (h1.tidy kkey), h2 t ht, h3]
      cases hA : A t with
      | true => rw [setB_same hA]; rfl
      | false => rw [cntB_add N ht hA]; rfl
    refine ⟨_, ((owns_tight ho).mono ?_), fun i hi => ?_, hsz⟩
    · rw [hsz]; exact cntB_le _ _
    · by_cases e : i = t
      · subst e
        rw [Maps.has_put_same h1.isMap hk, setB_at]
      · rw [Maps.has_put_other (by intro q; injection q with _ q; omega), h2 i hi, setB_else e]
  clear h1 h2 h3 ho hturn hl
  go_enter Try.func17, Try.ntmps17
  go_wp2
  go_end0
  exact ⟨rfl, HT.out⟩
theorem khas_ok (h : Tset w m N A) (t : Nat) (ht : t < N) (hN : N ≤ 4096) :
    Calls Try.prog 16 #[.map (some m), .int .i64 t] w fun e w' => e = .returned (.bool (A t)) ∧ Below w.heap.size w w' := by
  obtain ⟨D, h1, h2, h3⟩ := h
  have hz : (zeroValue 47).run Try.prog w = .ok (.agg #[]) w := by kernel_rfl
  have hl : (Instr.lookup 39 (.map (some m)) (.int .i64 t) true).run Try.prog w = .ok (.tuple #[.agg #[], .bool (A t)]) w := by
    obtain ⟨v, ps, hrun, hv⟩ := h1.look_ok kkey Try.underlying39 hz unitElem_mk (Maps.keyOf_int_mk Try.underlying3 (klit ht hN))
    obtain ⟨rfl, _⟩ := unitElem_inv hv
    rw [h2 t ht] at hrun
    exact hrun
  generalize A t = x at hl ⊢
  clear h1 h2 h3 hz ht
  have hb := (Below.refl w.heap.size w).alloc (Nat.le_refl _) (.cells #[] 47)
  go_enter Try.func16, Try.ntmps16
  go_wp2
  go_ret
  exact ⟨rfl, hb⟩
end
end Go.Proofs.Ytggnmmnmgnffjaa
