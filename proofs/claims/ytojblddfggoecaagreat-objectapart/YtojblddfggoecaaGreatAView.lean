/- The view of an arena: made, and read. -/
import Derived.Test.YtojblddfggoecaaGreatALeaf
import Derived.Laws.EntriesVeiled
namespace Go.Proofs.YtojblddfggoecaaGreat
open Go.RowKit

theorem info45 : (Tryz.prog.info? 112).map (·.size) = some 3 := by kernel_rfl
theorem fn_nil (w : World) : (binOp BinOp.eql 37 (.func (.func 100) #[] #[]) .nilFunc).run Tryz.prog w = .ok (.bool false) w := by kernel_rfl
theorem viewOf_any (b : Nat) (w : World) :
    Calls Tryz.prog 99 #[.pointer (some ⟨b, 0, none⟩), .func (.func 100) #[] #[], .func (.func 100) #[] #[]] w fun e w' => e = .returned (.agg #[.pointer (some ⟨b, 0, none⟩), .func (.func 100) #[] #[], .func (.func 100) #[] #[]]) ∧
      w' = w.alloc (.cells #[.pointer (some ⟨b, 0, none⟩), .func (.func 100) #[] #[], .func (.func 100) #[] #[]] 112) := by
  have hn := fn_nil
  go_enter Tryz.func99, Tryz.ntmps99
  go_wp2
  exact bodyPost_ret (results_cell_row rfl _ _ w.heap.size 112 _ (0, 0) _ rfl (heap_alloc_new w _) Tryz.underlying112 rfl info45) rfl ⟨rfl, rfl⟩
theorem plain_any (b : Nat) (w : World) :
    Calls Tryz.prog 78 #[.pointer (some ⟨b, 0, none⟩)] w fun e w' => e = .returned (.agg #[.pointer (some ⟨b, 0, none⟩), .func (.func 100) #[] #[], .func (.func 100) #[] #[]]) ∧ Below w.heap.size w w' := by
  go_enter Tryz.func78, Tryz.ntmps78
  go_wp2_with (go_at_call 99; refine (viewOf_any _ _).mono ?_; rintro e w1 ⟨rfl, rfl⟩)
  exact bodyPost_ret (results_cell_row rfl _ _ w.heap.size 112 _ (0, 0) _ rfl ((Below.heap_alloc _ _ _ (by simp)).trans (heap_alloc_new w _)) Tryz.underlying112 rfl info45) rfl ⟨rfl, ((Below.refl _ _).alloc (Nat.le_refl _) _).alloc (by simp) _⟩

/-- What the view's cell holds, whatever was stored elsewhere. -/
theorem own2 (b k g : Nat) (w : World) (v : Value) (hk : k < w.heap.size) : ((w.alloc (.cells #[.pointer (some ⟨b, 0, none⟩), .func (.func 100) #[] #[], .func (.func 100) #[] #[]] 112)).setCell ⟨k, g, none⟩ v).heap[w.heap.size]? = some (.cells #[.pointer (some ⟨b, 0, none⟩), .func (.func 100) #[] #[], .func (.func 100) #[] #[]] 112 (0, 0)) := by
  rw [Below.heap_setCell _ _ _ _ (by show w.heap.size ≠ k; omega)]; exact heap_alloc_new w _

theorem vload_ok {w : World} {b bw bs W G : Nat} {ws cs : Nat → Int} (h : Ar w b bw bs W G ws cs) (g a : Nat) (hg : g < G) (ha : a < W) :
    Calls Tryz.prog 80 #[.agg #[.pointer (some ⟨b, 0, none⟩), .func (.func 100) #[] #[], .func (.func 100) #[] #[]], .int .i64 g, .int .i64 a] w fun e w' => e = .returned (.tuple #[.int .i64 (ws a), .int .i64 0]) ∧
      Ar w' b bw bs W G ws (upd cs g (wrap64 (cs g + 1))) ∧ But bw bs w w' := by
  have h1 := h.alloc
  have hw : ∀ c v, ((w.alloc c).setCell ⟨bs, g, none⟩ v).cell? ⟨bw, a, none⟩ = some (.int .i64 (ws a)) := fun c v => ((h.words.alloc c).setOther (a := ⟨bs, g, none⟩) h.part v).cell ha
  have hf : ∀ v, ((w.alloc (.cells #[.pointer (some ⟨b, 0, none⟩), .func (.func 100) #[] #[], .func (.func 100) #[] #[]] 112)).setCell ⟨bs, g, none⟩ v).cell? ⟨w.heap.size, 1, none⟩ = some (.func (.func 100) #[] #[]) := by
    intro v; simp only [World.cell?, own2 b bs g w v h.steps.lt]; rfl
  go_enter Tryz.func80, Tryz.ntmps80
  go_wp2_with (go_at_call 94; refine (step_ok (h1 _) _ _ hg ha).mono ?_; rintro e w1 ⟨rfl, rfl⟩)
  go_quiet ((go_at_call 100; exact Calls.quiet_of_same (same_any _ _)))
  go_wp2
  go_ret2
  exact ⟨rfl, ((h1 _).tick g _).below (below_drewN _ _ _), (((But.refl _ _ _).alloc _).sets g _).trans (But.of_below (below_drewN _ _ _))⟩
theorem vload_bad (b bw bs : Nat) (w : World) (g a c : Int) (hc : (c != 0) = true) (hs : ∀ o, Calls Tryz.prog 94 #[.pointer (some ⟨b, 0, none⟩), .int .i64 g, .int .i64 a] (w.alloc o) fun e w' => e = .returned (.tuple #[.pointer none, .int .i64 c]) ∧ w' = w.alloc o) :
    Calls Tryz.prog 80 #[.agg #[.pointer (some ⟨b, 0, none⟩), .func (.func 100) #[] #[], .func (.func 100) #[] #[]], .int .i64 g, .int .i64 a] w fun e w' => e = .returned (.tuple #[.int .i64 0, .int .i64 c]) ∧ But bw bs w w' ∧ Below w.heap.size w w' := by
  go_enter Tryz.func80, Tryz.ntmps80
  go_wp2_with (go_at_call 94; refine (hs _).mono ?_; rintro e w1 ⟨rfl, rfl⟩)
  go_ret2
  have hb := (Below.refl w.heap.size w).alloc (Nat.le_refl _) (.cells #[.pointer (some ⟨b, 0, none⟩), .func (.func 100) #[] #[], .func (.func 100) #[] #[]] 112)
  exact ⟨rfl, But.of_below hb, hb⟩

theorem vstore_ok {w : World} {b bw bs W G : Nat} {ws cs : Nat → Int} (h : Ar w b bw bs W G ws cs) (g a : Nat) (v : Int) (hg : g < G) (ha : a < W) :
    Calls Tryz.prog 79 #[.agg #[.pointer (some ⟨b, 0, none⟩), .func (.func 100) #[] #[], .func (.func 100) #[] #[]], .int .i64 g, .int .i64 a, .int .i64 v] w fun e w' => e = .returned (.int .i64 0) ∧
      Ar w' b bw bs W G (upd ws a v) (upd cs g (wrap64 (cs g + 1))) ∧ But bw bs w w' := by
  have h1 := h.alloc
  have hw : ∀ c v, ((w.alloc c).setCell ⟨bs, g, none⟩ v).cell? ⟨bw, a, none⟩ = some (.int .i64 (ws a)) := fun c v => ((h.words.alloc c).setOther (a := ⟨bs, g, none⟩) h.part v).cell ha
  have hz : ∀ c v, ((w.alloc c).setCell ⟨bs, g, none⟩ v).frozen? ⟨bw, a, none⟩ = false := fun c v => ((h.words.alloc c).setOther (a := ⟨bs, g, none⟩) h.part v).frozen a
  have hf : ∀ v, ((w.alloc (.cells #[.pointer (some ⟨b, 0, none⟩), .func (.func 100) #[] #[], .func (.func 100) #[] #[]] 112)).setCell ⟨bs, g, none⟩ v).cell? ⟨w.heap.size, 2, none⟩ = some (.func (.func 100) #[] #[]) := by
    intro v; simp only [World.cell?, own2 b bs g w v h.steps.lt]; rfl
  go_enter Tryz.func79, Tryz.ntmps79
  go_wp2_with (first | (go_at_call 94; refine (step_ok (h1 _) _ _ hg ha).mono ?_; rintro e w1 ⟨rfl, rfl⟩) | (go_at_call 100; refine (same_any _ _).mono ?_; rintro e w1 ⟨rfl, rfl⟩))
  go_ret
  exact ⟨rfl, ((h1 _).tick g _).put a v, (((But.refl _ _ _).alloc _).sets g _).setw a _⟩
theorem vstore_bad (b bw bs : Nat) (w : World) (g a c v : Int) (hc : (c != 0) = true) (hs : ∀ o, Calls Tryz.prog 94 #[.pointer (some ⟨b, 0, none⟩), .int .i64 g, .int .i64 a] (w.alloc o) fun e w' => e = .returned (.tuple #[.pointer none, .int .i64 c]) ∧ w' = w.alloc o) :
    Calls Tryz.prog 79 #[.agg #[.pointer (some ⟨b, 0, none⟩), .func (.func 100) #[] #[], .func (.func 100) #[] #[]], .int .i64 g, .int .i64 a, .int .i64 v] w fun e w' => e = .returned (.int .i64 c) ∧ But bw bs w w' ∧ Below w.heap.size w w' := by
  go_enter Tryz.func79, Tryz.ntmps79
  go_wp2_with (go_at_call 94; refine (hs _).mono ?_; rintro e w1 ⟨rfl, rfl⟩)
  go_ret
  have hb := (Below.refl w.heap.size w).alloc (Nat.le_refl _) (.cells #[.pointer (some ⟨b, 0, none⟩), .func (.func 100) #[] #[], .func (.func 100) #[] #[]] 112)
  exact ⟨rfl, But.of_below hb, hb⟩

end Go.Proofs.YtojblddfggoecaaGreat
