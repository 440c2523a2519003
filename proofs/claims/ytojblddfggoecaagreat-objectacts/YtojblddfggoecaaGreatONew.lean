/- New of a store of objects. -/
import Derived.Test.YtojblddfggoecaaGreatOGone
import Derived.Carry
namespace Go.Proofs.YtojblddfggoecaaGreat
open Go.RowKit
theorem onew_ok {w : World} {P0 : Nat → Prop} {p b W base N G : Nat} {cs : Nat → Int} {T : Int} {xs : List Int} {ws : Nat → Int} (h : Pl w P0 p b W base N G cs T xs ws) (hN : OInv ws base N xs.length []) :
    Calls Tryz.prog 19 #[.pointer (some ⟨p, 0, none⟩)] w fun e w' => ∃ so mb, e = .returned (.tuple #[.pointer (some ⟨so, 0, none⟩), .int .i64 0]) ∧ Sto w' (fun k => P0 k ∨ k = so ∨ k = mb) so mb p b W base N G cs T xs ws 0 (.map []) [] ∧ Below w.heap.size w w' ∧ w.heap.size ≤ so ∧ w.heap.size ≤ mb := by
  have hlt := h.lt
  have a1 := (Below.refl w.heap.size w).alloc (Nat.le_refl _) (.map #[] 0)
  have a2 := a1.alloc (by simp) (.cells #[.pointer (some ⟨p, 0, none⟩), .map (some w.heap.size)] 64)
  have hsz : (w.alloc (.map #[] 0)).heap.size = w.heap.size + 1 := Go.Deep.nblk_alloc _ _
  have HS : Hid (Sto ((w.alloc (.map #[] 0)).alloc (.cells #[.pointer (some ⟨p, 0, none⟩), .map (some w.heap.size)] 64)) (fun k => P0 k ∨ k = w.heap.size + 1 ∨ k = w.heap.size) (w.heap.size + 1) w.heap.size p b W base N G cs T xs ws 0 (.map []) []) := by
    refine ⟨⟨⟨P0, h.below a2, fun _ r => .inl r, fun r => by have := hlt _ r; omega, fun r => by have := hlt _ r; omega⟩, ?_, ?_, ⟨.inr (.inl rfl), .inr (.inr rfl)⟩, fun k hk => ?_⟩, hN, Mp.none⟩
    · have e := heap_alloc_new (w.alloc (.map #[] 0)) (.cells #[.pointer (some ⟨p, 0, none⟩), .map (some w.heap.size)] 64)
      rw [hsz] at e
      exact e
    · exact map_of_block (World.ownsMap_made w Tryz.prog 3 (plainElem Tryz.prog 3)) (Below.heap_alloc _ _ _ (by rw [hsz]; omega))
    · have e : ((w.alloc (.map #[] 0)).alloc (.cells #[.pointer (some ⟨p, 0, none⟩), .map (some w.heap.size)] 64)).heap.size = w.heap.size + 1 + 1 := by rw [Go.Deep.nblk_alloc, hsz]
      rw [e]
      rcases hk with r | rfl | rfl
      · have := hlt _ r; omega
      · omega
      · omega
  clear h hN
  have hmm := @run_makeMap Tryz.prog
  go_enter Tryz.func19, Tryz.ntmps19
  go_wp2
  go_ret2
  exact ⟨_, _, rfl, HS.out, a2, by omega, by omega⟩
theorem Few.mono {K K' : Int} {cs : Nat → Int} (h : Few K cs) (hk : K ≤ K') : Few K' cs := fun j => by have := h j; omega
theorem hop_nine {O : List Ob} {o : Ob} {ws : Nat → Int} {base N len i : Nat} (h : OInv ws base N len O) (ho : o ∈ O) : hop i o.n ≤ 8 := by
  have := hop_lt i o.n; have := frg_nine (h.size o ho); omega
end Go.Proofs.YtojblddfggoecaaGreat
