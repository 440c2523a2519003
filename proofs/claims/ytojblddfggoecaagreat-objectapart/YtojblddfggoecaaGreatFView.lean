/- The colours' view of the arena's words: ViewOf, Peek, Poke, Store; the links' Poke. -/
import Derived.Test.YtojblddfggoecaaGreatSGood
namespace Go.Proofs.YtojblddfggoecaaGreat
open Go.RowKit

theorem infoCV : (Tryz.prog.info? 69).map (·.size) = some 3 := by kernel_rfl
theorem nil_rc (bc : Nat) (w : World) : (binOp BinOp.eql 66 (.func (.func 62) #[] #[.pointer (some ⟨bc, 0, none⟩)]) .nilFunc).run Tryz.prog w = .ok (.bool false) w := by kernel_rfl
theorem nil_wc (w : World) : (binOp BinOp.eql 67 (.func (.func 63) #[] #[]) .nilFunc).run Tryz.prog w = .ok (.bool false) w := by kernel_rfl
theorem viewC_ok (b bc : Nat) (w : World) : Calls Tryz.prog 64 #[.pointer (some ⟨b, 0, none⟩), .func (.func 62) #[] #[.pointer (some ⟨bc, 0, none⟩)], .func (.func 63) #[] #[]] w fun e w' => e = .returned (.agg #[.pointer (some ⟨b, 0, none⟩), .func (.func 62) #[] #[.pointer (some ⟨bc, 0, none⟩)], .func (.func 63) #[] #[]]) ∧ Below w.heap.size w w' := by
  have h1 := nil_rc bc
  have h2 := nil_wc
  go_enter Tryz.func64, Tryz.ntmps64
  go_wp2
  exact bodyPost_ret (results_cell_row rfl _ _ w.heap.size 69 _ (0, 0) _ rfl (heap_alloc_new w _) Tryz.underlying69 rfl infoCV) rfl ⟨rfl, (Below.refl _ _).alloc (Nat.le_refl _) _⟩
theorem readC_in (x : Int) (bc : Nat) (w : World) (hc : w.cell? ⟨bc, 0, none⟩ = some (.int .i64 3)) (h0 : 0 ≤ x) (h1 : x ≤ 3) :
    Calls Tryz.prog 62 #[.int .i64 x, .pointer (some ⟨bc, 0, none⟩)] w fun e w' => e = .returned (.int .i64 x) ∧ w' = w := by
  go_enter Tryz.func62, Tryz.ntmps62
  go_wp2
  go_ret
  exact ⟨rfl, rfl⟩
theorem writeC_any (x : Int) (w : World) : Calls Tryz.prog 63 #[.int .i64 x] w fun e w' => e = .returned (.int .i64 x) ∧ w' = w := by
  go_enter Tryz.func63, Tryz.ntmps63
  go_wp2
  go_ret
  exact ⟨rfl, rfl⟩
theorem cPeek_ok {w : World} {b bw bs W G : Nat} {ws cs : Nat → Int} (h : Ar w b bw bs W G ws cs) {bc : Nat} (hc : w.heap[bc]? = some (.cells #[.int .i64 3] 77 (0, 0))) (a : Nat) (ha : a < W) (hi : 0 ≤ ws a) (hj : ws a ≤ 3) :
    Calls Tryz.prog 53 #[.agg #[.pointer (some ⟨b, 0, none⟩), .func (.func 62) #[] #[.pointer (some ⟨bc, 0, none⟩)], .func (.func 63) #[] #[]], .int .i64 a] w fun e w' => e = .returned (.tuple #[.int .i64 (ws a), .int .i64 0]) ∧ Below w.heap.size w w' := by
  have hw : ∀ o, (w.alloc o).cell? ⟨bw, a, none⟩ = some (.int .i64 (ws a)) := fun o => (h.words.alloc o).cell ha
  have hB : ∀ o n, ((w.alloc o).drewN n).cell? ⟨bc, 0, none⟩ = some (.int .i64 3) := fun o n => box_cell (box_alloc hc o)
  go_enter Tryz.func53, Tryz.ntmps53
  go_wp2_with (go_at_call 74; refine (word_ok (h.alloc _) _ ha).mono ?_; rintro e w1 ⟨rfl, rfl⟩)
  go_quiet ((go_at_call 62; exact Calls.quiet_of_same (readC_in (ws a) bc _ (hB _ _) hi hj)))
  go_wp2
  go_ret2
  exact ⟨rfl, ((Below.refl _ _).alloc (Nat.le_refl _) _).trans (below_drewN _ _ _)⟩
theorem cPoke_ok {w : World} {b bw bs W G : Nat} {ws cs : Nat → Int} (h : Ar w b bw bs W G ws cs) {bc : Nat} (a : Nat) (v : Int) (ha : a < W) :
    Calls Tryz.prog 65 #[.agg #[.pointer (some ⟨b, 0, none⟩), .func (.func 62) #[] #[.pointer (some ⟨bc, 0, none⟩)], .func (.func 63) #[] #[]], .int .i64 a, .int .i64 v] w fun e w' => e = .returned (.int .i64 0) ∧
      Ar w' b bw bs W G (upd ws a v) cs ∧ But bw bs w w' := by
  have hc := fun o => (h.alloc o).words.cell ha
  have hf := fun o => (h.alloc o).words.frozen a
  go_enter Tryz.func65, Tryz.ntmps65
  go_wp2_with (first | (go_at_call 74; refine (word_ok (h.alloc _) _ ha).mono ?_; rintro e w1 ⟨rfl, rfl⟩) | (go_at_call 63; refine (writeC_any _ _).mono ?_; rintro e w1 ⟨rfl, rfl⟩))
  go_ret
  exact ⟨rfl, (h.alloc _).put a v, ((But.refl _ _ _).alloc _).setw a _⟩
theorem cStore_ok {w : World} {b bw bs W G : Nat} {ws cs : Nat → Int} (h : Ar w b bw bs W G ws cs) {bc : Nat} (g a : Nat) (v : Int) (hg : g < G) (ha : a < W) :
    Calls Tryz.prog 72 #[.agg #[.pointer (some ⟨b, 0, none⟩), .func (.func 62) #[] #[.pointer (some ⟨bc, 0, none⟩)], .func (.func 63) #[] #[]], .int .i64 g, .int .i64 a, .int .i64 v] w fun e w' => e = .returned (.int .i64 0) ∧
      Ar w' b bw bs W G (upd ws a v) (upd cs g (wrap64 (cs g + 1))) ∧ But bw bs w w' := by
  go_enter Tryz.func72, Tryz.ntmps72
  go_wp2_with (first | (go_at_call 94; refine (step_but (h.alloc _) _ _ hg ha).mono ?_; rintro e w1 ⟨rfl, hA, hB⟩; have hw := hA.words.cell ha; have hf := hA.words.frozen a; have hL := laid1 h.lts.1 h.lts.2 hB; obtain ⟨v0, v1, v2⟩ := blk3 hL) | (go_at_call 63; refine (writeC_any _ _).mono ?_; rintro e w1 ⟨rfl, rfl⟩))
  go_ret
  exact ⟨rfl, hA.put a v, (((But.refl bw bs w).alloc _).trans hB).setw a _⟩
theorem linkPoke_ok {w : World} {b bw bs W G : Nat} {ws cs : Nat → Int} (h : Ar w b bw bs W G ws cs) {bl : Nat} (a : Nat) (v : Int) (ha : a < W) :
    Calls Tryz.prog 103 #[.agg #[.pointer (some ⟨b, 0, none⟩), .func (.func 137) #[] #[.pointer (some ⟨bl, 0, none⟩)], .func (.func 124) #[] #[]], .int .i64 a, .int .i64 v] w fun e w' => e = .returned (.int .i64 0) ∧
      Ar w' b bw bs W G (upd ws a v) cs ∧ But bw bs w w' := by
  have hc := fun o => (h.alloc o).words.cell ha
  have hf := fun o => (h.alloc o).words.frozen a
  go_enter Tryz.func103, Tryz.ntmps103
  go_wp2_with (first | (go_at_call 74; refine (word_ok (h.alloc _) _ ha).mono ?_; rintro e w1 ⟨rfl, rfl⟩) | (go_at_call 124; refine (writeLink_any _ _).mono ?_; rintro e w1 ⟨rfl, rfl⟩))
  go_ret
  exact ⟨rfl, (h.alloc _).put a v, ((But.refl _ _ _).alloc _).setw a _⟩
end Go.Proofs.YtojblddfggoecaaGreat
