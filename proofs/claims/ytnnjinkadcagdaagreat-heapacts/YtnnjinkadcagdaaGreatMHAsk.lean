/- Cell, Refs, Steps, Room of a heap. -/
import Derived.Test.YtnnjinkadcagdaaGreatMH3
namespace Go.Proofs.YtnnjinkadcagdaaGreat
open Go.RowKit
theorem infoE : (Tryz.prog.info? 50).map (·.size) = some 3 := by kernel_rfl
section
variable {w : World} {h W G m : Nat} {c : Int → Int} {S : List (Option Cel)} {F : Nat → Nat → Int} {X : Hx}
theorem cell3f {w : World} {z ty : Nat} {a b c : Value} (h : w.heap[z]? = some (.cells #[a, b, c] ty (0, 0))) : (w.cell? ⟨z, 0, none⟩ = some a ∧ w.cell? ⟨z, 1, none⟩ = some b ∧ w.cell? ⟨z, 2, none⟩ = some c) ∧ ∀ j, w.frozen? ⟨z, j, none⟩ = false := by
  simp [World.cell?, World.frozen?, h]
set_option maxRecDepth 20000 in
theorem hcell_ok (H : HpC w h W G m c S F X) (hm : m ≤ 4000) {i : Nat} {cl : Cel} (hi : S[i]? = some (some cl)) :
    Calls Tryz.prog 20 #[.pointer (some ⟨h, 0, none⟩), .int .i64 ((i : Int) + 1)] w fun e w' => e = .returned (.tuple #[.agg #[.int .i64 cl.kind, .int .i64 cl.cls, .int .i64 cl.n], .int .i64 0]) ∧ Below w.heap.size w w' := by
  have hh := H.mem.h_lt
  have hb0 := (Below.refl w.heap.size w).alloc (Nat.le_refl _) (.cells #[.int .i64 0, .int .i64 0, .int .i64 0] 50)
  have hz0 := heap_alloc_new w (.cells #[.int .i64 0, .int .i64 0, .int .i64 0] 50)
  have hF := (H.mem.below hb0).find_some (by have := H.few; omega) hi ((i : Int) + 1) rfl
  have HB : Hid (∀ w1, Below (w.alloc (.cells #[.int .i64 0, .int .i64 0, .int .i64 0] 50)).heap.size (w.alloc (.cells #[.int .i64 0, .int .i64 0, .int .i64 0] 50)) w1 → Below w.heap.size w w1 ∧ w1.heap[w.heap.size]? = some (.cells #[.int .i64 0, .int .i64 0, .int .i64 0] 50 (0, 0))) := fun w1 hb =>
    ⟨hb0.trans (hb.mono hb0.size), (hb.block _ (by rw [Go.Deep.nblk_alloc]; omega)).trans hz0⟩
  generalize kty cl = ty at *
  generalize kvl X.so X.s cl = d at *
  clear H hi hb0 hz0
  go_enter Tryz.func20, Tryz.ntmps20
  go_wp2_with (go_at_call 36; refine hF.mono ?_; rintro e w1 ⟨rfl, hb⟩; obtain ⟨hb1, hz1⟩ := HB.out w1 hb; have k2 := cell3f hz1; have k3 := box_lt hz1; clear hF hb)
  exact bodyPost_ret (results_ct rfl _ _ w.heap.size 50 _ (0, 0) _ rfl (box_alloc (three_set hz1) _) Tryz.underlying50 rfl infoE) rfl ⟨rfl, below_one (three_below hb1 (Nat.le_refl _)) _⟩
set_option maxRecDepth 20000 in
theorem hcell_no (H : HpC w h W G m c S F X) (hm : m ≤ 4000) (t : Int) (hn : ∀ (i : Nat) (cl : Cel), t = (i : Int) + 1 → S[i]? ≠ some (some cl)) :
    Calls Tryz.prog 20 #[.pointer (some ⟨h, 0, none⟩), .int .i64 t] w fun e w' => e = .returned (.tuple #[.agg #[.int .i64 0, .int .i64 0, .int .i64 0], .int .i64 904]) ∧ Below w.heap.size w w' := by
  have hh := H.mem.h_lt
  have hb0 := (Below.refl w.heap.size w).alloc (Nat.le_refl _) (.cells #[.int .i64 0, .int .i64 0, .int .i64 0] 50)
  have hz0 := heap_alloc_new w (.cells #[.int .i64 0, .int .i64 0, .int .i64 0] 50)
  have hF := (H.mem.below hb0).find_none (by have := H.few; omega) t hn
  have HB : Hid (∀ w1, Below (w.alloc (.cells #[.int .i64 0, .int .i64 0, .int .i64 0] 50)).heap.size (w.alloc (.cells #[.int .i64 0, .int .i64 0, .int .i64 0] 50)) w1 → Below w.heap.size w w1 ∧ w1.heap[w.heap.size]? = some (.cells #[.int .i64 0, .int .i64 0, .int .i64 0] 50 (0, 0))) := fun w1 hb =>
    ⟨hb0.trans (hb.mono hb0.size), (hb.block _ (by rw [Go.Deep.nblk_alloc]; omega)).trans hz0⟩
  clear H hn hb0 hz0
  go_enter Tryz.func20, Tryz.ntmps20
  go_wp2_with (go_at_call 36; refine hF.mono ?_; rintro e w1 ⟨rfl, hb⟩; obtain ⟨hb1, hz1⟩ := HB.out w1 hb; have k2 := cell3f hz1; have k3 := box_lt hz1; clear hF hb)
  exact bodyPost_ret (results_ct rfl _ _ w.heap.size 50 _ (0, 0) _ rfl (box_alloc (three_set hz1) _) Tryz.underlying50 rfl infoE) rfl ⟨rfl, below_one (three_below hb1 (Nat.le_refl _)) _⟩
/-- What Refs leaves. -/
def RfPost (w : World) (S : List (Option Cel)) (e : Ending) (w' : World) : Prop := ∃ v, e = .returned v ∧ Ri w' w.heap.size v (nums 0 S) ∧ Below w.heap.size w w'
theorem hrefs_ok (H : HpC w h W G m c S F X) (hm : m ≤ 4000) : Calls Tryz.prog 13 #[.pointer (some ⟨h, 0, none⟩)] w (RfPost w S) := by
  have hN := numbers_ok H.mem.five.2.2.1 H.mem.cells (by have := H.few; omega)
  have hh := H.mem.h_lt
  clear H
  go_enter Tryz.func13, Tryz.ntmps13
  go_wp2_with (go_at_call 27; refine hN.mono ?_; rintro e w1 ⟨v, rfl, hR, hb⟩)
  go_ret
  exact ⟨v, rfl, hR, hb⟩
theorem hroom_ok (H : HpC w h W G m c S F X) : Calls Tryz.prog 11 #[.pointer (some ⟨h, 0, none⟩)] w fun e w' => e = .returned (.int .i64 ((roomW W : Int) - sumS S)) ∧ w' = w := by
  have cc := H.mem.five
  generalize (roomW W : Int) - sumS S = ro at *
  clear H
  go_enter Tryz.func11, Tryz.ntmps11
  go_wp2
  go_ret
  exact ⟨rfl, rfl⟩
theorem hsteps_ok (H : HpC w h W G m c S F X) (g : Nat) (hg : g < G) : Calls Tryz.prog 21 #[.pointer (some ⟨h, 0, none⟩), .int .i64 g] w fun e w' => e = .returned (.int .i64 (c g)) ∧ w' = w := by
  have cc := H.mem.five
  have hS : Calls Tryz.prog 37 #[.pointer (some ⟨X.b, 0, none⟩), .int .i64 g] w fun e w' => e = .returned (.int .i64 (c g)) ∧ w' = w := by
    obtain ⟨P0, ⟨Q, s, bc, pl, k, hP⟩, _⟩ := H.mem.sto.raw.pl
    exact gi_steps hP.good g hg
  clear H
  go_enter Tryz.func21, Tryz.ntmps21
  go_wp2_with (go_at_call 37; refine hS.mono ?_; rintro e w9 ⟨rfl, hw9⟩; replace hw9 := hw9.symm; subst hw9)
  go_ret
  exact ⟨rfl, rfl⟩
theorem hsteps_no (H : HpC w h W G m c S F X) (g : Int) (hg : ¬ (0 ≤ g ∧ g < G)) : Calls Tryz.prog 21 #[.pointer (some ⟨h, 0, none⟩), .int .i64 g] w fun e w' => e = .returned (.int .i64 0) ∧ w' = w := by
  have cc := H.mem.five
  have hS : Calls Tryz.prog 37 #[.pointer (some ⟨X.b, 0, none⟩), .int .i64 g] w fun e w' => e = .returned (.int .i64 0) ∧ w' = w := by
    obtain ⟨P0, ⟨Q, s, bc, pl, k, hP⟩, _⟩ := H.mem.sto.raw.pl
    exact gi_steps_out hP.good g hg
  clear H
  go_enter Tryz.func21, Tryz.ntmps21
  go_wp2_with (go_at_call 37; refine hS.mono ?_; rintro e w9 ⟨rfl, hw9⟩; replace hw9 := hw9.symm; subst hw9)
  go_ret
  exact ⟨rfl, rfl⟩
end
end Go.Proofs.YtnnjinkadcagdaaGreat
