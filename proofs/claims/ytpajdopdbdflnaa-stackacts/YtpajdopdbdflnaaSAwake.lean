/- What every program answers that is one. -/
import Derived.Test.YtpajdopdbdflnaaSGood
namespace Go.Proofs.Ytpajdopdbdflnaa
open Go.RowKit

/-- A row of ints at block g: at i there stands f i. -/
def Row (w : World) (g n : Nat) (f : Nat → Int) : Prop := ∃ cur : Array Value, w.heap[g]? = some (.cells cur 3 (0, 0)) ∧ ∀ i, i < n → cur[i]? = some (.int .i64 (f i))
theorem Row.cell {w : World} {g n : Nat} {f : Nat → Int} (h : Row w g n f) {i : Nat} (hi : i < n) : w.cell? ⟨g, i, none⟩ = some (.int .i64 (f i)) := by
  obtain ⟨cur, h1, h2⟩ := h
  simp [World.cell?, h1, h2 i hi]
theorem Row.frozen {w : World} {g n : Nat} {f : Nat → Int} (h : Row w g n f) (i : Nat) : w.frozen? ⟨g, i, none⟩ = false := by
  obtain ⟨cur, h1, h2⟩ := h
  simp [World.frozen?, h1]
theorem Row.lt {w : World} {g n : Nat} {f : Nat → Int} (h : Row w g n f) : g < w.heap.size := by
  obtain ⟨cur, h1, h2⟩ := h
  exact box_lt h1
theorem Row.of_block {w w' : World} {g n : Nat} {f : Nat → Int} (h : Row w g n f) (e : w'.heap[g]? = w.heap[g]?) : Row w' g n f := by
  obtain ⟨cur, h1, h2⟩ := h
  exact ⟨cur, e.trans h1, h2⟩
theorem Row.alloc {w : World} {g n : Nat} {f : Nat → Int} (h : Row w g n f) (o : Obj) : Row (w.alloc o) g n f := h.of_block (Below.heap_alloc _ _ _ h.lt)
theorem Row.set {w : World} {g n : Nat} {f : Nat → Int} (h : Row w g n f) (i : Nat) (v : Int) : Row (w.setCell ⟨g, i, none⟩ (.int .i64 v)) g n (upd f i v) := by
  obtain ⟨cur, h1, h2⟩ := h
  refine ⟨_, set_blk h1 i _, fun j hj => ?_⟩
  have := h2 j hj
  unfold upd
  by_cases e : j = i
  · subst e
    have hlt := (Array.getElem?_eq_some_iff.1 this).1
    simp [hlt]
  · rw [if_neg e, Array.getElem?_setIfInBounds_ne (fun q => e q.symm)]; exact this

/-- What Items answers, from the top down. -/
def its (xs : List Int) (i : Nat) : Int := xs.getD i 0 - 1
theorem g_its {w : World} {P : Nat → Prop} {s : Nat} {b : Zone} {G cap : Nat} {cs : Nat → Int} {ops : Nat → Op} {T : Int} {xs : List Int} (h : Good w P s b G cap cs ops T xs) (hT : T ≤ 1000000000) :
    Calls Try.prog 11 #[.pointer (some ⟨s, 0, none⟩)] w fun e w' => ∃ (ao : Option Addr) (c : Nat), e = .returned (.slice ao xs.length c) ∧ Below w.heap.size w w' ∧ (xs = [] ∨ ∃ g, ao = some ⟨g, 0, none⟩ ∧ w.heap.size ≤ g ∧ Row w' g xs.length (its xs)) := by
  refine (g_items h hT).mono ?_
  rintro e w' ⟨v, rfl, hown, hnil, hB⟩
  rcases hown.2 with ⟨rfl, h0⟩ | ⟨g, cap', cur, rfl, hb, hg, hc, hm, hs, ht⟩
  · have hx := hnil.1 rfl
    subst hx
    exact ⟨none, 0, rfl, hB, .inl rfl⟩
  · refine ⟨some ⟨g, 0, none⟩, cap', rfl, hB, .inr ⟨g, rfl, hb, cur, hg, fun i hi => ?_⟩⟩
    have h1 : (xs.map fun x => Value.int .i64 (x - 1))[i]? = some (.int .i64 (its xs i)) := by simp [its, hi]
    rw [← ht, List.getElem?_take, if_pos (by omega)] at h1
    simpa using h1
theorem its_cons (x : Int) (r : List Int) : its (x :: r) 0 = x - 1 := by simp [its]

set_option maxHeartbeats 1000000 in
theorem same1 (g q c : Nat) (v : Int) (w : World) (h1 : w.cell? ⟨g, 0, none⟩ = some (.int .i64 v)) (h2 : w.cell? ⟨q, 0, none⟩ = some (.int .i64 v)) :
    Calls Try.prog 27 #[.slice (some ⟨g, 0, none⟩) 1 c, .slice (some ⟨q, 0, none⟩) 1 1] w fun e w' => e = .returned (.bool true) ∧ Below w.heap.size w w' := by
  have hv : (v != v) = false := by simp
  go_enter Try.func27, Try.ntmps27
  go_wp2
  go_loopw [5] (fun k wr => ∃ i : Nat, i ≤ 1 ∧ k = .int .i64 i ∧ ∃ n, wr = w.drewN n) (fun k _ => 1 - (intOf k).toNat)
  case atStart => exact ⟨0, by omega, rfl, 0, rfl⟩
  case round =>
    obtain ⟨i, hi, rfl, n, rfl⟩ := hrel
    by_cases h0 : i = 0
    · subst h0
      have e1 : (w.drewN n).cell? ⟨g, 0, none⟩ = some (.int .i64 v) := h1
      have e2 : (w.drewN n).cell? ⟨q, 0, none⟩ = some (.int .i64 v) := h2
      go_wp2
      go_quiet (fail)
      go_wp2
      go_roundw
      case rel => exact ⟨1, by omega, rfl, _, rfl⟩
      case measure => simp [intOf]
    · obtain rfl : i = 1 := by omega
      go_wp2
      go_ret
      exact ⟨rfl, below_drewN _ _ _⟩
theorem link_idle (v : Int) (hv : 0 ≤ v) (j : Nat) : ((fun _ : Nat => Op.idle) j).link ≠ v + 1 := by show (0 : Int) ≠ v + 1; omega
theorem Wider.from_ {P P' : Nat → Prop} {w : World} {B : Nat} (h : Wider P P' w) (hP : ∀ j, P j → B ≤ j) (hs : B ≤ w.heap.size) : ∀ j, P' j → B ≤ j := fun j hj => (h j hj).elim (hP j) (fun q => by omega)
set_option maxRecDepth 20000 in
set_option maxHeartbeats 4000000 in
theorem awake_any (w : World) : Calls Try.prog 13 #[] w fun e w' => e = .returned (.bool true) ∧ Below w.heap.size w w' := by
  go_enter Try.func13, Try.ntmps13
  go_wp2_with (first
    | (go_at_call 8; refine (begun_ok 2 3 4 _ 2 3 4 rfl rfl rfl (by omega) (by omega) (by omega) (by omega) (by omega)).mono ?_; rintro e w1 ⟨s, b, P, rfl, hG1, hb1, hP1⟩)
    | (go_at_call 18; refine (alone_pop (hG3.below hb3') (by omega) 0 0 0 rfl (by omega) rfl).mono ?_; rintro e w4 ⟨i4, ⟨q4, _⟩ | ⟨x4, r4, q4, rfl, P4, cs4, T4, hG4, hB4, hW4, hT4⟩⟩; (cases q4); obtain ⟨rfl, rfl⟩ := List.cons.inj q4; clear q4; have hb4 := Bt.under (hb3.trans (hb3'.mono hb3.size)) (Nat.le_trans hb3.size hb3'.size) hP3 hB4; have hP4 := hW4.from_ hP3 (Nat.le_trans hb3.size hb3'.size))
    | (go_at_call 20; refine (g_begin_value hG3 (by omega) 0 3 (by omega) rfl (fun q => q.2.2.2 (by simp))).mono ?_; rintro e w3' ⟨rfl, hb3'⟩)
    | (go_at_call 18; refine (alone_push hG2 (by omega) 1 3 1 rfl (by omega) rfl ⟨by omega, by omega, link_idle 3 (by omega), by decide⟩).mono ?_; rintro e w3 ⟨i3, rfl, P3, cs3, T3, hG3, hB3, hW3, hT3⟩; have hb3 := Bt.under hb2 hb2.size hP2 hB3; have hP3 := hW3.from_ hP2 hb2.size)
    | (go_at_call 18; refine (alone_push hG1 (by omega) 0 2 0 rfl (by omega) rfl ⟨by omega, by omega, link_idle 2 (by omega), by simp⟩).mono ?_; rintro e w2 ⟨i2, rfl, P2, cs2, T2, hG2, hB2, hW2, hT2⟩; have hb2 := Bt.under hb1 hb1.size hP1 hB2; have hP2 := hW2.from_ hP1 hb1.size)
    | (go_at_call 21; refine (g_step_idle hG4 1 (by omega) rfl).mono ?_; rintro e w5 ⟨rfl, rfl⟩)
    | (go_at_call 16; refine (snew_nil _ _ _).mono ?_; rintro e w6 ⟨rfl, rfl⟩)
    | (go_at_call 17; refine (num_any _ _).mono ?_; rintro e w7 ⟨rfl, rfl⟩)
    | (go_at_call 11; refine (g_its hG4 (by omega)).mono ?_; rintro e w8 ⟨ao, c8, rfl, hb8, q8 | ⟨g8, rfl, l8, hr8⟩⟩; (cases q8); have c80 := fun o => (hr8.alloc o).cell (i := 0) (by simp))
    | (go_at_call 27; refine (same1 _ _ _ 2 _ (c80 _) (box_cell (heap_alloc_new _ _))).mono ?_; rintro e w9 ⟨rfl, hb9⟩))
  go_ret
  exact ⟨rfl, hb4.trans ((hb8.mono hb4.size).trans (((Below.refl _ _).alloc (Nat.le_trans hb4.size hb8.size) _).trans (hb9.mono (by have := hb4.size; have := hb8.size; simp; omega))))⟩
end Go.Proofs.Ytpajdopdbdflnaa
