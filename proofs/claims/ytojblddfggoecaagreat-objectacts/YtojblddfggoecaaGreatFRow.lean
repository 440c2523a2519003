/- A row of ints; lending and spoiling. -/
import Derived.Test.YtojblddfggoecaaGreatOX
namespace Go.Proofs.YtojblddfggoecaaGreat
open Go.RowKit

/-- A row of ints of the law's own. -/
def Row (w : World) (g n : Nat) (f : Nat → Int) : Prop := ∃ cur : Array Value, w.heap[g]? = some (.cells cur 3 (0, 0)) ∧ ∀ i, i < n → cur[i]? = some (.int .i64 (f i))
theorem Row.cell {w : World} {g n : Nat} {f : Nat → Int} (h : Row w g n f) {i : Nat} (hi : i < n) : w.cell? ⟨g, i, none⟩ = some (.int .i64 (f i)) := by
  obtain ⟨cur, h1, h2⟩ := h
  simp [World.cell?, h1, h2 i hi]
theorem Row.frozen {w : World} {g n : Nat} {f : Nat → Int} (h : Row w g n f) (i : Nat) : w.frozen? ⟨g, i, none⟩ = false := by
  obtain ⟨cur, h1, h2⟩ := h
  simp [World.frozen?, h1]
theorem Row.lt {w : World} {g n : Nat} {f : Nat → Int} (h : Row w g n f) : g < w.heap.size := by
  obtain ⟨cur, h1, h2⟩ := h
  exact box_lt h1
theorem Row.of_block {w w' : World} {g n : Nat} {f : Nat → Int} (h : Row w g n f) (e : w'.heap[g]? = w.heap[g]?) : Row w' g n f := by
  obtain ⟨cur, h1, h2⟩ := h
  exact ⟨cur, e.trans h1, h2⟩
theorem Row.alloc {w : World} {g n : Nat} {f : Nat → Int} (h : Row w g n f) (o : Obj) : Row (w.alloc o) g n f := h.of_block (Below.heap_alloc _ _ _ h.lt)
theorem Row.set {w : World} {g n : Nat} {f : Nat → Int} (h : Row w g n f) (i : Nat) (v : Int) : Row (w.setCell ⟨g, i, none⟩ (.int .i64 v)) g n (upd f i v) := by
  obtain ⟨cur, h1, h2⟩ := h
  refine ⟨_, set_blk h1 i _, fun j hj => ?_⟩
  have := h2 j hj
  unfold upd
  by_cases e : j = i
  · subst e
    have hlt := (Array.getElem?_eq_some_iff.1 this).1
    simp [hlt]
  · rw [if_neg e, Array.getElem?_setIfInBounds_ne (fun q => e q.symm)]; exact this
theorem spoil_ok (ao : Option Addr) (n c : Nat) (f : Nat → Int) (Q : Nat → Prop) (w : World) (hv : n = 0 ∨ ∃ g, ao = some ⟨g, 0, none⟩ ∧ Q g ∧ Row w g n f) (hn : n ≤ 1000) :
    Calls Tryz.prog 9 #[.slice ao n c] w fun e w' => e = .returned (.tuple #[]) ∧ Bt Q w w' := by
  have Hv : Hid (n = 0 ∨ ∃ g, ao = some ⟨g, 0, none⟩ ∧ Q g ∧ Row w g n f) := hv
  clear hv
  go_enter Tryz.func9, Tryz.ntmps9
  go_wp2
  go_loopw [2] (fun i wr => ∃ k : Nat, k ≤ n ∧ i = .int .i64 k ∧ Hid (n = 0 ∨ ∃ (g : Nat) (h : Nat → Int), ao = some ⟨g, 0, none⟩ ∧ Q g ∧ Row wr g n h) ∧ Bt Q w wr) (fun i _ => n - (intOf i).toNat)
  case atStart => exact ⟨0, by omega, rfl, Hv.out.imp id (fun ⟨g, q1, q2, q3⟩ => ⟨g, f, q1, q2, q3⟩), Bt.refl _ _⟩
  case round =>
    clear Hv
    obtain ⟨k, hk, rfl, Hv, hB⟩ := hrel
    by_cases hlt : k < n
    · obtain ⟨g, h, rfl, hQ, hr⟩ := Hv.out.resolve_left (by omega)
      have c0 := hr.cell hlt
      have f0 := hr.frozen k
      have Hr : Hid (Row wr g n h) := hr
      clear hr
      go_wp2
      go_roundw
      case rel => exact ⟨k + 1, by omega, by go_num, .inr ⟨g, _, rfl, hQ, Row.set Hr.out k _⟩, hB.set g k _ (.inl hQ)⟩
      case measure => simp [intOf]; omega
    · have hlt' : ¬ (k : Int) < (n : Int) := by omega
      go_wp2
      go_end0
      exact ⟨rfl, hB⟩
theorem Mine.row {w : World} {B : Nat} {ao : Option Addr} {n c : Nat} {f : Nat → Int} (h : Mine w B (.slice ao n c) n f) : n = 0 ∨ ∃ g, ao = some ⟨g, 0, none⟩ ∧ B ≤ g ∧ Row w g n f := by
  rcases Nat.eq_zero_or_pos n with e | e
  · exact .inl e
  · obtain ⟨g, cap, e1, e2, _, _, cur, h1, _, _, h2⟩ := h.shape e
    cases e1
    exact .inr ⟨g, rfl, e2, cur, h1, h2⟩
end Go.Proofs.YtojblddfggoecaaGreat
