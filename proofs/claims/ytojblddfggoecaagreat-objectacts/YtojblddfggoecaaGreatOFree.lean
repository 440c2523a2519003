/- Are there so many free fragments? -/
import Derived.Test.YtojblddfggoecaaGreatOMath
import Derived.Test.YtojblddfggoecaaGreatSCount
namespace Go.Proofs.YtojblddfggoecaaGreat
open Go.RowKit
section
variable {w : World} {P : Nat → Prop} {s b W base G cap pl k : Nat} {old cs : Nat → Int} {T : Int} {xs : List Int}
theorem gi_count (h : Good w P s ⟨b, W, base, old⟩ G cap cs calm T xs) (hT : T ≤ 1000000000) (m R : Nat) (hm : 0 < m) (hm2 : m ≤ 100000) (hR : R = min m xs.length) :
    Calls Tryz.prog 76 #[.pointer (some ⟨s, 0, none⟩), .int .i64 m] w fun e w' => e = .returned (.int .i64 R) ∧ Below w.heap.size w w' := by
  obtain ⟨bw, bs, bt, bu, bl, ws, ob, hS, hI, hO⟩ := h
  exact count_pos hS hI hT m R hm hm2 hR
set_option maxRecDepth 20000 in
theorem lhas_ok (h : Good w P s ⟨b, W, base, old⟩ G cap cs calm T xs) (hT : T ≤ 1000000000) (m : Nat) (hm : 0 < m) (hm2 : m ≤ 100000) (hl : w.cell? ⟨pl, 0, none⟩ = some (.pointer (some ⟨s, 0, none⟩))) (r : Bool) (hr : decide (m ≤ xs.length) = r) :
    Calls Tryz.prog 55 #[.agg #[.slice (some ⟨pl, 0, none⟩) 1 k], .int .i64 m] w fun e w' => e = .returned (.bool r) ∧ Below w.heap.size w w' := by
  have l0 := fun o => cell_alloc hl o
  obtain ⟨R, hR⟩ : ∃ R, R = min m xs.length := ⟨_, rfl⟩
  have Hr : Hid (decide ((m : Int) - R ≤ 0) = r) := by
    rw [← hr]
    show decide ((m : Int) - R ≤ 0) = decide (m ≤ xs.length)
    rw [decide_eq_decide]; omega
  have hRm : R ≤ m := by omega
  clear hr
  go_enter Tryz.func55, Tryz.ntmps55
  go_wp2
  go_loopg [1, 10] 2 (fun kx s1 s10 wr => ((s10 = .int .i64 0 ∧ s1 = .int .i64 m ∧ 1 ≤ kx) ∨ (s10 = .int .i64 1 ∧ s1 = .int .i64 ((m : Int) - R))) ∧ Below w.heap.size w wr)
  case atStart => exact ⟨.inl ⟨rfl, rfl, by omega⟩, (Below.refl _ _).alloc (Nat.le_refl _) _⟩
  case round =>
    clear l0
    obtain ⟨hc, hb⟩ := hrel
    have l1 := (cell_of (a := ⟨pl, 0, none⟩) (hb.block pl (cell_in hl))).trans hl
    rcases hc with ⟨rfl, rfl, h1⟩ | ⟨rfl, rfl⟩
    · have hk := gi_count (h.below hb) hT m R hm hm2 hR
      clear hR
      go_wp2_with (go_at_call 76; refine hk.mono ?_; rintro e w1 ⟨rfl, hb1⟩)
      go_roundg (gk - 1)
      case measure => omega
      case rel => exact ⟨.inr ⟨by go_num, by go_num⟩, hb.trans (hb1.mono hb.size)⟩
    · clear hR
      have hh := Hr.out
      cases r with
      | true =>
        go_wp2
        go_ret
        exact ⟨rfl, hb⟩
      | false =>
        go_wp2
        go_ret
        exact ⟨rfl, hb⟩
end
theorem hasFree_ok {w : World} {P : Nat → Prop} {p b W base n G : Nat} {cs : Nat → Int} {T : Int} {xs : List Int} {ws : Nat → Int} (h : Pl w P p b W base n G cs T xs ws) (hT : T ≤ 1000000000) (m : Nat) (hm : 0 < m) (hm2 : m ≤ 100000) (r : Bool) (hr : decide (m ≤ xs.length) = r) :
    Calls Tryz.prog 32 #[.pointer (some ⟨p, 0, none⟩), .int .i64 m] w fun e w' => e = .returned (.bool r) ∧ Below w.heap.size w w' := by
  obtain ⟨Q, s, bc, pl, k, h⟩ := h
  have hl := lhas_ok (k := k) h.good hT m hm hm2 h.list r hr
  have c := h.c8
  clear h hr
  go_enter Tryz.func32, Tryz.ntmps32
  go_wp2_with (go_at_call 55; refine hl.mono ?_; rintro e w1 ⟨rfl, hb⟩)
  go_ret
  exact ⟨rfl, hb⟩
theorem hasAgent_any {w : World} {P : Nat → Prop} {p b W base n G : Nat} {cs : Nat → Int} {T : Int} {xs : List Int} {ws : Nat → Int} (h : Pl w P p b W base n G cs T xs ws) (x : Int) (r : Bool) (hr : decide (0 ≤ x ∧ x < (G : Int)) = r) :
    Calls Tryz.prog 31 #[.pointer (some ⟨p, 0, none⟩), .int .i64 x] w fun e w' => e = .returned (.bool r) ∧ w' = w := by
  obtain ⟨Q, s, bc, pl, k, h⟩ := h
  exact phas h x r hr
end Go.Proofs.YtojblddfggoecaaGreat
