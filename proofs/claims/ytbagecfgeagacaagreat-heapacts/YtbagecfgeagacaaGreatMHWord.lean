/- A heap's cells: which there is, and its words. -/
import Derived.Test.YtbagecfgeagacaaGreatMHMake
namespace Go.Proofs.YtbagecfgeagacaaGreat
open Go.RowKit
section
variable {w : World} {h W G : Nat} {c : Int → Int} {room : Int} {S : List (Option Cel)} {X : Hx}
theorem HpM.find_some (H : HpM w h W G c room (S.map (rowP X.so X.s)) X) (hL : S.length ≤ 100000) {i : Nat} {cl : Cel} (hi : S[i]? = some (some cl)) (t : Int) (ht : t = (i : Int) + 1) :
    Calls Tryz.prog 35 #[.pointer (some ⟨h, 3, none⟩), .int .i64 t] w fun e w' => e = .returned (.tuple #[.agg #[.int .i64 cl.kind, .int .i64 cl.cls, .int .i64 cl.n, .iface (kty cl) (kvl X.so X.s cl), .int .i64 cl.at_], .bool true]) ∧ Below w.heap.size w w' := by
  have hlen : (S.map (rowP X.so X.s)).length = S.length := List.length_map _
  have hl : i < S.length := (List.getElem?_eq_some_iff.1 hi).1
  have c3 := H.five.2.2.1
  obtain ⟨ao, cap, hc⟩ := H.cells.form
  have hR := H.cells
  rw [hlen] at hc
  rw [hc] at hR c3
  obtain ⟨p, rfl, _, _, _, hr⟩ := hR.cells (by rw [hlen]; omega)
  exact tfind_at c3 (hr i _ (by rw [List.getElem?_map, hi]; rfl)) hl hL t ht
theorem HpM.find_none (H : HpM w h W G c room (S.map (rowP X.so X.s)) X) (hL : S.length ≤ 100000) (t : Int) (hn : ∀ (i : Nat) (cl : Cel), t = (i : Int) + 1 → S[i]? ≠ some (some cl)) :
    Calls Tryz.prog 35 #[.pointer (some ⟨h, 3, none⟩), .int .i64 t] w fun e w' => e = .returned (.tuple #[.agg #[.int .i64 0, .int .i64 0, .int .i64 0, .nilIface, .int .i64 0], .bool false]) ∧ Below w.heap.size w w' := by
  have hlen : (S.map (rowP X.so X.s)).length = S.length := List.length_map _
  have c3 := H.five.2.2.1
  obtain ⟨ao, cap, hc⟩ := H.cells.form
  have hR := H.cells
  rw [hlen] at hc
  rw [hc] at hR c3
  by_cases ht : t < 1 ∨ (S.length : Int) < t
  · exact tfind_out c3 t ht
  · obtain ⟨i, hi⟩ : ∃ i : Nat, t = (i : Int) + 1 := ⟨(t - 1).toNat, by omega⟩
    have hl : i < S.length := by omega
    obtain ⟨p, rfl, _, _, _, hr⟩ := hR.cells (by rw [hlen]; omega)
    have hS : S[i]? = some none := by
      have e := List.getElem?_eq_getElem hl
      cases hs : S[i] with
      | none => rw [e, hs]
      | some cl => rw [hs] at e; exact absurd e (hn i cl hi)
    exact tfind_gone c3 (hr i _ (by rw [List.getElem?_map, hS]; rfl)) hl hL t hi
theorem cell5 {w : World} {z ty : Nat} {a b c d e : Value} (h : w.heap[z]? = some (.cells #[a, b, c, d, e] ty (0, 0))) : (w.cell? ⟨z, 0, none⟩ = some a ∧ w.cell? ⟨z, 1, none⟩ = some b ∧ w.cell? ⟨z, 2, none⟩ = some c ∧ w.cell? ⟨z, 3, none⟩ = some d ∧ w.cell? ⟨z, 4, none⟩ = some e) ∧ ∀ j, w.frozen? ⟨z, j, none⟩ = false := by
  simp [World.cell?, World.frozen?, h]
/-- Five cells are written. -/
theorem five_set {w : World} {z ty : Nat} {a b c d e a' b' c' d' e' : Value} (h : w.heap[z]? = some (.cells #[a, b, c, d, e] ty (0, 0))) : (((((w.setCell ⟨z, 0, none⟩ a').setCell ⟨z, 1, none⟩ b').setCell ⟨z, 2, none⟩ c').setCell ⟨z, 3, none⟩ d').setCell ⟨z, 4, none⟩ e').heap[z]? = some (.cells #[a', b', c', d', e'] ty (0, 0)) :=
  set_blk (set_blk (set_blk (set_blk (set_blk h 0 a') 1 b') 2 c') 3 d') 4 e'
theorem five_below {w w1 : World} {B z : Nat} {a b c d e : Value} (hb : Below B w w1) (hz : B ≤ z) : Below B w (((((w1.setCell ⟨z, 0, none⟩ a).setCell ⟨z, 1, none⟩ b).setCell ⟨z, 2, none⟩ c).setCell ⟨z, 3, none⟩ d).setCell ⟨z, 4, none⟩ e) :=
  ((((hb.setCell (p := ⟨z, 0, none⟩) hz a).setCell (p := ⟨z, 1, none⟩) hz b).setCell (p := ⟨z, 2, none⟩) hz c).setCell (p := ⟨z, 3, none⟩) hz d).setCell (p := ⟨z, 4, none⟩) hz e
set_option maxRecDepth 20000 in
theorem haccess_ok (H : HpM w h W G c room (S.map (rowP X.so X.s)) X) (hL : S.length ≤ 100000) {i : Nat} {cl : Cel} (hi : S[i]? = some (some cl)) (g t : Int) (ht : t = (i : Int) + 1) (hg : 0 ≤ g ∧ g < G) :
    Calls Tryz.prog 33 #[.pointer (some ⟨h, 0, none⟩), .int .i64 g, .int .i64 t] w fun e w' => e = .returned (.tuple #[.agg #[.int .i64 cl.kind, .int .i64 cl.cls, .int .i64 cl.n, .iface (kty cl) (kvl X.so X.s cl), .int .i64 cl.at_], .int .i64 0]) ∧ Below w.heap.size w w' := by
  have hh := H.h_lt
  have hb0 := (Below.refl w.heap.size w).alloc (Nat.le_refl _) (.cells #[.int .i64 0, .int .i64 0, .int .i64 0, .nilIface, .int .i64 0] 73)
  have hz0 := heap_alloc_new w (.cells #[.int .i64 0, .int .i64 0, .int .i64 0, .nilIface, .int .i64 0] 73)
  have hF := (H.below hb0).find_some hL hi t ht
  have hc1 : ∀ w1, Below w.heap.size w w1 → w1.cell? ⟨h, 0, none⟩ = some (.pointer (some ⟨X.b, 0, none⟩)) ∧ h < w1.heap.size := fun w1 hb => ⟨(H.below hb).five.1, (H.below hb).h_lt⟩
  have hA := fun w1 (hb : Below w.heap.size w w1) => (H.below hb).agent g true (by simpa using hg)
  have HB : Hid (∀ w1, Below (w.alloc (.cells #[.int .i64 0, .int .i64 0, .int .i64 0, .nilIface, .int .i64 0] 73)).heap.size (w.alloc (.cells #[.int .i64 0, .int .i64 0, .int .i64 0, .nilIface, .int .i64 0] 73)) w1 → Below w.heap.size w w1 ∧ w1.heap[w.heap.size]? = some (.cells #[.int .i64 0, .int .i64 0, .int .i64 0, .nilIface, .int .i64 0] 73 (0, 0))) := fun w1 hb =>
    ⟨hb0.trans (hb.mono hb0.size), (hb.block _ (by rw [Go.Deep.nblk_alloc]; omega)).trans hz0⟩
  generalize kty cl = ty at *
  generalize kvl X.so X.s cl = d at *
  clear H hi hg ht hb0 hz0
  go_enter Tryz.func33, Tryz.ntmps33
  go_wp2_with (first
    | (go_at_call 35; refine hF.mono ?_; rintro e w1 ⟨rfl, hb⟩; obtain ⟨hb1, hz1⟩ := HB.out w1 hb; have k1 := hc1 w1 hb1; have k2 := cell5 hz1; have k3 := box_lt hz1; clear hF hb)
    | (go_at_call 29; refine (hA _ (below_one hb1 _)).mono ?_; rintro e w9 ⟨rfl, hw9⟩; replace hw9 := hw9.symm; subst hw9))
  exact bodyPost_ret (results_ct rfl _ _ w.heap.size 73 _ (0, 0) _ rfl (box_alloc (five_set hz1) _) Tryz.underlying73 rfl infoC) rfl ⟨rfl, below_one (five_below hb1 (Nat.le_refl _)) _⟩
/-- No such cell, or no such agent. -/
def Gone (G : Nat) (S : List (Option Cel)) (g t : Int) : Prop := ¬ ((0 ≤ g ∧ g < G) ∧ ∃ (i : Nat) (cl : Cel), t = (i : Int) + 1 ∧ S[i]? = some (some cl))
set_option maxRecDepth 20000 in
theorem haccess_no (H : HpM w h W G c room (S.map (rowP X.so X.s)) X) (hL : S.length ≤ 100000) (g t : Int) (hg : Gone G S g t) :
    Calls Tryz.prog 33 #[.pointer (some ⟨h, 0, none⟩), .int .i64 g, .int .i64 t] w fun e w' => e = .returned (.tuple #[.agg #[.int .i64 0, .int .i64 0, .int .i64 0, .nilIface, .int .i64 0], .int .i64 904]) ∧ Below w.heap.size w w' := by
  have hh := H.h_lt
  have hb0 := (Below.refl w.heap.size w).alloc (Nat.le_refl _) (.cells #[.int .i64 0, .int .i64 0, .int .i64 0, .nilIface, .int .i64 0] 73)
  have hz0 := heap_alloc_new w (.cells #[.int .i64 0, .int .i64 0, .int .i64 0, .nilIface, .int .i64 0] 73)
  have hc1 : ∀ w1, Below w.heap.size w w1 → w1.cell? ⟨h, 0, none⟩ = some (.pointer (some ⟨X.b, 0, none⟩)) ∧ h < w1.heap.size := fun w1 hb => ⟨(H.below hb).five.1, (H.below hb).h_lt⟩
  have HB : Hid (∀ w1, Below (w.alloc (.cells #[.int .i64 0, .int .i64 0, .int .i64 0, .nilIface, .int .i64 0] 73)).heap.size (w.alloc (.cells #[.int .i64 0, .int .i64 0, .int .i64 0, .nilIface, .int .i64 0] 73)) w1 → Below w.heap.size w w1 ∧ w1.heap[w.heap.size]? = some (.cells #[.int .i64 0, .int .i64 0, .int .i64 0, .nilIface, .int .i64 0] 73 (0, 0))) := fun w1 hb =>
    ⟨hb0.trans (hb.mono hb0.size), (hb.block _ (by rw [Go.Deep.nblk_alloc]; omega)).trans hz0⟩
  by_cases hs : ∃ (i : Nat) (cl : Cel), t = (i : Int) + 1 ∧ S[i]? = some (some cl)
  · have hA := fun w1 (hb : Below w.heap.size w w1) => (H.below hb).agent g false (by have : ¬ (0 ≤ g ∧ g < (G : Int)) := fun q => hg ⟨q, hs⟩; simpa using this)
    obtain ⟨i, cl, ht, hi⟩ := hs
    have hF := (H.below hb0).find_some hL hi t ht
    generalize kty cl = ty at *
    generalize kvl X.so X.s cl = d at *
    clear H hi hg ht hb0 hz0
    go_enter Tryz.func33, Tryz.ntmps33
    go_wp2_with (first
      | (go_at_call 35; refine hF.mono ?_; rintro e w1 ⟨rfl, hb⟩; obtain ⟨hb1, hz1⟩ := HB.out w1 hb; have k1 := hc1 w1 hb1; have k2 := cell5 hz1; have k3 := box_lt hz1; clear hF hb)
      | (go_at_call 29; refine (hA _ (below_one hb1 _)).mono ?_; rintro e w9 ⟨rfl, hw9⟩; replace hw9 := hw9.symm; subst hw9))
    exact bodyPost_ret (results_ct rfl _ _ w.heap.size 73 _ (0, 0) _ rfl (box_alloc (five_set hz1) _) Tryz.underlying73 rfl infoC) rfl ⟨rfl, below_one (five_below hb1 (Nat.le_refl _)) _⟩
  · have hF := (H.below hb0).find_none hL t (fun i cl e hi => hs ⟨i, cl, e, hi⟩)
    clear H hg hs hb0 hz0
    go_enter Tryz.func33, Tryz.ntmps33
    go_wp2_with (first
      | (go_at_call 35; refine hF.mono ?_; rintro e w1 ⟨rfl, hb⟩; obtain ⟨hb1, hz1⟩ := HB.out w1 hb; have k1 := hc1 w1 hb1; have k2 := cell5 hz1; have k3 := box_lt hz1; clear hF hb))
    exact bodyPost_ret (results_ct rfl _ _ w.heap.size 73 _ (0, 0) _ rfl (box_alloc (five_set hz1) _) Tryz.underlying73 rfl infoC) rfl ⟨rfl, below_one (five_below hb1 (Nat.le_refl _)) _⟩
/-- A cell's word i. -/
theorem hword_any (g t i : Int) {x y z u : Int} {ty : TypeId} {d : Value} (hi : 0 ≤ i ∧ i < z) (hA : ∀ w1, Below w.heap.size w w1 → Calls Tryz.prog 33 #[.pointer (some ⟨h, 0, none⟩), .int .i64 g, .int .i64 t] w1 fun e w' => e = .returned (.tuple #[.agg #[.int .i64 x, .int .i64 y, .int .i64 z, .iface ty d, .int .i64 u], .int .i64 0]) ∧ Below w1.heap.size w1 w') :
    Calls Tryz.prog 32 #[.pointer (some ⟨h, 0, none⟩), .int .i64 g, .int .i64 t, .int .i64 i] w fun e w' => e = .returned (.tuple #[.agg #[.int .i64 x, .int .i64 y, .int .i64 z, .iface ty d, .int .i64 u], .int .i64 0]) ∧ Below w.heap.size w w' := by
  have hb0 := (Below.refl w.heap.size w).alloc (Nat.le_refl _) (.cells #[.int .i64 0, .int .i64 0, .int .i64 0, .nilIface, .int .i64 0] 73)
  have hz0 := heap_alloc_new w (.cells #[.int .i64 0, .int .i64 0, .int .i64 0, .nilIface, .int .i64 0] 73)
  have HB : Hid (∀ w1, Below (w.alloc (.cells #[.int .i64 0, .int .i64 0, .int .i64 0, .nilIface, .int .i64 0] 73)).heap.size (w.alloc (.cells #[.int .i64 0, .int .i64 0, .int .i64 0, .nilIface, .int .i64 0] 73)) w1 → Below w.heap.size w w1 ∧ w1.heap[w.heap.size]? = some (.cells #[.int .i64 0, .int .i64 0, .int .i64 0, .nilIface, .int .i64 0] 73 (0, 0))) := fun w1 hb =>
    ⟨hb0.trans (hb.mono hb0.size), (hb.block _ (by rw [Go.Deep.nblk_alloc]; omega)).trans hz0⟩
  have hA0 := hA _ hb0
  have i1 : decide (i < 0) = false := by simp; omega
  have i2 : decide (z ≤ i) = false := by simp; omega
  clear hA hb0 hz0
  go_enter Tryz.func32, Tryz.ntmps32
  go_wp2_with (go_at_call 33; refine hA0.mono ?_; rintro e w1 ⟨rfl, hb⟩; obtain ⟨hb1, hz1⟩ := HB.out w1 hb; have k2 := cell5 hz1; have k3 := box_lt hz1; clear hA0 hb)
  exact bodyPost_ret (results_ct rfl _ _ w.heap.size 73 _ (0, 0) _ rfl (box_alloc (five_set hz1) _) Tryz.underlying73 rfl infoC) rfl ⟨rfl, below_one (five_below hb1 (Nat.le_refl _)) _⟩
theorem hword_out (g t i : Int) {x y z u : Int} {ty : TypeId} {d : Value} (hi : ¬ (0 ≤ i ∧ i < z)) (hA : ∀ w1, Below w.heap.size w w1 → Calls Tryz.prog 33 #[.pointer (some ⟨h, 0, none⟩), .int .i64 g, .int .i64 t] w1 fun e w' => e = .returned (.tuple #[.agg #[.int .i64 x, .int .i64 y, .int .i64 z, .iface ty d, .int .i64 u], .int .i64 0]) ∧ Below w1.heap.size w1 w') :
    Calls Tryz.prog 32 #[.pointer (some ⟨h, 0, none⟩), .int .i64 g, .int .i64 t, .int .i64 i] w fun e w' => e = .returned (.tuple #[.agg #[.int .i64 0, .int .i64 0, .int .i64 0, .nilIface, .int .i64 0], .int .i64 903]) ∧ Below w.heap.size w w' := by
  have hb0 := (Below.refl w.heap.size w).alloc (Nat.le_refl _) (.cells #[.int .i64 0, .int .i64 0, .int .i64 0, .nilIface, .int .i64 0] 73)
  have hz0 := heap_alloc_new w (.cells #[.int .i64 0, .int .i64 0, .int .i64 0, .nilIface, .int .i64 0] 73)
  have HB : Hid (∀ w1, Below (w.alloc (.cells #[.int .i64 0, .int .i64 0, .int .i64 0, .nilIface, .int .i64 0] 73)).heap.size (w.alloc (.cells #[.int .i64 0, .int .i64 0, .int .i64 0, .nilIface, .int .i64 0] 73)) w1 → Below w.heap.size w w1 ∧ w1.heap[w.heap.size]? = some (.cells #[.int .i64 0, .int .i64 0, .int .i64 0, .nilIface, .int .i64 0] 73 (0, 0))) := fun w1 hb =>
    ⟨hb0.trans (hb.mono hb0.size), (hb.block _ (by rw [Go.Deep.nblk_alloc]; omega)).trans hz0⟩
  have hA0 := hA _ hb0
  clear hA hb0 hz0
  by_cases i1 : i < 0
  · clear hi
    go_enter Tryz.func32, Tryz.ntmps32
    go_wp2_with (go_at_call 33; refine hA0.mono ?_; rintro e w1 ⟨rfl, hb⟩; obtain ⟨hb1, hz1⟩ := HB.out w1 hb; have k2 := cell5 hz1; have k3 := box_lt hz1; clear hA0 hb)
    exact bodyPost_ret (results_ct rfl _ _ w.heap.size 73 _ (0, 0) _ rfl (box_alloc (five_set hz1) _) Tryz.underlying73 rfl infoC) rfl ⟨rfl, below_one (five_below hb1 (Nat.le_refl _)) _⟩
  · have i1' : decide (i < 0) = false := by simp; omega
    have i2 : z ≤ i := by omega
    clear hi i1
    go_enter Tryz.func32, Tryz.ntmps32
    go_wp2_with (go_at_call 33; refine hA0.mono ?_; rintro e w1 ⟨rfl, hb⟩; obtain ⟨hb1, hz1⟩ := HB.out w1 hb; have k2 := cell5 hz1; have k3 := box_lt hz1; clear hA0 hb)
    exact bodyPost_ret (results_ct rfl _ _ w.heap.size 73 _ (0, 0) _ rfl (box_alloc (five_set hz1) _) Tryz.underlying73 rfl infoC) rfl ⟨rfl, below_one (five_below hb1 (Nat.le_refl _)) _⟩
theorem hword_no (g t i : Int) (hA : ∀ w1, Below w.heap.size w w1 → Calls Tryz.prog 33 #[.pointer (some ⟨h, 0, none⟩), .int .i64 g, .int .i64 t] w1 fun e w' => e = .returned (.tuple #[.agg #[.int .i64 0, .int .i64 0, .int .i64 0, .nilIface, .int .i64 0], .int .i64 904]) ∧ Below w1.heap.size w1 w') :
    Calls Tryz.prog 32 #[.pointer (some ⟨h, 0, none⟩), .int .i64 g, .int .i64 t, .int .i64 i] w fun e w' => e = .returned (.tuple #[.agg #[.int .i64 0, .int .i64 0, .int .i64 0, .nilIface, .int .i64 0], .int .i64 904]) ∧ Below w.heap.size w w' := by
  have hb0 := (Below.refl w.heap.size w).alloc (Nat.le_refl _) (.cells #[.int .i64 0, .int .i64 0, .int .i64 0, .nilIface, .int .i64 0] 73)
  have hz0 := heap_alloc_new w (.cells #[.int .i64 0, .int .i64 0, .int .i64 0, .nilIface, .int .i64 0] 73)
  have HB : Hid (∀ w1, Below (w.alloc (.cells #[.int .i64 0, .int .i64 0, .int .i64 0, .nilIface, .int .i64 0] 73)).heap.size (w.alloc (.cells #[.int .i64 0, .int .i64 0, .int .i64 0, .nilIface, .int .i64 0] 73)) w1 → Below w.heap.size w w1 ∧ w1.heap[w.heap.size]? = some (.cells #[.int .i64 0, .int .i64 0, .int .i64 0, .nilIface, .int .i64 0] 73 (0, 0))) := fun w1 hb =>
    ⟨hb0.trans (hb.mono hb0.size), (hb.block _ (by rw [Go.Deep.nblk_alloc]; omega)).trans hz0⟩
  have hA0 := hA _ hb0
  clear hA hb0 hz0
  go_enter Tryz.func32, Tryz.ntmps32
  go_wp2_with (go_at_call 33; refine hA0.mono ?_; rintro e w1 ⟨rfl, hb⟩; obtain ⟨hb1, hz1⟩ := HB.out w1 hb; have k2 := cell5 hz1; have k3 := box_lt hz1; clear hA0 hb)
  exact bodyPost_ret (results_ct rfl _ _ w.heap.size 73 _ (0, 0) _ rfl (box_alloc (five_set hz1) _) Tryz.underlying73 rfl infoC) rfl ⟨rfl, below_one (five_below hb1 (Nat.le_refl _)) _⟩
end
end Go.Proofs.YtbagecfgeagacaaGreat
