/- SpineActs: cycle. -/
import Derived.Test.YtjfjgfkfbbigbaaPMark
namespace Go.Proofs.Ytjfjgfkfbbigbaa
open Go.RowKit
section
variable {B : Nat} {w0 w : World} {P : Nat → Prop} {s b W y : Nat} {half : Int} {v : Value} {bg : Int} {un : Bool} {L : List Rec} {q : St} {V : Int → Int → Int} {c : Int → Int}
theorem Gd.steps {G : Nat} (h : Gd w P s b W G q V c) (g : Int) (hg : 0 ≤ g ∧ g < G) : Calls Try.prog 24 #[.pointer (some ⟨b, 0, none⟩), .int .i64 g] w fun e w' => e = .returned (.int .i64 (c g)) ∧ w' = w := by
  obtain ⟨_, bw, bs, v, f, h, _⟩ := h
  obtain ⟨g, rfl⟩ := Int.eq_ofNat_of_zero_le hg.1
  exact steps_in h.ar g (by omega)
theorem Gd.steps_no {G : Nat} (h : Gd w P s b W G q V c) (g : Int) (hg : ¬ (0 ≤ g ∧ g < G)) : Calls Try.prog 24 #[.pointer (some ⟨b, 0, none⟩), .int .i64 g] w fun e w' => e = .returned (.int .i64 0) ∧ w' = w := by
  obtain ⟨_, bw, bs, v, f, h, _⟩ := h
  exact steps_out h.ar g hg
set_option maxRecDepth 20000 in
/-- cycle, where the act is Begin and none is under way. -/
theorem pbegin_ok (h : Play B w0 w P s b W y half v bg false L q V c) (hoff : q.c.on = false) (hbg : 0 ≤ bg ∧ bg ≤ 1000000000) (A p I n : Int) :
    Calls Try.prog 25 #[.pointer (some ⟨y, 0, none⟩), .agg #[.int .i64 7, .int .i64 A, .int .i64 p, .int .i64 I, .int .i64 n]] w fun e w' => e = .returned (.bool true) ∧ ∃ P', Play B w0 w' P' s b W y half v (bg + 1) true L (begunSt q) V c := by
  have h1 := h.below ((Below.refl _ _).alloc (Nat.le_refl _) (.cells #[.int .i64 7, .int .i64 A, .int .i64 p, .int .i64 I, .int .i64 n] 34))
  have c1 := h1.here.cells
  have hB := begin_ok h1.gd hoff
  clear h
  go_enter Try.func25, Try.ntmps25
  go_wp2_with (first
    | (go_at_call 18; refine hB.mono ?_; rintro e w2 ⟨rfl, hT⟩; obtain ⟨P2, h2⟩ := h1.turn hT; have c2 := h2.here.cells; have f2 := fun k => h2.here.frozen k; have h3 := h2.poke 5 (.bool true) (half' := half) (bg' := bg) (un' := true) rfl; have h4 := h3.poke 4 (.int .i64 (bg + 1)) (half' := half) (bg' := bg + 1) (un' := true) rfl; have H4 : Hid (Play B w0 ((w2.setCell ⟨y, 5, none⟩ (.bool true)).setCell ⟨y, 4, none⟩ (.int .i64 (bg + 1))) P2 s b W y half v (bg + 1) true L (begunSt q) V c) := h4; clear h2 h3 h4 hT h1)
    | (go_at_call 12; refine (num_any _ _).mono ?_; rintro e w9 ⟨rfl, hw9⟩; replace hw9 := hw9.symm; subst hw9))
  go_ret
  exact ⟨rfl, P2, H4.out⟩
end
/-- .. with the act's own box at x. -/
structure Pb (B : Nat) (w0 w : World) (P : Nat → Prop) (s b W y : Nat) (half : Int) (v : Value) (bg : Int) (un : Bool) (L : List Rec) (q : St) (V : Int → Int → Int) (c : Int → Int) (x : Nat) (K A p I n : Int) : Prop where
  play : Play B w0 w P s b W y half v bg un L q V c
  box : w.heap[x]? = some (.cells #[.int .i64 K, .int .i64 A, .int .i64 p, .int .i64 I, .int .i64 n] 34 (0, 0))
  px : ¬ P x
section
variable {B : Nat} {w0 w : World} {P : Nat → Prop} {s b W y : Nat} {half : Int} {v : Value} {bg : Int} {un : Bool} {L : List Rec} {q : St} {V : Int → Int → Int} {c : Int → Int} {x : Nat} {K A p I n : Int}
theorem Pb.start (h : Play B w0 w P s b W y half v bg un L q V c) (K A p I n : Int) : Pb B w0 (w.alloc (.cells #[.int .i64 K, .int .i64 A, .int .i64 p, .int .i64 I, .int .i64 n] 34)) P s b W y half v bg un L q V c w.heap.size K A p I n :=
  ⟨h.below ((Below.refl _ _).alloc (Nat.le_refl _) _), heap_alloc_new w _, fun r => by have := h.lt _ r; omega⟩
theorem Pb.below {w' : World} (h : Pb B w0 w P s b W y half v bg un L q V c x K A p I n) (hb : Below w.heap.size w w') : Pb B w0 w' P s b W y half v bg un L q V c x K A p I n :=
  ⟨h.play.below hb, (hb.block x (Array.getElem?_eq_some_iff.1 h.box).1).trans h.box, h.px⟩
theorem Pb.turn {w' : World} {q' : St} {V' : Int → Int → Int} {c' : Int → Int} (h : Pb B w0 w P s b W y half v bg un L q V c x K A p I n) (ht : Turn w P s b W 3 q' V' c' w') : ∃ P', Pb B w0 w' P' s b W y half v bg un L q' V' c' x K A p I n := by
  have hx := (Array.getElem?_eq_some_iff.1 h.box).1
  obtain ⟨P2, hP2, far⟩ := h.play.turn2 ht
  obtain ⟨P', hg, hB, hW⟩ := ht
  exact ⟨P2, hP2, (hB.block x hx h.px).trans h.box, far x hx h.px⟩
theorem Pb.cells (h : Pb B w0 w P s b W y half v bg un L q V c x K A p I n) : (w.cell? ⟨y, 0, none⟩ = some (.pointer (some ⟨s, 0, none⟩)) ∧ w.cell? ⟨y, 1, none⟩ = some (.pointer (some ⟨b, 0, none⟩)) ∧ w.cell? ⟨y, 2, none⟩ = some (.int .i64 half) ∧ w.cell? ⟨y, 3, none⟩ = some v ∧ w.cell? ⟨y, 4, none⟩ = some (.int .i64 bg) ∧ w.cell? ⟨y, 5, none⟩ = some (.bool un)) ∧ w.cell? ⟨x, 0, none⟩ = some (.int .i64 K) ∧ w.cell? ⟨x, 1, none⟩ = some (.int .i64 A) := by
  refine ⟨h.play.here.cells, ?_, ?_⟩ <;> simp [World.cell?, h.box]
set_option maxRecDepth 20000 in
/-- cycle, where the agent that steps is none. -/
theorem pstep_no (h : Play B w0 w P s b W y half v bg un L q V c) (K A p I n : Int) (hK : K ≠ 7) (hA : ¬ (0 ≤ A ∧ A < 3)) :
    Calls Try.prog 25 #[.pointer (some ⟨y, 0, none⟩), .agg #[.int .i64 K, .int .i64 A, .int .i64 p, .int .i64 I, .int .i64 n]] w fun e w' => e = .returned (.bool true) ∧ Play B w0 w' P s b W y half v bg un L q V c := by
  have hk7 : (K == 7) = false := by simpa using hK
  have hb := Pb.start h K A p I n
  go_enter Try.func25, Try.ntmps25
  go_wp2
  have HH : Hid (w.heap.size = w.heap.size) := (rfl : _ = _)
  generalize World.alloc _ _ = W1 at *
  obtain ⟨c1, x0, x1⟩ := hb.cells
  have hd := hb.below (below_drewN W1 1 _)
  have hs1 := hd.play.gd.steps_no A (by omega)
  go_region_held3 (fun w' => w'.cell? ⟨y, 1, none⟩ = some (.pointer (some ⟨b, 0, none⟩)) ∧ w'.cell? ⟨w.heap.size, 1, none⟩ = some (.int .i64 A)) (go_keep) ((go_at_call 24; refine hs1.mono ?_; rintro e w5 ⟨rfl, hw5⟩; have hb5 : Pb B w0 w5 P s b W y half v bg un L q V c w.heap.size K A p I n := hw5 ▸ hd; obtain ⟨c5, x50, x51⟩ := hb5.cells; clear hw5))
  clear hs1 hd hb c1 x0 x1
  have hd5 := hb5.below (below_drewN w5 1 _)
  have hs2 := sstep_no hd5.play.gd A (by omega)
  go_wp2
  go_region_held3 (fun w' => w'.cell? ⟨y, 0, none⟩ = some (.pointer (some ⟨s, 0, none⟩)) ∧ w'.cell? ⟨w.heap.size, 1, none⟩ = some (.int .i64 A)) (go_keep) ((go_at_call 19; refine hs2.mono ?_; rintro e w6 ⟨rfl, hw6⟩; have hb6 : Pb B w0 w6 P s b W y half v bg un L q V c w.heap.size K A p I n := hw6 ▸ hd5; obtain ⟨c6, x60, x61⟩ := hb6.cells; clear hw6))
  by_cases a0 : 0 ≤ A
  · have a1 : 3 ≤ A := by omega
    clear hA
    go_wp2_with (go_at_call 12; refine (num_any _ _).mono ?_; rintro e w9 ⟨rfl, hw9⟩; replace hw9 := hw9.symm; subst hw9)
    go_ret
    exact ⟨rfl, hb6.play⟩
  · have a1 : A < 0 := by omega
    clear hA a0
    go_wp2_with (go_at_call 12; refine (num_any _ _).mono ?_; rintro e w9 ⟨rfl, hw9⟩; replace hw9 := hw9.symm; subst hw9)
    go_ret
    exact ⟨rfl, hb6.play⟩
set_option maxRecDepth 20000 in
/-- cycle, a step where none is under way. -/
theorem pstep_off (h : Play B w0 w P s b W y half v bg false L q V c) (hoff : q.c.on = false) (K A p I n : Int) (hK : K ≠ 7) (hA : 0 ≤ A ∧ A < 3) (hc : 0 ≤ c A ∧ c A ≤ 1000000000) :
    Calls Try.prog 25 #[.pointer (some ⟨y, 0, none⟩), .agg #[.int .i64 K, .int .i64 A, .int .i64 p, .int .i64 I, .int .i64 n]] w fun e w' => e = .returned (.bool true) ∧ Play B w0 w' P s b W y half v bg false L q V c := by
  have hk7 : (K == 7) = false := by simpa using hK
  have hb := Pb.start h K A p I n
  have a0 : decide (A < 0) = false := by simp; omega
  have a1 : decide (3 ≤ A) = false := by simp; omega
  go_enter Try.func25, Try.ntmps25
  go_wp2
  have HH : Hid (w.heap.size = w.heap.size) := (rfl : _ = _)
  generalize World.alloc _ _ = W1 at *
  obtain ⟨c1, x0, x1⟩ := hb.cells
  have hd := hb.below (below_drewN W1 1 _)
  have hs1 := hd.play.gd.steps A (by omega)
  go_region_held3 (fun w' => w'.cell? ⟨y, 1, none⟩ = some (.pointer (some ⟨b, 0, none⟩)) ∧ w'.cell? ⟨w.heap.size, 1, none⟩ = some (.int .i64 A)) (go_keep) ((go_at_call 24; refine hs1.mono ?_; rintro e w5 ⟨rfl, hw5⟩; have hb5 : Pb B w0 w5 P s b W y half v bg false L q V c w.heap.size K A p I n := hw5 ▸ hd; obtain ⟨c5, x50, x51⟩ := hb5.cells; clear hw5))
  clear hs1 hd hb c1 x0 x1
  have hd5 := hb5.below (below_drewN w5 1 _)
  have hs2 := sstep_off hd5.play.gd A (by omega) hoff
  go_wp2
  go_region_held3 (fun w' => w'.cell? ⟨y, 0, none⟩ = some (.pointer (some ⟨s, 0, none⟩)) ∧ w'.cell? ⟨w.heap.size, 1, none⟩ = some (.int .i64 A)) (go_keep) ((go_at_call 19; refine hs2.mono ?_; rintro e w6 ⟨rfl, hw6⟩; have hb6 : Pb B w0 w6 P s b W y half v bg false L q V c w.heap.size K A p I n := hw6 ▸ hd5; obtain ⟨c6, x60, x61⟩ := hb6.cells; clear hw6))
  have hs6 := fun k => (hb6.below (below_drewN w6 k _)).play.gd.steps A (by omega)
  have hn4 : decide (c A + 4 < c A) = false := by simp; omega
  clear hs2 hd5 hb5 c5 x50 x51
  go_wp2
  go_quiet ((first | (go_at_call 12; exact Calls.quiet_of_same (num_any _ _)) | (go_at_call 24; exact Calls.quiet_of_same (hs6 _))))
  go_wp2
  go_ret
  exact ⟨rfl, (hb6.below (below_drewN w6 nq _)).play⟩
end
end Go.Proofs.Ytjfjgfkfbbigbaa
