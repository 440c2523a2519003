/- Len, Get, Set, and what they call. -/
import Derived.Test.YtjfjgfkfbbigbaaPSp
namespace Go.Proofs.Ytjfjgfkfbbigbaa
open Go.RowKit
section
variable {w : World} {P : Nat → Prop} {s b bw bs W G : Nat} {v : Value} {q : St} {f c : Int → Int}
/-- The cells of one array. -/
theorem Sp.elem (h : Sp w P s b bw bs W G v q f c) {p k : Nat} {x : Ary} (hp : v.ownBlock = some p) (hk : q.xs[k]? = some x) :
    w.cell? ⟨p, k * 3, none⟩ = some (.int .i64 x.id) ∧ w.cell? ⟨p, k * 3 + 1, none⟩ = some (.int .i64 x.at_) ∧ w.cell? ⟨p, k * 3 + 2, none⟩ = some (.int .i64 x.n) ∧ w.frozen? ⟨p, k * 3 + 1, none⟩ = false := by
  obtain ⟨p', cap, rfl, _, _, hf, hc⟩ := h.row.cells (by have := (List.getElem?_eq_some_iff.1 hk).1; omega)
  simp only [Value.ownBlock, Option.some.injEq] at hp
  subst hp
  obtain ⟨a, b, c⟩ := hc k x hk
  exact ⟨a, b, c, hf _⟩
theorem Sp.drewn (h : Sp w P s b bw bs W G v q f c) (n : Nat) : Sp (w.drewN n) P s b bw bs W G v q f c := h.below (below_drewN w n _)
theorem bt_drewN (w : World) (n : Nat) : Bt P w (w.drewN n) := Bt.of_below (below_drewN w n _)
theorem lead_ok (h : Sp w P s b bw bs W G v q f c) (g : Int) {p k : Nat} {x : Ary} (hp : v.ownBlock = some p) (hk : q.xs[k]? = some x) (hg : 0 ≤ g ∧ g < G) (ha : 0 ≤ x.at_ ∧ x.at_ < W) :
    Calls Try.prog 30 #[.pointer (some ⟨s, 0, none⟩), .int .i64 g, .pointer (some ⟨p, k * 3, none⟩)] w fun e w' => e = .returned (.int .i64 (f x.at_)) ∧ Sp w' P s b bw bs W G v q f (tick c g) ∧ Bt P w w' := by
  have c0 := h.c0
  have c1 := (h.elem hp hk).2.1
  have hd := h.drewn 1
  go_enter Try.func30, Try.ntmps30
  go_wp2
  go_region_held3 (fun w' => w'.cell? ⟨s, 0, none⟩ = some (.pointer (some ⟨b, 0, none⟩)) ∧ w'.cell? ⟨p, k * 3 + 1, none⟩ = some (.int .i64 x.at_)) (go_keep)
    ((go_at_call 28; refine (sp_load hd g x.at_ hg ha).mono ?_; rintro e w3 ⟨rfl, hS, hB⟩; have d1 := hS.c0; have d2 := (hS.elem hp hk).2.1))
  go_wp2
  go_ret
  exact ⟨rfl, hS, (bt_drewN w 1).trans hB⟩
theorem twin_ok (h : Sp w P s b bw bs W G v q f c) (g : Int) {p k : Nat} {x : Ary} (hp : v.ownBlock = some p) (hk : q.xs[k]? = some x) (hg : 0 ≤ g ∧ g < G) (ha : 0 ≤ x.at_ ∧ x.at_ + 1 < W) (hW : W ≤ 65536) :
    Calls Try.prog 38 #[.pointer (some ⟨s, 0, none⟩), .int .i64 g, .pointer (some ⟨p, k * 3, none⟩)] w fun e w' => e = .returned (.int .i64 (f (x.at_ + 1))) ∧ Sp w' P s b bw bs W G v q f (tick c g) ∧ Bt P w w' := by
  have c0 := h.c0
  have c1 := (h.elem hp hk).2.1
  have hd := h.drewn 1
  obtain ⟨xi, xa, xn⟩ := x
  simp only at c1 ha
  have hb0 : 0 ≤ xa := ha.1
  have hb : xa ≤ 65536 := by omega
  have ew : IntKind.i64.wrap (xa + 1) = xa + 1 := by rw [IntKind.wrap_i64]; omega
  go_enter Try.func38, Try.ntmps38
  go_wp2
  go_region_held3 (fun w' => w'.cell? ⟨s, 0, none⟩ = some (.pointer (some ⟨b, 0, none⟩)) ∧ w'.cell? ⟨p, k * 3 + 1, none⟩ = some (.int .i64 xa)) (go_keep)
    ((go_at_call 28; refine (sp_load hd g (xa + 1) hg (by omega)).mono ?_; rintro e w3 ⟨rfl, hS, hB⟩; have d1 := hS.c0; have d2 := (hS.elem hp hk).2.1))
  go_wp2
  go_ret
  exact ⟨rfl, hS, (bt_drewN w 1).trans hB⟩
theorem setTwin_ok (h : Sp w P s b bw bs W G v q f c) (g a st : Int) (hg : 0 ≤ g ∧ g < G) (ha : 0 ≤ a ∧ a + 1 < W) (hW : W ≤ 65536) :
    Calls Try.prog 49 #[.pointer (some ⟨s, 0, none⟩), .int .i64 g, .int .i64 a, .int .i64 st] w fun e w' => e = .returned (.tuple #[]) ∧ Sp w' P s b bw bs W G v q (updI f (a + 1) st) (tick c g) ∧ Bt P w w' := by
  have c0 := h.c0
  have hb : a ≤ 65536 := by omega
  go_enter Try.func49, Try.ntmps49
  go_wp2_with (go_at_call 35; refine (sp_store h g (a + 1) st hg (by omega)).mono ?_; rintro e w3 ⟨rfl, hS, hB⟩)
  go_end0
  exact ⟨rfl, hS, hB⟩
theorem lay_ok (h : Sp w P s b bw bs W G v q f c) (g a : Int) (hg : 0 ≤ g ∧ g < G) (ha : 0 ≤ a ∧ a + 1 < W) (hW : W ≤ 65536) :
    Calls Try.prog 34 #[.pointer (some ⟨s, 0, none⟩), .int .i64 g, .int .i64 a] w fun e w' => e = .returned (.tuple #[]) ∧ Sp w' P s b bw bs W G v q (updI (updI f a (a + 4)) (a + 1) 0) (tick (tick c g) g) ∧ Bt P w w' := by
  have c0 := h.c0
  have hd := h.drewn 1
  have hb : a ≤ 65536 := by omega
  go_enter Try.func34, Try.ntmps34
  go_wp2
  go_region_held3 (fun w' => w'.cell? ⟨s, 0, none⟩ = some (.pointer (some ⟨b, 0, none⟩))) (go_keep)
    (first
      | (go_at_call 35; refine (sp_store hd g a (a + 4) hg (by omega)).mono ?_; rintro e w3 ⟨rfl, hS, hB⟩; have d1 := hS.c0)
      | (go_at_call 36; refine (wordsOf_any a _ (by omega) (by omega)).mono ?_; rintro e w2 ⟨rfl, rfl⟩))
  go_wp2_with (go_at_call 49; refine (setTwin_ok hS g a 0 hg ha hW).mono ?_; rintro e w4 ⟨rfl, hS4, hB4⟩)
  go_end0
  exact ⟨rfl, hS4, ((bt_drewN w 1).trans hB).trans hB4⟩
theorem access_ok (h : Sp w P s b bw bs W G v q f c) (hs : SortedA q.xs) (hl : q.xs.length < 1000000) (g t i : Int) {x : Ary} (hh : has q.xs t = true) (hk : q.xs[pos q.xs t]? = some x) (hg : 0 ≤ g ∧ g < G) (hi : 0 ≤ i ∧ i < x.n) :
    Calls Try.prog 27 #[.pointer (some ⟨s, 0, none⟩), .int .i64 g, .int .i64 t, .int .i64 i] w fun e w' => ∃ p, v.ownBlock = some p ∧ e = .returned (.tuple #[.pointer (some ⟨p, pos q.xs t * 3, none⟩), .int .i64 0]) ∧ Below w.heap.size w w' := by
  have cc := h.cells
  have hF := find_yes h.row hs hl t hh
  have hA := fun (w1 : World) (hb : Below w.heap.size w w1) => hasAgent_yes (h.below hb).ar g hg.1 hg.2
  have hE := fun (w1 : World) (hb : Below w.heap.size w w1) (p : Nat) (hp : v.ownBlock = some p) => And.intro ((h.below hb).elem hp hk).2.2.1 (h.below hb).c0
  have d1 : decide (x.n ≤ i) = false := by simp; omega
  generalize pos q.xs t = k at *
  clear hh hk hs h
  go_enter Try.func27, Try.ntmps27
  go_wp2_with (first
    | (go_at_call 26; refine hF.mono ?_; rintro e w1 ⟨p, hp, rfl, hb⟩; obtain ⟨e1, e2⟩ := hE w1 hb p hp)
    | (go_at_call 31; refine (hA _ hb).mono ?_; rintro e w9 ⟨rfl, rfl⟩))
  go_ret2
  exact ⟨p, hp, rfl, hb⟩
theorem access_none (h : Sp w P s b bw bs W G v q f c) (hs : SortedA q.xs) (hl : q.xs.length < 1000000) (g t i : Int) (hh : has q.xs t = false) :
    Calls Try.prog 27 #[.pointer (some ⟨s, 0, none⟩), .int .i64 g, .int .i64 t, .int .i64 i] w fun e w' => e = .returned (.tuple #[.pointer none, .int .i64 704]) ∧ Below w.heap.size w w' := by
  have cc := h.cells
  have hF := find_no h.row hs hl t hh
  clear hh hs h
  go_enter Try.func27, Try.ntmps27
  go_wp2_with (go_at_call 26; refine hF.mono ?_; rintro e w1 ⟨rfl, hb⟩)
  go_ret2
  exact ⟨rfl, hb⟩
theorem access_agent (h : Sp w P s b bw bs W G v q f c) (hs : SortedA q.xs) (hl : q.xs.length < 1000000) (g t i : Int) (hh : has q.xs t = true) (hg : ¬ (0 ≤ g ∧ g < G)) :
    Calls Try.prog 27 #[.pointer (some ⟨s, 0, none⟩), .int .i64 g, .int .i64 t, .int .i64 i] w fun e w' => e = .returned (.tuple #[.pointer none, .int .i64 704]) ∧ Below w.heap.size w w' := by
  have cc := h.cells
  have hF := find_yes h.row hs hl t hh
  have hA := fun (w1 : World) (hb : Below w.heap.size w w1) => hasAgent_no (h.below hb).ar g hg
  have hE := fun (w1 : World) (hb : Below w.heap.size w w1) => (h.below hb).c0
  generalize pos q.xs t = k at *
  clear hh hs h hg
  go_enter Try.func27, Try.ntmps27
  go_wp2_with (first
    | (go_at_call 26; refine hF.mono ?_; rintro e w1 ⟨p, hp, rfl, hb⟩; have e1 := hE w1 hb)
    | (go_at_call 31; refine (hA _ hb).mono ?_; rintro e w9 ⟨rfl, rfl⟩))
  go_ret2
  exact ⟨rfl, hb⟩
theorem access_bounds (h : Sp w P s b bw bs W G v q f c) (hs : SortedA q.xs) (hl : q.xs.length < 1000000) (g t i : Int) {x : Ary} (hh : has q.xs t = true) (hk : q.xs[pos q.xs t]? = some x) (hg : 0 ≤ g ∧ g < G) (hi : ¬ (0 ≤ i ∧ i < x.n)) :
    Calls Try.prog 27 #[.pointer (some ⟨s, 0, none⟩), .int .i64 g, .int .i64 t, .int .i64 i] w fun e w' => e = .returned (.tuple #[.pointer none, .int .i64 703]) ∧ Below w.heap.size w w' := by
  have cc := h.cells
  have hF := find_yes h.row hs hl t hh
  have hA := fun (w1 : World) (hb : Below w.heap.size w w1) => hasAgent_yes (h.below hb).ar g hg.1 hg.2
  have hE := fun (w1 : World) (hb : Below w.heap.size w w1) (p : Nat) (hp : v.ownBlock = some p) => And.intro ((h.below hb).elem hp hk).2.2.1 (h.below hb).c0
  generalize pos q.xs t = k at *
  clear hh hk hs h
  by_cases h0 : 0 ≤ i
  · have d1 : x.n ≤ i := by omega
    clear hi
    go_enter Try.func27, Try.ntmps27
    go_wp2_with (first
      | (go_at_call 26; refine hF.mono ?_; rintro e w1 ⟨p, hp, rfl, hb⟩; obtain ⟨e1, e2⟩ := hE w1 hb p hp)
      | (go_at_call 31; refine (hA _ hb).mono ?_; rintro e w9 ⟨rfl, rfl⟩))
    go_ret2
    exact ⟨rfl, hb⟩
  · have d1 : i < 0 := by omega
    clear hi h0
    go_enter Try.func27, Try.ntmps27
    go_wp2_with (first
      | (go_at_call 26; refine hF.mono ?_; rintro e w1 ⟨p, hp, rfl, hb⟩; obtain ⟨e1, e2⟩ := hE w1 hb p hp)
      | (go_at_call 31; refine (hA _ hb).mono ?_; rintro e w9 ⟨rfl, rfl⟩))
    go_ret2
    exact ⟨rfl, hb⟩
theorem len_ok (h : Sp w P s b bw bs W G v q f c) (hs : SortedA q.xs) (hl : q.xs.length < 1000000) (t : Int) {x : Ary} (hh : has q.xs t = true) (hk : q.xs[pos q.xs t]? = some x) :
    Calls Try.prog 11 #[.pointer (some ⟨s, 0, none⟩), .int .i64 t] w fun e w' => e = .returned (.tuple #[.int .i64 x.n, .int .i64 0]) ∧ Below w.heap.size w w' := by
  have cc := h.cells
  have hF := find_yes h.row hs hl t hh
  have hE := fun (w1 : World) (hb : Below w.heap.size w w1) (p : Nat) (hp : v.ownBlock = some p) => ((h.below hb).elem hp hk).2.2.1
  generalize pos q.xs t = k at *
  clear hh hk hs h
  go_enter Try.func11, Try.ntmps11
  go_wp2_with (go_at_call 26; refine hF.mono ?_; rintro e w1 ⟨p, hp, rfl, hb⟩; have e1 := hE w1 hb p hp)
  go_ret2
  exact ⟨rfl, hb⟩
theorem len_no (h : Sp w P s b bw bs W G v q f c) (hs : SortedA q.xs) (hl : q.xs.length < 1000000) (t : Int) (hh : has q.xs t = false) :
    Calls Try.prog 11 #[.pointer (some ⟨s, 0, none⟩), .int .i64 t] w fun e w' => e = .returned (.tuple #[.int .i64 0, .int .i64 704]) ∧ Below w.heap.size w w' := by
  have cc := h.cells
  have hF := find_no h.row hs hl t hh
  clear hh hs h
  go_enter Try.func11, Try.ntmps11
  go_wp2_with (go_at_call 26; refine hF.mono ?_; rintro e w1 ⟨rfl, hb⟩)
  go_ret2
  exact ⟨rfl, hb⟩
end
end Go.Proofs.Ytjfjgfkfbbigbaa
