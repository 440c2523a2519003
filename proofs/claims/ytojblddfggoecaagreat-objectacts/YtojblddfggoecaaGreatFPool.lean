/- A pool of fragments as it lies in memory; its small functions; Colour, Load, Store, Paint. -/
import Derived.Test.YtojblddfggoecaaGreatFList
namespace Go.Proofs.YtojblddfggoecaaGreat
open Go.RowKit

structure PlC (w : World) (P Q : Nat → Prop) (p s bc pl k b W base n G : Nat) (cs : Nat → Int) (T : Int) (xs : List Int) (ws : Nat → Int) : Prop where
  good : Good w Q s ⟨b, W, base + 9 * n, ws⟩ G n cs calm T xs
  here : w.heap[p]? = some (.cells #[.pointer (some ⟨b, 0, none⟩), .int .i64 base, .pointer (some ⟨b, 0, none⟩), .func (.func 62) #[] #[.pointer (some ⟨bc, 0, none⟩)], .func (.func 63) #[] #[], .int .i64 ((base : Int) + 8 * n), .int .i64 n, .slice (some ⟨pl, 0, none⟩) 1 k] 76 (0, 0))
  box : w.heap[bc]? = some (.cells #[.int .i64 3] 77 (0, 0))
  list : w.cell? ⟨pl, 0, none⟩ = some (.pointer (some ⟨s, 0, none⟩))
  sub : ∀ j, Q j → P j
  foot : P p ∧ P bc ∧ P pl
  off : ¬ Q p ∧ ¬ Q bc ∧ ¬ Q pl
  lt : ∀ j, P j → j < w.heap.size
  fit : base + (14 * n + 64) ≤ W
  big : W ≤ 65536
  n1 : 1 ≤ n
  n2 : n ≤ 1000
  col : ∀ f, f < n → 0 ≤ ws (base + 8 * n + f) ∧ ws (base + 8 * n + f) ≤ 3 ∧ (ws (base + 8 * n + f) = 0 ↔ (f : Int) + 1 ∈ xs)
/-- The pool at block p, over the arena of b: its free fragments are xs (each one greater), the words are ws but where the free ones' stack lies. -/
def Pl (w : World) (P : Nat → Prop) (p b W base n G : Nat) (cs : Nat → Int) (T : Int) (xs : List Int) (ws : Nat → Int) : Prop := ∃ (Q : Nat → Prop) (s bc pl k : Nat), PlC w P Q p s bc pl k b W base n G cs T xs ws

theorem cell_of {w w' : World} {a : Addr} (e : w'.heap[a.block]? = w.heap[a.block]?) : w'.cell? a = w.cell? a := by
  unfold World.cell?; rw [e]
theorem PlC.keep {w' : World} {w : World} {P Q : Nat → Prop} {p s bc pl k b W base n G : Nat} {cs : Nat → Int} {T : Int} {xs : List Int} {ws : Nat → Int} (h : PlC w P Q p s bc pl k b W base n G cs T xs ws) (e : ∀ j, P j → w'.heap[j]? = w.heap[j]?) (hs : w.heap.size ≤ w'.heap.size) : PlC w' P Q p s bc pl k b W base n G cs T xs ws :=
  ⟨h.good.keep (fun j hj => e j (h.sub j hj)) hs, (e _ h.foot.1).trans h.here, (e _ h.foot.2.1).trans h.box, (cell_of (e pl h.foot.2.2)).trans h.list, h.sub, h.foot, h.off, fun j hj => Nat.lt_of_lt_of_le (h.lt j hj) hs, h.fit, h.big, h.n1, h.n2, h.col⟩
theorem PlC.below {w' : World} {w : World} {P Q : Nat → Prop} {p s bc pl k b W base n G : Nat} {cs : Nat → Int} {T : Int} {xs : List Int} {ws : Nat → Int} (h : PlC w P Q p s bc pl k b W base n G cs T xs ws) (e : Below w.heap.size w w') : PlC w' P Q p s bc pl k b W base n G cs T xs ws := h.keep (fun j hj => e.block j (h.lt j hj)) e.size
/-- The stack and the words have turned. -/
theorem PlC.move {w' : World} {w : World} {P Q : Nat → Prop} {p s bc pl k b W base n G : Nat} {cs : Nat → Int} {T : Int} {xs : List Int} {ws : Nat → Int} (h : PlC w P Q p s bc pl k b W base n G cs T xs ws) {Q' : Nat → Prop} {cs' ws' : Nat → Int} {T' : Int} {xs' : List Int} (hG : Good w' Q' s ⟨b, W, base + 9 * n, ws'⟩ G n cs' calm T' xs') (hB : Bt Q w w') (hW : Wider Q Q' w)
    (hc : ∀ f, f < n → 0 ≤ ws' (base + 8 * n + f) ∧ ws' (base + 8 * n + f) ≤ 3 ∧ (ws' (base + 8 * n + f) = 0 ↔ (f : Int) + 1 ∈ xs')) :
    PlC w' (fun j => P j ∨ Q' j) Q' p s bc pl k b W base n G cs' T' xs' ws' ∧ Bt P w w' ∧ Wider P (fun j => P j ∨ Q' j) w := by
  have l0 := h.lt p h.foot.1
  have l1 := h.lt bc h.foot.2.1
  have l2 := h.lt pl h.foot.2.2
  refine ⟨⟨hG, (hB.block p l0 h.off.1).trans h.here, (hB.block bc l1 h.off.2.1).trans h.box, (cell_of (hB.block pl l2 h.off.2.2)).trans h.list, fun j hj => .inr hj, ⟨.inl h.foot.1, .inl h.foot.2.1, .inl h.foot.2.2⟩, ⟨?_, ?_, ?_⟩, ?_, h.fit, h.big, h.n1, h.n2, hc⟩, hB.mono fun j _ hj => h.sub j hj, ?_⟩
  · exact fun q => (hW p q).elim h.off.1 (fun r => by omega)
  · exact fun q => (hW bc q).elim h.off.2.1 (fun r => by omega)
  · exact fun q => (hW pl q).elim h.off.2.2 (fun r => by omega)
  · exact fun j hj => hj.elim (fun q => Nat.lt_of_lt_of_le (h.lt j q) hB.size) (hG.lt j)
  · exact fun j hj => hj.elim .inl (fun q => (hW j q).elim (fun r => .inl (h.sub j r)) .inr)
theorem PlC.c8 {w : World} {P Q : Nat → Prop} {p s bc pl k b W base n G : Nat} {cs : Nat → Int} {T : Int} {xs : List Int} {ws : Nat → Int} (h : PlC w P Q p s bc pl k b W base n G cs T xs ws) : w.cell? ⟨p, 0, none⟩ = some (.pointer (some ⟨b, 0, none⟩)) ∧ w.cell? ⟨p, 1, none⟩ = some (.int .i64 base) ∧ w.cell? ⟨p, 2, none⟩ = some (.pointer (some ⟨b, 0, none⟩)) ∧ w.cell? ⟨p, 3, none⟩ = some (.func (.func 62) #[] #[.pointer (some ⟨bc, 0, none⟩)]) ∧ w.cell? ⟨p, 4, none⟩ = some (.func (.func 63) #[] #[]) ∧ w.cell? ⟨p, 5, none⟩ = some (.int .i64 ((base : Int) + 8 * n)) ∧ w.cell? ⟨p, 6, none⟩ = some (.int .i64 n) ∧ w.cell? ⟨p, 7, none⟩ = some (.slice (some ⟨pl, 0, none⟩) 1 k) := blk8 h.here

theorem isWord_any (x : Int) (w : World) (r : Bool) (hr : decide (0 ≤ x ∧ x < 8) = r) : Calls Tryz.prog 58 #[.int .i64 x] w fun e w' => e = .returned (.bool r) ∧ w' = w := by
  subst hr
  by_cases h0 : 0 ≤ x
  · by_cases h1 : x < 8
    · rw [decide_eq_true ⟨h0, h1⟩]
      go_enter Tryz.func58, Tryz.ntmps58
      go_wp2
      go_ret
      exact ⟨rfl, rfl⟩
    · rw [decide_eq_false (by omega)]
      have h2 : decide (x < 8) = false := by simp; omega
      clear h1
      go_enter Tryz.func58, Tryz.ntmps58
      go_wp2
      go_ret
      exact ⟨rfl, rfl⟩
  · rw [decide_eq_false (by omega)]
    have h2 : decide (0 ≤ x) = false := by simp; omega
    clear h0
    go_enter Tryz.func58, Tryz.ntmps58
    go_wp2
    go_ret
    exact ⟨rfl, rfl⟩
theorem has_any {b bc base n : Nat} (x : Int) (w : World) (r : Bool) (hr : decide (0 ≤ x ∧ x < (n : Int)) = r) : Calls Tryz.prog 71 #[.agg #[.pointer (some ⟨b, 0, none⟩), .func (.func 62) #[] #[.pointer (some ⟨bc, 0, none⟩)], .func (.func 63) #[] #[], .int .i64 ((base : Int) + 8 * n), .int .i64 n], .int .i64 x] w fun e w' => e = .returned (.bool r) ∧ Below w.heap.size w w' := by
  subst hr
  by_cases h0 : 0 ≤ x
  · by_cases h1 : x < (n : Int)
    · rw [decide_eq_true ⟨h0, h1⟩]
      go_enter Tryz.func71, Tryz.ntmps71
      go_wp2
      go_ret
      exact ⟨rfl, (Below.refl _ _).alloc (Nat.le_refl _) _⟩
    · rw [decide_eq_false (by omega)]
      have h2 : decide (x < (n : Int)) = false := by simp; omega
      clear h1
      go_enter Tryz.func71, Tryz.ntmps71
      go_wp2
      go_ret
      exact ⟨rfl, (Below.refl _ _).alloc (Nat.le_refl _) _⟩
  · rw [decide_eq_false (by omega)]
    have h2 : decide (0 ≤ x) = false := by simp; omega
    clear h0
    go_enter Tryz.func71, Tryz.ntmps71
    go_wp2
    go_ret
    exact ⟨rfl, (Below.refl _ _).alloc (Nat.le_refl _) _⟩
theorem at_ok {w : World} {P Q : Nat → Prop} {p s bc pl k b W base n G : Nat} {cs : Nat → Int} {T : Int} {xs : List Int} {ws : Nat → Int} (h : PlC w P Q p s bc pl k b W base n G cs T xs ws) (f : Nat) (hf : f < n) :
    Calls Tryz.prog 30 #[.agg #[.pointer (some ⟨b, 0, none⟩), .func (.func 62) #[] #[.pointer (some ⟨bc, 0, none⟩)], .func (.func 63) #[] #[], .int .i64 ((base : Int) + 8 * n), .int .i64 n], .int .i64 f] w fun e w' => e = .returned (.int .i64 (ws (base + 8 * n + f))) ∧ Below w.heap.size w w' := by
  have hc := h.col f hf
  have h1 := h.fit
  have h2 := h.big
  have hp := fun o => gi_cpeek (h.good.alloc o) (box_alloc h.box o) (base + 8 * n + f) (by omega) (by omega) hc.1 hc.2.1
  simp only [Int.natCast_add, Int.natCast_mul] at hp
  generalize ws (base + 8 * n + f) = y at hp hc ⊢
  go_enter Tryz.func30, Tryz.ntmps30
  go_wp2_with (go_at_call 53; refine (hp _).mono ?_; rintro e w1 ⟨rfl, hb⟩)
  go_ret
  exact ⟨rfl, ((Below.refl _ _).alloc (Nat.le_refl _) _).trans (hb.mono (by simp))⟩
/-- A colour has been set; c is no 0 where the fragment is in use, and 0 where it is free. -/
theorem set_ok {w : World} {P Q : Nat → Prop} {p s bc pl k b W base n G : Nat} {cs : Nat → Int} {T : Int} {xs : List Int} {ws : Nat → Int} (h : PlC w P Q p s bc pl k b W base n G cs T xs ws) (g f : Nat) (c : Int) (hg : g < G) (hf : f < n) :
    Calls Tryz.prog 51 #[.agg #[.pointer (some ⟨b, 0, none⟩), .func (.func 62) #[] #[.pointer (some ⟨bc, 0, none⟩)], .func (.func 63) #[] #[], .int .i64 ((base : Int) + 8 * n), .int .i64 n], .int .i64 g, .int .i64 f, .int .i64 c] w fun e w' => (∃ v, e = .returned v) ∧ Good w' Q s ⟨b, W, base + 9 * n, upd ws (base + 8 * n + f) c⟩ G n (upd cs g (wrap64 (cs g + 1))) calm T xs ∧ Bt Q w w' := by
  have h1 := h.fit
  have h2 := h.big
  have hp := fun o => gi_cstore (bc := bc) (h.good.alloc o) g (base + 8 * n + f) c hg (by omega) (by omega)
  simp only [Int.natCast_add, Int.natCast_mul] at hp
  go_enter Tryz.func51, Tryz.ntmps51
  go_wp2_with (go_at_call 72; refine (hp _).mono ?_; rintro e w1 ⟨rfl, hG, hB⟩)
  go_end0
  exact ⟨⟨_, rfl⟩, hG, (Bt.of_below ((Below.refl _ _).alloc (Nat.le_refl _) _)).trans hB⟩
theorem place_ok {w : World} {P Q : Nat → Prop} {p s bc pl k b W base n G : Nat} {cs : Nat → Int} {T : Int} {xs : List Int} {ws : Nat → Int} (h : PlC w P Q p s bc pl k b W base n G cs T xs ws) (f i : Nat) (hf : f < n) (hi : i < 8) :
    Calls Tryz.prog 60 #[.pointer (some ⟨p, 0, none⟩), .int .i64 f, .int .i64 i] w fun e w' => e = .returned (.int .i64 ((base + 8 * f + i : Nat) : Int)) ∧ w' = w := by
  have h1 := h.fit
  have h2 := h.big
  have c := h.c8
  go_enter Tryz.func60, Tryz.ntmps60
  go_wp2
  go_ret
  exact ⟨by first | rfl | (simp; omega) | (congr 2; omega), rfl⟩

def InUse (ws : Nat → Int) (base n : Nat) (x : Int) : Prop := 0 ≤ x ∧ x < (n : Int) ∧ ws (base + 8 * n + x.toNat) ≠ 0
theorem phas {w : World} {P Q : Nat → Prop} {p s bc pl k b W base n G : Nat} {cs : Nat → Int} {T : Int} {xs : List Int} {ws : Nat → Int} (h : PlC w P Q p s bc pl k b W base n G cs T xs ws) (x : Int) (r : Bool) (hr : decide (0 ≤ x ∧ x < (G : Int)) = r) :
    Calls Tryz.prog 31 #[.pointer (some ⟨p, 0, none⟩), .int .i64 x] w fun e w' => e = .returned (.bool r) ∧ w' = w := by
  have hn := gi_has h.good x r hr
  have c := h.c8
  clear h hr
  go_enter Tryz.func31, Tryz.ntmps31
  go_wp2_with (go_at_call 54; refine hn.mono ?_; rintro e w1 ⟨rfl, hw1⟩; replace hw1 := hw1.symm; subst hw1)
  go_ret
  exact ⟨rfl, rfl⟩
theorem isUsed_yes {w : World} {P Q : Nat → Prop} {p s bc pl k b W base n G : Nat} {cs : Nat → Int} {T : Int} {xs : List Int} {ws : Nat → Int} (h : PlC w P Q p s bc pl k b W base n G cs T xs ws) (x f : Int) (hx : 0 ≤ x ∧ x < (G : Int)) (hf : InUse ws base n f) :
    Calls Tryz.prog 50 #[.pointer (some ⟨p, 0, none⟩), .int .i64 x, .int .i64 f] w fun e w' => e = .returned (.bool true) ∧ Below w.heap.size w w' := by
  obtain ⟨f0, f1, f2⟩ := hf
  obtain ⟨m, rfl⟩ : ∃ m : Nat, f = m := ⟨f.toNat, by omega⟩
  have c := h.c8
  have hn := phas h x true (by simpa using hx)
  have hh := has_any (b := b) (bc := bc) (base := base) (n := n) (m : Int) w true (by simpa using f1)
  have ha := fun w1 (hb : Below w.heap.size w w1) => at_ok (h.below hb) m (by omega)
  have c1 := fun w1 (hb : Below w.heap.size w w1) => (h.below hb).c8
  have e2 : (ws (base + 8 * n + m) != 0) = true := by simpa using f2
  generalize ws (base + 8 * n + m) = y at ha e2
  clear h f2
  go_enter Tryz.func50, Tryz.ntmps50
  go_wp2_with (first
    | (go_at_call 31; refine hn.mono ?_; rintro e w1 ⟨rfl, rfl⟩)
    | (go_at_call 71; refine hh.mono ?_; rintro e w2 ⟨rfl, hb⟩; have c2 := c1 _ hb)
    | (go_at_call 30; refine (ha _ hb).mono ?_; rintro e w3 ⟨rfl, hb3⟩))
  go_ret
  exact ⟨rfl, hb.trans (hb3.mono hb.size)⟩
theorem isUsed_no {w : World} {P Q : Nat → Prop} {p s bc pl k b W base n G : Nat} {cs : Nat → Int} {T : Int} {xs : List Int} {ws : Nat → Int} (h : PlC w P Q p s bc pl k b W base n G cs T xs ws) (x f : Int) (hn : ¬ ((0 ≤ x ∧ x < (G : Int)) ∧ InUse ws base n f)) :
    Calls Tryz.prog 50 #[.pointer (some ⟨p, 0, none⟩), .int .i64 x, .int .i64 f] w fun e w' => e = .returned (.bool false) ∧ Below w.heap.size w w' := by
  have c := h.c8
  by_cases hx : 0 ≤ x ∧ x < (G : Int)
  · have hA := phas h x true (by simpa using hx)
    by_cases hf : 0 ≤ f ∧ f < (n : Int)
    · obtain ⟨m, rfl⟩ : ∃ m : Nat, f = m := ⟨f.toNat, by omega⟩
      have hh := has_any (b := b) (bc := bc) (base := base) (n := n) (m : Int) w true (by simpa using hf.2)
      have ha := fun w1 (hb : Below w.heap.size w w1) => at_ok (h.below hb) m (by omega)
      have c1 := fun w1 (hb : Below w.heap.size w w1) => (h.below hb).c8
      have e2 : ws (base + 8 * n + m) = 0 := by
        apply Classical.byContradiction; intro q; exact hn ⟨hx, hf.1, hf.2, by simpa using q⟩
      rw [e2] at ha
      clear h e2 hn
      go_enter Tryz.func50, Tryz.ntmps50
      go_wp2_with (first
        | (go_at_call 31; refine hA.mono ?_; rintro e w1 ⟨rfl, rfl⟩)
        | (go_at_call 71; refine hh.mono ?_; rintro e w2 ⟨rfl, hb⟩; have c2 := c1 _ hb)
        | (go_at_call 30; refine (ha _ hb).mono ?_; rintro e w3 ⟨rfl, hb3⟩))
      go_ret
      exact ⟨rfl, hb.trans (hb3.mono hb.size)⟩
    · have hh := has_any (b := b) (bc := bc) (base := base) (n := n) f w false (by simpa using hf)
      clear h hn hf
      go_enter Tryz.func50, Tryz.ntmps50
      go_wp2_with (first
        | (go_at_call 31; refine hA.mono ?_; rintro e w1 ⟨rfl, rfl⟩)
        | (go_at_call 71; refine hh.mono ?_; rintro e w2 ⟨rfl, hb⟩))
      go_ret
      exact ⟨rfl, hb⟩
  · have hA := phas h x false (by simpa using hx)
    clear h hn hx
    go_enter Tryz.func50, Tryz.ntmps50
    go_wp2_with (go_at_call 31; refine hA.mono ?_; rintro e w1 ⟨rfl, rfl⟩)
    go_ret
    exact ⟨rfl, Below.refl _ _⟩
end Go.Proofs.YtojblddfggoecaaGreat
