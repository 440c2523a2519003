/- Load, Store, Paint, Free, Alloc of a pool. -/
import Derived.Test.YtojblddfggoecaaGreatFPool
namespace Go.Proofs.YtojblddfggoecaaGreat
open Go.RowKit

/-- What a call leaves: the pool, its steps cs', its free fragments xs', its words ws'. -/
def Turn (w : World) (P : Nat → Prop) (p b W base n G : Nat) (cs' : Nat → Int) (T' : Int) (xs' : List Int) (ws' : Nat → Int) (w' : World) : Prop := ∃ P', Pl w' P' p b W base n G cs' T' xs' ws' ∧ Bt P w w' ∧ Wider P P' w
theorem PlC.turn {w' : World} {w : World} {P Q : Nat → Prop} {p s bc pl k b W base n G : Nat} {cs : Nat → Int} {T : Int} {xs : List Int} {ws : Nat → Int} (h : PlC w P Q p s bc pl k b W base n G cs T xs ws) {Q' : Nat → Prop} {cs' ws' : Nat → Int} {T' : Int} {xs' : List Int} (hG : Good w' Q' s ⟨b, W, base + 9 * n, ws'⟩ G n cs' calm T' xs') (hB : Bt Q w w') (hW : Wider Q Q' w)
    (hc : ∀ f, f < n → 0 ≤ ws' (base + 8 * n + f) ∧ ws' (base + 8 * n + f) ≤ 3 ∧ (ws' (base + 8 * n + f) = 0 ↔ (f : Int) + 1 ∈ xs')) : Turn w P p b W base n G cs' T' xs' ws' w' := by
  obtain ⟨h1, h2, h3⟩ := h.move hG hB hW hc
  exact ⟨_, ⟨_, _, _, _, _, h1⟩, h2, h3⟩
/-- From what a call that only laid memory left. -/
theorem Turn.after {w w1 w' : World} {P : Nat → Prop} {p b W base n G : Nat} {cs' : Nat → Int} {T' : Int} {xs' : List Int} {ws' : Nat → Int} (h : Turn w1 P p b W base n G cs' T' xs' ws' w') (hb : Below w.heap.size w w1) : Turn w P p b W base n G cs' T' xs' ws' w' := by
  obtain ⟨P', h1, h2, h3⟩ := h
  exact ⟨P', h1, (Bt.of_below hb).trans h2, fun j hj => (h3 j hj).elim .inl (fun q => .inr (Nat.le_trans hb.size q))⟩
theorem col_word {ws : Nat → Int} {base n : Nat} {xs : List Int} {f i : Nat} {v : Int} (hf : f < n) (hi : i < 8) (hc : ∀ f, f < n → 0 ≤ ws (base + 8 * n + f) ∧ ws (base + 8 * n + f) ≤ 3 ∧ (ws (base + 8 * n + f) = 0 ↔ (f : Int) + 1 ∈ xs)) :
    ∀ m, m < n → 0 ≤ upd ws (base + 8 * f + i) v (base + 8 * n + m) ∧ upd ws (base + 8 * f + i) v (base + 8 * n + m) ≤ 3 ∧ (upd ws (base + 8 * f + i) v (base + 8 * n + m) = 0 ↔ (m : Int) + 1 ∈ xs) := by
  intro m hm
  rw [upd_else _ _ (by omega)]
  exact hc m hm
set_option maxRecDepth 20000 in
set_option maxHeartbeats 1000000 in
theorem pload_ok {w : World} {P : Nat → Prop} {p b W base n G : Nat} {cs : Nat → Int} {T : Int} {xs : List Int} {ws : Nat → Int} (h : Pl w P p b W base n G cs T xs ws) (g f i : Nat) (hg : g < G) (hf : InUse ws base n f) (hi : i < 8) :
    Calls Tryz.prog 39 #[.pointer (some ⟨p, 0, none⟩), .int .i64 g, .int .i64 f, .int .i64 i] w fun e w' => e = .returned (.tuple #[.int .i64 (ws (base + 8 * f + i)), .int .i64 0]) ∧ Turn w P p b W base n G (upd cs g (wrap64 (cs g + 1))) T xs ws w' := by
  obtain ⟨Q, s, bc, pl, k, h⟩ := h
  have hf1 : f < n := by have := hf.2.1; omega
  have hu := isUsed_yes h (g : Int) f (by omega) hf
  have hw := fun u => isWord_any (i : Int) u true (by simp; omega)
  have h1 := h.fit
  have h2 := h.big
  go_enter Tryz.func39, Tryz.ntmps39
  go_wp2_with (first
    | (go_at_call 50; refine hu.mono ?_; rintro e w1 ⟨rfl, hb⟩; have h' := h.below hb; have c1 := h'.c8)
    | (go_at_call 58; refine (hw _).mono ?_; rintro e w1 ⟨rfl, rfl⟩))
  have hd := h'.below (below_drewN w1 1 _)
  go_region_held3 (fun w' => w'.cell? ⟨p, 0, none⟩ = some (.pointer (some ⟨b, 0, none⟩))) (go_keep)
    (first
      | (go_at_call 61; refine (gi_load hd.good g (base + 8 * f + i) hg (by omega)).mono ?_; rintro e w3 ⟨v, rfl, hv, hG, hB⟩; have d1 := (h'.move hG ((Bt.of_below (below_drewN _ 1 _)).trans hB) (Wider.refl _ _) h'.col).1.c8)
      | (go_at_call 60; refine (place_ok hd f i hf1 hi).mono ?_; rintro e w2 ⟨rfl, rfl⟩))
  have hv' := hv (by omega)
  subst hv'
  go_wp2
  go_ret2
  exact ⟨rfl, (h'.turn hG ((Bt.of_below (below_drewN _ 1 _)).trans hB) (Wider.refl _ _) h'.col).after hb⟩
set_option maxRecDepth 20000 in
set_option maxHeartbeats 1000000 in
theorem pstore_ok {w : World} {P : Nat → Prop} {p b W base n G : Nat} {cs : Nat → Int} {T : Int} {xs : List Int} {ws : Nat → Int} (h : Pl w P p b W base n G cs T xs ws) (g f i : Nat) (v : Int) (hg : g < G) (hf : InUse ws base n f) (hi : i < 8) :
    Calls Tryz.prog 38 #[.pointer (some ⟨p, 0, none⟩), .int .i64 g, .int .i64 f, .int .i64 i, .int .i64 v] w fun e w' => e = .returned (.int .i64 0) ∧ Turn w P p b W base n G (upd cs g (wrap64 (cs g + 1))) T xs (upd ws (base + 8 * f + i) v) w' := by
  obtain ⟨Q, s, bc, pl, k, h⟩ := h
  have hf1 : f < n := by have := hf.2.1; omega
  have hu := isUsed_yes h (g : Int) f (by omega) hf
  have hw := fun u => isWord_any (i : Int) u true (by simp; omega)
  have h1 := h.fit
  have h2 := h.big
  go_enter Tryz.func38, Tryz.ntmps38
  go_wp2_with (first
    | (go_at_call 50; refine hu.mono ?_; rintro e w1 ⟨rfl, hb⟩; have h' := h.below hb; have c1 := h'.c8)
    | (go_at_call 58; refine (hw _).mono ?_; rintro e w1 ⟨rfl, rfl⟩))
  have hd := h'.below (below_drewN w1 1 _)
  go_region_held3 (fun w' => w'.cell? ⟨p, 0, none⟩ = some (.pointer (some ⟨b, 0, none⟩))) (go_keep)
    (first
      | (go_at_call 59; refine (gi_store hd.good g (base + 8 * f + i) v hg (by omega) (by omega)).mono ?_; rintro e w3 ⟨rfl, hG, hB⟩; have d1 := (h'.move hG ((Bt.of_below (below_drewN _ 1 _)).trans hB) (Wider.refl _ _) (col_word hf1 hi h'.col)).1.c8)
      | (go_at_call 60; refine (place_ok hd f i hf1 hi).mono ?_; rintro e w2 ⟨rfl, rfl⟩))
  go_wp2
  go_ret
  exact ⟨rfl, (h'.turn hG ((Bt.of_below (below_drewN _ 1 _)).trans hB) (Wider.refl _ _) (col_word hf1 hi h'.col)).after hb⟩
theorem pload_no {w : World} {P : Nat → Prop} {p b W base n G : Nat} {cs : Nat → Int} {T : Int} {xs : List Int} {ws : Nat → Int} (h : Pl w P p b W base n G cs T xs ws) (x f i : Int) (hn : ¬ ((0 ≤ x ∧ x < (G : Int)) ∧ InUse ws base n f ∧ 0 ≤ i ∧ i < 8)) :
    Calls Tryz.prog 39 #[.pointer (some ⟨p, 0, none⟩), .int .i64 x, .int .i64 f, .int .i64 i] w fun e w' => e = .returned (.tuple #[.int .i64 0, .int .i64 602]) ∧ Below w.heap.size w w' := by
  obtain ⟨Q, s, bc, pl, k, h⟩ := h
  by_cases hq : (0 ≤ x ∧ x < (G : Int)) ∧ InUse ws base n f
  · have hu := isUsed_yes h x f hq.1 hq.2
    have hw := fun u => isWord_any i u false (by have : ¬ (0 ≤ i ∧ i < 8) := fun q => hn ⟨hq.1, hq.2, q⟩; simpa using this)
    clear hn hq
    go_enter Tryz.func39, Tryz.ntmps39
    go_wp2_with (first
      | (go_at_call 50; refine hu.mono ?_; rintro e w1 ⟨rfl, hb⟩)
      | (go_at_call 58; refine (hw _).mono ?_; rintro e w1 ⟨rfl, rfl⟩))
    go_ret2
    exact ⟨rfl, hb⟩
  · have hu := isUsed_no h x f hq
    clear hn hq
    go_enter Tryz.func39, Tryz.ntmps39
    go_wp2_with (go_at_call 50; refine hu.mono ?_; rintro e w1 ⟨rfl, hb⟩)
    go_ret2
    exact ⟨rfl, hb⟩
theorem pstore_no {w : World} {P : Nat → Prop} {p b W base n G : Nat} {cs : Nat → Int} {T : Int} {xs : List Int} {ws : Nat → Int} (h : Pl w P p b W base n G cs T xs ws) (x f i v : Int) (hn : ¬ ((0 ≤ x ∧ x < (G : Int)) ∧ InUse ws base n f ∧ 0 ≤ i ∧ i < 8)) :
    Calls Tryz.prog 38 #[.pointer (some ⟨p, 0, none⟩), .int .i64 x, .int .i64 f, .int .i64 i, .int .i64 v] w fun e w' => e = .returned (.int .i64 602) ∧ Below w.heap.size w w' := by
  obtain ⟨Q, s, bc, pl, k, h⟩ := h
  by_cases hq : (0 ≤ x ∧ x < (G : Int)) ∧ InUse ws base n f
  · have hu := isUsed_yes h x f hq.1 hq.2
    have hw := fun u => isWord_any i u false (by have : ¬ (0 ≤ i ∧ i < 8) := fun q => hn ⟨hq.1, hq.2, q⟩; simpa using this)
    clear hn hq
    go_enter Tryz.func38, Tryz.ntmps38
    go_wp2_with (first
      | (go_at_call 50; refine hu.mono ?_; rintro e w1 ⟨rfl, hb⟩)
      | (go_at_call 58; refine (hw _).mono ?_; rintro e w1 ⟨rfl, rfl⟩))
    go_ret
    exact ⟨rfl, hb⟩
  · have hu := isUsed_no h x f hq
    clear hn hq
    go_enter Tryz.func38, Tryz.ntmps38
    go_wp2_with (go_at_call 50; refine hu.mono ?_; rintro e w1 ⟨rfl, hb⟩)
    go_ret
    exact ⟨rfl, hb⟩
theorem col_paint {ws : Nat → Int} {base n : Nat} {xs : List Int} {f : Nat} {v : Int} (hv : 1 ≤ v ∧ v ≤ 3) (hu : ws (base + 8 * n + f) ≠ 0) (hc : ∀ f, f < n → 0 ≤ ws (base + 8 * n + f) ∧ ws (base + 8 * n + f) ≤ 3 ∧ (ws (base + 8 * n + f) = 0 ↔ (f : Int) + 1 ∈ xs)) :
    ∀ m, m < n → 0 ≤ upd ws (base + 8 * n + f) v (base + 8 * n + m) ∧ upd ws (base + 8 * n + f) v (base + 8 * n + m) ≤ 3 ∧ (upd ws (base + 8 * n + f) v (base + 8 * n + m) = 0 ↔ (m : Int) + 1 ∈ xs) := by
  intro m hm
  by_cases e : m = f
  · subst e
    rw [upd_at]
    exact ⟨by omega, by omega, fun q => by omega, fun q => absurd ((hc m hm).2.2.2 q) hu⟩
  · rw [upd_else _ _ (by omega)]; exact hc m hm
theorem pfree_no {w : World} {P : Nat → Prop} {p b W base n G : Nat} {cs : Nat → Int} {T : Int} {xs : List Int} {ws : Nat → Int} (h : Pl w P p b W base n G cs T xs ws) (x f : Int) (hn : ¬ ((0 ≤ x ∧ x < (G : Int)) ∧ InUse ws base n f)) :
    Calls Tryz.prog 29 #[.pointer (some ⟨p, 0, none⟩), .int .i64 x, .int .i64 f] w fun e w' => e = .returned (.int .i64 602) ∧ Below w.heap.size w w' := by
  obtain ⟨Q, s, bc, pl, k, h⟩ := h
  have hu := isUsed_no h x f hn
  clear hn
  go_enter Tryz.func29, Tryz.ntmps29
  go_wp2_with (go_at_call 50; refine hu.mono ?_; rintro e w1 ⟨rfl, hb⟩)
  go_ret
  exact ⟨rfl, hb⟩
end Go.Proofs.YtojblddfggoecaaGreat
