/- A pool of the law's own: its calls. -/
import Derived.Test.YtlkomjapfcmpkaaFForms
namespace Go.Proofs.Ytlkomjapfcmpkaa
open Go.RowKit

/-- A pool of the law's own, from block B on. -/
def Own (B : Nat) (w0 wr : World) (p b W base n G : Nat) (m : Nat) (xs : List Int) (ws : Nat → Int) : Prop := ∃ (P : Nat → Prop) (cs : Nat → Int) (T : Int), Pl wr P p b W base n G cs T xs ws ∧ T ≤ m ∧ Below B w0 wr ∧ B ≤ wr.heap.size ∧ ∀ j, P j → B ≤ j
section
variable {B : Nat} {w0 w : World} {p b W base n G m : Nat} {xs : List Int} {ws : Nat → Int}
theorem Own.below {w' : World} (h : Own B w0 w p b W base n G m xs ws) (e : Below w.heap.size w w') : Own B w0 w' p b W base n G m xs ws := by
  obtain ⟨P, cs, T, h1, h2, h3, h4, h5⟩ := h
  exact ⟨P, cs, T, h1.below e, h2, h3.trans (e.mono h4), Nat.le_trans h4 e.size, h5⟩
theorem Own.facts (h : Own B w0 w p b W base n G m xs ws) : base + (14 * n + 64) ≤ W ∧ W ≤ 65536 ∧ 1 ≤ n ∧ n ≤ 1000 ∧ (∀ f, f < n → 0 ≤ ws (base + 8 * n + f) ∧ ws (base + 8 * n + f) ≤ 3 ∧ (ws (base + 8 * n + f) = 0 ↔ (f : Int) + 1 ∈ xs)) ∧ xs.length ≤ n ∧ xs.Nodup ∧ (∀ x, x ∈ xs → 1 ≤ x ∧ x ≤ n) := by
  obtain ⟨P, cs, T, h1, _⟩ := h
  exact h1.facts
theorem Own.out (h : Own B w0 w p b W base n G m xs ws) : Below B w0 w := by
  obtain ⟨P, cs, T, h1, h2, h3, h4, h5⟩ := h
  exact h3
theorem Own.big (h : Own B w0 w p b W base n G m xs ws) : B ≤ w.heap.size := by
  obtain ⟨P, cs, T, h1, h2, h3, h4, h5⟩ := h
  exact h4
theorem o_alloc {x : Int} (h : Own B w0 w p b W base n G m (x :: xs) ws) (hm : m ≤ 100000) (y : Int) (g : Nat) (hy : y = g) (hg : g < G) :
    Calls Try.prog 15 #[.pointer (some ⟨p, 0, none⟩), .int .i64 y] w fun e w' => ∃ f : Nat, x = (f : Int) + 1 ∧ f < n ∧ ws (base + 8 * n + f) = 0 ∧ e = .returned (.tuple #[.int .i64 f, .int .i64 0]) ∧ Own B w0 w' p b W base n G (m + 1) xs (upd (zap ws (base + 8 * f) 8) (base + 8 * n + f) 1) := by
  subst hy
  obtain ⟨P, cs, T, h1, h2, h3, h4, h5⟩ := h
  refine (palloc_ok h1 (by omega) g hg).mono ?_
  rintro e w' ⟨f, e1, e2, e3, rfl, cs', hT⟩
  obtain ⟨P', h1', h3', h4', h5'⟩ := hT.pl h3 h4 h5
  exact ⟨f, e1, e2, e3, rfl, P', cs', T + 1, h1', by omega, h3', h4', h5'⟩
theorem o_none (h : Own B w0 w p b W base n G m [] ws) (hm : m ≤ 100000) (x : Int) (hx : 0 ≤ x ∧ x < (G : Int)) :
    Calls Try.prog 15 #[.pointer (some ⟨p, 0, none⟩), .int .i64 x] w fun e w' => e = .returned (.tuple #[.int .i64 0, .int .i64 601]) ∧ Below w.heap.size w w' := by
  obtain ⟨P, cs, T, h1, h2, h3, h4, h5⟩ := h
  exact palloc_none h1 (by omega) x hx
theorem o_store (h : Own B w0 w p b W base n G m xs ws) (y z u : Int) (g f i : Nat) (v : Int) (hy : y = g) (hz : z = f) (hu : u = i) (hg : g < G) (hf : InUse ws base n f) (hi : i < 8) :
    Calls Try.prog 16 #[.pointer (some ⟨p, 0, none⟩), .int .i64 y, .int .i64 z, .int .i64 u, .int .i64 v] w fun e w' => e = .returned (.int .i64 0) ∧ Own B w0 w' p b W base n G m xs (upd ws (base + 8 * f + i) v) := by
  subst hy hz hu
  obtain ⟨P, cs, T, h1, h2, h3, h4, h5⟩ := h
  refine (pstore_ok h1 g f i v hg hf hi).mono ?_
  rintro e w' ⟨rfl, hT⟩
  obtain ⟨P', h1', h3', h4', h5'⟩ := hT.pl h3 h4 h5
  exact ⟨rfl, P', _, T, h1', h2, h3', h4', h5'⟩
theorem o_load (h : Own B w0 w p b W base n G m xs ws) (y z u : Int) (g f i : Nat) (hy : y = g) (hz : z = f) (hu : u = i) (hg : g < G) (hf : InUse ws base n f) (hi : i < 8) :
    Calls Try.prog 18 #[.pointer (some ⟨p, 0, none⟩), .int .i64 y, .int .i64 z, .int .i64 u] w fun e w' => e = .returned (.tuple #[.int .i64 (ws (base + 8 * f + i)), .int .i64 0]) ∧ Own B w0 w' p b W base n G m xs ws := by
  subst hy hz hu
  obtain ⟨P, cs, T, h1, h2, h3, h4, h5⟩ := h
  refine (pload_ok h1 g f i hg hf hi).mono ?_
  rintro e w' ⟨rfl, hT⟩
  obtain ⟨P', h1', h3', h4', h5'⟩ := hT.pl h3 h4 h5
  exact ⟨rfl, P', _, T, h1', h2, h3', h4', h5'⟩
theorem o_paint (h : Own B w0 w p b W base n G m xs ws) (y z : Int) (g f : Nat) (c : Int) (hy : y = g) (hz : z = f) (hg : g < G) (hf : InUse ws base n f) (hc : 1 ≤ c ∧ c ≤ 3) :
    Calls Try.prog 19 #[.pointer (some ⟨p, 0, none⟩), .int .i64 y, .int .i64 z, .int .i64 c] w fun e w' => e = .returned (.int .i64 0) ∧ Own B w0 w' p b W base n G m xs (upd ws (base + 8 * n + f) c) := by
  subst hy hz
  obtain ⟨P, cs, T, h1, h2, h3, h4, h5⟩ := h
  refine (ppaint_ok h1 g f c hg hf hc).mono ?_
  rintro e w' ⟨rfl, hT⟩
  obtain ⟨P', h1', h3', h4', h5'⟩ := hT.pl h3 h4 h5
  exact ⟨rfl, P', _, T, h1', h2, h3', h4', h5'⟩
theorem o_free (h : Own B w0 w p b W base n G m xs ws) (hm : m ≤ 100000) (y z : Int) (g f : Nat) (hy : y = g) (hz : z = f) (hg : g < G) (hf : InUse ws base n f) :
    Calls Try.prog 20 #[.pointer (some ⟨p, 0, none⟩), .int .i64 y, .int .i64 z] w fun e w' => e = .returned (.int .i64 0) ∧ Own B w0 w' p b W base n G (m + 1) (((f : Int) + 1) :: xs) (upd ws (base + 8 * n + f) 0) := by
  subst hy hz
  obtain ⟨P, cs, T, h1, h2, h3, h4, h5⟩ := h
  refine (pfree_ok h1 (by omega) g f hg hf).mono ?_
  rintro e w' ⟨rfl, cs', hT⟩
  obtain ⟨P', h1', h3', h4', h5'⟩ := hT.pl h3 h4 h5
  exact ⟨rfl, P', cs', T + 1, h1', by omega, h3', h4', h5'⟩
theorem o_aload (h : Own B w0 w p b W base n G m xs ws) (y z : Int) (g a : Nat) (hy : y = g) (hz : z = a) (hg : g < G) (ha : a < W) :
    Calls Try.prog 17 #[.pointer (some ⟨b, 0, none⟩), .int .i64 y, .int .i64 z] w fun e w' => ∃ v, e = .returned (.tuple #[.int .i64 v, .int .i64 0]) ∧ (a < base + 9 * n ∨ base + 10 * n < a → v = ws a) ∧ Own B w0 w' p b W base n G m xs ws := by
  subst hy hz
  obtain ⟨P, cs, T, h1, h2, h3, h4, h5⟩ := h
  refine (aload_ok h1 g a hg ha).mono ?_
  rintro e w' ⟨v, rfl, hv, hT⟩
  obtain ⟨P', h1', h3', h4', h5'⟩ := hT.pl h3 h4 h5
  exact ⟨v, rfl, hv, P', _, T, h1', h2, h3', h4', h5'⟩
theorem o_used (h : Own B w0 w p b W base n G m xs ws) :
    Calls Try.prog 8 #[.pointer (some ⟨p, 0, none⟩)] w fun e w' => ∃ ao k F, e = .returned (.slice ao (cnt (fun f => ws (base + 8 * n + f)) n) k) ∧ Mine w' w.heap.size (.slice ao (cnt (fun f => ws (base + 8 * n + f)) n) k) (cnt (fun f => ws (base + 8 * n + f)) n) F ∧ Lists (fun f => ws (base + 8 * n + f)) F n ∧ Below w.heap.size w w' := by
  obtain ⟨P, cs, T, h1, h2, h3, h4, h5⟩ := h
  refine (used_ok h1).mono ?_
  rintro e w' ⟨v, F, rfl, hM, hF, hb⟩
  obtain ⟨ao, k, rfl, _⟩ := hM.ints
  exact ⟨ao, k, F, rfl, hM, hF, hb⟩
/-- None is free: all have a colour. -/
theorem Own.full (h : Own B w0 w p b W base n G m xs ws) (hx : xs.length = 0) : cnt (fun f => ws (base + 8 * n + f)) n = n := by
  obtain ⟨_, _, _, _, hc, _⟩ := h.facts
  refine cnt_all fun i hi q => ?_
  have := (hc i hi).2.2.1 q
  rw [List.length_eq_zero_iff.1 hx] at this
  cases this
end
end Go.Proofs.Ytlkomjapfcmpkaa
