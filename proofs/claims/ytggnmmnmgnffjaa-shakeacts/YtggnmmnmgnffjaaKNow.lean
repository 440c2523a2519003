/- The law's own memory beside the handshakes: the row of those who are asked, the act that is looked at. -/
import Derived.Test.YtggnmmnmgnffjaaKAwake
namespace Go.Proofs.Ytggnmmnmgnffjaa
open Go.RowKit
/-- The handshakes, the row C in block g; what w0 held below B stands. -/
structure Ek (B : Nat) (w0 u : World) (s m g N : Nat) (A C : Nat → Bool) (x r : Int) : Prop where
  sk : Sk u s m N A x r
  row : u.rowIs g 4 N (fun i => .bool (C i))
  bel : Below B w0 u
  big : B ≤ u.heap.size
  ap : B ≤ s ∧ B ≤ m ∧ B ≤ g
/-- .. and the act in block p. -/
structure Nk (B : Nat) (w0 u : World) (s m g N p : Nat) (A C : Nat → Bool) (x r K T V : Int) : Prop where
  ek : Ek B w0 u s m g N A C x r
  act : u.heap[p]? = some (.cells #[.int .i64 K, .int .i64 T, .int .i64 V] 31 (0, 0))
section
variable {B : Nat} {w0 u u' : World} {s m g N p : Nat} {A C A' : Nat → Bool} {x r x' r' K T V : Int}
theorem Ek.g_s (h : Ek B w0 u s m g N A C x r) : g ≠ s := by
  rintro rfl
  obtain ⟨c, hc, _⟩ := h.row
  rw [h.sk.here] at hc; simp at hc
theorem Ek.g_m (h : Ek B w0 u s m g N A C x r) : g ≠ m := by
  rintro rfl
  obtain ⟨c, hc, _⟩ := h.row
  obtain ⟨es, clock, hb⟩ := h.sk.set.is_map
  rw [hc] at hb; simp at hb
theorem Ek.call (h : Ek B w0 u s m g N A C x r) (hS : Sk u' s m N A' x' r') (k : Bt (Sb s m) u u') : Ek B w0 u' s m g N A' C x' r' :=
  ⟨hS, h.row.of_block (k.block g h.row.lt (fun q => q.elim h.g_s h.g_m)), Bt.under h.bel h.big (sb_ge h.ap.1 h.ap.2.1) k, Nat.le_trans h.big k.size, h.ap⟩
theorem Ek.drewN (h : Ek B w0 u s m g N A C x r) (q : Nat) : Ek B w0 (u.drewN q) s m g N A C x r := h.call (h.sk.drewN q) (Bt.of_below (below_drewN _ _ _))
theorem Ek.put (h : Ek B w0 u s m g N A C x r) (i : Nat) (v : Bool) : Ek B w0 (u.setCell ⟨g, i, none⟩ (.bool v)) s m g N A (setB C i v) x r :=
  ⟨⟨(Below.heap_setCell _ _ _ _ (fun q => h.g_s q.symm)).trans h.sk.here, h.sk.set.of_block (Below.heap_setCell _ _ _ _ (fun q => h.g_m q.symm)), h.sk.few⟩,
    (h.row.set i (.bool v)).congr (fun j _ => by unfold setB; split <;> rfl), h.bel.setCell h.ap.2.2 _, by simpa [World.setCell] using h.big, h.ap⟩
theorem Ek.congr {C' : Nat → Bool} (h : Ek B w0 u s m g N A C x r) (e : ∀ i, i < N → C i = C' i) : Ek B w0 u s m g N A C' x r := ⟨h.sk, h.row.congr (fun i hi => by rw [e i hi]), h.bel, h.big, h.ap⟩
theorem Ek.look (h : Ek B w0 u s m g N A C x r) (K T V : Int) : Nk B w0 (u.alloc (.cells #[.int .i64 K, .int .i64 T, .int .i64 V] 31)) s m g N u.heap.size A C x r K T V :=
  ⟨h.call (h.sk.below ((Below.refl _ _).alloc (Nat.le_refl _) _)) (Bt.of_below ((Below.refl _ _).alloc (Nat.le_refl _) _)), heap_alloc_new u _⟩
theorem Nk.p_s (h : Nk B w0 u s m g N p A C x r K T V) : p ≠ s := by
  rintro rfl
  have := h.act
  rw [h.ek.sk.here] at this; simp at this
theorem Nk.p_m (h : Nk B w0 u s m g N p A C x r K T V) : p ≠ m := by
  rintro rfl
  obtain ⟨es, clock, hb⟩ := h.ek.sk.set.is_map
  rw [h.act] at hb; simp at hb
theorem Nk.p_g (h : Nk B w0 u s m g N p A C x r K T V) : p ≠ g := by
  rintro rfl
  obtain ⟨c, hc, _⟩ := h.ek.row
  rw [h.act] at hc; simp at hc
theorem Nk.lt (h : Nk B w0 u s m g N p A C x r K T V) : p < u.heap.size := (Array.getElem?_eq_some_iff.1 h.act).1
theorem Nk.f0 (h : Nk B w0 u s m g N p A C x r K T V) : u.cell? ⟨p, 0, none⟩ = some (.int .i64 K) := by simp only [World.cell?, h.act]; rfl
theorem Nk.f1 (h : Nk B w0 u s m g N p A C x r K T V) : u.cell? ⟨p, 1, none⟩ = some (.int .i64 T) := by simp only [World.cell?, h.act]; rfl
theorem Nk.f2 (h : Nk B w0 u s m g N p A C x r K T V) : u.cell? ⟨p, 2, none⟩ = some (.int .i64 V) := by simp only [World.cell?, h.act]; rfl
theorem Nk.call (h : Nk B w0 u s m g N p A C x r K T V) (hS : Sk u' s m N A' x' r') (k : Bt (Sb s m) u u') : Nk B w0 u' s m g N p A' C x' r' K T V :=
  ⟨h.ek.call hS k, (k.block p h.lt (fun q => q.elim h.p_s h.p_m)).trans h.act⟩
theorem Nk.drewN (h : Nk B w0 u s m g N p A C x r K T V) (q : Nat) : Nk B w0 (u.drewN q) s m g N p A C x r K T V := ⟨h.ek.drewN q, h.act⟩
theorem Nk.put (h : Nk B w0 u s m g N p A C x r K T V) (i : Nat) (v : Bool) : Nk B w0 (u.setCell ⟨g, i, none⟩ (.bool v)) s m g N p A (setB C i v) x r K T V :=
  ⟨h.ek.put i v, (Below.heap_setCell _ _ _ _ h.p_g).trans h.act⟩
theorem Nk.congr {C' : Nat → Bool} (h : Nk B w0 u s m g N p A C x r K T V) (e : ∀ i, i < N → C i = C' i) : Nk B w0 u s m g N p A C' x r K T V := ⟨h.ek.congr e, h.act⟩
end
theorem allB_next (n : Nat) (A : Nat → Bool) : allB (n + 1) A = (allB n A && A n) := by
  cases h : allB n A with
  | true =>
    have h1 := allB_iff.1 h
    cases h2 : A n with
    | true =>
      exact allB_iff.2 fun i hi => by
        rcases Nat.lt_succ_iff_lt_or_eq.1 hi with q | rfl
        · exact h1 i q
        · exact h2
    | false =>
      cases h3 : allB (n + 1) A with
      | false => rfl
      | true => have := allB_iff.1 h3 n (by omega); rw [h2] at this; cases this
  | false =>
    cases h3 : allB (n + 1) A with
    | false => rfl
    | true =>
      have : allB n A = true := allB_iff.2 fun i hi => allB_iff.1 h3 i (by omega)
      rw [h] at this; cases this
theorem allB_none (n : Nat) (h : 1 ≤ n) : allB n (fun _ => false) = false := by
  cases h3 : allB n (fun _ => false) with
  | false => rfl
  | true => have := allB_iff.1 h3 0 (by omega); cases this
theorem kinfo4 : (Try.prog.info? 4).map (fun i => (i.zero, i.size, i.bytes)) = some (some (.bool false), 1, 1) := by kernel_rfl
end Go.Proofs.Ytggnmmnmgnffjaa
