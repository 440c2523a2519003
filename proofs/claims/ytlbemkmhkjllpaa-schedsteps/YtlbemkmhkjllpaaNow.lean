/- The law's own memory beside the script's object: its two rows, what it lent, the step that is looked at; what a call or a store leaves of it. -/
import Derived.Test.YtlbemkmhkjllpaaLend
namespace Go.Proofs.Ytlbemkmhkjllpaa
open Go.RowKit Go.Conc

/-- Where the rows of ints lie: apart, the law's own from B on. -/
structure Apt (B bi ps pp qy : Nat) : Prop where
  sp : ps ≠ pp
  si : ps ≠ bi
  ki : pp ≠ bi
  sy : ps ≠ qy
  ky : pp ≠ qy
  b1 : B ≤ ps
  b2 : B ≤ pp

structure Now (w0 w : World) (b ba bp bi ps pp qy cy G N M s : Nat) (cs dt dk : Nat → Int) (sc : Nat → Nat) (t : Nat) (g : Nat → Int) (u : Nat) (K A S : Int) : Prop where
  run : Run w0 w b ba bp bi G N M cs sc t g u
  rs : w.rowIs ps 3 G (fun i => .int .i64 (dt i))
  rk : w.rowIs pp 3 G (fun i => .int .i64 (dk i))
  ry : Lent w qy M cy g
  ap : Apt w0.heap.size bi ps pp qy
  sb : w.heap[s]? = some (.cells #[.int .i64 K, .int .i64 A, .int .i64 S] 33 (0, 0))
structure Even (w0 w : World) (b ba bp bi ps pp qy cy G N M : Nat) (cs : Nat → Int) (sc : Nat → Nat) (t : Nat) (g : Nat → Int) (u : Nat) : Prop where
  run : Run w0 w b ba bp bi G N M cs sc t g u
  rs : w.rowIs ps 3 G (fun i => .int .i64 (cs (i * 2)))
  rk : w.rowIs pp 3 G (fun i => .int .i64 (cs (i * 2 + 1)))
  ry : Lent w qy M cy g
  ap : Apt w0.heap.size bi ps pp qy

section
variable {w0 w : World} {b ba bp bi ps pp qy cy G N M s : Nat} {cs dt dk : Nat → Int} {sc : Nat → Nat} {t : Nat} {g : Nat → Int} {u : Nat} {K A S : Int}

theorem Now.f0 (h : Now w0 w b ba bp bi ps pp qy cy G N M s cs dt dk sc t g u K A S) : w.cell? ⟨s, 0, none⟩ = some (.int .i64 K) := by simp only [World.cell?, h.sb]; rfl
theorem Now.f1 (h : Now w0 w b ba bp bi ps pp qy cy G N M s cs dt dk sc t g u K A S) : w.cell? ⟨s, 1, none⟩ = some (.int .i64 A) := by simp only [World.cell?, h.sb]; rfl
theorem Now.f2 (h : Now w0 w b ba bp bi ps pp qy cy G N M s cs dt dk sc t g u K A S) : w.cell? ⟨s, 2, none⟩ = some (.int .i64 S) := by simp only [World.cell?, h.sb]; rfl
theorem Now.slt (h : Now w0 w b ba bp bi ps pp qy cy G N M s cs dt dk sc t g u K A S) : s < w.heap.size := (Array.getElem?_eq_some_iff.1 h.sb).1

theorem cells_ne {x y : Nat} {c c' : Array Value} {z z' : Nat × Nat} {e e' : TypeId} (h : w.heap[x]? = some (.cells c e z)) (h' : w.heap[y]? = some (.cells c' e' z')) (hn : e ≠ e') : x ≠ y := by
  rintro rfl
  rw [h] at h'
  simp at h'
  exact hn h'.2.1
theorem Lent.ne {p n cap x : Nat} {f : Nat → Int} {c : Array Value} {z : Nat × Nat} {e : TypeId} (h : Lent w p n cap f) (h' : w.heap[x]? = some (.cells c e z)) (hn : (3 : TypeId) ≠ e) : p ≠ x := by
  obtain ⟨F, hr, _⟩ := h.row
  exact fun q => row_ne h' hr hn q.symm
theorem Run.here_ba (h : Run w0 w b ba bp bi G N M cs sc t g u) : ∃ c, w.heap[ba]? = some (.cells c 65 (0, 0)) := by
  obtain ⟨c, hc, _⟩ := h.sc.ags
  exact ⟨c, hc⟩

/-- A call has turned the object, and nothing else. -/
theorem Now.call {w' : World} {cs' : Nat → Int} {t' u' : Nat} (h : Now w0 w b ba bp bi ps pp qy cy G N M s cs dt dk sc t g u K A S) (hs : Sc w' b ba bp bi G N M cs' sc t' g u') (k : But b ba w w') :
    Now w0 w' b ba bp bi ps pp qy cy G N M s cs' dt dk sc t' g u' K A S := by
  obtain ⟨c, hc⟩ := h.run.here_ba
  have n1 : s ≠ b := cells_ne h.sb h.run.sc.here (by decide)
  have n2 : s ≠ ba := cells_ne h.sb hc (by decide)
  have p1 : ps ≠ b := fun q => row_ne h.run.sc.here h.rs (by decide) q.symm
  have p2 : ps ≠ ba := fun q => row_ne hc h.rs (by decide) q.symm
  have q1 : pp ≠ b := fun q => row_ne h.run.sc.here h.rk (by decide) q.symm
  have q2 : pp ≠ ba := fun q => row_ne hc h.rk (by decide) q.symm
  have y1 := h.ry.ne h.run.sc.here (by decide)
  have y2 := h.ry.ne hc (by decide)
  exact ⟨h.run.call hs k, h.rs.of_block (k.block _ h.rs.lt p1 p2), h.rk.of_block (k.block _ h.rk.lt q1 q2), h.ry.of_block (k.block _ h.ry.lt y1 y2), h.ap, by rw [k.block s h.slt n1 n2]; exact h.sb⟩

/-- A store into a row that is none of the object's. -/
theorem Run.else_ (h : Run w0 w b ba bp bi G N M cs sc t g u) {x n i : Nat} {f : Nat → Value} (hr : w.rowIs x 3 n f) (hx : x ≠ bi) (hB : w0.heap.size ≤ x) (v : Value) : Run w0 (w.setCell ⟨x, i, none⟩ v) b ba bp bi G N M cs sc t g u := by
  have n1 := row_ne h.sc.here hr (by decide)
  refine ⟨⟨by rw [Below.heap_setCell _ _ _ _ n1]; exact h.sc.here, h.sc.ags.setOther (rows_ne h.sc.ags hr (by decide)) _, h.sc.plc.setOther (rows_ne h.sc.plc hr (by decide)) _, h.sc.ins.setOther (fun q => hx q.symm) _⟩, h.bel.setCell hB _, h.l0, h.l1⟩
theorem set_upd {x n i : Nat} {f : Nat → Int} {v : Int} (h : w.rowIs x 3 n (fun i => .int .i64 (f i))) : (w.setCell ⟨x, i, none⟩ (.int .i64 v)).rowIs x 3 n (fun j => .int .i64 (upd f i v j)) :=
  (h.set i (.int .i64 v)).congr fun j _ => by unfold upd; split <;> rfl
/-- The law has set a state. -/
theorem Now.state (h : Now w0 w b ba bp bi ps pp qy cy G N M s cs dt dk sc t g u K A S) (i : Nat) (v : Int) : Now w0 (w.setCell ⟨ps, i, none⟩ (.int .i64 v)) b ba bp bi ps pp qy cy G N M s cs (upd dt i v) dk sc t g u K A S :=
  ⟨h.run.else_ h.rs h.ap.si h.ap.b1 _, set_upd h.rs, h.rk.setOther (fun q => h.ap.sp q.symm) _, h.ry.of_block (Below.heap_setCell _ _ _ _ (fun q => h.ap.sy q.symm)), h.ap, by rw [Below.heap_setCell _ _ _ _ (row_ne h.sb h.rs (by decide))]; exact h.sb⟩
/-- The law has counted a pick. -/
theorem Now.picked (h : Now w0 w b ba bp bi ps pp qy cy G N M s cs dt dk sc t g u K A S) (i : Nat) (v : Int) : Now w0 (w.setCell ⟨pp, i, none⟩ (.int .i64 v)) b ba bp bi ps pp qy cy G N M s cs dt (upd dk i v) sc t g u K A S :=
  ⟨h.run.else_ h.rk h.ap.ki h.ap.b2 _, h.rs.setOther h.ap.sp _, set_upd h.rk, h.ry.of_block (Below.heap_setCell _ _ _ _ (fun q => h.ap.ky q.symm)), h.ap, by rw [Below.heap_setCell _ _ _ _ (row_ne h.sb h.rk (by decide))]; exact h.sb⟩

theorem Even.look (h : Even w0 w b ba bp bi ps pp qy cy G N M cs sc t g u) (K A S : Int) :
    Now w0 (w.alloc (.cells #[.int .i64 K, .int .i64 A, .int .i64 S] 33)) b ba bp bi ps pp qy cy G N M w.heap.size cs (fun i => cs (i * 2)) (fun i => cs (i * 2 + 1)) sc t g u K A S := by
  have hb := (Below.refl w.heap.size w).alloc (Nat.le_refl _) (.cells #[.int .i64 K, .int .i64 A, .int .i64 S] 33)
  exact ⟨h.run.call (h.run.sc.below hb) (But.of_below hb), h.rs.alloc _, h.rk.alloc _, h.ry.of_block (hb.block _ h.ry.lt), h.ap, heap_alloc_new w _⟩
theorem Now.even (h : Now w0 w b ba bp bi ps pp qy cy G N M s cs dt dk sc t g u K A S) (h1 : dt = fun i => cs (i * 2)) (h2 : dk = fun i => cs (i * 2 + 1)) : Even w0 w b ba bp bi ps pp qy cy G N M cs sc t g u := by
  subst h1 h2
  exact ⟨h.run, h.rs, h.rk, h.ry, h.ap⟩

theorem even_set (cs : Nat → Int) (q : Nat) (v : Int) : upd (fun i => cs (i * 2)) q v = fun i => upd cs (q * 2) v (i * 2) := by
  funext i; unfold upd
  by_cases e : i = q
  · subst e; simp
  · rw [if_neg e, if_neg (by omega)]
theorem even_set' (cs : Nat → Int) (q : Nat) (v : Int) : (fun i => cs (i * 2 + 1)) = fun i => upd cs (q * 2) v (i * 2 + 1) := by
  funext i; rw [upd_even]
theorem even_pick (cs : Nat → Int) (q : Nat) (v : Int) : upd (fun i => cs (i * 2 + 1)) q v = fun i => upd cs (q * 2 + 1) v (i * 2 + 1) := by
  funext i; unfold upd
  by_cases e : i = q
  · subst e; simp
  · rw [if_neg e, if_neg (by omega)]
theorem even_pick' (cs : Nat → Int) (q : Nat) (v : Int) : (fun i => cs (i * 2)) = fun i => upd cs (q * 2 + 1) v (i * 2) := by
  funext i; rw [upd_odd]

/-- What the counts keep to. -/
structure Fit (G N t : Nat) (s : Int) (cs : Nat → Int) : Prop where
  le : t ≤ N
  pos : ∀ i, 0 ≤ cs (i * 2 + 1)
  tot : total cs G + s = t
  s0 : 0 ≤ s
theorem total_set (cs : Nat → Int) (q : Nat) (v : Int) : ∀ k, total (upd cs (q * 2) v) k = total cs k := by
  intro k
  induction k with
  | zero => rfl
  | succ k ih => show total _ k + upd cs (q * 2) v (k * 2 + 1) = total cs k + cs (k * 2 + 1); rw [ih, upd_even]
theorem total_pick (cs : Nat → Int) (q : Nat) (v : Int) : ∀ k, total (upd cs (q * 2 + 1) v) k = total cs k + if q < k then v - cs (q * 2 + 1) else 0 := by
  intro k
  induction k with
  | zero => simp [total]
  | succ k ih =>
    show total _ k + upd cs (q * 2 + 1) v (k * 2 + 1) = total cs k + cs (k * 2 + 1) + _
    rw [ih]
    by_cases e : k = q
    · subst e; rw [upd_at]; simp; omega
    · rw [upd_else _ _ (by omega)]
      by_cases e2 : q < k
      · simp [e2, show q < k + 1 by omega]; omega
      · simp [e2, show ¬ q < k + 1 by omega]
theorem Fit.set {z : Int} (h : Fit G N t z cs) (q : Nat) (v : Int) : Fit G N t z (upd cs (q * 2) v) := ⟨h.le, fun i => by rw [upd_even]; exact h.pos i, by rw [total_set]; exact h.tot, h.s0⟩
theorem Fit.ready {z : Int} (h : Fit G N t z cs) (ht : t < N) {q p : Nat} (hq : q < G) (hp : cs (q * 2 + 1) = p) : Fit G N (t + 1) z (upd cs (q * 2 + 1) ((p + 1 : Nat) : Int)) := by
  refine ⟨by omega, fun i => ?_, ?_, h.s0⟩
  · by_cases e : i = q
    · subst e; rw [upd_at]; omega
    · rw [upd_else _ _ (by omega)]; exact h.pos i
  · rw [total_pick, if_pos hq, hp]; have := h.tot; omega
theorem Fit.skip {z : Int} (h : Fit G N t z cs) (ht : t < N) : Fit G N (t + 1) (z + 1) cs := ⟨by omega, h.pos, by have := h.tot; omega, by have := h.s0; omega⟩
theorem Fit.small {z : Int} (h : Fit G N t z cs) {q : Nat} (hq : q < G) : ∃ p : Nat, cs (q * 2 + 1) = p ∧ p ≤ t := by
  have h1 := total_mono cs h.pos (q + 1) (G - (q + 1))
  rw [show q + 1 + (G - (q + 1)) = G by omega] at h1
  have h2 : total cs (q + 1) = total cs q + cs (q * 2 + 1) := rfl
  have h3 := total_nonneg cs h.pos q
  have h4 := h.pos q
  have h5 := h.tot
  have h6 := h.s0
  exact ⟨(cs (q * 2 + 1)).toNat, by omega, by omega⟩

theorem Now.skips {z : Int} (h : Now w0 w b ba bp bi ps pp qy cy G N M s cs dt dk sc t g u K A S) (hf : Fit G N t z cs) (hG : G ≤ 12) (hN : N ≤ 35184372088832) :
    Calls Try.prog 16 #[.pointer (some ⟨b, 0, none⟩)] w fun e w' => e = .returned (.int .i64 z) ∧ Now w0 w' b ba bp bi ps pp qy cy G N M s cs dt dk sc t g u K A S := by
  have h1 := hf.le
  have h2 := hf.tot
  have h3 := hf.s0
  refine (skips_any h.run.sc hG (by omega) hf.pos (by omega)).mono fun e w' k => ⟨?_, h.call (h.run.sc.below k.2) (But.of_below k.2)⟩
  rw [k.1, show (t : Int) - total cs G = z by omega]
theorem Now.at_ (h : Now w0 w b ba bp bi ps pp qy cy G N M s cs dt dk sc t g u K A S) (z : Int) (hz : (t : Int) = z) :
    Calls Try.prog 17 #[.pointer (some ⟨b, 0, none⟩)] w fun e w' => e = .returned (.int .i64 z) ∧ w' = w := by
  subst hz; exact at_any h.run.sc
theorem Now.ready (h : Now w0 w b ba bp bi ps pp qy cy G N M s cs dt dk sc t g u K A S) (ht : t < N) (hN : N ≤ 35184372088832) (q p : Nat) (hsc : sc t = q) (hq : q < G) (hG : G ≤ 12) (hr : cs (q * 2) = 0) (hp : cs (q * 2 + 1) = p) (hp' : p ≤ 35184372088832) :
    Calls Try.prog 12 #[.pointer (some ⟨b, 0, none⟩)] w fun e w' => e = .returned (.tuple #[.int .i64 q, .bool true]) ∧ Now w0 w' b ba bp bi ps pp qy cy G N M s (upd cs (q * 2 + 1) ((p + 1 : Nat) : Int)) dt dk sc (t + 1) g u K A S := by
  subst hsc
  refine (pick_ready h.run.sc ht hN hq hG (by simp [hr])).mono fun e w' k => ⟨k.1, h.call ?_ k.2.2⟩
  have hk := k.2.1
  rw [hp, IntWalk.wrap64_in _ (by omega)] at hk
  exact hk
theorem Now.skip (h : Now w0 w b ba bp bi ps pp qy cy G N M s cs dt dk sc t g u K A S) (ht : t < N) (hN : N ≤ 35184372088832) (q : Nat) (hsc : sc t = q) (hq : q < G) (hr : cs (q * 2) ≠ 0) :
    Calls Try.prog 12 #[.pointer (some ⟨b, 0, none⟩)] w fun e w' => e = .returned (.tuple #[.int .i64 (-1), .bool true]) ∧ Now w0 w' b ba bp bi ps pp qy cy G N M s cs dt dk sc (t + 1) g u K A S := by
  subst hsc
  exact (pick_skip h.run.sc ht hN hq (by simp [hr])).mono fun e w' k => ⟨k.1, h.call k.2.1 k.2.2⟩
theorem Now.none_ (h : Now w0 w b ba bp bi ps pp qy cy G N M s cs dt dk sc t g u K A S) (ht : t = N) :
    Calls Try.prog 12 #[.pointer (some ⟨b, 0, none⟩)] w fun e w' => e = .returned (.tuple #[.int .i64 (-1), .bool false]) ∧ Now w0 w' b ba bp bi ps pp qy cy G N M s cs dt dk sc t g u K A S :=
  (pick_none h.run.sc ht).mono fun _ _ k => ⟨k.1, h.call k.2.1 k.2.2⟩
theorem Now.input (h : Now w0 w b ba bp bi ps pp qy cy G N M s cs dt dk sc t g u K A S) (hu : u < M) (hM : M ≤ 35184372088832) :
    Calls Try.prog 14 #[.pointer (some ⟨b, 0, none⟩)] w fun e w' => e = .returned (.int .i64 (g u)) ∧ Now w0 w' b ba bp bi ps pp qy cy G N M s cs dt dk sc t g (u + 1) K A S :=
  (input_some h.run.sc hu hM).mono fun _ _ k => ⟨k.1, h.call k.2.1 k.2.2⟩
theorem Now.no_input (h : Now w0 w b ba bp bi ps pp qy cy G N M s cs dt dk sc t g u K A S) (hu : u = M) :
    Calls Try.prog 14 #[.pointer (some ⟨b, 0, none⟩)] w fun e w' => e = .returned (.int .i64 0) ∧ Now w0 w' b ba bp bi ps pp qy cy G N M s cs dt dk sc t g u K A S :=
  (input_none h.run.sc hu).mono fun _ _ k => ⟨k.1, h.call k.2.1 k.2.2⟩
theorem Now.set_bad (h : Now w0 w b ba bp bi ps pp qy cy G N M s cs dt dk sc t g u K A S) (x y : Int) (hx : ¬ (0 ≤ x ∧ x < G ∧ 0 ≤ y ∧ y ≤ 2)) :
    Calls Try.prog 15 #[.pointer (some ⟨b, 0, none⟩), .int .i64 x, .int .i64 y] w fun e w' => e = .returned (.int .i64 401) ∧ w' = w :=
  Go.Proofs.Ytlbemkmhkjllpaa.set_bad h.run.sc x y hx
theorem Now.set_live (h : Now w0 w b ba bp bi ps pp qy cy G N M s cs dt dk sc t g u K A S) (q : Nat) (y : Int) (hq : q < G) (hy : 0 ≤ y ∧ y ≤ 2) (hd : cs (q * 2) ≠ 2) :
    Calls Try.prog 15 #[.pointer (some ⟨b, 0, none⟩), .int .i64 q, .int .i64 y] w fun e w' => e = .returned (.int .i64 0) ∧ Now w0 w' b ba bp bi ps pp qy cy G N M s (upd cs (q * 2) y) dt dk sc t g u K A S :=
  (Go.Proofs.Ytlbemkmhkjllpaa.set_live h.run.sc q y hq hy (by simp [hd])).mono fun e w' k => ⟨k.1, h.call k.2.1 k.2.2⟩
theorem Now.set_dead (h : Now w0 w b ba bp bi ps pp qy cy G N M s cs dt dk sc t g u K A S) (q : Nat) (y : Int) (hq : q < G) (hy : 0 ≤ y ∧ y ≤ 2) (hd : cs (q * 2) = 2) :
    Calls Try.prog 15 #[.pointer (some ⟨b, 0, none⟩), .int .i64 q, .int .i64 y] w fun e w' => e = .returned (.int .i64 0) ∧ w' = w :=
  Go.Proofs.Ytlbemkmhkjllpaa.set_dead h.run.sc q y hq hy (by simp [hd])
end

/-- New, and where all lies. -/
theorem new_far (G N M : Nat) (v1 v2 : Value) (f g : Nat → Int) (w0 w : World) (hG : 1 ≤ G) (hG' : G ≤ 12) (hN : N ≤ 35184372088832) (hM : M ≤ 35184372088832) (hw : Below w0.heap.size w0 w) (h1 : Ints w v1 N f) (h2 : Ints w v2 M g) :
    Calls Try.prog 8 #[.int .i64 G, v1, v2] w fun e w' => ∃ b ba bp bi, e = .returned (.tuple #[.pointer (some ⟨b, 0, none⟩), .int .i64 0]) ∧ Run w0 w' b ba bp bi G N M (fun _ => 0) (fun i => plc G (f i)) 0 g 0 ∧ Below w.heap.size w w' ∧ w.heap.size ≤ bi := by
  go_enter Try.func8, Try.ntmps8
  go_wp2_with (first
    | (go_at_call 22; refine (ready_any G _ hG').mono ?_; rintro e w1 ⟨ba, rfl, r1, b1, l1⟩)
    | (go_at_call 24; refine (placeAmong_any G _).mono ?_; rintro e w2 ⟨k, rfl, kc, b2, kl⟩; have b12 := b1.trans (b2.mono b1.size))
    | (go_at_call 23; refine (feedPlaces_any G N k v1 f _ hG hG' hN (h1.below b12) kc kl).mono ?_; rintro e w3 ⟨bp, rfl, r3, b3, l3⟩; have b13 := b12.trans (b3.mono b12.size))
    | (go_at_call 25; refine (feedInts_any M v2 g _ hM (h2.below b13)).mono ?_; rintro e w4 ⟨bi, rfl, r4, b4, l4⟩))
  go_ret2
  have b14 := b13.trans (b4.mono b13.size)
  have b15 := b14.alloc b14.size (.cells #[.slice (some ⟨ba, 0, none⟩) G G, .slice (some ⟨bp, 0, none⟩) N N, .int .i64 0, .slice (some ⟨bi, 0, none⟩) M M, .int .i64 0] 60)
  refine ⟨_, _, _, _, rfl, ⟨⟨heap_alloc_new w4 _, ?_, ?_, r4.alloc _⟩, hw.trans (b15.mono hw.size), Nat.le_trans hw.size b14.size, Nat.le_trans hw.size l1⟩, b15, Nat.le_trans b13.size l4⟩
  · exact ((r1.of_block (b2.block _ r1.lt)).of_block (b3.block _ (Nat.lt_of_lt_of_le r1.lt b2.size))).of_block (b4.block _ (Nat.lt_of_lt_of_le r1.lt (Nat.le_trans b2.size b3.size))) |>.alloc _
  · exact (r3.of_block (b4.block _ r3.lt)).alloc _

theorem Run.spoilt {w0 w w' : World} {b ba bp bi G N M p n cap : Nat} {cs : Nat → Int} {sc : Nat → Nat} {t : Nat} {g f : Nat → Int} {u : Nat} (h : Run w0 w b ba bp bi G N M cs sc t g u) (hL : Lent w p n cap f) (k : But p p w w') (hb : bi ≠ p) (hp : w0.heap.size ≤ p) :
    Run w0 w' b ba bp bi G N M cs sc t g u := by
  obtain ⟨F, hr, _⟩ := hL.row
  have n1 := row_ne h.sc.here hr (by decide)
  have n2 := rows_ne h.sc.ags hr (by decide)
  have n3 := rows_ne h.sc.plc hr (by decide)
  exact ⟨⟨by rw [k.block b h.sc.lt n1 n1]; exact h.sc.here, h.sc.ags.of_block (k.block _ h.sc.ags.lt n2 n2), h.sc.plc.of_block (k.block _ h.sc.plc.lt n3 n3), h.sc.ins.of_block (k.block _ h.sc.ins.lt hb hb)⟩, But.under h.bel h.bel.size hp hp k, h.l0, h.l1⟩

theorem two_rows (w : World) (n m : Nat) : ((w.alloc (.cells (madeCells #[.int .i64 0] n) 3)).alloc (.cells (madeCells #[.int .i64 0] m) 3)).rowIs w.heap.size 3 n (fun _ => .int .i64 0) ∧
    ((w.alloc (.cells (madeCells #[.int .i64 0] n) 3)).alloc (.cells (madeCells #[.int .i64 0] m) 3)).rowIs (w.heap.size + 1) 3 m (fun _ => .int .i64 0) := by
  refine ⟨(World.rowIs_made w (.int .i64 0) n 3).alloc _, ?_⟩
  have h := World.rowIs_made (w.alloc (.cells (madeCells #[.int .i64 0] n) 3)) (.int .i64 0) m 3
  rw [Go.Deep.nblk_alloc] at h
  exact h
theorem even_start {w0 w u : World} {b ba bp bi ps pp qy cy G N M : Nat} {sc : Nat → Nat} {g : Nat → Int} (h : Run w0 w b ba bp bi G N M (fun _ => 0) sc 0 g 0) (hy : Lent w qy M cy g) (hu : Below w.heap.size w u)
    (hs : u.rowIs ps 3 G (fun _ => .int .i64 0)) (hk : u.rowIs pp 3 G (fun _ => .int .i64 0)) (h1 : w.heap.size ≤ ps) (h2 : w.heap.size ≤ pp) (hpq : ps ≠ pp) :
    Even w0 u b ba bp bi ps pp qy cy G N M (fun _ => 0) sc 0 g 0 := by
  have a1 := h.sc.ins.lt
  have a2 := hy.lt
  have a3 := h.bel.size
  exact ⟨h.call (h.sc.below hu) (But.of_below hu), hs, hk, hy.of_block (hu.block _ a2), ⟨hpq, by omega, by omega, by omega, by omega, by omega, by omega⟩⟩
theorem fit_start (G N : Nat) : Fit G N 0 0 (fun _ => 0) := by
  refine ⟨Nat.zero_le _, fun _ => Int.le_refl _, ?_, Int.le_refl _⟩
  have : ∀ k, total (fun _ => 0) k = 0 := by
    intro k
    induction k with
    | zero => rfl
    | succ k ih => show total _ k + 0 = 0; omega
  rw [this]; rfl
end Go.Proofs.Ytlbemkmhkjllpaa
