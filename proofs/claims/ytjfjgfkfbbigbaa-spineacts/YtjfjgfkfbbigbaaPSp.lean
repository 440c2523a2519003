/- A space as it lies in memory; the small functions over it. -/
import Derived.Test.YtjfjgfkfbbigbaaPInw
import Derived.Deep.RegionHeld3
import Derived.Deep.QuietTactic
import Derived.BigRegion
namespace Go.Proofs.Ytjfjgfkfbbigbaa
open Go.RowKit

/-- Of what w held nothing has turned but the blocks of P. -/
structure Bt (P : Nat → Prop) (w w' : World) : Prop where
  os : w'.os = w.os
  tape : w'.tape = w.tape
  output : w'.output = w.output
  size : w.heap.size ≤ w'.heap.size
  block : ∀ k, k < w.heap.size → ¬ P k → w'.heap[k]? = w.heap[k]?
theorem Bt.refl (P : Nat → Prop) (w : World) : Bt P w w := ⟨rfl, rfl, rfl, Nat.le_refl _, fun _ _ _ => rfl⟩
theorem Bt.trans {P : Nat → Prop} {a b c : World} (h : Bt P a b) (k : Bt P b c) : Bt P a c :=
  ⟨k.os.trans h.os, k.tape.trans h.tape, k.output.trans h.output, Nat.le_trans h.size k.size, fun i hi e => (k.block i (Nat.lt_of_lt_of_le hi h.size) e).trans (h.block i hi e)⟩
theorem Bt.of_below {P : Nat → Prop} {w w' : World} (h : Below w.heap.size w w') : Bt P w w' := ⟨h.os, h.tape, h.output, h.size, fun k hk _ => h.block k hk⟩
theorem Bt.of_but {P : Nat → Prop} {bw bs : Nat} {w w' : World} (h : But bw bs w w') (h1 : P bw) (h2 : P bs) : Bt P w w' :=
  ⟨h.os, h.tape, h.output, h.size, fun k hk e => h.block k hk (fun q => e (q ▸ h1)) (fun q => e (q ▸ h2))⟩
theorem Bt.set {P : Nat → Prop} {a w : World} (h : Bt P a w) (r i : Nat) (v : Value) (hr : P r ∨ a.heap.size ≤ r) : Bt P a (w.setCell ⟨r, i, none⟩ v) :=
  ⟨h.os, h.tape, h.output, by simpa [World.setCell] using h.size, fun k hk e => (Below.heap_setCell _ _ _ _ (by show k ≠ r; rintro rfl; rcases hr with hr | hr; exact e hr; omega)).trans (h.block k hk e)⟩
theorem Bt.under {P : Nat → Prop} {B : Nat} {w0 w w' : World} (h : Below B w0 w) (hB : B ≤ w.heap.size) (hp : ∀ k, P k → B ≤ k) (k : Bt P w w') : Below B w0 w' :=
  h.trans ⟨k.os, k.tape, k.output, k.size, fun i hi => k.block i (by omega) (fun q => by have := hp i q; omega)⟩
def Wider (P P' : Nat → Prop) (w : World) : Prop := ∀ k, P' k → P k ∨ w.heap.size ≤ k
theorem Wider.refl (P : Nat → Prop) (w : World) : Wider P P w := fun _ hk => .inl hk
theorem Wider.trans {P Q R : Nat → Prop} {w w' : World} (h : Wider P Q w) (k : Wider Q R w') (hs : w.heap.size ≤ w'.heap.size) : Wider P R w := fun j hj => (k j hj).elim (h j) (fun q => .inr (by omega))
theorem Bt.wide {P Q : Nat → Prop} {w w1 w2 : World} (h : Bt P w w1) (k : Bt Q w1 w2) (hw : Wider P Q w) : Bt P w w2 :=
  ⟨k.os.trans h.os, k.tape.trans h.tape, k.output.trans h.output, Nat.le_trans h.size k.size, fun j hj e => (k.block j (Nat.lt_of_lt_of_le hj h.size) (fun hq => (hw j hq).elim e (fun q => by omega))).trans (h.block j hj e)⟩
theorem Bt.of_grown {P : Nat → Prop} {w w' : World} {r : Option Nat} (h : w.grownBy w' r) (hr : ∀ k, r = some k → P k) : Bt P w w' := ⟨h.os, h.tape, h.output, h.size, fun k hk e => h.block k hk (fun q => e (hr k q.symm))⟩

/-- A function of whole numbers, at those that are not below zero. -/
def natf (f : Int → Int) : Nat → Int := fun i => f (i : Int)
def updI (f : Int → Int) (a v : Int) : Int → Int := fun j => if j = a then v else f j
theorem updI_at (f : Int → Int) (a v : Int) : updI f a v a = v := by simp [updI]
theorem updI_else (f : Int → Int) {a j : Int} (v : Int) (h : j ≠ a) : updI f a v j = f j := by simp [updI, h]
theorem natf_upd (f : Int → Int) (a : Nat) (v : Int) : upd (natf f) a v = natf (updI f (a : Int) v) := by
  funext j; simp only [upd, natf, updI, Int.ofNat_inj]
def tick (c : Int → Int) (g : Int) : Int → Int := updI c g (wrap64 (c g + 1))
section
variable {w : World} {b bw bs W G : Nat} {f c : Int → Int}
theorem loadI (h : Ar w b bw bs W G (natf f) (natf c)) (g a : Int) (hg : 0 ≤ g ∧ g < G) (ha : 0 ≤ a ∧ a < W) :
    Calls Try.prog 28 #[.pointer (some ⟨b, 0, none⟩), .int .i64 g, .int .i64 a] w fun e w' => e = .returned (.tuple #[.int .i64 (f a), .int .i64 0]) ∧ Ar w' b bw bs W G (natf f) (natf (tick c g)) ∧ But bw bs w w' := by
  obtain ⟨g, rfl⟩ := Int.eq_ofNat_of_zero_le hg.1
  obtain ⟨a, rfl⟩ := Int.eq_ofNat_of_zero_le ha.1
  refine (load_ok h g a (by omega) (by omega)).mono ?_
  rintro e w' ⟨rfl, hA, hB⟩
  rw [natf_upd] at hA
  exact ⟨rfl, hA, hB⟩
theorem storeI (h : Ar w b bw bs W G (natf f) (natf c)) (g a x : Int) (hg : 0 ≤ g ∧ g < G) (ha : 0 ≤ a ∧ a < W) :
    Calls Try.prog 35 #[.pointer (some ⟨b, 0, none⟩), .int .i64 g, .int .i64 a, .int .i64 x] w fun e w' => e = .returned (.int .i64 0) ∧ Ar w' b bw bs W G (natf (updI f a x)) (natf (tick c g)) ∧ But bw bs w w' := by
  obtain ⟨g, rfl⟩ := Int.eq_ofNat_of_zero_le hg.1
  obtain ⟨a, rfl⟩ := Int.eq_ofNat_of_zero_le ha.1
  refine (store_ok h g a x (by omega) (by omega)).mono ?_
  rintro e w' ⟨rfl, hA, hB⟩
  rw [natf_upd, natf_upd] at hA
  exact ⟨rfl, hA, hB⟩
end

/-- The struct at block s, its arena, its row of arrays; all that is its own lies in P. -/
structure Sp (w : World) (P : Nat → Prop) (s b bw bs W G : Nat) (v : Value) (q : St) (f c : Int → Int) : Prop where
  here : w.heap[s]? = some (.cells #[.pointer (some ⟨b, 0, none⟩), .int .i64 q.base, .int .i64 q.half, .bool q.up, .int .i64 q.given, v, .int .i64 q.taken, .int .i64 q.dropped, .int .i64 q.leaving, .bool q.c.on, .int .i64 q.c.last, .int .i64 q.c.id, .bool q.c.cop, .int .i64 q.c.copied, .int .i64 q.c.to, .int .i64 q.c.next] 68 (0, 0))
  ar : Ar w b bw bs W G (natf f) (natf c)
  row : Arys w v q.xs
  own : P s ∧ P b ∧ P bw ∧ P bs ∧ ∀ k, v.ownBlock = some k → P k
section
variable {w : World} {P : Nat → Prop} {s b bw bs W G : Nat} {v : Value} {q : St} {f c : Int → Int}
theorem Sp.lt (h : Sp w P s b bw bs W G v q f c) : s < w.heap.size := (Array.getElem?_eq_some_iff.1 h.here).1
theorem Sp.below {w' : World} (h : Sp w P s b bw bs W G v q f c) (k : Below w.heap.size w w') : Sp w' P s b bw bs W G v q f c :=
  ⟨(k.block _ h.lt).trans h.here, h.ar.below k, h.row.below k, h.own⟩
theorem Sp.s_bw (h : Sp w P s b bw bs W G v q f c) : s ≠ bw := by
  rintro rfl
  obtain ⟨c, hc, _⟩ := h.ar.words
  rw [h.here] at hc; simp at hc
theorem Sp.s_bs (h : Sp w P s b bw bs W G v q f c) : s ≠ bs := by
  rintro rfl
  obtain ⟨c, hc, _⟩ := h.ar.steps
  rw [h.here] at hc; simp at hc
theorem Sp.s_b (h : Sp w P s b bw bs W G v q f c) : s ≠ b := by
  rintro rfl
  have := h.ar.here
  rw [h.here] at this; simp at this
theorem Sp.row_ne (h : Sp w P s b bw bs W G v q f c) {k : Nat} (hk : v.ownBlock = some k) : k ≠ s ∧ k ≠ b ∧ k ≠ bw ∧ k ≠ bs ∧ k < w.heap.size := by
  rcases h.row.shape with ⟨rfl, _⟩ | ⟨p, cap, rfl, _, _, cur, hp, _⟩
  · simp [Value.ownBlock] at hk
  · simp only [Value.ownBlock, Option.some.injEq] at hk
    subst hk
    refine ⟨?_, ?_, ?_, ?_, (Array.getElem?_eq_some_iff.1 hp).1⟩
    · rintro rfl; rw [h.here] at hp; simp at hp
    · rintro rfl; rw [h.ar.here] at hp; simp at hp
    · rintro rfl; obtain ⟨c, hc, _⟩ := h.ar.words; rw [hp] at hc; simp at hc
    · rintro rfl; obtain ⟨c, hc, _⟩ := h.ar.steps; rw [hp] at hc; simp at hc
theorem Arys.of_block {w w' : World} {v : Value} {xs : List Ary} (h : Arys w v xs) (e : ∀ k, v.ownBlock = some k → w'.heap[k]? = w.heap[k]?) : Arys w' v xs := by
  refine ⟨h.1, ?_⟩
  rcases h.2 with r | ⟨g, cap, cur, rfl, h1, h2, h3⟩
  · exact .inl r
  · exact .inr ⟨g, cap, cur, rfl, h1, (e g rfl).trans h2, h3⟩
theorem Sp.rows {w' : World} {f' c' : Int → Int} (h : Sp w P s b bw bs W G v q f c) (hA : Ar w' b bw bs W G (natf f') (natf c')) (hB : But bw bs w w') : Sp w' P s b bw bs W G v q f' c' ∧ Bt P w w' :=
  ⟨⟨(hB.block _ h.lt h.s_bw h.s_bs).trans h.here, hA, h.row.of_block fun k hk => have r := h.row_ne hk; hB.block k r.2.2.2.2 r.2.2.1 r.2.2.2.1, h.own⟩, Bt.of_but hB h.own.2.2.1 h.own.2.2.2.1⟩
theorem here_set {w : World} {s k : Nat} {arr : Array Value} {t : TypeId} (h : w.heap[s]? = some (.cells arr t (0, 0))) (x : Value) : (w.setCell ⟨s, k, none⟩ x).heap[s]? = some (.cells (arr.setIfInBounds k x) t (0, 0)) := by
  simp [World.setCell, Array.getElem?_modify, h]
/-- A store of a number into the struct. -/
theorem Sp.poke (h : Sp w P s b bw bs W G v q f c) (k : Nat) (x : Value) {q' : St} (hx : q'.xs = q.xs) (e : (#[.pointer (some ⟨b, 0, none⟩), .int .i64 q.base, .int .i64 q.half, .bool q.up, .int .i64 q.given, v, .int .i64 q.taken, .int .i64 q.dropped, .int .i64 q.leaving, .bool q.c.on, .int .i64 q.c.last, .int .i64 q.c.id, .bool q.c.cop, .int .i64 q.c.copied, .int .i64 q.c.to, .int .i64 q.c.next] : Array Value).setIfInBounds k x = (fun q : St => #[.pointer (some ⟨b, 0, none⟩), .int .i64 q.base, .int .i64 q.half, .bool q.up, .int .i64 q.given, v, .int .i64 q.taken, .int .i64 q.dropped, .int .i64 q.leaving, .bool q.c.on, .int .i64 q.c.last, .int .i64 q.c.id, .bool q.c.cop, .int .i64 q.c.copied, .int .i64 q.c.to, .int .i64 q.c.next]) q') : Sp (w.setCell ⟨s, k, none⟩ x) P s b bw bs W G v q' f c ∧ Bt P w (w.setCell ⟨s, k, none⟩ x) := by
  refine ⟨⟨by rw [here_set h.here, e], ?_, ?_, h.own⟩, (Bt.refl _ _).set _ _ _ (.inl h.own.1)⟩
  · exact ⟨by rw [Below.heap_setCell _ _ _ _ (fun r => h.s_b r.symm)]; exact h.ar.here, h.ar.words.setOther (fun r => h.s_bw r.symm) _, h.ar.steps.setOther (fun r => h.s_bs r.symm) _, h.ar.part⟩
  · rw [hx]
    exact h.row.of_block fun k hk => Below.heap_setCell _ _ _ _ (h.row_ne hk).1
theorem Sp.cells (h : Sp w P s b bw bs W G v q f c) : w.cell? ⟨s, 0, none⟩ = some (.pointer (some ⟨b, 0, none⟩)) ∧ w.cell? ⟨s, 1, none⟩ = some (.int .i64 q.base) ∧ w.cell? ⟨s, 2, none⟩ = some (.int .i64 q.half) ∧ w.cell? ⟨s, 3, none⟩ = some (.bool q.up) ∧ w.cell? ⟨s, 4, none⟩ = some (.int .i64 q.given) ∧ w.cell? ⟨s, 5, none⟩ = some v ∧ w.cell? ⟨s, 6, none⟩ = some (.int .i64 q.taken) ∧ w.cell? ⟨s, 7, none⟩ = some (.int .i64 q.dropped) ∧ w.cell? ⟨s, 8, none⟩ = some (.int .i64 q.leaving) ∧ w.cell? ⟨s, 9, none⟩ = some (.bool q.c.on) ∧ w.cell? ⟨s, 10, none⟩ = some (.int .i64 q.c.last) ∧ w.cell? ⟨s, 11, none⟩ = some (.int .i64 q.c.id) ∧ w.cell? ⟨s, 12, none⟩ = some (.bool q.c.cop) ∧ w.cell? ⟨s, 13, none⟩ = some (.int .i64 q.c.copied) ∧ w.cell? ⟨s, 14, none⟩ = some (.int .i64 q.c.to) ∧ w.cell? ⟨s, 15, none⟩ = some (.int .i64 q.c.next) := by
  simp [World.cell?, h.here]
theorem Sp.c0 (h : Sp w P s b bw bs W G v q f c) : w.cell? ⟨s, 0, none⟩ = some (.pointer (some ⟨b, 0, none⟩)) := h.cells.1
theorem Sp.frozen (h : Sp w P s b bw bs W G v q f c) (k : Nat) : w.frozen? ⟨s, k, none⟩ = false := by simp [World.frozen?, h.here]
theorem sp_load (h : Sp w P s b bw bs W G v q f c) (g a : Int) (hg : 0 ≤ g ∧ g < G) (ha : 0 ≤ a ∧ a < W) :
    Calls Try.prog 28 #[.pointer (some ⟨b, 0, none⟩), .int .i64 g, .int .i64 a] w fun e w' => e = .returned (.tuple #[.int .i64 (f a), .int .i64 0]) ∧ Sp w' P s b bw bs W G v q f (tick c g) ∧ Bt P w w' :=
  (loadI h.ar g a hg ha).mono fun _ _ r => ⟨r.1, h.rows r.2.1 r.2.2⟩
theorem sp_store (h : Sp w P s b bw bs W G v q f c) (g a x : Int) (hg : 0 ≤ g ∧ g < G) (ha : 0 ≤ a ∧ a < W) :
    Calls Try.prog 35 #[.pointer (some ⟨b, 0, none⟩), .int .i64 g, .int .i64 a, .int .i64 x] w fun e w' => e = .returned (.int .i64 0) ∧ Sp w' P s b bw bs W G v q (updI f a x) (tick c g) ∧ Bt P w w' :=
  (storeI h.ar g a x hg ha).mono fun _ _ r => ⟨r.1, h.rows r.2.1 r.2.2⟩
theorem size_any (n : Int) (w : World) (h0 : -1000000 ≤ n) (h1 : n ≤ 1000000) : Calls Try.prog 32 #[.int .i64 n] w fun e w' => e = .returned (.int .i64 (n + 4)) ∧ w' = w := by
  go_enter Try.func32, Try.ntmps32
  go_wp2
  go_ret
  exact ⟨rfl, rfl⟩
theorem wordsOf_any (n : Int) (w : World) (h0 : -1000000 ≤ n) (h1 : n ≤ 1000000) : Calls Try.prog 36 #[.int .i64 n] w fun e w' => e = .returned (.int .i64 (n + 4)) ∧ w' = w := by
  go_enter Try.func36, Try.ntmps36
  go_wp2
  go_ret
  exact ⟨rfl, rfl⟩
theorem fill_any (h : Sp w P s b bw bs W G v q f c) (h0 : 0 ≤ q.base ∧ q.base ≤ 100000) (h1 : 0 ≤ q.half ∧ q.half ≤ 100000) : Calls Try.prog 33 #[.pointer (some ⟨s, 0, none⟩)] w fun e w' => e = .returned (.int .i64 (fillOf q)) ∧ Below w.heap.size w w' := by
  have cc := h.cells
  cases hu : q.up with
  | true =>
    rw [hu] at cc
    have e : fillOf q = q.base + q.half := by simp [fillOf, hu]
    rw [e]
    clear h hu e
    go_enter Try.func33, Try.ntmps33
    go_wp2
    go_quiet (fail)
    go_wp2
    go_ret
    exact ⟨rfl, below_drewN _ _ _⟩
  | false =>
    rw [hu] at cc
    have e : fillOf q = q.base := by simp [fillOf, hu]
    rw [e]
    clear h hu e
    go_enter Try.func33, Try.ntmps33
    go_wp2
    go_ret
    exact ⟨rfl, Below.refl _ _⟩
theorem room_any (h : Sp w P s b bw bs W G v q f c) (h0 : 0 ≤ q.taken ∧ q.taken ≤ 100000) (h1 : 0 ≤ q.half ∧ q.half ≤ 100000) : Calls Try.prog 9 #[.pointer (some ⟨s, 0, none⟩)] w fun e w' => e = .returned (.int .i64 (q.half - q.taken)) ∧ Below w.heap.size w w' := by
  have cc := h.cells
  clear h
  go_enter Try.func9, Try.ntmps9
  go_wp2
  go_quiet (fail)
  go_wp2
  go_ret
  exact ⟨rfl, below_drewN _ _ _⟩
theorem place_ok (h : Sp w P s b bw bs W G v q f c) (st i : Int) (hs : 0 ≤ st ∧ st ≤ 1000000) (hi : 0 ≤ i ∧ i ≤ 1000000) (h0 : 0 ≤ q.base ∧ q.base ≤ 100000) (h1 : 0 ≤ q.half ∧ q.half ≤ 100000) (h2 : q.base ≤ st + i) (h3 : st + i < q.base + 2 * q.half) :
    Calls Try.prog 29 #[.pointer (some ⟨s, 0, none⟩), .int .i64 st, .int .i64 i] w fun e w' => e = .returned (.int .i64 (st + i)) ∧ Below w.heap.size w w' := by
  have cc := h.cells
  have d1 : decide (st + i < q.base) = false := by simp; omega
  have d2 : decide (q.base + 2 * q.half ≤ st + i) = false := by simp; omega
  clear h
  go_enter Try.func29, Try.ntmps29
  go_wp2
  go_quiet (fail)
  go_wp2
  go_ret
  exact ⟨rfl, below_drewN _ _ _⟩
end
end Go.Proofs.Ytjfjgfkfbbigbaa
