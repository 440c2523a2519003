/- The law's own memory beside the arena: two rows and the step that is looked at; what a call or a store leaves of it. -/
import Derived.Test.YtlngjgjhmhpipaaAHolds
namespace Go.Proofs.Ytlngjgjhmhpipaa
open Go.RowKit

/-- Where the rows lie: apart, and none among the first B blocks. -/
structure Apart (B bw bs p q : Nat) : Prop where
  p1 : p ≠ bw
  p2 : p ≠ bs
  q1 : q ≠ bw
  q2 : q ≠ bs
  pq : p ≠ q
  b1 : B ≤ bw
  b2 : B ≤ bs
  b3 : B ≤ p
  b4 : B ≤ q

/-- The arena holds ws and cs, the law's rows wp and cq, the block s the step that is looked at; what w0 held below B stands. -/
structure Now (B : Nat) (w0 u : World) (b bw bs p q W G s : Nat) (ws cs wp cq : Nat → Int) (K A T O N : Int) : Prop where
  ap : Apart B bw bs p q
  ar : Ar u b bw bs W G ws cs
  pw : u.rowIs p 3 W (fun i => .int .i64 (wp i))
  qw : u.rowIs q 3 G (fun i => .int .i64 (cq i))
  sb : u.heap[s]? = some (.cells #[.int .i64 K, .int .i64 A, .int .i64 T, .int .i64 O, .int .i64 N] 31 (0, 0))
  bel : Below B w0 u
  big : B ≤ u.heap.size

section
variable {B : Nat} {w0 u : World} {b bw bs p q W G s : Nat} {ws cs wp cq : Nat → Int} {K A T O N : Int}

theorem Now.s_row {x n : Nat} {f : Nat → Value} (h : Now B w0 u b bw bs p q W G s ws cs wp cq K A T O N) (hr : u.rowIs x 3 n f) : s ≠ x := by
  rintro rfl
  obtain ⟨c, hc, _⟩ := hr
  rw [h.sb] at hc; simp at hc
theorem row_b {x n : Nat} {f : Nat → Value} (h : Ar u b bw bs W G ws cs) (hr : u.rowIs x 3 n f) : b ≠ x := by
  rintro rfl
  obtain ⟨c, hc, _⟩ := hr
  rw [h.here] at hc; simp at hc
theorem Now.slt (h : Now B w0 u b bw bs p q W G s ws cs wp cq K A T O N) : s < u.heap.size := (Array.getElem?_eq_some_iff.1 h.sb).1

theorem Now.f0 (h : Now B w0 u b bw bs p q W G s ws cs wp cq K A T O N) : u.cell? ⟨s, 0, none⟩ = some (.int .i64 K) := by simp only [World.cell?, h.sb]; rfl
theorem Now.f1 (h : Now B w0 u b bw bs p q W G s ws cs wp cq K A T O N) : u.cell? ⟨s, 1, none⟩ = some (.int .i64 A) := by simp only [World.cell?, h.sb]; rfl
theorem Now.f2 (h : Now B w0 u b bw bs p q W G s ws cs wp cq K A T O N) : u.cell? ⟨s, 2, none⟩ = some (.int .i64 T) := by simp only [World.cell?, h.sb]; rfl
theorem Now.f3 (h : Now B w0 u b bw bs p q W G s ws cs wp cq K A T O N) : u.cell? ⟨s, 3, none⟩ = some (.int .i64 O) := by simp only [World.cell?, h.sb]; rfl
theorem Now.f4 (h : Now B w0 u b bw bs p q W G s ws cs wp cq K A T O N) : u.cell? ⟨s, 4, none⟩ = some (.int .i64 N) := by simp only [World.cell?, h.sb]; rfl

/-- A store into a row that is none of the arena's. -/
theorem Ar.else_ (h : Ar u b bw bs W G ws cs) {x : Addr} (h0 : b ≠ x.block) (h1 : bw ≠ x.block) (h2 : bs ≠ x.block) (v : Value) : Ar (u.setCell x v) b bw bs W G ws cs :=
  ⟨by rw [Below.heap_setCell _ _ _ _ h0]; exact h.here, h.words.setOther h1 v, h.steps.setOther h2 v, h.part⟩
theorem set_upd {x n i : Nat} {f : Nat → Int} {v : Int} (h : u.rowIs x 3 n (fun i => .int .i64 (f i))) : (u.setCell ⟨x, i, none⟩ (.int .i64 v)).rowIs x 3 n (fun j => .int .i64 (upd f i v j)) :=
  (h.set i (.int .i64 v)).congr fun j _ => by unfold upd; split <;> rfl

/-- The law has counted. -/
theorem Now.count (h : Now B w0 u b bw bs p q W G s ws cs wp cq K A T O N) (g : Nat) (v : Int) : Now B w0 (u.setCell ⟨q, g, none⟩ (.int .i64 v)) b bw bs p q W G s ws cs wp (upd cq g v) K A T O N :=
  ⟨h.ap, h.ar.else_ (row_b h.ar h.qw) (fun e => h.ap.q1 e.symm) (fun e => h.ap.q2 e.symm) _, h.pw.setOther h.ap.pq _, set_upd h.qw, by rw [Below.heap_setCell _ _ _ _ (h.s_row h.qw)]; exact h.sb, h.bel.setCell h.ap.b4 _, by simpa [World.setCell] using h.big⟩
/-- The law has stored a word. -/
theorem Now.word (h : Now B w0 u b bw bs p q W G s ws cs wp cq K A T O N) (a : Nat) (v : Int) : Now B w0 (u.setCell ⟨p, a, none⟩ (.int .i64 v)) b bw bs p q W G s ws cs (upd wp a v) cq K A T O N :=
  ⟨h.ap, h.ar.else_ (row_b h.ar h.pw) (fun e => h.ap.p1 e.symm) (fun e => h.ap.p2 e.symm) _, set_upd h.pw, h.qw.setOther (fun e => h.ap.pq e.symm) _, by rw [Below.heap_setCell _ _ _ _ (h.s_row h.pw)]; exact h.sb, h.bel.setCell h.ap.b3 _, by simpa [World.setCell] using h.big⟩
/-- A call has turned the arena, and nothing else. -/
theorem Now.call {u' : World} {ws' cs' : Nat → Int} (h : Now B w0 u b bw bs p q W G s ws cs wp cq K A T O N) (hA : Ar u' b bw bs W G ws' cs') (k : But bw bs u u') : Now B w0 u' b bw bs p q W G s ws' cs' wp cq K A T O N :=
  ⟨h.ap, hA, h.pw.of_block (k.block p h.pw.lt h.ap.p1 h.ap.p2), h.qw.of_block (k.block q h.qw.lt h.ap.q1 h.ap.q2), by rw [k.block s h.slt (h.s_row h.ar.words) (h.s_row h.ar.steps)]; exact h.sb,
    But.under h.bel h.big h.ap.b1 h.ap.b2 k, Nat.le_trans h.big k.size⟩
theorem Now.drewN (h : Now B w0 u b bw bs p q W G s ws cs wp cq K A T O N) (n : Nat) : Now B w0 (u.drewN n) b bw bs p q W G s ws cs wp cq K A T O N :=
  h.call (h.ar.below (below_drewN _ _ _)) (But.of_below (below_drewN _ _ _))

/-- Between two rounds: the law's rows hold what the arena's hold. -/
structure Even (B : Nat) (w0 u : World) (b bw bs p q W G : Nat) (ws cs : Nat → Int) : Prop where
  ap : Apart B bw bs p q
  ar : Ar u b bw bs W G ws cs
  pw : u.rowIs p 3 W (fun i => .int .i64 (ws i))
  qw : u.rowIs q 3 G (fun i => .int .i64 (cs i))
  bel : Below B w0 u
  big : B ≤ u.heap.size
theorem Even.look (h : Even B w0 u b bw bs p q W G ws cs) (K A T O N : Int) :
    Now B w0 (u.alloc (.cells #[.int .i64 K, .int .i64 A, .int .i64 T, .int .i64 O, .int .i64 N] 31)) b bw bs p q W G u.heap.size ws cs ws cs K A T O N :=
  ⟨h.ap, h.ar.alloc _, h.pw.alloc _, h.qw.alloc _, heap_alloc_new u _, h.bel.alloc h.big _, by simp; have := h.big; omega⟩
theorem Now.even (h : Now B w0 u b bw bs p q W G s ws cs ws cs K A T O N) : Even B w0 u b bw bs p q W G ws cs := ⟨h.ap, h.ar, h.pw, h.qw, h.bel, h.big⟩
end
end Go.Proofs.Ytlngjgjhmhpipaa
