/- StackActs: its memory while it is laid; what stands between two acts. -/
import Derived.Test.YtpajdopdbdflnaaSPstep
namespace Go.Proofs.Ytpajdopdbdflnaa
open Go.RowKit

/-- The play's block while the row of what agents do grows. -/
structure Gw (B : Nat) (w0 u : World) (P : Nat → Prop) (s : Nat) (b : Zone) (k c : Nat) (y : Nat) (vb : Value) (n : Nat) : Prop where
  good : Good u P s b k c (fun _ => 0) (fun _ => .idle) 0 []
  blk : u.heap[y]? = some (.cells #[.pointer (some ⟨s, 0, none⟩), .pointer (some ⟨b.b, 0, none⟩), .int .i64 c, .slice none 0 0, vb] 30 (0, 0))
  it : Mine u B vb n (fun _ => -1)
  ny : ¬ P y
  ni : ∀ g, vb.ownBlock = some g → ¬ P g
  ly : B ≤ y
  lp : ∀ j, P j → B ≤ j
  bel : Below B w0 u
  big : B ≤ u.heap.size
section
variable {B : Nat} {w0 u u' : World} {P : Nat → Prop} {s : Nat} {b : Zone} {k c : Nat} {y : Nat} {vb : Value} {n : Nat}
theorem Gw.start {w w1 : World} (hG : Good w1 P s b k c (fun _ => 0) (fun _ => .idle) 0 []) (hb : Below w.heap.size w w1) (hP : ∀ j, P j → w.heap.size ≤ j) :
    Gw w.heap.size w (w1.alloc (.cells #[.pointer (some ⟨s, 0, none⟩), .pointer (some ⟨b.b, 0, none⟩), .int .i64 c, .slice none 0 0, .slice none 0 0] 30)) P s b k c w1.heap.size (.slice none 0 0) 0 := by
  have hsz := hb.size
  exact ⟨hG.alloc _, heap_alloc_new _ _, Mine.nil _ _ _, fun q => by have := hG.lt _ q; omega, fun g e => by simp [Value.ownBlock] at e, hsz, hP, hb.alloc hsz _, by simp; omega⟩
theorem Gw.nei (h : Gw B w0 u P s b k c y vb n) {g : Nat} (e : vb.ownBlock = some g) : g ≠ y := by
  rintro rfl
  obtain ⟨_, _, cur, h1⟩ := h.it.lt e
  rw [h.blk] at h1
  cases h1
theorem Gw.more (h : Gw B w0 u P s b k c y vb n) {vb' : Value} {n' : Nat} (hg : u.grownBy u' vb.ownBlock) (hM : Mine u' B vb' n' (fun _ => -1)) (hw : ∀ g, vb'.ownBlock = some g → vb.ownBlock = some g ∨ u.heap.size ≤ g) :
    Gw B w0 (u'.setCell ⟨y, 4, none⟩ vb') P s b k c y vb' n' := by
  have hy := box_lt h.blk
  have hblk : u'.heap[y]? = _ := (hg.block y hy (fun e => h.nei e.symm rfl)).trans h.blk
  have hb1 : Below B u u' := ⟨hg.os, hg.tape, hg.output, hg.size, fun j hj => hg.block j (by have := h.big; omega) (fun e => by have := (h.it.lt e.symm).2.1; omega)⟩
  have hgd : Good u' P s b k c (fun _ => 0) (fun _ => .idle) 0 [] := h.good.keep (fun j hj => hg.block j (h.good.lt j hj) (fun e => h.ni j e.symm hj)) hg.size
  have hnew : ∀ g, vb'.ownBlock = some g → ¬ P g ∧ g ≠ y := fun g e => by
    rcases hw g e with q | q
    · exact ⟨h.ni g q, h.nei q⟩
    · exact ⟨fun p => by have := h.good.lt g p; omega, by omega⟩
  exact ⟨hgd.put h.ny _ _, put4 hblk, hM.block fun g e => heap_put _ _ (by show g ≠ y; exact (hnew g e).2), h.ny, fun g e => (hnew g e).1, h.ly, h.lp, (h.bel.trans hb1).setCell (p := ⟨y, 4, none⟩) h.ly _, by simpa [World.setCell] using Nat.le_trans h.big hg.size⟩

/-- What stands between two acts: the row of items is what the stack holds, each agent does what the play says. -/
def Edge (B : Nat) (w0 : World) (s : Nat) (b : Zone) (k c y qb cb : Nat) (n : Nat) (u : World) : Prop :=
  ∃ P cs ops T xs vi busy, Py B w0 u P s b k c cs ops T xs y vi xs qb cb busy ∧ T ≤ n ∧ ∀ a, a < k → busy a = (ops a).busy c
theorem Gw.edge (h : Gw B w0 u P s b k c y vb k) (hk : 1 ≤ k) : ∃ qb cb, vb = .slice (some ⟨qb, 0, none⟩) k cb ∧ Edge B w0 s b k c y qb cb 0 u := by
  obtain ⟨qb, cb, rfl, hl, _, hlt, cur, hcur, _, _, hc⟩ := h.it.shape (by omega)
  refine ⟨qb, cb, rfl, P, _, _, 0, [], .slice none 0 0, fun _ => -1, ⟨h.good, h.blk, Mine.nil _ _ _, ⟨cur, hcur, hc⟩, h.ny, h.ni qb rfl, fun g e => by simp [Value.ownBlock] at e, h.ly, hl, h.lp, h.bel, h.big⟩, by simp, fun _ _ => rfl⟩
end
section
variable {B : Nat} {w0 u : World} {s : Nat} {b : Zone} {k c y qb cb n : Nat}
theorem begin_edge (h : Edge B w0 s b k c y qb cb n u) (hn : n ≤ 600) (hc : c ≤ 32) (hk : k ≤ 12) (K A V : Int) :
    Calls Try.prog 9 #[.pointer (some ⟨y, 0, none⟩), .agg #[.int .i64 K, .int .i64 A, .int .i64 V]] u fun e w' => e = .returned (.bool true) ∧ Edge B w0 s b k c y qb cb (n + 1) w' := by
  obtain ⟨P, cs, ops, T, xs, vi, busy, h, hT, hst⟩ := h
  refine (pbegin_any h hst K A V (by omega) hc hk).mono ?_
  rintro e w' ⟨rfl, P', ops', busy', h', hst'⟩
  exact ⟨rfl, P', cs, ops', T, xs, vi, busy', h', by omega, hst'⟩
theorem step_edge (h : Edge B w0 s b k c y qb cb n u) (hn : n ≤ 600) (hc : c ≤ 32) (A : Int) :
    Calls Try.prog 10 #[.pointer (some ⟨y, 0, none⟩), .int .i64 A] u fun e w' => e = .returned (.bool true) ∧ Edge B w0 s b k c y qb cb (n + 1) w' := by
  obtain ⟨P, cs, ops, T, xs, vi, busy, h, hT, hst⟩ := h
  refine (pstep_any h hst (by omega) hc A).mono ?_
  rintro e w' ⟨rfl, P', cs', ops', T', xs', vi', busy', h', hT', hst'⟩
  exact ⟨rfl, P', cs', ops', T', xs', vi', busy', h', by omega, hst'⟩
theorem Edge.below {u' : World} (h : Edge B w0 s b k c y qb cb n u) (hb : Below u.heap.size u u') : Edge B w0 s b k c y qb cb n u' := by
  obtain ⟨P, cs, ops, T, xs, vi, busy, h, hT, hst⟩ := h
  exact ⟨P, cs, ops, T, xs, vi, busy, h.below hb, hT, hst⟩
theorem Edge.bel (h : Edge B w0 s b k c y qb cb n u) : Below B w0 u ∧ B ≤ u.heap.size := by
  obtain ⟨P, cs, ops, T, xs, vi, busy, h, hT, hst⟩ := h
  exact ⟨h.bel, h.big⟩
end
end Go.Proofs.Ytpajdopdbdflnaa
