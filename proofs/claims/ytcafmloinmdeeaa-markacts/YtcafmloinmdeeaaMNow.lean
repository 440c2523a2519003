/- The memory of the law MarkActs beside the colours: its own row of colours, its queue, the act that is looked at. -/
import Derived.Test.YtcafmloinmdeeaaMBlacks
namespace Go.Proofs.Ytcafmloinmdeeaa
open Go.RowKit
/-- A block that the queue may lie in. -/
def Oka (B s bc bi gs : Nat) : Nat → Prop := fun g => B ≤ g ∧ ¬ Mb s bc bi g ∧ g ≠ gs
/-- The colours c with the row q of the grey ones; the law's row d in block gs; its queue p at v. -/
structure Pm (B : Nat) (w0 u : World) (s bc bi N : Nat) (c : Nat → Int) (q : List Nat) (gs : Nat) (d : Nat → Int) (v : Value) (p : List Nat) : Prop where
  wk : Mk u s bc bi N c q
  row : u.rowIs gs 3 N (fun i => .int .i64 (d i))
  que : Que u (Oka B s bc bi gs) v p
  off : ¬ Mb s bc bi gs
  gsB : B ≤ gs
  bel : Below B w0 u
  big : B ≤ u.heap.size
  ap : ∀ k, Mb s bc bi k → B ≤ k
/-- .. and the act in block p. -/
structure Pa (B : Nat) (w0 u : World) (s bc bi N : Nat) (c : Nat → Int) (q : List Nat) (gs : Nat) (d : Nat → Int) (v : Value) (p : List Nat) (x : Nat) (K T : Int) : Prop where
  pm : Pm B w0 u s bc bi N c q gs d v p
  act : u.heap[x]? = some (.cells #[.int .i64 K, .int .i64 T] 31 (0, 0))
section
variable {B : Nat} {w0 u u' : World} {s bc bi N gs x : Nat} {c c' d d' : Nat → Int} {q q' p p' : List Nat} {v v' : Value} {K T : Int}
theorem Pm.call (h : Pm B w0 u s bc bi N c q gs d v p) (hM : Mk u' s bc bi N c' q') (k : Bt (Mb s bc bi) u u') : Pm B w0 u' s bc bi N c' q' gs d v p :=
  ⟨hM, h.row.of_block (k.block gs h.row.lt h.off), h.que.of_blocks fun j hj ho => k.block j hj ho.2.1, h.off, h.gsB, Bt.under h.bel h.big h.ap k, Nat.le_trans h.big k.size, h.ap⟩
theorem Pm.below (h : Pm B w0 u s bc bi N c q gs d v p) (k : Below u.heap.size u u') : Pm B w0 u' s bc bi N c q gs d v p := h.call (h.wk.below k) (Bt.of_below k)
theorem Pm.put (h : Pm B w0 u s bc bi N c q gs d v p) (i : Nat) (z : Int) : Pm B w0 (u.setCell ⟨gs, i, none⟩ (.int .i64 z)) s bc bi N c q gs (setC d i z) v p :=
  ⟨h.wk.of_blocks fun j hj => Below.heap_setCell _ _ _ _ (fun e => h.off ((show j = gs from e) ▸ hj)), (h.row.set i _).congr (fun j _ => by unfold setC; split <;> rfl),
    h.que.of_blocks fun j _ ho => Below.heap_setCell _ _ _ _ ho.2.2, h.off, h.gsB, h.bel.setCell h.gsB _, by simpa [World.setCell] using h.big, h.ap⟩
theorem Pm.app (h : Pm B w0 u s bc bi N c q gs d v p) (hq : Que u' (Oka B s bc bi gs) v' p') (k : Bt (Oka B s bc bi gs) u u') : Pm B w0 u' s bc bi N c q gs d v' p' :=
  ⟨h.wk.of_blocks fun j hj => k.block j (h.wk.mb_lt j hj) (fun o => o.2.1 hj), h.row.of_block (k.block gs h.row.lt (fun o => o.2.2 rfl)), hq, h.off, h.gsB, Bt.under h.bel h.big (fun _ hj => hj.1) k, Nat.le_trans h.big k.size, h.ap⟩
theorem Pm.turn (h : Pm B w0 u s bc bi N c q gs d v p) (hq : Que u (Oka B s bc bi gs) v' p') : Pm B w0 u s bc bi N c q gs d v' p' := ⟨h.wk, h.row, hq, h.off, h.gsB, h.bel, h.big, h.ap⟩
theorem Pm.congr (h : Pm B w0 u s bc bi N c q gs d v p) (e : ∀ i, i < N → d i = d' i) : Pm B w0 u s bc bi N c q gs d' v p := ⟨h.wk, h.row.congr (fun i hi => by rw [e i hi]), h.que, h.off, h.gsB, h.bel, h.big, h.ap⟩
theorem Pm.fresh (h : Pm B w0 u s bc bi N c q gs d v p) : ∀ j, u.heap.size ≤ j → Oka B s bc bi gs j := fun j hj => ⟨Nat.le_trans h.big hj, fun m => by have := h.wk.mb_lt j m; omega, by have := h.row.lt; omega⟩
theorem Pm.look (h : Pm B w0 u s bc bi N c q gs d v p) (K T : Int) : Pa B w0 (u.alloc (.cells #[.int .i64 K, .int .i64 T] 31)) s bc bi N c q gs d v p u.heap.size K T :=
  ⟨h.below ((Below.refl _ _).alloc (Nat.le_refl _) _), heap_alloc_new u _⟩
theorem Pa.lt (h : Pa B w0 u s bc bi N c q gs d v p x K T) : x < u.heap.size := (Array.getElem?_eq_some_iff.1 h.act).1
theorem Pa.f0 (h : Pa B w0 u s bc bi N c q gs d v p x K T) : u.cell? ⟨x, 0, none⟩ = some (.int .i64 K) := by simp only [World.cell?, h.act]; rfl
theorem Pa.f1 (h : Pa B w0 u s bc bi N c q gs d v p x K T) : u.cell? ⟨x, 1, none⟩ = some (.int .i64 T) := by simp only [World.cell?, h.act]; rfl
theorem Pa.x_m (h : Pa B w0 u s bc bi N c q gs d v p x K T) : ¬ Mb s bc bi x := by
  obtain ⟨r, fi, hW, _⟩ := h.pm.wk
  rintro (rfl | rfl | rfl)
  · have := h.act; rw [hW.here] at this; simp at this
  · obtain ⟨a, ha, _⟩ := hW.col; have := h.act; rw [ha] at this; simp at this
  · obtain ⟨a, ha, _⟩ := hW.itm; have := h.act; rw [ha] at this; simp at this
theorem Pa.x_g (h : Pa B w0 u s bc bi N c q gs d v p x K T) : x ≠ gs := by
  rintro rfl
  obtain ⟨a, ha, _⟩ := h.pm.row
  have := h.act; rw [ha] at this; simp at this
theorem Pa.call (h : Pa B w0 u s bc bi N c q gs d v p x K T) (hM : Mk u' s bc bi N c' q') (k : Bt (Mb s bc bi) u u') : Pa B w0 u' s bc bi N c' q' gs d v p x K T :=
  ⟨h.pm.call hM k, (k.block x h.lt h.x_m).trans h.act⟩
theorem Pa.put (h : Pa B w0 u s bc bi N c q gs d v p x K T) (i : Nat) (z : Int) : Pa B w0 (u.setCell ⟨gs, i, none⟩ (.int .i64 z)) s bc bi N c q gs (setC d i z) v p x K T :=
  ⟨h.pm.put i z, (Below.heap_setCell _ _ _ _ h.x_g).trans h.act⟩
theorem Pa.congr (h : Pa B w0 u s bc bi N c q gs d v p x K T) (e : ∀ i, i < N → d i = d' i) : Pa B w0 u s bc bi N c q gs d' v p x K T := ⟨h.pm.congr e, h.act⟩
end
end Go.Proofs.Ytcafmloinmdeeaa
