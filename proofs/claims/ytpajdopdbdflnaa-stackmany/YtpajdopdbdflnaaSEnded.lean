/- StackMany's memory beside the stack; what it looks up at its end. -/
import Derived.Test.YtpajdopdbdflnaaSMany
namespace Go.Proofs.Ytpajdopdbdflnaa
open Go.RowKit

def Op.kind : Op → Int
  | .idle => 0
  | .push _ _ _ _ => 1
  | .pop _ _ _ _ => 2
/-- The stack, the law's two rows beside it, and that they fit. -/
structure Mn (B : Nat) (w0 u : World) (P : Nat → Prop) (s : Nat) (b : Zone) (k : Nat) (cs : Nat → Int) (ops : Nat → Op) (T : Int) (xs : List Int) (qb qg : Nat) (busy got : Nat → Int) (next : Nat) : Prop where
  good : Good u P s b k 32 cs ops T xs
  rb : Row u qb k busy
  rg : Row u qg 32 got
  nb : ¬ P qb
  ng : ¬ P qg
  ne : qb ≠ qg
  lb : B ≤ qb
  lg : B ≤ qg
  lp : ∀ j, P j → B ≤ j
  bel : Below B w0 u
  big : B ≤ u.heap.size
  acc : Acc next got xs ops
  st : ∀ a, a < k → busy a = (ops a).kind
section
variable {B : Nat} {w0 u u' : World} {P P' : Nat → Prop} {s : Nat} {b : Zone} {k : Nat} {cs cs' : Nat → Int} {ops ops' : Nat → Op} {T T' : Int} {xs xs' : List Int} {qb qg : Nat} {busy got : Nat → Int} {next next' : Nat}
/-- A call of the stack's. -/
theorem Mn.call (h : Mn B w0 u P s b k cs ops T xs qb qg busy got next) (hG : Good u' P' s b k 32 cs' ops' T' xs') (hB : Bt P u u') (hW : Wider P P' u) (ha : Acc next' got xs' ops') (hs : ∀ a, a < k → busy a = (ops' a).kind) : Mn B w0 u' P' s b k cs' ops' T' xs' qb qg busy got next' :=
  ⟨hG, h.rb.of_block (hB.block _ h.rb.lt h.nb), h.rg.of_block (hB.block _ h.rg.lt h.ng), fun q => (hW _ q).elim h.nb (fun q => by have := h.rb.lt; omega), fun q => (hW _ q).elim h.ng (fun q => by have := h.rg.lt; omega), h.ne, h.lb, h.lg, hW.from_ h.lp h.big, Bt.under h.bel h.big h.lp hB, Nat.le_trans h.big hB.size, ha, hs⟩
/-- A call of the stack's, then a store into the law's own row of what agents do. -/
theorem Mn.callSet (h : Mn B w0 u P s b k cs ops T xs qb qg busy got next) (hG : Good u' P' s b k 32 cs' ops' T' xs') (hB : Bt P u u') (hW : Wider P P' u) (ha : Acc next' got xs' ops') {g : Nat} {v : Int} (hs : ∀ a, a < k → upd busy g v a = (ops' a).kind) : Mn B w0 (u'.setCell ⟨qb, g, none⟩ (.int .i64 v)) P' s b k cs' ops' T' xs' qb qg (upd busy g v) got next' := by
  have nb' : ¬ P' qb := fun q => (hW _ q).elim h.nb (fun q => by have := h.rb.lt; omega)
  have rb' := h.rb.of_block (hB.block _ h.rb.lt h.nb)
  have rg' := h.rg.of_block (hB.block _ h.rg.lt h.ng)
  have big' := Nat.le_trans h.big hB.size
  exact ⟨hG.put nb' _ _, rb'.set g v, rg'.of_block (heap_put _ _ (by show qg ≠ qb; exact fun e => h.ne e.symm)), nb', fun q => (hW _ q).elim h.ng (fun q => by have := h.rg.lt; omega), h.ne, h.lb, h.lg, hW.from_ h.lp h.big, (Bt.under h.bel h.big h.lp hB).setCell (p := ⟨qb, g, none⟩) h.lb _, by simpa [World.setCell] using big', ha, hs⟩
/-- And one into the row of what was got ahead of it. -/
theorem Mn.callGot (h : Mn B w0 u P s b k cs ops T xs qb qg busy got next) (hG : Good u' P' s b k 32 cs' ops' T' xs') (hB : Bt P u u') (hW : Wider P P' u) {a : Nat} {x : Int} (ha : Acc next' (upd got a x) xs' ops') {g : Nat} {v : Int} (hs : ∀ a, a < k → upd busy g v a = (ops' a).kind) : Mn B w0 ((u'.setCell ⟨qg, a, none⟩ (.int .i64 x)).setCell ⟨qb, g, none⟩ (.int .i64 v)) P' s b k cs' ops' T' xs' qb qg (upd busy g v) (upd got a x) next' := by
  have nb' : ¬ P' qb := fun q => (hW _ q).elim h.nb (fun q => by have := h.rb.lt; omega)
  have ng' : ¬ P' qg := fun q => (hW _ q).elim h.ng (fun q => by have := h.rg.lt; omega)
  have rb' := h.rb.of_block (hB.block _ h.rb.lt h.nb)
  have rg' := h.rg.of_block (hB.block _ h.rg.lt h.ng)
  have big' := Nat.le_trans h.big hB.size
  exact ⟨(hG.put ng' _ _).put nb' _ _, (rb'.of_block (heap_put _ _ (by show qb ≠ qg; exact h.ne))).set g v, (rg'.set a x).of_block (heap_put _ _ (by show qg ≠ qb; exact fun e => h.ne e.symm)), nb', ng', h.ne, h.lb, h.lg, hW.from_ h.lp h.big, ((Bt.under h.bel h.big h.lp hB).setCell (p := ⟨qg, a, none⟩) h.lg _).setCell (p := ⟨qb, g, none⟩) h.lb _, by simpa [World.setCell] using big', ha, hs⟩
/-- What was got of a number is none or one. -/
theorem Acc.small (h : Acc next got xs ops) {v : Nat} (hv : v < 32) : -2 ≤ got v ∧ got v ≤ 1 := by
  obtain ⟨a, ha⟩ := is_ex ((v : Int) + 1 ∈ xs)
  obtain ⟨c, hc⟩ := is_ex (∃ j, (ops j).link = (v : Int) + 1)
  obtain ⟨d, hd⟩ := is_ex (v < next)
  have := h.cnt v hv a c d ha hc hd
  have a1 : 0 ≤ a ∧ a ≤ 1 := by rcases ha with q | q <;> omega
  have c1 : 0 ≤ c ∧ c ≤ 1 := by rcases hc with q | q <;> omega
  have d1 : 0 ≤ d ∧ d ≤ 1 := by rcases hd with q | q <;> omega
  omega
theorem kind_zero {op : Op} (h : op.kind = 0) : op = .idle := by cases op <;> simp [Op.kind] at h; rfl
theorem kind_upd {g : Nat} {op : Op} {v : Int} (hs : ∀ a, a < k → busy a = (ops a).kind) (hv : v = op.kind) : ∀ a, a < k → upd busy g v a = (updOp ops g op a).kind := by
  intro a ha
  by_cases e : a = g
  · subst e; rw [upd_at, updOp_at, hv]
  · rw [upd_else _ _ e, updOp_else _ _ e]; exact hs a ha
theorem kind_same {g : Nat} {op : Op} (hs : ∀ a, a < k → busy a = (ops a).kind) (hv : op.kind = (ops g).kind) : ∀ a, a < k → busy a = (updOp ops g op a).kind := by
  intro a ha
  by_cases e : a = g
  · subst e; rw [updOp_at, hv]; exact hs a ha
  · rw [updOp_else _ _ e]; exact hs a ha
end
end Go.Proofs.Ytpajdopdbdflnaa
