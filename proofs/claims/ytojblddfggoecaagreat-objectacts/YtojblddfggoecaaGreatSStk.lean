/- The stack as it lies in memory. -/
import Derived.Test.YtojblddfggoecaaGreatSTask
namespace Go.Proofs.YtojblddfggoecaaGreat
open Go.RowKit

/-- What an agent has under way: nothing; a push of a link, its stage, what it has seen; a pop. -/
inductive Op where
  | idle
  | push (item n t i : Int)
  | pop (n t i d : Int)
def Op.link : Op → Int
  | .push item _ _ _ => item
  | _ => 0
/-- The cell that holds it, its object at block o. -/
def Op.val : Op → Nat → Value
  | .idle, _ => .nilIface
  | .push _ _ _ _, o => .iface 160 (.pointer (some ⟨o, 0, none⟩))
  | .pop _ _ _ _, o => .iface 162 (.pointer (some ⟨o, 0, none⟩))
/-- The cells of a stack. -/
def cellv (b bt bu bl base cap : Nat) (ops : Nat → Op) (ob : Nat → Nat) (j : Nat) : Value :=
  if j < 9 then ([.pointer (some ⟨b, 0, none⟩), .pointer (some ⟨b, 0, none⟩), .func (.func 135) #[] #[.pointer (some ⟨bt, 0, none⟩)], .func (.func 136) #[] #[.pointer (some ⟨bu, 0, none⟩)], .pointer (some ⟨b, 0, none⟩), .func (.func 137) #[] #[.pointer (some ⟨bl, 0, none⟩)], .func (.func 124) #[] #[], .int .i64 base, .int .i64 cap] : List Value)[j]?.getD .nilFunc else if (j - 9) % 2 = 0 then (ops ((j - 9) / 2)).val (ob ((j - 9) / 2)) else .int .i64 (ops ((j - 9) / 2)).link
/-- The memory of what agent g has under way. -/
def Tk (w : World) (P : Nat → Prop) (b bw bs bt bu bl base cap g : Nat) : Op → Nat → Prop
  | .idle, _ => True
  | .push item n t i, o => P o ∧ ∃ x y z, P x ∧ P y ∧ P z ∧ w.heap[o]? = some (.cells #[.int .i64 n, .int .i64 t, .int .i64 i, .func (.func 126) #[] #[.pointer (some ⟨x, 0, none⟩), .pointer (some ⟨y, 0, none⟩), .pointer (some ⟨z, 0, none⟩)]] 186 (0, 0)) ∧
      w.heap[x]? = some (.cells #[.pointer (some ⟨b, 0, none⟩), .func (.func 135) #[] #[.pointer (some ⟨bt, 0, none⟩)], .func (.func 136) #[] #[.pointer (some ⟨bu, 0, none⟩)], .pointer (some ⟨b, 0, none⟩), .func (.func 137) #[] #[.pointer (some ⟨bl, 0, none⟩)], .func (.func 124) #[] #[], .int .i64 base, .int .i64 cap] 123 (0, 0)) ∧ w.heap[y]? = some (.cells #[.int .i64 g] 3 (0, 0)) ∧ y ≠ bw ∧ y ≠ bs ∧ w.heap[z]? = some (.cells #[.int .i64 item] 126 (0, 0))
  | .pop n t i d, o => P o ∧ ∃ x y, P x ∧ P y ∧ w.heap[o]? = some (.cells #[.int .i64 n, .int .i64 t, .int .i64 i, .int .i64 d, .func (.func 130) #[] #[.pointer (some ⟨x, 0, none⟩), .pointer (some ⟨y, 0, none⟩)]] 193 (0, 0)) ∧
      w.heap[x]? = some (.cells #[.pointer (some ⟨b, 0, none⟩), .func (.func 135) #[] #[.pointer (some ⟨bt, 0, none⟩)], .func (.func 136) #[] #[.pointer (some ⟨bu, 0, none⟩)], .pointer (some ⟨b, 0, none⟩), .func (.func 137) #[] #[.pointer (some ⟨bl, 0, none⟩)], .func (.func 124) #[] #[], .int .i64 base, .int .i64 cap] 123 (0, 0)) ∧ w.heap[y]? = some (.cells #[.int .i64 g] 3 (0, 0)) ∧ y ≠ bw ∧ y ≠ bs
/-- The stack at block s, over the arena at b; P names its blocks. -/
structure Stk (w : World) (P : Nat → Prop) (s b bw bs bt bu bl W G base cap : Nat) (ws cs : Nat → Int) (ops : Nat → Op) (ob : Nat → Nat) : Prop where
  ar : Ar w b bw bs W G ws cs
  bx : Bx w bw bs bt bu bl ((cap : Int) + 1)
  here : w.rowIs s 131 33 (cellv b bt bu bl base cap ops ob)
  tk : ∀ g, g < G → Tk w P b bw bs bt bu bl base cap g (ops g) (ob g)
  apart : ∀ g h, g < G → h < G → g ≠ h → ops g ≠ .idle → ops h ≠ .idle → ob g ≠ ob h
  rest : ∀ g, G ≤ g → ops g = .idle
  foot : P s ∧ P b ∧ P bw ∧ P bs ∧ P bt ∧ P bu ∧ P bl
  lt : ∀ k, P k → k < w.heap.size
  few : G ≤ 12
  big : W ≤ 65536
  base1 : base + cap < W
  cap1 : 1 ≤ cap
  cap2 : cap ≤ 1000

section
variable {w w' : World} {P : Nat → Prop} {s b bw bs bt bu bl W G base cap : Nat} {ws cs : Nat → Int} {ops : Nat → Op} {ob : Nat → Nat}
theorem Tk.keep {g o : Nat} {op : Op} (h : Tk w P b bw bs bt bu bl base cap g op o) (e : ∀ k, P k → w'.heap[k]? = w.heap[k]?) : Tk w' P b bw bs bt bu bl base cap g op o := by
  cases op with
  | idle => trivial
  | push item n t i =>
    obtain ⟨p0, x, y, z, p1, p2, p3, h1, h2, h3, y1, y2, h4⟩ := h
    exact ⟨p0, x, y, z, p1, p2, p3, (e o p0).trans h1, (e x p1).trans h2, (e y p2).trans h3, y1, y2, (e z p3).trans h4⟩
  | pop n t i d =>
    obtain ⟨p0, x, y, p1, p2, h1, h2, h3, y1, y2⟩ := h
    exact ⟨p0, x, y, p1, p2, (e o p0).trans h1, (e x p1).trans h2, (e y p2).trans h3, y1, y2⟩
theorem Tk.wide {Q : Nat → Prop} {g o : Nat} {op : Op} (h : Tk w P b bw bs bt bu bl base cap g op o) (e : ∀ k, P k → Q k) : Tk w Q b bw bs bt bu bl base cap g op o := by
  cases op with
  | idle => trivial
  | push item n t i =>
    obtain ⟨p0, x, y, z, p1, p2, p3, h1⟩ := h
    exact ⟨e _ p0, x, y, z, e _ p1, e _ p2, e _ p3, h1⟩
  | pop n t i d =>
    obtain ⟨p0, x, y, p1, p2, h1⟩ := h
    exact ⟨e _ p0, x, y, e _ p1, e _ p2, h1⟩
/-- Whatever leaves the stack's blocks alone leaves the stack. -/
theorem Stk.keep (h : Stk w P s b bw bs bt bu bl W G base cap ws cs ops ob) (e : ∀ k, P k → w'.heap[k]? = w.heap[k]?) (hs : w.heap.size ≤ w'.heap.size) : Stk w' P s b bw bs bt bu bl W G base cap ws cs ops ob := by
  obtain ⟨f0, f1, f2, f3, f4, f5, f6⟩ := h.foot
  exact ⟨⟨(e _ f1).trans h.ar.here, h.ar.words.of_block (e _ f2), h.ar.steps.of_block (e _ f3), h.ar.part⟩,
    ⟨(e _ f4).trans h.bx.t, (e _ f5).trans h.bx.u, (e _ f6).trans h.bx.l, h.bx.t1, h.bx.t2, h.bx.u1, h.bx.u2, h.bx.l1, h.bx.l2⟩,
    h.here.of_block (e _ f0), fun g hg => (h.tk g hg).keep e, h.apart, h.rest, h.foot, fun k hk => Nat.lt_of_lt_of_le (h.lt k hk) hs, h.few, h.big, h.base1, h.cap1, h.cap2⟩
theorem Stk.below (h : Stk w P s b bw bs bt bu bl W G base cap ws cs ops ob) (e : Below w.heap.size w w') : Stk w' P s b bw bs bt bu bl W G base cap ws cs ops ob := h.keep (fun k hk => e.block k (h.lt k hk)) e.size
theorem Stk.alloc (h : Stk w P s b bw bs bt bu bl W G base cap ws cs ops ob) (o : Obj) : Stk (w.alloc o) P s b bw bs bt bu bl W G base cap ws cs ops ob := h.below ((Below.refl _ _).alloc (Nat.le_refl _) o)
theorem Stk.put (h : Stk w P s b bw bs bt bu bl W G base cap ws cs ops ob) {r : Nat} (hr : ¬ P r) (i : Nat) (v : Value) : Stk (w.setCell ⟨r, i, none⟩ v) P s b bw bs bt bu bl W G base cap ws cs ops ob :=
  h.keep (fun k hk => heap_put _ _ (by show k ≠ r; rintro rfl; exact hr hk)) (by simp [World.setCell])

theorem Stk.c0 (h : Stk w P s b bw bs bt bu bl W G base cap ws cs ops ob) : w.cell? ⟨s, 0, none⟩ = some (.pointer (some ⟨b, 0, none⟩)) := h.here.cell (i := 0) (by omega)
theorem Stk.cw (h : Stk w P s b bw bs bt bu bl W G base cap ws cs ops ob) : w.cell? ⟨s, 1, none⟩ = some (.pointer (some ⟨b, 0, none⟩)) ∧ w.cell? ⟨s, 2, none⟩ = some (.func (.func 135) #[] #[.pointer (some ⟨bt, 0, none⟩)]) ∧ w.cell? ⟨s, 3, none⟩ = some (.func (.func 136) #[] #[.pointer (some ⟨bu, 0, none⟩)]) ∧ w.cell? ⟨s, 4, none⟩ = some (.pointer (some ⟨b, 0, none⟩)) ∧ w.cell? ⟨s, 5, none⟩ = some (.func (.func 137) #[] #[.pointer (some ⟨bl, 0, none⟩)]) ∧ w.cell? ⟨s, 6, none⟩ = some (.func (.func 124) #[] #[]) ∧ w.cell? ⟨s, 7, none⟩ = some (.int .i64 base) ∧ w.cell? ⟨s, 8, none⟩ = some (.int .i64 cap) :=
  ⟨h.here.cell (i := 1) (by omega), h.here.cell (i := 2) (by omega), h.here.cell (i := 3) (by omega), h.here.cell (i := 4) (by omega), h.here.cell (i := 5) (by omega), h.here.cell (i := 6) (by omega), h.here.cell (i := 7) (by omega), h.here.cell (i := 8) (by omega)⟩
theorem cellv_val (b bt bu bl base cap : Nat) (ops : Nat → Op) (ob : Nat → Nat) (g : Nat) : cellv b bt bu bl base cap ops ob (9 + g * 2) = (ops g).val (ob g) := by
  have e1 : ¬ (9 + g * 2 < 9) := by omega
  have e2 : (9 + g * 2 - 9) % 2 = 0 := by omega
  have e3 : (9 + g * 2 - 9) / 2 = g := by omega
  simp only [cellv, e1, e2, e3, if_true, if_false]
theorem cellv_link (b bt bu bl base cap : Nat) (ops : Nat → Op) (ob : Nat → Nat) (g : Nat) : cellv b bt bu bl base cap ops ob (9 + g * 2 + 1) = .int .i64 (ops g).link := by
  have e1 : ¬ (9 + g * 2 + 1 < 9) := by omega
  have e2 : ¬ ((9 + g * 2 + 1 - 9) % 2 = 0) := by omega
  have e3 : (9 + g * 2 + 1 - 9) / 2 = g := by omega
  simp only [cellv, e1, e2, e3, if_false]
theorem Stk.cv (h : Stk w P s b bw bs bt bu bl W G base cap ws cs ops ob) (g : Nat) (hg : g < 12) : w.cell? ⟨s, 9 + g * 2, none⟩ = some ((ops g).val (ob g)) := by
  rw [h.here.cell (i := 9 + g * 2) (by omega), cellv_val]
theorem Stk.cl (h : Stk w P s b bw bs bt bu bl W G base cap ws cs ops ob) (g : Nat) (hg : g < 12) : w.cell? ⟨s, 9 + g * 2 + 1, none⟩ = some (.int .i64 (ops g).link) := by
  rw [h.here.cell (i := 9 + g * 2 + 1) (by omega), cellv_link]
def updOp (ops : Nat → Op) (g : Nat) (op : Op) : Nat → Op := fun j => if j = g then op else ops j
def updN (ob : Nat → Nat) (g o : Nat) : Nat → Nat := fun j => if j = g then o else ob j
theorem updOp_at (ops : Nat → Op) (g : Nat) (op : Op) : updOp ops g op g = op := by simp [updOp]
theorem updOp_else (ops : Nat → Op) {g j : Nat} (op : Op) (h : j ≠ g) : updOp ops g op j = ops j := by simp [updOp, h]
theorem updN_at (ob : Nat → Nat) (g o : Nat) : updN ob g o g = o := by simp [updN]
theorem updN_else (ob : Nat → Nat) {g j : Nat} (o : Nat) (h : j ≠ g) : updN ob g o j = ob j := by simp [updN, h]
theorem updN_self (ob : Nat → Nat) (g : Nat) : updN ob g (ob g) = ob := by funext j; unfold updN; split <;> simp_all
theorem ne_stk {x ty r n : Nat} {c : Array Value} {f : Nat → Value} (h : w.heap[x]? = some (.cells c ty (0, 0))) (ht : ty ≠ 131) (hr : w.rowIs r 131 n f) : x ≠ r := by
  rintro rfl
  obtain ⟨d, hd, _⟩ := hr
  rw [h] at hd; simp at hd; exact ht hd.2
theorem row_stk {x r n m : Nat} {f f' : Nat → Value} (h : w.rowIs x 3 m f') (hr : w.rowIs r 131 n f) : x ≠ r := by
  obtain ⟨c, hc, _⟩ := h
  exact ne_stk hc (by decide) hr
/-- What lies beside the stack's own block stays where only that block turns. -/
theorem Tk.beside {g o n : Nat} {op : Op} {f : Nat → Value} (h : Tk w P b bw bs bt bu bl base cap g op o) (hs : w.rowIs s 131 n f) (e : ∀ k, k ≠ s → w'.heap[k]? = w.heap[k]?) : Tk w' P b bw bs bt bu bl base cap g op o := by
  cases op with
  | idle => trivial
  | push item n t i =>
    obtain ⟨p0, x, y, z, p1, p2, p3, h1, h2, h3, y1, y2, h4⟩ := h
    exact ⟨p0, x, y, z, p1, p2, p3, (e o (ne_stk h1 (by decide) hs)).trans h1, (e x (ne_stk h2 (by decide) hs)).trans h2, (e y (ne_stk h3 (by decide) hs)).trans h3, y1, y2, (e z (ne_stk h4 (by decide) hs)).trans h4⟩
  | pop n t i d =>
    obtain ⟨p0, x, y, p1, p2, h1, h2, h3, y1, y2⟩ := h
    exact ⟨p0, x, y, p1, p2, (e o (ne_stk h1 (by decide) hs)).trans h1, (e x (ne_stk h2 (by decide) hs)).trans h2, (e y (ne_stk h3 (by decide) hs)).trans h3, y1, y2⟩
theorem cellv_task (ops : Nat → Op) (ob : Nat → Nat) (g o : Nat) (op : Op) (j : Nat) :
    (if j = 9 + g * 2 + 1 then Value.int .i64 op.link else if j = 9 + g * 2 then op.val o else cellv b bt bu bl base cap ops ob j) = cellv b bt bu bl base cap (updOp ops g op) (updN ob g o) j := by
  by_cases h1 : j = 9 + g * 2 + 1
  · subst h1; rw [if_pos rfl, cellv_link, updOp_at]
  · rw [if_neg h1]
    by_cases h2 : j = 9 + g * 2
    · subst h2; rw [if_pos rfl, cellv_val, updOp_at, updN_at]
    · rw [if_neg h2]
      unfold cellv
      by_cases h3 : j < 9
      · rw [if_pos h3, if_pos h3]
      · have hne : (j - 9) / 2 ≠ g := by omega
        rw [if_neg h3, if_neg h3, updOp_else _ _ hne, updN_else _ _ hne]
/-- A task laid for agent g. -/
theorem Stk.task {P' : Nat → Prop} (h : Stk w P s b bw bs bt bu bl W G base cap ws cs ops ob) (hP : ∀ k, P k → P' k) (hlt : ∀ k, P' k → k < w.heap.size) (g : Nat) (hg : g < G) (op : Op) (o : Nat) (ht : Tk w P' b bw bs bt bu bl base cap g op o)
    (hap : ∀ j, j < G → j ≠ g → ops j ≠ .idle → op ≠ .idle → ob j ≠ o) :
    Stk ((w.setCell ⟨s, 9 + g * 2, none⟩ (op.val o)).setCell ⟨s, 9 + g * 2 + 1, none⟩ (.int .i64 op.link)) P' s b bw bs bt bu bl W G base cap ws cs (updOp ops g op) (updN ob g o) := by
  have e : ∀ k, k ≠ s → ((w.setCell ⟨s, 9 + g * 2, none⟩ (op.val o)).setCell ⟨s, 9 + g * 2 + 1, none⟩ (.int .i64 op.link)).heap[k]? = w.heap[k]? := fun k hk => by rw [heap_put _ _ hk, heap_put _ _ hk]
  have hs := h.here
  obtain ⟨f0, f1, f2, f3, f4, f5, f6⟩ := h.foot
  refine ⟨⟨(e _ (ne_stk h.ar.here (by decide) hs)).trans h.ar.here, h.ar.words.of_block (e _ (row_stk h.ar.words hs)), h.ar.steps.of_block (e _ (row_stk h.ar.steps hs)), h.ar.part⟩,
    ⟨(e _ (ne_stk h.bx.t (by decide) hs)).trans h.bx.t, (e _ (ne_stk h.bx.u (by decide) hs)).trans h.bx.u, (e _ (ne_stk h.bx.l (by decide) hs)).trans h.bx.l, h.bx.t1, h.bx.t2, h.bx.u1, h.bx.u2, h.bx.l1, h.bx.l2⟩,
    ?_, ?_, ?_, ?_, ⟨hP _ f0, hP _ f1, hP _ f2, hP _ f3, hP _ f4, hP _ f5, hP _ f6⟩, fun k hk => by simpa [World.setCell] using hlt k hk, h.few, h.big, h.base1, h.cap1, h.cap2⟩
  · exact ((hs.set (9 + g * 2) (op.val o)).set (9 + g * 2 + 1) (.int .i64 op.link)).congr fun j _ => cellv_task ops ob g o op j
  · intro j hj
    by_cases hjg : j = g
    · subst hjg; rw [updOp_at, updN_at]; exact ht.beside hs e
    · rw [updOp_else _ _ hjg, updN_else _ _ hjg]; exact ((h.tk j hj).wide hP).beside hs e
  · intro i j hi hj hij hi' hj'
    by_cases h1 : i = g
    · subst h1
      have h2 : j ≠ i := fun x => hij x.symm
      rw [updOp_at] at hi'; rw [updOp_else _ _ h2] at hj'; rw [updN_at, updN_else _ _ h2]
      exact fun x => hap j hj h2 hj' hi' x.symm
    · by_cases h2 : j = g
      · subst h2
        rw [updOp_else _ _ h1] at hi'; rw [updOp_at] at hj'; rw [updN_else _ _ h1, updN_at]
        exact hap i hi h1 hi' hj'
      · rw [updOp_else _ _ h1] at hi'; rw [updOp_else _ _ h2] at hj'; rw [updN_else _ _ h1, updN_else _ _ h2]
        exact h.apart i j hi hj hij hi' hj'
  · intro j hj; rw [updOp_else _ _ (by omega)]; exact h.rest j hj
/-- The blocks that an agent's operation owns beside its object. -/
theorem Tk.off {g o k : Nat} {op : Op} {c : Array Value} {ty : Nat} (h : Tk w P b bw bs bt bu bl base cap g op o) (hk : w.heap[k]? = some (.cells c ty (0, 0))) (ht : ty = 186 ∨ ty = 193) (ho : op ≠ .idle → o ≠ k) (hA : Ar w b bw bs W G ws cs) {P' : Nat → Prop} (e : ∀ j, j < w.heap.size → ¬ (j = bw ∨ j = bs ∨ j = k) → w'.heap[j]? = w.heap[j]?) (hP : ∀ j, P j → P' j) : Tk w' P' b bw bs bt bu bl base cap g op o := by
  have n78 : ∀ {x : Nat} {d : Array Value} {uy : Nat}, w.heap[x]? = some (.cells d uy (0, 0)) → uy ≠ ty → x ≠ k := by
    rintro x d uy hx hu rfl; rw [hx] at hk; simp at hk; exact hu hk.2
  cases op with
  | idle => trivial
  | push item n t i =>
    obtain ⟨p0, x, y, z, p1, p2, p3, h1, h2, h3, y1, y2, h4⟩ := h
    refine ⟨hP _ p0, x, y, z, hP _ p1, hP _ p2, hP _ p3, (e o (box_lt h1) ?_).trans h1, (e x (box_lt h2) ?_).trans h2, (e y (box_lt h3) ?_).trans h3, y1, y2, (e z (box_lt h4) ?_).trans h4⟩
    · exact fun q => by rcases q with q | q | q; exact ne_row h1 (by decide) hA.words q; exact ne_row h1 (by decide) hA.steps q; exact ho (by simp) q
    · exact fun q => by rcases q with q | q | q; exact ne_row h2 (by decide) hA.words q; exact ne_row h2 (by decide) hA.steps q; exact n78 h2 (by rcases ht with r | r <;> rw [r] <;> decide) q
    · exact fun q => by rcases q with q | q | q; exact y1 q; exact y2 q; exact n78 h3 (by rcases ht with r | r <;> rw [r] <;> decide) q
    · exact fun q => by rcases q with q | q | q; exact ne_row h4 (by decide) hA.words q; exact ne_row h4 (by decide) hA.steps q; exact n78 h4 (by rcases ht with r | r <;> rw [r] <;> decide) q
  | pop n t i d =>
    obtain ⟨p0, x, y, p1, p2, h1, h2, h3, y1, y2⟩ := h
    refine ⟨hP _ p0, x, y, hP _ p1, hP _ p2, (e o (box_lt h1) ?_).trans h1, (e x (box_lt h2) ?_).trans h2, (e y (box_lt h3) ?_).trans h3, y1, y2⟩
    · exact fun q => by rcases q with q | q | q; exact ne_row h1 (by decide) hA.words q; exact ne_row h1 (by decide) hA.steps q; exact ho (by simp) q
    · exact fun q => by rcases q with q | q | q; exact ne_row h2 (by decide) hA.words q; exact ne_row h2 (by decide) hA.steps q; exact n78 h2 (by rcases ht with r | r <;> rw [r] <;> decide) q
    · exact fun q => by rcases q with q | q | q; exact y1 q; exact y2 q; exact n78 h3 (by rcases ht with r | r <;> rw [r] <;> decide) q
/-- A step of agent g's operation has turned the arena's rows and its object. -/
theorem Stk.turn (h : Stk w P s b bw bs bt bu bl W G base cap ws cs ops ob) {ws' cs' : Nat → Int} {g : Nat} (hg : g < G) {op : Op} {c : Array Value} {ty : Nat} (hO : w.heap[ob g]? = some (.cells c ty (0, 0))) (ht : ty = 186 ∨ ty = 193)
    (hb : ops g ≠ .idle) (hv : op.val (ob g) = (ops g).val (ob g)) (hl : op.link = (ops g).link) (hA : Ar w' b bw bs W G ws' cs') (hB : Bt (fun k => k = bw ∨ k = bs ∨ k = ob g) w w') (hT : Tk w' P b bw bs bt bu bl base cap g op (ob g)) :
    Stk w' P s b bw bs bt bu bl W G base cap ws' cs' (updOp ops g op) ob := by
  have e := hB.block
  have nk : ∀ {x : Nat} {d : Array Value} {uy : Nat}, w.heap[x]? = some (.cells d uy (0, 0)) → uy ≠ ty → x ≠ ob g := by
    rintro x d uy hx hu rfl; rw [hx] at hO; simp at hO; exact hu hO.2
  have h3 : (3 : Nat) ≠ ty := by rcases ht with r | r <;> rw [r] <;> decide
  have hs := h.here
  refine ⟨hA, ⟨(e _ (box_lt h.bx.t) ?_).trans h.bx.t, (e _ (box_lt h.bx.u) ?_).trans h.bx.u, (e _ (box_lt h.bx.l) ?_).trans h.bx.l, h.bx.t1, h.bx.t2, h.bx.u1, h.bx.u2, h.bx.l1, h.bx.l2⟩, ?_, ?_, ?_, ?_, h.foot, fun k hk => Nat.lt_of_lt_of_le (h.lt k hk) hB.size, h.few, h.big, h.base1, h.cap1, h.cap2⟩
  · exact fun q => by rcases q with q | q | q; exact h.bx.t1 q; exact h.bx.t2 q; exact nk h.bx.t h3 q
  · exact fun q => by rcases q with q | q | q; exact h.bx.u1 q; exact h.bx.u2 q; exact nk h.bx.u h3 q
  · exact fun q => by rcases q with q | q | q; exact h.bx.l1 q; exact h.bx.l2 q; exact nk h.bx.l h3 q
  · refine (hs.of_block (e s hs.lt ?_)).congr fun j _ => ?_
    · exact fun q => by rcases q with q | q | q; exact row_stk h.ar.words hs q.symm; exact row_stk h.ar.steps hs q.symm; exact ne_stk hO (by rcases ht with r | r <;> rw [r] <;> decide) hs q.symm
    · rw [← updN_self ob g, ← cellv_task (b := b) (bt := bt) (bu := bu) (bl := bl) (base := base) (cap := cap) ops ob g (ob g) op j, updN_self, hv, hl]
      split
      · next q => subst q; rw [cellv_link]
      · split
        · next q => subst q; rw [cellv_val]
        · rfl
  · intro j hj
    by_cases hjg : j = g
    · subst hjg; rw [updOp_at]; exact hT
    · rw [updOp_else _ _ hjg]
      exact (h.tk j hj).off hO ht (fun hj' => h.apart j g hj hg hjg hj' hb) h.ar e (fun _ x => x)
  · intro i j hi hj hij hi' hj'
    refine h.apart i j hi hj hij ?_ ?_
    · by_cases q : i = g
      · subst q; exact hb
      · rwa [updOp_else _ _ q] at hi'
    · by_cases q : j = g
      · subst q; exact hb
      · rwa [updOp_else _ _ q] at hj'
  · intro j hj; rw [updOp_else _ _ (by omega)]; exact h.rest j hj
end

theorem results_tmp4 {P : Program} {fn : Func} {t u v x : Tmp} (h : fn.results = #[.tmp t, .tmp u, .tmp v, .tmp x]) (tmps : Array Value) (w : World) : (results fn tmps).run P w = .ok (.tuple #[tmps.getD t undef, tmps.getD u undef, tmps.getD v undef, tmps.getD x undef]) w := by
  simp [results, h]
theorem step_agent_bad {w : World} {P : Nat → Prop} {s b bw bs bt bu bl W G base cap : Nat} {ws cs : Nat → Int} {ops : Nat → Op} {ob : Nat → Nat} (h : Stk w P s b bw bs bt bu bl W G base cap ws cs ops ob) (g : Int) (hg : ¬ (0 ≤ g ∧ g < G)) :
    Calls Tryz.prog 96 #[.pointer (some ⟨s, 0, none⟩), .int .i64 g] w fun e w' => e = .returned (.tuple #[.bool false, .int .i64 0, .bool false, .int .i64 501]) ∧ w' = w := by
  have c0 := h.c0
  have hn := hasAgent_no h.ar g hg
  clear hg
  go_enter Tryz.func96, Tryz.ntmps96
  go_wp2_with (go_at_call 54; refine hn.mono ?_; rintro e w1 ⟨rfl, rfl⟩)
  exact bodyPost_ret (results_tmp4 rfl _ _) rfl ⟨rfl, rfl⟩
theorem step_idle {w : World} {P : Nat → Prop} {s b bw bs bt bu bl W G base cap : Nat} {ws cs : Nat → Int} {ops : Nat → Op} {ob : Nat → Nat} (h : Stk w P s b bw bs bt bu bl W G base cap ws cs ops ob) (g : Nat) (hg : g < G) (hi : ops g = .idle) :
    Calls Tryz.prog 96 #[.pointer (some ⟨s, 0, none⟩), .int .i64 g] w fun e w' => e = .returned (.tuple #[.bool false, .int .i64 0, .bool false, .int .i64 503]) ∧ w' = w := by
  have c0 := h.c0
  have cv := h.cv g (by have := h.few; omega)
  rw [hi] at cv
  simp only [Op.val] at cv
  have g12 : (g : Int) < 12 := by have := h.few; omega
  have hn := hasAgent_yes h.ar g (by omega) (by omega)
  go_enter Tryz.func96, Tryz.ntmps96
  go_wp2_with (go_at_call 54; refine hn.mono ?_; rintro e w1 ⟨rfl, rfl⟩)
  exact bodyPost_ret (results_tmp4 rfl _ _) rfl ⟨rfl, rfl⟩
end Go.Proofs.YtojblddfggoecaaGreat
