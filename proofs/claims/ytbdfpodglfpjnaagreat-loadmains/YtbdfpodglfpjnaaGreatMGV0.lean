/- A visit: what is asked of the function that is shown a program's parts; what a call that shows parts leaves. -/
import Derived.Test.YtbdfpodglfpjnaaGreatMLMem
import Derived.Laws.Tables
import Derived.Deep.LoopGhost
import Derived.StillTailTactics
namespace Go.Proofs.YtbdfpodglfpjnaaGreat
open Go.RowKit

def fbnd {σ τ : Type} (r : Except Int σ) (f : σ → Except Int τ) : Except Int τ := match r with
  | .ok x => f x
  | .error c => .error c
theorem fbnd_ok {σ τ : Type} (x : σ) (f : σ → Except Int τ) : fbnd (.ok x) f = f x := rfl
theorem fbnd_err {σ τ : Type} (c : Int) (f : σ → Except Int τ) : fbnd (.error c) f = .error c := rfl
/-- The parts, one behind the other. -/
def feed {σ : Type} (st : σ → Pt → Except Int σ) : List Pt → σ → Except Int σ
  | [], x => .ok x
  | p :: l, x => fbnd (st x p) (feed st l)
theorem feed_one {σ : Type} (st : σ → Pt → Except Int σ) (p : Pt) (x : σ) : feed st [p] x = st x p := by
  show fbnd (st x p) (feed st []) = _
  cases st x p with
  | ok y => rfl
  | error c => rfl
theorem feed_append {σ : Type} (st : σ → Pt → Except Int σ) : ∀ (l m : List Pt) (x : σ), feed st (l ++ m) x = fbnd (feed st l x) (feed st m)
  | [], _, _ => rfl
  | p :: l, m, x => by
    show fbnd (st x p) (feed st (l ++ m)) = fbnd (fbnd (st x p) (feed st l)) (feed st m)
    cases st x p with
    | ok y => exact feed_append st l m y
    | error c => rfl
theorem feed_cons {σ : Type} (st : σ → Pt → Except Int σ) (p : Pt) (l : List Pt) (x : σ) : feed st (p :: l) x = fbnd (feed st [p] x) (feed st l) := feed_append st [p] l x

/-- Of what w held nothing has turned but what is the function's own. -/
structure Fb (own : World → Nat → Prop) (w w' : World) : Prop where
  os : w'.os = w.os
  tape : w'.tape = w.tape
  output : w'.output = w.output
  size : w.heap.size ≤ w'.heap.size
  block : ∀ k, k < w.heap.size → ¬ own w k → w'.heap[k]? = w.heap[k]?
  own : ∀ k, own w' k → own w k ∨ w.heap.size ≤ k
theorem Fb.refl (own : World → Nat → Prop) (w : World) : Fb own w w := ⟨rfl, rfl, rfl, Nat.le_refl _, fun _ _ _ => rfl, fun _ h => .inl h⟩
theorem Fb.trans {own : World → Nat → Prop} {a b c : World} (h : Fb own a b) (k : Fb own b c) : Fb own a c :=
  ⟨k.os.trans h.os, k.tape.trans h.tape, k.output.trans h.output, Nat.le_trans h.size k.size,
   fun i hi hn => (k.block i (Nat.lt_of_lt_of_le hi h.size) (fun o => (h.own i o).elim hn (fun q => by omega))).trans (h.block i hi hn),
   fun i o => (k.own i o).elim (fun q => h.own i q) (fun q => .inr (Nat.le_trans h.size q))⟩
/-- What a call that shows parts leaves. -/
def FdP {σ : Type} (own : World → Nat → Prop) (I : σ → World → Prop) (w : World) (r : Except Int σ) (e : Ending) (w' : World) : Prop := Fb own w w' ∧ match r with
  | .ok y => e = .returned (.tuple #[]) ∧ I y w'
  | .error c => e = Flt 0 c
def ptV (p : Pt) : Value := .agg #[.int .i64 p.kd, .int .i64 p.nu, .int .i64 p.mo, .string p.nm]
structure Vis {σ : Type} (G : Pt → Prop) (N0 : Nat) (F : FuncId) (caps : Array Value) (st : σ → Pt → Except Int σ) (I : σ → World → Prop) (own : World → Nat → Prop) : Prop where
  keep : ∀ {x w w'}, I x w → Below w.heap.size w w' → I x w' ∧ ∀ k, own w' k → own w k ∨ w.heap.size ≤ k
  fresh : ∀ {x w T cs}, I x w → T ≠ 5 → ¬ own (w.alloc (.cells cs T)) w.heap.size
  lt : ∀ {x w k}, I x w → own w k → N0 ≤ k ∧ k < w.heap.size
  low : ∀ {x w}, I x w → N0 ≤ w.heap.size
  enters : ∀ (args : Array Value) (w : World), (callFunc F args).run Tryz.prog w = .ok (.enter F args) w
  call : ∀ x w p, I x w → G p → Calls Tryz.prog F (#[ptV p] ++ caps) w (FdP own I w (st x p))

end Go.Proofs.YtbdfpodglfpjnaaGreat
/- What stands while a struct's parts are shown; what stands in the loop over a list. -/
namespace Go.Proofs.YtbdfpodglfpjnaaGreat
open Go.RowKit

theorem feed_app {σ : Type} (st : σ → Pt → Except Int σ) (l m : List Pt) : feed st (l ++ m) = fun x => fbnd (feed st l x) (feed st m) := funext fun x => feed_append st l m x

section
variable {σ : Type} {N0 : Nat} {F : FuncId} {caps : Array Value} {st : σ → Pt → Except Int σ} {I : σ → World → Prop} {own : World → Nat → Prop} {G : Pt → Prop}
theorem FdP.split {w w' : World} {r : Except Int σ} {e : Ending} {Q : Prop} (h : FdP own I w r e w') (h1 : ∀ c, r = .error c → e = Flt 0 c → Fb own w w' → Q) (h2 : ∀ y, r = .ok y → e = .returned (.tuple #[]) → I y w' → Fb own w w' → Q) : Q := by
  obtain ⟨hb, hk⟩ := h
  rcases r with c | y
  · exact h1 c rfl hk hb
  · exact h2 y rfl hk.1 hk.2 hb
theorem FdP.err {w w' : World} {t : Except Int σ} {c : Int} (h : t = .error c) (hb : Fb own w w') : FdP own I w t (Flt 0 c) w' := by
  rw [h]; exact ⟨hb, rfl⟩
theorem FdP.ok {w w' : World} {t : Except Int σ} {y : σ} (h : t = .ok y) (hb : Fb own w w') (hI : I y w') : FdP own I w t (.returned (.tuple #[])) w' := by
  rw [h]; exact ⟨hb, rfl, hI⟩

/-- The struct's own box lies in the first block behind w0. -/
structure Vs (I : σ → World → Prop) (own : World → Nat → Prop) (w0 : World) (T : TypeId) (cs : Array Value) (x : σ) (w : World) : Prop where
  inv : I x w
  box : w.heap[w0.heap.size]? = some (.cells cs T (0, 0))
  no : ¬ own w w0.heap.size
  fb : Fb own w0 w
theorem Vs.start (V : Vis G N0 F caps st I own) {x : σ} {w : World} (h : I x w) (T : TypeId) (cs : Array Value) (hT : T ≠ 5) : Vs I own w T cs x (w.alloc (.cells cs T)) := by
  have hb : Below w.heap.size w (w.alloc (.cells cs T)) := (Below.refl _ _).alloc (Nat.le_refl _) _
  obtain ⟨h1, h2⟩ := V.keep h hb
  exact ⟨h1, heap_alloc_new w _, V.fresh h hT, ⟨hb.os, hb.tape, hb.output, hb.size, fun k hk _ => hb.block k hk, h2⟩⟩
theorem Vs.call {w0 w w1 : World} {T : TypeId} {cs : Array Value} {x y : σ} (L : Vs I own w0 T cs x w) (hf : Fb own w w1) (hI : I y w1) : Vs I own w0 T cs y w1 := by
  have hl : w0.heap.size < w.heap.size := (Array.getElem?_eq_some_iff.1 L.box).1
  refine ⟨hI, by rw [hf.block _ hl L.no]; exact L.box, fun o => ?_, L.fb.trans hf⟩
  rcases hf.own _ o with q | q
  · exact L.no q
  · omega
theorem Vs.drew (V : Vis G N0 F caps st I own) {w0 w : World} {T : TypeId} {cs : Array Value} {x : σ} (L : Vs I own w0 T cs x w) : Vs I own w0 T cs x w.drew := by
  have hb : Below w.heap.size w w.drew := (Below.refl _ _).drew
  obtain ⟨h1, h2⟩ := V.keep L.inv hb
  have hl : w0.heap.size < w.heap.size := (Array.getElem?_eq_some_iff.1 L.box).1
  exact ⟨h1, L.box, fun o => (h2 _ o).elim L.no (fun q => by omega), L.fb.trans ⟨rfl, rfl, rfl, Nat.le_refl _, fun _ _ _ => rfl, h2⟩⟩
theorem Vs.cell {w0 w : World} {T : TypeId} {cs : Array Value} {x : σ} (L : Vs I own w0 T cs x w) (j : Nat) : w.cell? ⟨w0.heap.size, j, none⟩ = cs[j]? := by simp [World.cell?, L.box]
/-- What lies below N0 stands. -/
theorem Fb.data (V : Vis G N0 F caps st I own) {x0 : σ} {w0 w : World} (h : Fb own w0 w) (h0 : I x0 w0) {S : Nat → Prop} (hS : ∀ k, S k → k < N0) : ∀ k, S k → w.heap[k]? = w0.heap[k]? := fun k hk => by
  have h1 := hS k hk
  have h2 := V.low h0
  exact h.block k (by omega) (fun o => by have := (V.lt h0 o).1; omega)
/-- i of the list are shown. -/
def VIn {α : Type} (I : σ → World → Prop) (own : World → Nat → Prop) (st : σ → Pt → Except Int σ) (g : α → List Pt) (w : World) (xs : List α) (tot : Except Int σ) (i : Nat) (wr : World) : Prop :=
  ∃ y, I y wr ∧ Fb own w wr ∧ tot = feed st ((xs.drop i).flatMap g) y
theorem VIn.next {α : Type} {g : α → List Pt} {w wr : World} {xs : List α} {tot : Except Int σ} {i : Nat} (h : VIn I own st g w xs tot i wr) {x : α} (hx : xs[i]? = some x) : ∃ y, I y wr ∧ Fb own w wr ∧ (∀ c, feed st (g x) y = .error c → tot = .error c) ∧ ∀ z w1, feed st (g x) y = .ok z → I z w1 → Fb own wr w1 → VIn I own st g w xs tot (i + 1) w1 := by
  obtain ⟨y, h1, h2, h3⟩ := h
  have hd : xs.drop i = x :: xs.drop (i + 1) := by
    obtain ⟨hi, e⟩ := List.getElem?_eq_some_iff.1 hx
    rw [List.drop_eq_getElem_cons hi, e]
  rw [hd, List.flatMap_cons, feed_append] at h3
  refine ⟨y, h1, h2, fun c hc => by rw [h3, hc, fbnd_err], fun z w1 hz hI hf => ⟨z, hI, h2.trans hf, by rw [h3, hz, fbnd_ok]⟩⟩
theorem VIn.fin {α : Type} {g : α → List Pt} {w wr : World} {xs : List α} {tot : Except Int σ} (h : VIn I own st g w xs tot xs.length wr) : FdP own I w tot (.returned (.tuple #[])) wr := by
  obtain ⟨y, h1, h2, h3⟩ := h
  rw [List.drop_length] at h3
  have h3' : tot = .ok y := h3
  rw [h3']; exact ⟨h2, rfl, h1⟩
end
theorem fl_or (a b : Bool) : bits BinOp.or IntKind.i64 (fl a 1) (fl b 2) = fl a 1 + fl b 2 := by cases a <;> cases b <;> decide
end Go.Proofs.YtbdfpodglfpjnaaGreat
