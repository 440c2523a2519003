/- A region that draws its order, inside a fence and in a round: the operations that read alone come in any order; the rest one by one. -/
import Derived.OrdersIn
import Derived.KernelRfl
import Derived.Test.YtbbmgjcabmjjdaaGreatDoorMY37
namespace Go.Proofs.YtbbmgjcabmjjdaaGreatDoor
open Go.RowKit
section
variable {F : Fence} {n : Nat} {P : Program} {md : Region.Mode} {ops : Array Oper} {Q : Exit → Act → World → Prop} {fuel : Nat} {listed : Array Bool} {a : Act} {w : World} {i : Nat} {K : Act → World → Prop} {o : Oper}
theorem any_step (hr : Region.ready md ops listed = [i]) (h : wpOpIn F n P ops Q i (wpAnyIn F n P md ops Q fuel (listed.setIfInBounds i true)) a w) : wpAnyIn F n P md ops Q (fuel + 1) listed a w :=
  ⟨fun e => (by rw [hr] at e; cases e), fun j hj => (by rw [hr] at hj; obtain rfl := List.mem_singleton.1 hj; exact h)⟩
theorem any_end (hr : Region.ready md ops listed = []) (h : Q .normal a w) : wpAnyIn F n P md ops Q fuel listed a w := by
  cases fuel with
  | zero => exact ⟨hr, h⟩
  | succ fuel => exact ⟨fun _ => h, fun j hj => (by rw [hr] at hj; cases hj)⟩
theorem wanted_none (hg : o.guard = none) (y : Nat → Option Bool) : Region.wanted o y = true := by
  unfold Region.wanted; rw [hg]
theorem op_at (hi : ops[i]? = some o) (hg : o.guard = none) (h : o.wpIn F n P a w K Q) : wpOpIn F n P ops Q i K a w := by
  unfold wpOpIn
  rw [hi]
  simp only [wanted_none hg, if_true]
  exact h
theorem op_value {v : Value} {w' : World} (hi : ops[i]? = some o) (hg : o.guard = none) (hdf : ∀ c, o.op ≠ .defer c) (hab : o.about P w a.eval = none) (hx : (execOp a.eval o).run P w = .ok (.value v) w') (h : K (a.put o.dst v) w') : wpOpIn F n P ops Q i K a w := by
  unfold wpOpIn
  rw [hi]
  simp only [wanted_none hg, if_true]
  refine ⟨fun f hf => (by rw [hab] at hf; cases hf), ?_⟩
  rw [Oper.semAt_eq _ _ _ hdf, hx]
  exact h
theorem op_skip {w' : World} (hi : ops[i]? = some o) (hg : o.guard = none) (hdf : ∀ c, o.op ≠ .defer c) (hab : o.about P w a.eval = none) (hx : (execOp a.eval o).run P w = .ok .skip w') (h : K (a.put o.dst undef) w') : wpOpIn F n P ops Q i K a w := by
  unfold wpOpIn
  rw [hi]
  simp only [wanted_none hg, if_true]
  refine ⟨fun f hf => (by rw [hab] at hf; cases hf), ?_⟩
  rw [Oper.semAt_eq _ _ _ hdf, hx]
  exact h
theorem op_call {f : FuncId} {args : Array Value} {w' : World} (hi : ops[i]? = some o) (hg : o.guard = none) (hdf : ∀ c, o.op ≠ .defer c) (hab : ∀ g, o.about P w a.eval = some g → F.fn g) (hx : (execOp a.eval o).run P w = .ok (.enter f args) w') (hn : F.depth.isSome = true → 1 ≤ n) (h : CallsIn F (n - 1) P f args w' fun e w2 => ∃ v, e = .returned v ∧ K (a.put o.dst v) w2) : wpOpIn F n P ops Q i K a w := by
  unfold wpOpIn
  rw [hi]
  simp only [wanted_none hg, if_true]
  refine ⟨hab, ?_⟩
  rw [Oper.semAt_eq _ _ _ hdf, hx]
  refine ⟨hn, CallsIn.mono h ?_⟩
  rintro e w2 ⟨v, rfl, hk⟩
  exact hk
/-- An operation that reads alone, whatever stands in the slots dv. -/
structure PhO (P : Program) (ops : Array Oper) (w : World) (R : Act → Prop) (i d : Nat) (v : Value) : Prop where
  ex : ∃ o, ops[i]? = some o ∧ o.guard = none ∧ o.dst = some d ∧ (∀ c, o.op ≠ .defer c) ∧ (∀ a : Act, o.about P w a.eval = none) ∧ ∀ a, R a → (execOp a.eval o).run P w = .ok (.value v) w
def lsQ (bs : List Bool) (k : Nat) : Array Bool := (bs ++ List.replicate k false).toArray
/-- Which of the readers have been, and what stands in their slots. -/
structure PhS (a0 : Act) (dv : List (Nat × Value)) (bs : List Bool) (a : Act) : Prop where
  df : a.defers = a0.defers
  sz : a.tmps.size = a0.tmps.size
  on : ∀ (i : Nat) (d : Nat) (v : Value), dv[i]? = some (d, v) → bs[i]? = some true → d < a0.tmps.size → a.tmps[d]? = some v
  off : ∀ (i : Nat) (d : Nat) (v : Value), dv[i]? = some (d, v) → bs[i]? = some false → a.tmps[d]? = a0.tmps[d]?
  out : ∀ t : Nat, (∀ (i : Nat) (d : Nat) (v : Value), dv[i]? = some (d, v) → d ≠ t) → a.tmps[t]? = a0.tmps[t]?
theorem PhS.put {a0 a : Act} {dv : List (Nat × Value)} {bs : List Bool} (hnd : (dv.map (·.1)).Nodup) (h : PhS a0 dv bs a) {i d : Nat} {v : Value} (hi : dv[i]? = some (d, v)) (hb : i < bs.length) : PhS a0 dv (bs.set i true) (a.put (some d) v) := by
  have hdj : ∀ (j e : Nat) (u : Value), dv[j]? = some (e, u) → e = d → j = i := fun j e u hj he => by
    have h1 : (dv.map (·.1))[j]? = some d := by rw [List.getElem?_map, hj, ← he]; rfl
    have h2 : (dv.map (·.1))[i]? = some d := by rw [List.getElem?_map, hi]; rfl
    have hjl := (List.getElem?_eq_some_iff.1 h1).1
    exact (List.getElem?_inj hjl hnd).1 (h1.trans h2.symm)
  have hs : (a.put (some d) v).tmps = a.tmps.setIfInBounds d v := rfl
  refine ⟨h.df, by rw [hs, Array.size_setIfInBounds]; exact h.sz, fun j e u hj hbj he => ?_, fun j e u hj hbj => ?_, fun t ht => ?_⟩
  · rw [hs, Array.getElem?_setIfInBounds]
    by_cases q : d = e
    · subst q
      obtain rfl := hdj j d u hj rfl
      rw [hi] at hj
      injection hj with hj
      injection hj with _ hj
      rw [if_pos rfl, if_pos (by rw [h.sz]; exact he), hj]
    · rw [if_neg q]
      have : j ≠ i := fun e2 => by subst e2; rw [hi] at hj; injection hj with hj; injection hj with hj; exact q hj
      rw [List.getElem?_set_ne (fun e2 => this e2.symm)] at hbj
      exact h.on j e u hj hbj he
  · rw [hs, Array.getElem?_setIfInBounds]
    have hji : j ≠ i := fun e2 => by
      subst e2
      rw [List.getElem?_set_self hb] at hbj
      cases hbj
    have hne : d ≠ e := fun e2 => hji (hdj j e u hj e2.symm)
    rw [if_neg hne]
    rw [List.getElem?_set_ne (fun e2 => hji e2.symm)] at hbj
    exact h.off j e u hj hbj
  · rw [hs, Array.getElem?_setIfInBounds, if_neg (ht i d v hi)]
    exact h.out t ht
theorem PhS.all {a0 a b : Act} {dv : List (Nat × Value)} {bs : List Bool} (hl : bs.length = dv.length) (hall : ∀ i : Nat, i < bs.length → bs[i]? = some true) (hd : ∀ (i : Nat) (d : Nat) (v : Value), dv[i]? = some (d, v) → d < a0.tmps.size) (h : PhS a0 dv bs a) (h' : PhS a0 dv bs b) : a = b := by
  have ht : a.tmps = b.tmps := by
    apply Array.ext_getElem?
    intro t
    by_cases q : ∃ (i d : Nat) (v : Value), dv[i]? = some (d, v) ∧ d = t
    · obtain ⟨i, d, v, h1, rfl⟩ := q
      have hi := (List.getElem?_eq_some_iff.1 h1).1
      rw [h.on i d v h1 (hall i (by omega)) (hd i d v h1), h'.on i d v h1 (hall i (by omega)) (hd i d v h1)]
    · have hq : ∀ (i : Nat) (d : Nat) (v : Value), dv[i]? = some (d, v) → d ≠ t := fun i d v h1 e => q ⟨i, d, v, h1, e⟩
      rw [h.out t hq, h'.out t hq]
  have hdf : a.defers = b.defers := h.df.trans h'.df.symm
  cases a; cases b
  simp only at ht hdf
  rw [ht, hdf]
/-- Readers in any order; what is no reader is given whole. -/
theorem any_phaseS {a0 : Act} {dv : List (Nat × Value)} {k f1 : Nat} (Inv : List Bool → Prop) (hnd : (dv.map (·.1)).Nodup)
    (hne : ∀ bs : List Bool, bs.length = dv.length → Inv bs → Region.ready md ops (lsQ bs k) ≠ [])
    (hst : ∀ (bs : List Bool) (a : Act) (i : Nat), bs.length = dv.length → Inv bs → PhS a0 dv bs a → i ∈ Region.ready md ops (lsQ bs k) →
      (bs[i]? = some false ∧ Inv (bs.set i true) ∧ ∃ (d : Nat) (v : Value) (o : Oper), dv[i]? = some (d, v) ∧ ops[i]? = some o ∧ o.guard = none ∧ o.dst = some d ∧ (∀ c, o.op ≠ .defer c) ∧ o.about P w a.eval = none ∧ (execOp a.eval o).run P w = .ok (.value v) w) ∨
      wpOpIn F n P ops Q i (wpAnyIn F n P md ops Q (f1 + bs.count false) ((lsQ bs k).setIfInBounds i true)) a w) :
    ∀ (j : Nat) (bs : List Bool) (a : Act), bs.length = dv.length → Inv bs → bs.count false = j → PhS a0 dv bs a → wpAnyIn F n P md ops Q (f1 + j + 1) (lsQ bs k) a w := by
  intro j
  induction j with
  | zero =>
    intro bs a hl hI hc h
    refine ⟨fun e => absurd e (hne bs hl hI), fun i hi => ?_⟩
    rcases hst bs a i hl hI h hi with ⟨hb, -⟩ | q
    · exact absurd (List.mem_of_getElem? hb) (List.count_eq_zero.1 hc)
    · rw [hc] at q; exact q
  | succ j ih =>
    intro bs a hl hI hc h
    refine ⟨fun e => absurd e (hne bs hl hI), fun i hi => ?_⟩
    rcases hst bs a i hl hI h hi with ⟨hb, hI2, d, v, o, hdv, h1, h2, h3, h4, h5, h6⟩ | q
    · have hib := (List.getElem?_eq_some_iff.1 hb).1
      refine op_value h1 h2 h4 h5 h6 ?_
      rw [h3]
      have hset : (lsQ bs k).setIfInBounds i true = lsQ (bs.set i true) k := by
        unfold lsQ
        rw [List.setIfInBounds_toArray, List.set_append_left _ _ hib]
      rw [hset]
      refine ih (bs.set i true) _ (by rw [List.length_set]; exact hl) hI2 ?_ (h.put hnd hdv hib)
      have := List.count_set (a := true) (b := false) (l := bs) (i := i) hib
      have e : bs[i] = false := (List.getElem?_eq_some_iff.1 hb).2
      rw [this, e]
      simp
      omega
    · rw [hc] at q; exact q
/-- Rows in which whoever has been looks at such as have been. -/
def clo (dep : Nat → List Nat) (bs : List Bool) : Prop := ∀ i : Nat, bs[i]? = some true → ∀ j ∈ dep i, bs[j]? = some true
def allC (dep : Nat → List Nat) : Nat → List (List Bool)
  | 0 => [[]]
  | n + 1 => (allC dep n).flatMap fun l => (l ++ [false]) :: (if (dep n).all (fun j => l[j]? == some true) then [l ++ [true]] else [])
theorem mem_allC {dep : Nat → List Nat} (hdep : ∀ i, ∀ j ∈ dep i, j < i) : ∀ (n : Nat) (bs : List Bool), bs.length = n → clo dep bs → bs ∈ allC dep n
  | 0, bs, hl, _ => by rw [List.length_eq_zero_iff.1 hl]; simp [allC]
  | n + 1, bs, hl, h => by
    obtain ⟨l, b, rfl⟩ : ∃ l b, bs = l ++ [b] := by
      rcases List.eq_nil_or_concat bs with e | ⟨l, b, e⟩
      · rw [e] at hl; simp at hl
      · exact ⟨l, b, by rw [e, List.concat_eq_append]⟩
    have hll : l.length = n := by simpa using hl
    have hc : clo dep l := fun i hi j hj => by
      have hil := (List.getElem?_eq_some_iff.1 hi).1
      have := h i (by rw [List.getElem?_append_left hil]; exact hi) j hj
      rw [List.getElem?_append_left (by have := hdep i j hj; omega)] at this
      exact this
    have ih := mem_allC hdep n l hll hc
    rw [allC, List.mem_flatMap]
    refine ⟨l, ih, ?_⟩
    cases b with
    | false => exact List.mem_cons_self
    | true =>
      have hd : (dep n).all (fun j => l[j]? == some true) = true := by
        rw [List.all_eq_true]
        intro j hj
        have := h n (by rw [← hll]; simp) j hj
        rw [List.getElem?_append_left (by have := hdep n j hj; omega)] at this
        simpa using this
      rw [if_pos hd]
      simp
theorem clo.set {dep : Nat → List Nat} {bs : List Bool} (h : clo dep bs) {i : Nat} (hd : ∀ j ∈ dep i, bs[j]? = some true) : clo dep (bs.set i true) := by
  have up : ∀ j : Nat, bs[j]? = some true → (bs.set i true)[j]? = some true := fun j hj => by
    by_cases e : i = j
    · subst e; rw [List.getElem?_set_self (List.getElem?_eq_some_iff.1 hj).1]
    · rw [List.getElem?_set_ne e]; exact hj
  intro t ht j hj
  by_cases e : i = t
  · subst e; exact up j (hd j hj)
  · rw [List.getElem?_set_ne e] at ht
    exact up j (h t ht j hj)
theorem clo_none (dep : Nat → List Nat) (n : Nat) : clo dep (List.replicate n false) := fun i hi => by rw [List.getElem?_replicate] at hi; split at hi <;> simp at hi
def puts (dv : List (Nat × Value)) (a : Act) : Act := dv.foldl (fun a p => a.put (some p.1) p.2) a
theorem phS_none (a0 : Act) (dv : List (Nat × Value)) : PhS a0 dv (List.replicate dv.length false) a0 :=
  ⟨rfl, rfl, fun i d v h1 h2 _ => by rw [List.getElem?_replicate] at h2; split at h2 <;> simp at h2, fun _ _ _ _ _ => rfl, fun _ _ => rfl⟩
theorem phS_puts {a0 : Act} {dv : List (Nat × Value)} (hnd : (dv.map (·.1)).Nodup) : ∀ j, j ≤ dv.length → PhS a0 dv (List.replicate j true ++ List.replicate (dv.length - j) false) (puts (dv.take j) a0)
  | 0, _ => by simpa [puts] using phS_none a0 dv
  | j + 1, hj => by
    have ih := phS_puts (a0 := a0) hnd j (by omega)
    obtain ⟨d, v, hdv⟩ : ∃ (d : Nat) (v : Value), dv[j]? = some (d, v) := ⟨_, _, List.getElem?_eq_getElem (by omega)⟩
    have h := ih.put hnd hdv (by simp; omega)
    have e1 : puts (dv.take (j + 1)) a0 = (puts (dv.take j) a0).put (some d) v := by
      unfold puts
      rw [List.take_add_one, hdv, Option.toList_some, List.foldl_append]
      rfl
    have e2 : (List.replicate j true ++ List.replicate (dv.length - j) false).set j true = List.replicate (j + 1) true ++ List.replicate (dv.length - (j + 1)) false := by
      rw [List.set_append_right _ _ (by simp), List.length_replicate, Nat.sub_self, show dv.length - j = (dv.length - (j + 1)) + 1 by omega, List.replicate_succ, List.set_cons_zero, List.replicate_succ', List.append_assoc]
      rfl
    rw [e1, ← e2]
    exact h
/-- What a reader looks at: slots of others that have been, slots that none writes. -/
def Rdy (a0 : Act) (dv : List (Nat × Value)) (dc : Nat) (dep : Nat → List Nat) (i : Nat) (a : Act) : Prop := (∀ (j : Nat), j ∈ dep i → ∀ (d : Nat) (v : Value), dv[j]? = some (d, v) → a.tmps[d]? = some v) ∧ ∀ t : Nat, t ∉ dv.map (·.1) → t ≠ dc → a.tmps[t]? = a0.tmps[t]?
structure PhR (P : Program) (ops : Array Oper) (w : World) (a0 : Act) (dv : List (Nat × Value)) (dc : Nat) (dep : Nat → List Nat) (i d : Nat) (v : Value) : Prop where
  ex : ∃ o, ops[i]? = some o ∧ o.guard = none ∧ o.dst = some d ∧ (∀ c, o.op ≠ .defer c) ∧ (∀ a : Act, o.about P w a.eval = none) ∧ ∀ a, Rdy a0 dv dc dep i a → (execOp a.eval o).run P w = .ok (.value v) w
/-- Ready: a reader that has not been, what it looks at has been; or place m. -/
def rd1 (dep : Nat → List Nat) (m : Nat) (bs : List Bool) (rs : List Nat) : Bool := !rs.isEmpty && rs.all fun i => ((bs[i]? == some false) || i == m) && (dep i).all fun j => bs[j]? == some true
def rd2 (dep : Nat → List Nat) (m : Nat) (bs : List Bool) (rs : List Nat) : Bool := if bs.all id then rs == [m + 1] else !rs.isEmpty && rs.all fun i => bs[i]? == some false && (dep i).all fun j => bs[j]? == some true
theorem PhS.call {a0 a : Act} {dv : List (Nat × Value)} {bs : List Bool} (hl : bs.length = dv.length) (h : PhS a0 dv bs a) {dc : Nat} (hdc : dc ∉ dv.map (·.1)) (v : Value) : PhS a0 (dv ++ [(dc, v)]) (bs ++ [true]) (a.put (some dc) v) := by
  have hs : (a.put (some dc) v).tmps = a.tmps.setIfInBounds dc v := rfl
  have hne : ∀ (i d : Nat) (u : Value), dv[i]? = some (d, u) → dc ≠ d := fun i d u hi e => hdc (List.mem_map.2 ⟨(d, u), List.mem_of_getElem? hi, e.symm⟩)
  refine ⟨h.df, by rw [hs, Array.size_setIfInBounds]; exact h.sz, fun i d u hi hb hd => ?_, fun i d u hi hb => ?_, fun t ht => ?_⟩
  · rw [hs, Array.getElem?_setIfInBounds]
    by_cases q : i < dv.length
    · rw [List.getElem?_append_left q] at hi
      rw [List.getElem?_append_left (by omega)] at hb
      rw [if_neg (hne i d u hi)]
      exact h.on i d u hi hb hd
    · rw [List.getElem?_append_right (by omega)] at hi
      have : i - dv.length = 0 := by
        by_cases e : i - dv.length = 0
        · exact e
        · rw [List.getElem?_eq_none (by simp; omega)] at hi; cases hi
      rw [this] at hi
      simp at hi
      obtain ⟨rfl, rfl⟩ := hi
      rw [if_pos rfl, if_pos (by rw [h.sz]; exact hd)]
  · by_cases q : i < dv.length
    · rw [List.getElem?_append_left q] at hi
      rw [List.getElem?_append_left (by omega)] at hb
      rw [hs, Array.getElem?_setIfInBounds, if_neg (hne i d u hi)]
      exact h.off i d u hi hb
    · rw [List.getElem?_append_right (by omega)] at hb
      have hi2 := (List.getElem?_eq_some_iff.1 hi).1
      rw [List.length_append, List.length_singleton] at hi2
      rw [show i - bs.length = 0 by omega] at hb
      simp at hb
  · have h1 : dc ≠ t := ht dv.length dc v (by simp)
    rw [hs, Array.getElem?_setIfInBounds, if_neg h1]
    exact h.out t fun i d u hi => ht i d u (by rw [List.getElem?_append_left (List.getElem?_eq_some_iff.1 hi).1]; exact hi)
theorem PhS.rdy {a0 a : Act} {dv : List (Nat × Value)} {bs : List Bool} {dc : Nat} {dep : Nat → List Nat} (hd : ∀ p ∈ dv, p.1 < a0.tmps.size) (h : PhS a0 dv bs a) {i : Nat} (hdp : ∀ j ∈ dep i, bs[j]? = some true) : Rdy a0 dv dc dep i a :=
  ⟨fun j hj d v hdv => h.on j d v hdv (hdp j hj) (hd _ (List.mem_of_getElem? hdv)), fun t ht _ => h.out t fun _ d v hi e => ht (List.mem_map.2 ⟨(d, v), List.mem_of_getElem? hi, e⟩)⟩
theorem PhS.rdyc {a0 a : Act} {dv : List (Nat × Value)} {bs : List Bool} {dc : Nat} {vc : Value} {dep : Nat → List Nat} (_ : bs.length = dv.length + 1) (hd : ∀ p ∈ dv, p.1 < a0.tmps.size) (h : PhS a0 (dv ++ [(dc, vc)]) bs a) {i : Nat} (hdp : ∀ j ∈ dep i, bs[j]? = some true) : Rdy a0 dv dc dep i a :=
  ⟨fun j hj d v hdv => h.on j d v (by rw [List.getElem?_append_left (List.getElem?_eq_some_iff.1 hdv).1]; exact hdv) (hdp j hj) (hd _ (List.mem_of_getElem? hdv)), fun t ht htc => h.out t fun i d v hi e => by
    rcases List.mem_append.1 (List.mem_of_getElem? hi) with q | q
    · exact ht (List.mem_map.2 ⟨(d, v), q, e⟩)
    · simp at q; exact htc (e ▸ q.1)⟩
/-- Readers in any order, a call among them (at place dv.length), one operation behind all of them. -/
theorem any_call {a0 : Act} {dv : List (Nat × Value)} {k f1 dc : Nat} {dep : Nat → List Nat} (Wd : World → Prop) (Post : World → Value → Prop) (h0 : Wd w) (hnd : (dv.map (·.1)).Nodup) (hdc : dc ∉ dv.map (·.1)) (hd : ∀ p ∈ dv, p.1 < a0.tmps.size) (hdz : dc < a0.tmps.size)
    (hO : ∀ w', Wd w' → ∀ (i d : Nat) (v : Value), dv[i]? = some (d, v) → PhR P ops w' a0 dv dc dep i d v)
    (hdep : ∀ i, ∀ j ∈ dep i, j < i) (h1 : (allC dep dv.length).all (fun bs => rd1 dep dv.length bs (Region.ready md ops (lsQ bs (k + 1)))) = true)
    (h2 : (allC dep dv.length).all (fun bs => !(dep dv.length).all (fun j => bs[j]? == some true) || rd2 dep dv.length (bs ++ [true]) (Region.ready md ops (lsQ (bs ++ [true]) k))) = true)
    (hC : ∀ (a : Act) (K : Act → World → Prop), Rdy a0 dv dc dep dv.length a → (∀ w2 v, Post w2 v → K (a.put (some dc) v) w2) → wpOpIn F n P ops Q dv.length K a w)
    (hW : ∀ w2 v, Post w2 v → Wd w2)
    (hfin : ∀ w2 v, Post w2 v → wpOpIn F n P ops Q (dv.length + 1) (wpAnyIn F n P md ops Q f1 ((lsQ (List.replicate (dv.length + 1) true) k).setIfInBounds (dv.length + 1) true)) ((puts dv a0).put (some dc) v) w2) :
    wpAnyIn F n P md ops Q (f1 + 1 + dv.length + 1) (lsQ (List.replicate dv.length false) (k + 1)) a0 w := by
  have hall1 := List.all_eq_true.1 h1
  have hall2 := List.all_eq_true.1 h2
  have s1 : ∀ bs : List Bool, bs.length = dv.length → clo dep bs → rd1 dep dv.length bs (Region.ready md ops (lsQ bs (k + 1))) = true := fun bs hl hc => hall1 bs (mem_allC hdep _ bs hl hc)
  -- behind the call
  have S2 : ∀ w2 v, Post w2 v → ∀ (bs : List Bool) (a : Act), bs.length = dv.length → clo dep (bs ++ [true]) → PhS a0 (dv ++ [(dc, v)]) (bs ++ [true]) a → wpAnyIn F n P md ops Q (f1 + bs.count false + 1) (lsQ (bs ++ [true]) k) a w2 := by
    intro w2 v hp bs a hl hcl h
    have s2 : ∀ bs' : List Bool, bs'.length = dv.length + 1 → bs'[dv.length]? = some true → clo dep bs' → rd2 dep dv.length bs' (Region.ready md ops (lsQ bs' k)) = true := fun bs' hl' hb' hc' => by
      have e : bs' = bs'.take dv.length ++ [true] := by
        have := List.take_append_drop dv.length bs'
        rw [← this]
        congr 1
        · rw [List.take_append_of_le_length (by simp; omega), List.take_take]; simp
        · apply List.ext_getElem?
          intro t
          rw [List.getElem?_drop]
          cases t with
          | zero => simpa using hb'
          | succ t => rw [List.getElem?_eq_none (by omega)]; simp
      have hlt : (bs'.take dv.length).length = dv.length := by rw [List.length_take]; omega
      have dn : ∀ i j, j ∈ dep i → i ≤ dv.length → bs'[i]? = some true → (bs'.take dv.length)[j]? = some true := fun i j hj hi hbi => by
        rw [List.getElem?_take, if_pos (by have := hdep i j hj; omega)]
        exact hc' i hbi j hj
      have hct : clo dep (bs'.take dv.length) := fun i hi j hj => by
        rw [List.getElem?_take] at hi
        split at hi
        · exact dn i j hj (by omega) hi
        · cases hi
      have q := hall2 _ (mem_allC hdep _ _ hlt hct)
      rw [Bool.or_eq_true] at q
      rcases q with q | q
      · have : (dep dv.length).all (fun j => (bs'.take dv.length)[j]? == some true) = true := List.all_eq_true.2 fun j hj => by simpa using dn dv.length j hj (Nat.le_refl _) hb'
        rw [this] at q
        cases q
      · rw [← e] at q
        exact q
    have hcnt : (bs ++ [true]).count false = bs.count false := by rw [List.count_append]; simp
    rw [← hcnt]
    refine any_phaseS (dv := dv ++ [(dc, v)]) (fun bs' => bs'[dv.length]? = some true ∧ clo dep bs') ?_ (fun bs' hl' hb' => ?_) (fun bs' a' i hl' hb' h' hi => ?_) _ _ _ (by simp [hl]) ⟨?_, hcl⟩ rfl h
    · rw [List.map_append, List.nodup_append]
      refine ⟨hnd, by simp, fun x hx y hy e => ?_⟩
      simp at hy
      exact hdc (by rw [← hy, ← e]; exact hx)
    · have q := s2 bs' (by simpa using hl') hb'.1 hb'.2
      unfold rd2 at q
      split at q
      · intro e; rw [e] at q; cases q
      · intro e; rw [e] at q; simp at q
    · have q := s2 bs' (by simpa using hl') hb'.1 hb'.2
      unfold rd2 at q
      split at q
      · rename_i hal
        have er : Region.ready md ops (lsQ bs' k) = [dv.length + 1] := by simpa using q
        rw [er] at hi
        obtain rfl := List.mem_singleton.1 hi
        have hbs : bs' = List.replicate (dv.length + 1) true := by
          apply List.eq_replicate_iff.2
          refine ⟨by simpa using hl', fun b hb => ?_⟩
          exact List.all_eq_true.1 hal b hb
        subst hbs
        have hF : PhS a0 (dv ++ [(dc, v)]) (List.replicate (dv.length + 1) true) ((puts dv a0).put (some dc) v) := by
          have hp := phS_puts (a0 := a0) hnd dv.length (Nat.le_refl _)
          rw [Nat.sub_self, List.replicate_zero, List.append_nil, List.take_length] at hp
          have := hp.call (by simp) hdc v
          rw [List.replicate_succ']
          exact this
        have ea : a' = (puts dv a0).put (some dc) v := PhS.all (by simp) (fun i hi => by rw [List.getElem?_replicate, if_pos (by simpa using hi)]) (fun i d u hi => by
          rcases List.mem_append.1 (List.mem_of_getElem? hi) with q | q
          · exact hd _ q
          · simp at q; rw [q.1]; exact hdz) h' hF
        rw [ea]
        refine .inr ?_
        have : (List.replicate (dv.length + 1) true).count false = 0 := by simp [List.count_replicate]
        rw [this]
        exact hfin w2 v hp
      · rw [Bool.and_eq_true, List.all_eq_true] at q
        have qi := q.2 i hi
        rw [Bool.and_eq_true, List.all_eq_true] at qi
        have hbf : bs'[i]? = some false := by simpa using qi.1
        have hib := (List.getElem?_eq_some_iff.1 hbf).1
        have hne : i ≠ dv.length := fun e => by rw [e, hb'.1] at hbf; cases hbf
        have hil : i < dv.length := by simp at hl'; omega
        obtain ⟨d, u, hdv⟩ : ∃ (d : Nat) (u : Value), dv[i]? = some (d, u) := ⟨_, _, List.getElem?_eq_getElem hil⟩
        obtain ⟨o, g1, g2, g3, g4, g5, g6⟩ := (hO w2 (hW _ _ hp) i d u hdv).ex
        refine .inl ⟨hbf, ⟨by rw [List.getElem?_set_ne hne]; exact hb'.1, hb'.2.set fun j hj => by simpa using qi.2 j hj⟩, d, u, o, by rw [List.getElem?_append_left hil]; exact hdv, g1, g2, g3, g4, g5 a', g6 a' ?_⟩
        exact h'.rdyc (by simpa using hl') hd fun j hj => by simpa using qi.2 j hj
    · rw [← hl]; simp
  have e1 : f1 + 1 + dv.length + 1 = (f1 + 1) + (List.replicate dv.length false).count false + 1 := by simp
  rw [e1]
  refine any_phaseS (clo dep) hnd (fun bs hl hcb => ?_) (fun bs a i hl hcb h hi => ?_) _ _ _ (by simp) (clo_none _ _) rfl (phS_none a0 dv)
  · have q := s1 bs hl hcb
    unfold rd1 at q
    intro e; rw [e] at q; simp at q
  · have q := s1 bs hl hcb
    unfold rd1 at q
    rw [Bool.and_eq_true, List.all_eq_true] at q
    have qi := q.2 i hi
    rw [Bool.and_eq_true, Bool.or_eq_true, List.all_eq_true] at qi
    have hdp : ∀ j ∈ dep i, bs[j]? = some true := fun j hj => by simpa using qi.2 j hj
    rcases qi.1 with hb | hb
    · have hbf : bs[i]? = some false := by simpa using hb
      have hib := (List.getElem?_eq_some_iff.1 hbf).1
      obtain ⟨d, u, hdv⟩ : ∃ (d : Nat) (u : Value), dv[i]? = some (d, u) := ⟨_, _, List.getElem?_eq_getElem (by omega)⟩
      obtain ⟨o, g1, g2, g3, g4, g5, g6⟩ := (hO w h0 i d u hdv).ex
      exact .inl ⟨hbf, hcb.set hdp, d, u, o, hdv, g1, g2, g3, g4, g5 a, g6 a (h.rdy hd hdp)⟩
    · obtain rfl : i = dv.length := by simpa using hb
      refine .inr (hC a _ (h.rdy hd hdp) fun w2 v hp => ?_)
      have hset : (lsQ bs (k + 1)).setIfInBounds dv.length true = lsQ (bs ++ [true]) k := by
        unfold lsQ
        rw [List.setIfInBounds_toArray, List.replicate_succ, ← hl, List.set_append_right _ _ (Nat.le_refl _), Nat.sub_self, List.set_cons_zero, List.append_assoc]
        rfl
      rw [hset]
      have hcl : clo dep (bs ++ [true]) := fun t ht j hj => by
        have hbj : bs[j]? = some true := by
          by_cases q : t < bs.length
          · rw [List.getElem?_append_left q] at ht
            exact hcb t ht j hj
          · have htl := (List.getElem?_eq_some_iff.1 ht).1
            rw [List.length_append, List.length_singleton] at htl
            obtain rfl : t = dv.length := by omega
            exact hdp j hj
        rw [List.getElem?_append_left (List.getElem?_eq_some_iff.1 hbj).1]
        exact hbj
      have := S2 w2 v hp bs _ hl hcl (h.call hl hdc v)
      rw [show f1 + 1 + bs.count false = f1 + bs.count false + 1 by omega]
      exact this
theorem ph_load {s : Nat} {ty : TypeId} {ad : Addr} {v : Value} (ho : o.op = .load ty (.tmp s)) (h : a.tmps[s]? = some (.pointer (some ad))) (hld : (Instr.loadAt ty (.pointer (some ad))).run P w = .ok v w) : (execOp a.eval o).run P w = .ok (.value v) w := by
  have he : a.eval (.tmp s) = .pointer (some ad) := by simp [Act.eval, h]
  unfold execOp
  simp only [ho, he, Sem.run_bind, hld, Result.andThen_ok, Sem.run_pure]
theorem ph_move {s : Nat} {v : Value} (ho : o.op = .move (.tmp s)) (h : a.tmps[s]? = some v) : (execOp a.eval o).run P w = .ok (.value v) w := by
  have he : a.eval (.tmp s) = v := by simp [Act.eval, h]
  unfold execOp
  simp only [ho, he, Sem.run_pure]
end
end Go.Proofs.YtbbmgjcabmjjdaaGreatDoor
