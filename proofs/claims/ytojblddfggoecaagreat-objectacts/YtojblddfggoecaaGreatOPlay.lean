/- ObjectActs: the law's own memory beside its store. -/
import Derived.Test.YtojblddfggoecaaGreatOTwo
import Derived.Test.YtojblddfggoecaaGreatFRow
namespace Go.Proofs.YtojblddfggoecaaGreat
open Go.RowKit
/-- An object as the law keeps it: its row of words at block blk. -/
structure Rc where
  o : Ob
  blk : Nat
  F : Nat → Int
def rowR (L : List Rc) : List Value := L.map fun x => .int .i64 x.o.ref
def rowO (L : List Rc) : List Value := L.map fun x => .slice (some ⟨x.blk, 0, none⟩) x.o.n x.o.n
theorem rowR_one (L : List Rc) : ∀ u ∈ rowR L, u.oneCell' = true := by
  intro u hu
  obtain ⟨x, _, rfl⟩ := List.mem_map.1 hu
  rfl
theorem rowO_one (L : List Rc) : ∀ u ∈ rowO L, u.oneCell' = true := by
  intro u hu
  obtain ⟨x, _, rfl⟩ := List.mem_map.1 hu
  rfl
/-- v is a row of these cells, from block B on. -/
def Rw (w : World) (B : Nat) (e : TypeId) (v : Value) (R : List Value) : Prop := w.ownsRow B e 1 v R.length R
theorem Rw.of_block {w w' : World} {B : Nat} {e : TypeId} {v : Value} {R : List Value} (h : Rw w B e v R) (q : ∀ k, v.ownBlock = some k → w'.heap[k]? = w.heap[k]?) : Rw w' B e v R := by
  refine ⟨h.1, ?_⟩
  rcases h.2 with r | ⟨g, cap, cur, rfl, h1, h2, h3⟩
  · exact .inl r
  · exact .inr ⟨g, cap, cur, rfl, h1, (q g rfl).trans h2, h3⟩
theorem Rw.lt {w : World} {B : Nat} {e : TypeId} {v : Value} {R : List Value} (h : Rw w B e v R) {k : Nat} (hk : v.ownBlock = some k) : B ≤ k ∧ k < w.heap.size := World.ownsRow.lt h k hk
theorem Rw.kind {w : World} {B : Nat} {e : TypeId} {v : Value} {R : List Value} (h : Rw w B e v R) {k : Nat} (hk : v.ownBlock = some k) : ∃ cur, w.heap[k]? = some (.cells cur e (0, 0)) := by
  rcases h.2 with ⟨rfl, _⟩ | ⟨g, cap, cur, rfl, _, h2, _⟩
  · simp [Value.ownBlock] at hk
  · simp only [Value.ownBlock, Option.some.injEq] at hk
    subst hk
    exact ⟨cur, h2⟩
theorem Rw.form {w : World} {B : Nat} {e : TypeId} {v : Value} {R : List Value} (h : Rw w B e v R) : ∃ ao cap, v = .slice ao R.length cap := by
  rcases h.2 with ⟨rfl, h0⟩ | ⟨g, cap, cur, rfl, _⟩
  · exact ⟨none, 0, by rw [h0]⟩
  · exact ⟨_, _, rfl⟩
theorem Rw.nil (w : World) (B : Nat) (e : TypeId) : Rw w B e (.slice none 0 0) [] := World.ownsRow_nil w B e 1
theorem Rw.cells {w : World} {B : Nat} {e : TypeId} {ao : Option Addr} {m cap : Nat} {R : List Value} (h : Rw w B e (.slice ao m cap) R) (hn : 0 < R.length) : ∃ p, ao = some ⟨p, 0, none⟩ ∧ R.length ≤ cap ∧ cap ≤ maxLen ∧ (∀ j, w.frozen? ⟨p, j, none⟩ = false) ∧ ∀ i u, R[i]? = some u → w.cell? ⟨p, i, none⟩ = some u := by
  rcases h.2 with ⟨_, h0⟩ | ⟨g, cap', cur, q, h1, h2, h3, h4, h5, h6⟩
  · omega
  · simp only [Value.slice.injEq] at q
    obtain ⟨rfl, rfl, rfl⟩ := q
    refine ⟨g, rfl, h3, h4, fun j => by simp [World.frozen?, h2], fun i u hu => ?_⟩
    have hi : i < R.length := (List.getElem?_eq_some_iff.1 hu).1
    rw [← h6, List.getElem?_take, if_pos (by omega)] at hu
    simp only [World.cell?, h2]
    simpa using hu
/-- The law's memory: its struct at y, its rows of numbers and of rows, each object's own row. -/
structure Play8 (B : Nat) (w0 w : World) (P : Nat → Prop) (so p b W N m : Nat) (cs ws : Nat → Int) (O : List Ob) (y : Nat) (vr vo : Value) (Rr : List Value) (L : List Rc) : Prop where
  ev : Ev B w0 w P so p b W N m cs ws O
  here : w.heap[y]? = some (.cells #[.pointer (some ⟨so, 0, none⟩), .pointer (some ⟨p, 0, none⟩), .pointer (some ⟨b, 0, none⟩), .int .i64 N, vr, vo] 32 (0, 0))
  refs : Rw w B 3 vr Rr
  objs : Rw w B 29 vo (rowO L)
  words : ∀ x ∈ L, w.rowIs x.blk 3 x.o.n (fun j => .int .i64 (x.F j)) ∧ ¬ P x.blk ∧ B ≤ x.blk ∧ vr.ownBlock ≠ some x.blk
  apart : L.Pairwise fun x z => x.blk ≠ z.blk
  py : ¬ P y ∧ B ≤ y
  pr : ∀ k, vr.ownBlock = some k → ¬ P k
  po : ∀ k, vo.ownBlock = some k → ¬ P k
/-- What the list tells of the store. -/
def Agr8 (ws : Nat → Int) (O : List Ob) (L : List Rc) : Prop := O = L.map Rc.o ∧ ∀ x ∈ L, ∀ j, j < x.o.n → ws (x.o.ad 0 j) = x.F j
/-- What stands behind m acts. -/
def Edge8 (B : Nat) (w0 w : World) (so p b W N m y : Nat) : Prop := ∃ P cs ws O vr vo L, Play8 B w0 w P so p b W N m cs ws O y vr vo (rowR L) L ∧ Agr8 ws O L
section
variable {B : Nat} {w0 w : World} {P : Nat → Prop} {so p b W N m : Nat} {cs ws : Nat → Int} {O : List Ob} {y : Nat} {vr vo : Value} {Rr : List Value} {L : List Rc}
theorem Play8.y_lt (h : Play8 B w0 w P so p b W N m cs ws O y vr vo Rr L) : y < w.heap.size := (Array.getElem?_eq_some_iff.1 h.here).1
theorem Play8.cells (h : Play8 B w0 w P so p b W N m cs ws O y vr vo Rr L) : w.cell? ⟨y, 0, none⟩ = some (.pointer (some ⟨so, 0, none⟩)) ∧ w.cell? ⟨y, 1, none⟩ = some (.pointer (some ⟨p, 0, none⟩)) ∧ w.cell? ⟨y, 2, none⟩ = some (.pointer (some ⟨b, 0, none⟩)) ∧ w.cell? ⟨y, 3, none⟩ = some (.int .i64 N) ∧ w.cell? ⟨y, 4, none⟩ = some vr ∧ w.cell? ⟨y, 5, none⟩ = some vo := by
  simp [World.cell?, h.here]
theorem Play8.frozen (h : Play8 B w0 w P so p b W N m cs ws O y vr vo Rr L) (k : Nat) : w.frozen? ⟨y, k, none⟩ = false := by
  simp [World.frozen?, h.here]
theorem Play8.y_r (h : Play8 B w0 w P so p b W N m cs ws O y vr vo Rr L) {k : Nat} (hk : vr.ownBlock = some k) : k ≠ y := by
  rintro rfl
  obtain ⟨cur, hc⟩ := h.refs.kind hk
  have h1 := h.here
  rw [hc] at h1; simp at h1
theorem Play8.y_o (h : Play8 B w0 w P so p b W N m cs ws O y vr vo Rr L) {k : Nat} (hk : vo.ownBlock = some k) : k ≠ y := by
  rintro rfl
  obtain ⟨cur, hc⟩ := h.objs.kind hk
  have h1 := h.here
  rw [hc] at h1; simp at h1
theorem Play8.y_x (h : Play8 B w0 w P so p b W N m cs ws O y vr vo Rr L) {x : Rc} (hx : x ∈ L) : x.blk ≠ y := by
  intro e
  obtain ⟨cur, hc, _⟩ := (h.words x hx).1
  have h1 := h.here
  rw [e] at hc
  rw [hc] at h1; simp at h1
theorem Play8.r_o (h : Play8 B w0 w P so p b W N m cs ws O y vr vo Rr L) {k : Nat} (hk : vr.ownBlock = some k) : vo.ownBlock ≠ some k := by
  intro r
  obtain ⟨cur, hc⟩ := h.refs.kind hk
  obtain ⟨cur2, hc2⟩ := h.objs.kind r
  rw [hc] at hc2; simp at hc2
theorem Play8.o_x (h : Play8 B w0 w P so p b W N m cs ws O y vr vo Rr L) {x : Rc} (hx : x ∈ L) : vo.ownBlock ≠ some x.blk := by
  intro r
  obtain ⟨cur, hc⟩ := h.objs.kind r
  obtain ⟨cur2, hc2, _⟩ := (h.words x hx).1
  rw [hc] at hc2; simp at hc2
/-- What has been written lies outside the store. -/
theorem Play8.remake {w' : World} {vr' vo' : Value} {Rr' : List Value} {L' : List Rc} (h : Play8 B w0 w P so p b W N m cs ws O y vr vo Rr L) {r : Nat → Prop} (hs : w.heap.size ≤ w'.heap.size) (ho : w'.os = w.os ∧ w'.tape = w.tape ∧ w'.output = w.output) (hk : ∀ k, k < w.heap.size → ¬ r k → w'.heap[k]? = w.heap[k]?) (hr : ∀ k, r k → ¬ P k ∧ B ≤ k)
    (h1 : w'.heap[y]? = some (.cells #[.pointer (some ⟨so, 0, none⟩), .pointer (some ⟨p, 0, none⟩), .pointer (some ⟨b, 0, none⟩), .int .i64 N, vr', vo'] 32 (0, 0))) (h2 : Rw w' B 3 vr' Rr') (h3 : Rw w' B 29 vo' (rowO L'))
    (h4 : ∀ x ∈ L', w'.rowIs x.blk 3 x.o.n (fun j => .int .i64 (x.F j)) ∧ ¬ P x.blk ∧ B ≤ x.blk ∧ vr'.ownBlock ≠ some x.blk) (h5 : L'.Pairwise fun x z => x.blk ≠ z.blk) (h6 : ∀ k, vr'.ownBlock = some k → ¬ P k) (h7 : ∀ k, vo'.ownBlock = some k → ¬ P k) :
    Play8 B w0 w' P so p b W N m cs ws O y vr' vo' Rr' L' := by
  have hb : Below B w0 w' := h.ev.bel.trans ⟨ho.1, ho.2.1, ho.2.2, hs, fun k hkB => hk k (by have := h.ev.size; omega) (fun q => by have := (hr k q).2; omega)⟩
  exact ⟨h.ev.keep (fun k hP => hk k (h.ev.lt k hP) (fun q => (hr k q).1 hP)) hs hb, h1, h2, h3, h4, h5, h.py, h6, h7⟩
theorem Play8.below {w' : World} (h : Play8 B w0 w P so p b W N m cs ws O y vr vo Rr L) (hb : Below w.heap.size w w') : Play8 B w0 w' P so p b W N m cs ws O y vr vo Rr L :=
  ⟨h.ev.below hb, (hb.block _ h.y_lt).trans h.here, h.refs.of_block fun k hk => hb.block k (h.refs.lt hk).2, h.objs.of_block fun k hk => hb.block k (h.objs.lt hk).2, fun x hx => ⟨(h.words x hx).1.of_block (hb.block _ (h.words x hx).1.lt), (h.words x hx).2⟩, h.apart, h.py, h.pr, h.po⟩
/-- A call of the store's. -/
theorem Play8.turn {w' : World} {m' : Nat} {cs' ws' : Nat → Int} {O' : List Ob} (h : Play8 B w0 w P so p b W N m cs ws O y vr vo Rr L) (ht : EvT B w0 w P so p b W N m' cs' ws' O' w') : ∃ P', Play8 B w0 w' P' so p b W N m' cs' ws' O' y vr vo Rr L ∧ ∀ k, k < w.heap.size → ¬ P k → ¬ P' k := by
  obtain ⟨P', hE, hB, hW⟩ := ht
  have far : ∀ k, k < w.heap.size → ¬ P k → ¬ P' k := fun k hk hn r => (hW k r).elim hn (fun q => by omega)
  exact ⟨P', ⟨hE, (hB.block y h.y_lt h.py.1).trans h.here, h.refs.of_block fun k hk => hB.block k (h.refs.lt hk).2 (h.pr k hk), h.objs.of_block fun k hk => hB.block k (h.objs.lt hk).2 (h.po k hk), fun x hx => ⟨(h.words x hx).1.of_block (hB.block _ (h.words x hx).1.lt (h.words x hx).2.1), far _ (h.words x hx).1.lt (h.words x hx).2.1, (h.words x hx).2.2⟩, h.apart, ⟨far y h.y_lt h.py.1, h.py.2⟩, fun k hk => far k (h.refs.lt hk).2 (h.pr k hk), fun k hk => far k (h.objs.lt hk).2 (h.po k hk)⟩, far⟩
end
/-- .. with the act's own box at x. -/
structure Pb8 (B : Nat) (w0 w : World) (P : Nat → Prop) (so p b W N m : Nat) (cs ws : Nat → Int) (O : List Ob) (y : Nat) (vr vo : Value) (Rr : List Value) (L : List Rc) (x : Nat) (K A q I n : Int) : Prop where
  play : Play8 B w0 w P so p b W N m cs ws O y vr vo Rr L
  box : w.heap[x]? = some (.cells #[.int .i64 K, .int .i64 A, .int .i64 q, .int .i64 I, .int .i64 n] 35 (0, 0))
  px : ¬ P x
section
variable {B : Nat} {w0 w : World} {P : Nat → Prop} {so p b W N m : Nat} {cs ws : Nat → Int} {O : List Ob} {y : Nat} {vr vo : Value} {Rr : List Value} {L : List Rc} {x : Nat} {K A q I n : Int}
theorem Pb8.start (h : Play8 B w0 w P so p b W N m cs ws O y vr vo Rr L) (K A q I n : Int) : Pb8 B w0 (w.alloc (.cells #[.int .i64 K, .int .i64 A, .int .i64 q, .int .i64 I, .int .i64 n] 35)) P so p b W N m cs ws O y vr vo Rr L w.heap.size K A q I n :=
  ⟨h.below ((Below.refl _ _).alloc (Nat.le_refl _) _), heap_alloc_new w _, fun r => by have := h.ev.lt _ r; omega⟩
theorem Pb8.below {w' : World} (h : Pb8 B w0 w P so p b W N m cs ws O y vr vo Rr L x K A q I n) (hb : Below w.heap.size w w') : Pb8 B w0 w' P so p b W N m cs ws O y vr vo Rr L x K A q I n :=
  ⟨h.play.below hb, (hb.block x (Array.getElem?_eq_some_iff.1 h.box).1).trans h.box, h.px⟩
theorem Pb8.turn {w' : World} {m' : Nat} {cs' ws' : Nat → Int} {O' : List Ob} (h : Pb8 B w0 w P so p b W N m cs ws O y vr vo Rr L x K A q I n) (ht : EvT B w0 w P so p b W N m' cs' ws' O' w') : ∃ P', Pb8 B w0 w' P' so p b W N m' cs' ws' O' y vr vo Rr L x K A q I n := by
  have hx := (Array.getElem?_eq_some_iff.1 h.box).1
  obtain ⟨P2, hP2, far⟩ := h.play.turn ht
  obtain ⟨P', hg, hB, hW⟩ := ht
  exact ⟨P2, hP2, (hB.block x hx h.px).trans h.box, far x hx h.px⟩
theorem Pb8.five (h : Pb8 B w0 w P so p b W N m cs ws O y vr vo Rr L x K A q I n) : w.cell? ⟨x, 0, none⟩ = some (.int .i64 K) ∧ w.cell? ⟨x, 1, none⟩ = some (.int .i64 A) ∧ w.cell? ⟨x, 2, none⟩ = some (.int .i64 q) ∧ w.cell? ⟨x, 3, none⟩ = some (.int .i64 I) ∧ w.cell? ⟨x, 4, none⟩ = some (.int .i64 n) := by
  simp [World.cell?, h.box]
end
/-- Which object a number means. -/
def Fnd (L : List Rc) (t R : Int) : Prop := (∃ (i : Nat) (x : Rc), L[i]? = some x ∧ x.o.ref = t ∧ (∀ j z, j < i → L[j]? = some z → z.o.ref ≠ t) ∧ R = i) ∨ ((∀ x ∈ L, x.o.ref ≠ t) ∧ R = -1)
theorem fnd_any (t : Int) : ∀ L : List Rc, ∃ R, Fnd L t R
  | [] => ⟨-1, .inr ⟨fun x h => by simp at h, rfl⟩⟩
  | a :: r => by
    by_cases e : a.o.ref = t
    · exact ⟨0, .inl ⟨0, a, rfl, e, fun j z hj => by omega, rfl⟩⟩
    · obtain ⟨R, hR⟩ := fnd_any t r
      rcases hR with ⟨i, x, h1, h2, h3, h4⟩ | ⟨h1, h2⟩
      · refine ⟨R + 1, .inl ⟨i + 1, x, by simpa using h1, h2, fun j z hj hz => ?_, by omega⟩⟩
        cases j with
        | zero => simp at hz; subst hz; exact e
        | succ j => exact h3 j z (by omega) (by simpa using hz)
      · refine ⟨-1, .inr ⟨fun x hx => ?_, rfl⟩⟩
        rcases List.mem_cons.1 hx with rfl | hx
        · exact e
        · exact h1 x hx
set_option maxRecDepth 20000 in
theorem at8_ok {B : Nat} {w0 w : World} {P : Nat → Prop} {so p b W N m : Nat} {cs ws : Nat → Int} {O : List Ob} {y : Nat} {vr vo : Value} {L : List Rc} (h : Play8 B w0 w P so p b W N m cs ws O y vr vo (rowR L) L) (hL : L.length ≤ 1000) (t R : Int) (hR : Fnd L t R) :
    Calls Tryz.prog 8 #[.pointer (some ⟨y, 0, none⟩), .int .i64 t] w fun e w' => e = .returned (.int .i64 R) ∧ w' = w := by
  have hlen : (rowR L).length = L.length := by simp [rowR]
  obtain ⟨ao, cap, rfl⟩ := h.refs.form
  have cc := h.cells
  rw [hlen] at cc
  have HC : Hid (∀ i x, L[i]? = some x → ∃ p, ao = some ⟨p, 0, none⟩ ∧ w.cell? ⟨p, i, none⟩ = some (.int .i64 x.o.ref)) := fun i x hx => by
    have hi := (List.getElem?_eq_some_iff.1 hx).1
    obtain ⟨p, e, _, _, _, hc⟩ := h.refs.cells (by rw [hlen]; omega)
    exact ⟨p, e, hc i _ (by unfold rowR; rw [List.getElem?_map, hx]; rfl)⟩
  have HQ : Hid (Fnd L t R) := hR
  have HIx : Hid (∀ i, i < L.length → ∃ x, L[i]? = some x) := fun i hi => ⟨_, List.getElem?_eq_getElem hi⟩
  have HNo : Hid (∀ i x, L[i]? = some x → i < L.length) := fun i x hx => (List.getElem?_eq_some_iff.1 hx).1
  generalize hN : L.length = M at *
  clear h hR hN hlen
  go_enter Tryz.func8, Tryz.ntmps8
  go_wp2
  go_loopg [5] (M + 1) (fun kx s5 wr => ∃ j : Nat, s5 = .int .i64 j ∧ j ≤ M ∧ M - j ≤ kx ∧ Hid (∀ i z, i < j → L[i]? = some z → z.o.ref ≠ t) ∧ wr = w)
  case atStart => exact ⟨0, rfl, by omega, by omega, fun i z hi => by omega, rfl⟩
  case round =>
    obtain ⟨j, rfl, hj, hk, HM, rfl⟩ := hrel
    by_cases hlt : j < M
    · obtain ⟨x, hx⟩ := HIx.out j hlt
      obtain ⟨p2, rfl, c0⟩ := HC.out j x hx
      have HX : Hid (L[j]? = some x) := hx
      clear hx
      have hl : (j : Int) < (M : Int) := by omega
      by_cases hid : x.o.ref = t
      · have hid2 : (x.o.ref == t) = true := by simpa using hid
        have e : Hid (R = j) := by
          rcases HQ.out with ⟨i, z, q1, q2, q3, q4⟩ | ⟨q1, q2⟩
          · have h1 : ¬ i < j := fun r => HM.out i z r q1 q2
            have h2 : ¬ j < i := fun r => q3 j x r HX.out hid
            show R = j
            omega
          · exact absurd hid (q1 x (List.mem_of_getElem? HX.out))
        go_wp2
        go_ret
        refine ⟨?_, rfl⟩
        rw [e.out]; rfl
      · have hid2 : (x.o.ref == t) = false := by simpa using hid
        go_wp2
        go_roundg (M - (j + 1))
        case measure => omega
        case rel =>
          refine ⟨j + 1, by go_num, by omega, by omega, fun i z hi hz => ?_, rfl⟩
          by_cases e : i = j
          · subst e; rw [HX.out] at hz; cases hz; exact hid
          · exact HM.out i z (by omega) hz
    · obtain rfl : j = M := by omega
      have hl : ¬ (j : Int) < (j : Int) := by omega
      have e : Hid (R = -1) := by
        rcases HQ.out with ⟨i, z, q1, q2, q3, q4⟩ | ⟨q1, q2⟩
        · exact absurd q2 (HM.out i z (HNo.out i z q1) q1)
        · exact q2
      go_wp2
      go_ret
      refine ⟨?_, rfl⟩
      rw [e.out]; rfl
end Go.Proofs.YtojblddfggoecaaGreat
