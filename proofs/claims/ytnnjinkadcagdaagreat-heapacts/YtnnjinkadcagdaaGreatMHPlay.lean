/- HeapActs: the law's own memory beside its heap. -/
import Derived.Test.YtnnjinkadcagdaaGreatMHAwake
import Derived.Deep.LoopGhost
namespace Go.Proofs.YtnnjinkadcagdaaGreat
open Go.RowKit
/-- A cell as the law keeps it: its place, its row of words at block blk. -/
structure Lc where
  ref : Nat
  kind : Int
  cls : Int
  n : Nat
  blk : Nat
  f : Nat → Int
def rowL (x : Lc) : List Value := [.int .i64 ((x.ref : Int) + 1), .int .i64 x.kind, .int .i64 x.cls, .slice (some ⟨x.blk, 0, none⟩) x.n x.n]
/-- The law's memory: its struct at y, its row of cells, each cell's own row. -/
structure Play9 (B : Nat) (w0 w : World) (P : Nat → Prop) (h W G m : Nat) (c : Int → Int) (S : List (Option Cel)) (F : Nat → Nat → Int) (y : Nat) (va : Value) (L : List Lc) : Prop where
  hv : Hv B w0 w P h W G m c S F
  here : w.heap[y]? = some (.cells #[.pointer (some ⟨h, 0, none⟩), .int .i64 W, .int .i64 G, va] 32 (0, 0))
  row : Rs w B 68 4 va (L.map rowL)
  words : ∀ x ∈ L, w.rowIs x.blk 3 x.n (fun j => .int .i64 (x.f j)) ∧ ¬ P x.blk ∧ B ≤ x.blk
  apart : L.Pairwise fun x z => x.blk ≠ z.blk
  py : ¬ P y ∧ B ≤ y
  pv : ∀ k, va.ownBlock = some k → ¬ P k
def sumL : List Lc → Nat
  | [] => 0
  | x :: r => x.n + 16 + sumL r
/-- What the list tells of the heap. -/
structure Agr9 (S : List (Option Cel)) (F : Nat → Nat → Int) (L : List Lc) : Prop where
  live : ∀ x ∈ L, (∃ a, S[x.ref]? = some (some ⟨x.kind, x.cls, x.n, a⟩)) ∧ ∀ j, j < x.n → F x.ref j = x.f j
  nodup : L.Pairwise fun x z => x.ref ≠ z.ref
  all : ∀ (i : Nat) (cl : Cel), S[i]? = some (some cl) → ∃ x ∈ L, x.ref = i
  cnt : L.length = cntS S
  sum : sumL L = sumS S
/-- What stands behind m acts. -/
def Edge9 (B : Nat) (w0 w : World) (h W G m y : Nat) : Prop := ∃ P c S F va L, Play9 B w0 w P h W G m c S F y va L ∧ Agr9 S F L
section
variable {B : Nat} {w0 w : World} {P : Nat → Prop} {h W G m : Nat} {c : Int → Int} {S : List (Option Cel)} {F : Nat → Nat → Int} {y : Nat} {va : Value} {L : List Lc}
theorem Play9.y_lt (H : Play9 B w0 w P h W G m c S F y va L) : y < w.heap.size := box_lt H.here
theorem Play9.cells (H : Play9 B w0 w P h W G m c S F y va L) : w.cell? ⟨y, 0, none⟩ = some (.pointer (some ⟨h, 0, none⟩)) ∧ w.cell? ⟨y, 1, none⟩ = some (.int .i64 W) ∧ w.cell? ⟨y, 2, none⟩ = some (.int .i64 G) ∧ w.cell? ⟨y, 3, none⟩ = some va := by
  simp [World.cell?, H.here]
theorem Play9.frozen (H : Play9 B w0 w P h W G m c S F y va L) (k : Nat) : w.frozen? ⟨y, k, none⟩ = false := frz H.here k
theorem Play9.y_v (H : Play9 B w0 w P h W G m c S F y va L) {k : Nat} (hk : va.ownBlock = some k) : k ≠ y := by
  rintro rfl
  obtain ⟨cur, hc⟩ := H.row.kind hk
  rw [H.here] at hc; simp at hc
theorem Play9.y_x (H : Play9 B w0 w P h W G m c S F y va L) {x : Lc} (hx : x ∈ L) : x.blk ≠ y := by
  intro e
  obtain ⟨cur, hc, _⟩ := (H.words x hx).1
  rw [e, H.here] at hc; simp at hc
theorem Play9.v_x (H : Play9 B w0 w P h W G m c S F y va L) {x : Lc} (hx : x ∈ L) : va.ownBlock ≠ some x.blk := by
  intro r
  obtain ⟨cur, hc⟩ := H.row.kind r
  obtain ⟨cur2, hc2, _⟩ := (H.words x hx).1
  rw [hc] at hc2; simp at hc2
theorem Play9.below {w' : World} (H : Play9 B w0 w P h W G m c S F y va L) (hb : Below w.heap.size w w') : Play9 B w0 w' P h W G m c S F y va L :=
  ⟨H.hv.below hb, (hb.block _ H.y_lt).trans H.here, H.row.below hb, fun x hx => ⟨(H.words x hx).1.of_block (hb.block _ (H.words x hx).1.lt), (H.words x hx).2⟩, H.apart, H.py, H.pv⟩
/-- A call of the heap's. -/
theorem Play9.turn {w' : World} {m' : Nat} {c' : Int → Int} {S' : List (Option Cel)} {F' : Nat → Nat → Int} (H : Play9 B w0 w P h W G m c S F y va L) (ht : HvT B w0 w P h W G m' c' S' F' w') : ∃ P', Play9 B w0 w' P' h W G m' c' S' F' y va L ∧ ∀ k, k < w.heap.size → ¬ P k → ¬ P' k ∧ w'.heap[k]? = w.heap[k]? := by
  obtain ⟨P', h1, h2, h3⟩ := ht
  have far : ∀ k, k < w.heap.size → ¬ P k → ¬ P' k ∧ w'.heap[k]? = w.heap[k]? := fun k hk hn => ⟨fun r => (h3 k r).elim hn (fun q => by omega), h2.block k hk hn⟩
  exact ⟨P', ⟨h1, (far y H.y_lt H.py.1).2.trans H.here, H.row.of_block (fun k hk => (far k (H.row.lt hk).2 (H.pv k hk)).2), fun x hx => ⟨(H.words x hx).1.of_block (far _ (H.words x hx).1.lt (H.words x hx).2.1).2, (far _ (H.words x hx).1.lt (H.words x hx).2.1).1, (H.words x hx).2.2⟩, H.apart, ⟨(far y H.y_lt H.py.1).1, H.py.2⟩, fun k hk => (far k (H.row.lt hk).2 (H.pv k hk)).1⟩, far⟩
/-- What has been written lies outside the heap. -/
theorem Play9.remake {w' : World} {va' : Value} {L' : List Lc} (H : Play9 B w0 w P h W G m c S F y va L) {r : Nat → Prop} (hs : w.heap.size ≤ w'.heap.size) (ho : w'.os = w.os ∧ w'.tape = w.tape ∧ w'.output = w.output) (hk : ∀ k, k < w.heap.size → ¬ r k → w'.heap[k]? = w.heap[k]?) (hr : ∀ k, r k → ¬ P k ∧ B ≤ k)
    (h1 : w'.heap[y]? = some (.cells #[.pointer (some ⟨h, 0, none⟩), .int .i64 W, .int .i64 G, va'] 32 (0, 0))) (h2 : Rs w' B 68 4 va' (L'.map rowL)) (h4 : ∀ x ∈ L', w'.rowIs x.blk 3 x.n (fun j => .int .i64 (x.f j)) ∧ ¬ P x.blk ∧ B ≤ x.blk) (h5 : L'.Pairwise fun x z => x.blk ≠ z.blk) (h6 : ∀ k, va'.ownBlock = some k → ¬ P k) :
    Play9 B w0 w' P h W G m c S F y va' L' := by
  have hb : Below B w0 w' := H.hv.bel.trans ⟨ho.1, ho.2.1, ho.2.2, hs, fun k hkB => hk k (by have := H.hv.size; omega) (fun q => by have := (hr k q).2; omega)⟩
  exact ⟨H.hv.keep (fun k hP => hk k (H.hv.lt k hP) (fun q => (hr k q).1 hP)) hs hb, h1, h2, h4, h5, H.py, h6⟩
theorem Hv.more (H : Hv B w0 w P h W G m c S F) {m' : Nat} (hm : m ≤ m') : Hv B w0 w P h W G m' c S F := by
  obtain ⟨X, hX, e⟩ := H.cur
  have hf := hX.few
  exact ⟨⟨X, ⟨hX.mem, hX.tab, hX.lnk, hX.enough, hX.big, hX.fit, hX.half, hX.calm, ⟨by omega, by omega, by omega, by omega⟩, hX.cnt.mono (by omega)⟩, e⟩, H.own, H.bel, H.size⟩
theorem Play9.more (H : Play9 B w0 w P h W G m c S F y va L) {m' : Nat} (hm : m ≤ m') : Play9 B w0 w P h W G m' c S F y va L :=
  ⟨H.hv.more hm, H.here, H.row, H.words, H.apart, H.py, H.pv⟩
theorem Edge9.same (H : Play9 B w0 w P h W G m c S F y va L) (hA : Agr9 S F L) : Edge9 B w0 w h W G (m + 1) y := ⟨P, c, S, F, va, L, H.more (Nat.le_succ _), hA⟩
end
/-- .. with the act's own box at x. -/
structure Pb9 (B : Nat) (w0 w : World) (P : Nat → Prop) (h W G m : Nat) (c : Int → Int) (S : List (Option Cel)) (F : Nat → Nat → Int) (y : Nat) (va : Value) (L : List Lc) (x : Nat) (K A q C I V : Int) : Prop where
  play : Play9 B w0 w P h W G m c S F y va L
  box : w.heap[x]? = some (.cells #[.int .i64 K, .int .i64 A, .int .i64 q, .int .i64 C, .int .i64 I, .int .i64 V] 35 (0, 0))
  px : ¬ P x
section
variable {B : Nat} {w0 w : World} {P : Nat → Prop} {h W G m : Nat} {c : Int → Int} {S : List (Option Cel)} {F : Nat → Nat → Int} {y : Nat} {va : Value} {L : List Lc} {x : Nat} {K A q C I V : Int}
theorem Pb9.start (H : Play9 B w0 w P h W G m c S F y va L) (K A q C I V : Int) : Pb9 B w0 (w.alloc (.cells #[.int .i64 K, .int .i64 A, .int .i64 q, .int .i64 C, .int .i64 I, .int .i64 V] 35)) P h W G m c S F y va L w.heap.size K A q C I V :=
  ⟨H.below ((Below.refl _ _).alloc (Nat.le_refl _) _), heap_alloc_new w _, fun r => by have := H.hv.lt _ r; omega⟩
theorem Pb9.below {w' : World} (H : Pb9 B w0 w P h W G m c S F y va L x K A q C I V) (hb : Below w.heap.size w w') : Pb9 B w0 w' P h W G m c S F y va L x K A q C I V :=
  ⟨H.play.below hb, (hb.block x (box_lt H.box)).trans H.box, H.px⟩
theorem Pb9.turn {w' : World} {m' : Nat} {c' : Int → Int} {S' : List (Option Cel)} {F' : Nat → Nat → Int} (H : Pb9 B w0 w P h W G m c S F y va L x K A q C I V) (ht : HvT B w0 w P h W G m' c' S' F' w') : ∃ P', Pb9 B w0 w' P' h W G m' c' S' F' y va L x K A q C I V := by
  obtain ⟨P2, hP2, far⟩ := H.play.turn ht
  have hx := box_lt H.box
  exact ⟨P2, hP2, (far x hx H.px).2.trans H.box, (far x hx H.px).1⟩
theorem Pb9.six (H : Pb9 B w0 w P h W G m c S F y va L x K A q C I V) : w.cell? ⟨x, 0, none⟩ = some (.int .i64 K) ∧ w.cell? ⟨x, 1, none⟩ = some (.int .i64 A) ∧ w.cell? ⟨x, 2, none⟩ = some (.int .i64 q) ∧ w.cell? ⟨x, 3, none⟩ = some (.int .i64 C) ∧ w.cell? ⟨x, 4, none⟩ = some (.int .i64 I) ∧ w.cell? ⟨x, 5, none⟩ = some (.int .i64 V) := by
  simp [World.cell?, H.box]
theorem Pb9.apart (H : Pb9 B w0 w P h W G m c S F y va L x K A q C I V) : x < w.heap.size ∧ x ≠ y ∧ va.ownBlock ≠ some x := by
  refine ⟨box_lt H.box, ?_, fun r => ?_⟩
  · rintro rfl
    have h1 := H.box
    rw [H.play.here] at h1; simp at h1
  · obtain ⟨cur, hc⟩ := H.play.row.kind r
    have h1 := H.box
    rw [hc] at h1; simp at h1
end
/-- Which cell a number means. -/
def Fnd9 (L : List Lc) (t R : Int) : Prop := (∃ (i : Nat) (x : Lc), L[i]? = some x ∧ (x.ref : Int) + 1 = t ∧ (∀ j z, j < i → L[j]? = some z → (z.ref : Int) + 1 ≠ t) ∧ R = i) ∨ ((∀ x ∈ L, (x.ref : Int) + 1 ≠ t) ∧ R = -1)
theorem fnd9_any (t : Int) : ∀ L : List Lc, ∃ R, Fnd9 L t R
  | [] => ⟨-1, .inr ⟨fun x h => by simp at h, rfl⟩⟩
  | a :: r => by
    by_cases e : (a.ref : Int) + 1 = t
    · exact ⟨0, .inl ⟨0, a, rfl, e, fun j z hj => by omega, rfl⟩⟩
    · obtain ⟨R, hR⟩ := fnd9_any t r
      rcases hR with ⟨i, x, h1, h2, h3, h4⟩ | ⟨h1, h2⟩
      · refine ⟨R + 1, .inl ⟨i + 1, x, by simpa using h1, h2, fun j z hj hz => ?_, by omega⟩⟩
        cases j with
        | zero => simp at hz; subst hz; exact e
        | succ j => exact h3 j z (by omega) (by simpa using hz)
      · refine ⟨-1, .inr ⟨fun x hx => ?_, rfl⟩⟩
        rcases List.mem_cons.1 hx with rfl | hx
        · exact e
        · exact h1 x hx
theorem four_at {w : World} {p i : Nat} {x : Lc} (h : w.rangeAt p (i * 4) (rowL x)) : w.cell? ⟨p, i * 4, none⟩ = some (.int .i64 ((x.ref : Int) + 1)) ∧ w.cell? ⟨p, i * 4 + 1, none⟩ = some (.int .i64 x.kind) ∧ w.cell? ⟨p, i * 4 + 2, none⟩ = some (.int .i64 x.cls) ∧ w.cell? ⟨p, i * 4 + 3, none⟩ = some (.slice (some ⟨x.blk, 0, none⟩) x.n x.n) :=
  ⟨h 0 _ rfl, h 1 _ rfl, h 2 _ rfl, h 3 _ rfl⟩
section
variable {B : Nat} {w0 w : World} {P : Nat → Prop} {h W G m : Nat} {c : Int → Int} {S : List (Option Cel)} {F : Nat → Nat → Int} {y : Nat} {va : Value} {L : List Lc}
theorem Play9.form (H : Play9 B w0 w P h W G m c S F y va L) : ∃ ao cap, va = .slice ao L.length cap ∧ ∀ i x, L[i]? = some x → ∃ p, ao = some ⟨p, 0, none⟩ ∧ p < w.heap.size ∧ w.cell? ⟨p, i * 4, none⟩ = some (.int .i64 ((x.ref : Int) + 1)) ∧ w.cell? ⟨p, i * 4 + 1, none⟩ = some (.int .i64 x.kind) ∧ w.cell? ⟨p, i * 4 + 2, none⟩ = some (.int .i64 x.cls) ∧ w.cell? ⟨p, i * 4 + 3, none⟩ = some (.slice (some ⟨x.blk, 0, none⟩) x.n x.n) := by
  have hlen : (L.map rowL).length = L.length := List.length_map _
  obtain ⟨ao, cap, rfl⟩ := H.row.form
  rw [hlen]
  refine ⟨ao, cap, rfl, fun i x hx => ?_⟩
  have hi := (List.getElem?_eq_some_iff.1 hx).1
  obtain ⟨p, e, hp, _, _, hc⟩ := H.row.cells (by rw [hlen]; omega)
  exact ⟨p, e, hp.2, four_at (hc i _ (by rw [List.getElem?_map, hx]; rfl))⟩
set_option maxRecDepth 20000 in
theorem at9_ok (H : Play9 B w0 w P h W G m c S F y va L) (hL : L.length ≤ 1000) (t R : Int) (hR : Fnd9 L t R) :
    Calls Tryz.prog 14 #[.pointer (some ⟨y, 0, none⟩), .int .i64 t] w fun e w' => e = .returned (.int .i64 R) ∧ w' = w := by
  have cc := H.cells
  obtain ⟨ao, cap, rfl, hF⟩ := H.form
  have HC : Hid (∀ i x, L[i]? = some x → ∃ p, ao = some ⟨p, 0, none⟩ ∧ w.cell? ⟨p, i * 4, none⟩ = some (.int .i64 ((x.ref : Int) + 1))) := fun i x hx => by
    obtain ⟨p, e, _, c0, _⟩ := hF i x hx
    exact ⟨p, e, c0⟩
  have HQ : Hid (Fnd9 L t R) := hR
  have HIx : Hid (∀ i, i < L.length → ∃ x, L[i]? = some x) := fun i hi => ⟨_, List.getElem?_eq_getElem hi⟩
  have HNo : Hid (∀ i x, L[i]? = some x → i < L.length) := fun i x hx => (List.getElem?_eq_some_iff.1 hx).1
  generalize hN : L.length = M at *
  clear H hR hN hF
  go_enter Tryz.func14, Tryz.ntmps14
  go_wp2
  go_loopg [5] (M + 1) (fun kx s5 wr => ∃ j : Nat, s5 = .int .i64 j ∧ j ≤ M ∧ M - j ≤ kx ∧ Hid (∀ i z, i < j → L[i]? = some z → (z.ref : Int) + 1 ≠ t) ∧ wr = w)
  case atStart => exact ⟨0, rfl, by omega, by omega, fun i z hi => by omega, rfl⟩
  case round =>
    obtain ⟨j, rfl, hj, hk, HM, rfl⟩ := hrel
    by_cases hlt : j < M
    · obtain ⟨x, hx⟩ := HIx.out j hlt
      obtain ⟨p2, rfl, c0⟩ := HC.out j x hx
      have HX : Hid (L[j]? = some x) := hx
      clear hx
      have hl : (j : Int) < (M : Int) := by omega
      by_cases hid : (x.ref : Int) + 1 = t
      · have hid2 : ((x.ref : Int) + 1 == t) = true := by simpa using hid
        have e : Hid (R = j) := by
          rcases HQ.out with ⟨i, z, q1, q2, q3, q4⟩ | ⟨q1, q2⟩
          · have h1 : ¬ i < j := fun r => HM.out i z r q1 q2
            have h2 : ¬ j < i := fun r => q3 j x r HX.out hid
            show R = j
            omega
          · exact absurd hid (q1 x (List.mem_of_getElem? HX.out))
        clear hid
        go_wp2
        go_ret
        refine ⟨?_, rfl⟩
        rw [e.out]; rfl
      · have hid2 : ((x.ref : Int) + 1 == t) = false := by simpa using hid
        have Hid1 : Hid (¬ (x.ref : Int) + 1 = t) := hid
        clear hid
        go_wp2
        go_roundg (M - (j + 1))
        case measure => omega
        case rel =>
          refine ⟨j + 1, by go_num, by omega, by omega, fun i z hi hz => ?_, rfl⟩
          by_cases e : i = j
          · subst e; rw [HX.out] at hz; cases hz; exact Hid1.out
          · exact HM.out i z (by omega) hz
    · obtain rfl : j = M := by omega
      have hl : ¬ (j : Int) < (j : Int) := by omega
      have e : Hid (R = -1) := by
        rcases HQ.out with ⟨i, z, q1, q2, q3, q4⟩ | ⟨q1, q2⟩
        · exact absurd q2 (HM.out i z (HNo.out i z q1) q1)
        · exact q2
      go_wp2
      go_ret
      refine ⟨?_, rfl⟩
      rw [e.out]; rfl
theorem sumL_take : ∀ (L : List Lc) (i : Nat) (x : Lc), L[i]? = some x → sumL (L.take (i + 1)) = sumL (L.take i) + (x.n + 16)
  | [], i, x, hx => by simp at hx
  | z :: r, 0, x, hx => by simp at hx; subst hx; simp [sumL]
  | z :: r, i + 1, x, hx => by
    have h' : r[i]? = some x := by simpa using hx
    have := sumL_take r i x h'
    simp only [List.take_succ_cons, sumL, this]; omega
theorem sumL_le : ∀ (L : List Lc) (i : Nat), sumL (L.take i) ≤ sumL L
  | [], i => by simp
  | z :: r, 0 => by simp [sumL]
  | z :: r, i + 1 => by have := sumL_le r i; simp only [List.take_succ_cons, sumL]; omega
set_option maxRecDepth 20000 in
theorem sure9_ok (H : Play9 B w0 w P h W G m c S F y va L) (hL : L.length ≤ 1000) (hs : sumL L ≤ 100000) (hW : W ≤ 100000) :
    Calls Tryz.prog 12 #[.pointer (some ⟨y, 0, none⟩)] w fun e w' => e = .returned (.int .i64 ((W : Int) / 4 - sumL L)) ∧ w' = w := by
  have cc := H.cells
  obtain ⟨ao, cap, rfl, hF⟩ := H.form
  have HC : Hid (∀ i x, L[i]? = some x → ∃ p, ao = some ⟨p, 0, none⟩ ∧ w.cell? ⟨p, i * 4 + 3, none⟩ = some (.slice (some ⟨x.blk, 0, none⟩) x.n x.n)) := fun i x hx => by
    obtain ⟨p, e, _, _, _, _, c3⟩ := hF i x hx
    exact ⟨p, e, c3⟩
  have HIx : Hid (∀ i, i < L.length → ∃ x, L[i]? = some x) := fun i hi => ⟨_, List.getElem?_eq_getElem hi⟩
  have HE : Hid (sumL (L.take L.length) = sumL L) := (show _ = _ by rw [List.take_length])
  have HS : Hid (∀ i, sumL (L.take i) ≤ 100000) := fun i => Nat.le_trans (sumL_le L i) hs
  have HW : Hid ((W : Int).tdiv 4 = (W : Int) / 4) := (show _ = _ by exact Int.tdiv_eq_ediv_of_nonneg (by omega))
  have hd := HW.out
  obtain ⟨q, hq⟩ : ∃ q : Int, q = (W : Int) / 4 := ⟨_, rfl⟩
  have hq0 : 0 ≤ q ∧ q ≤ 100000 := by omega
  rw [← hq] at hd ⊢
  have hd2 : (W : Int) / 4 = q := hq.symm
  generalize hN : L.length = M at *
  clear H hN hF hs HW hq
  go_enter Tryz.func12, Tryz.ntmps12
  go_wp2
  go_loopg [3, 4] (M + 1) (fun kx s3 s4 wr => ∃ j : Nat, s3 = .int .i64 (q - sumL (L.take j)) ∧ s4 = .int .i64 j ∧ j ≤ M ∧ M - j ≤ kx ∧ wr = w)
  case atStart => exact ⟨0, by simp [sumL], rfl, by omega, by omega, rfl⟩
  case round =>
    obtain ⟨j, rfl, rfl, hj, hk, rfl⟩ := hrel
    by_cases hlt : j < M
    · obtain ⟨x, hx⟩ := HIx.out j hlt
      obtain ⟨p2, rfl, c0⟩ := HC.out j x hx
      have hl : (j : Int) < (M : Int) := by omega
      have HT : Hid (sumL (L.take (j + 1)) = sumL (L.take j) + (x.n + 16)) := sumL_take L j x hx
      have h1 := HS.out j
      have h2 := HS.out (j + 1)
      have h3 : x.n ≤ 100000 := by have := HT.out; omega
      clear hx
      generalize sumL (L.take j) = s at *
      go_wp2
      go_roundg (M - (j + 1))
      case measure => omega
      case rel => exact ⟨j + 1, congrArg (Value.int .i64) (by have := HT.out; omega), by go_num, by omega, by omega, rfl⟩
    · obtain rfl : j = M := by omega
      have hl : ¬ (j : Int) < (j : Int) := by omega
      go_wp2
      go_ret
      refine ⟨?_, rfl⟩
      rw [← HE.out]; rfl
theorem fits9_ok (t n : Int) (w : World) (ht : 1 ≤ t ∧ t ≤ 4) (r : Bool) (hr : r = true ↔ kmin t ≤ n ∧ n ≤ kmax t) :
    Calls Tryz.prog 41 #[.int .i64 t, .int .i64 n] w fun e w' => e = .returned (.bool r) ∧ w' = w := by
  have hc : t = 1 ∨ t = 2 ∨ t = 3 ∨ t = 4 := by omega
  clear ht
  rcases hc with rfl | rfl | rfl | rfl
  all_goals
    have e1 : r = true ↔ _ := hr
    simp only [kmin, kmax] at e1
    go_enter Tryz.func41, Tryz.ntmps41
    go_wp2
    all_goals
      go_ret
      refine ⟨congrArg (fun x => Ending.returned (Value.bool x)) ?_, rfl⟩
      cases r <;> simp_all <;> omega
end
end Go.Proofs.YtnnjinkadcagdaaGreat
