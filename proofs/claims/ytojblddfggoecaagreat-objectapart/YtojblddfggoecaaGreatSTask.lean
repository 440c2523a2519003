/- A step of an operation, whatever its access does; the stack as it lies in memory. -/
import Derived.Test.YtojblddfggoecaaGreatSOps
namespace Go.Proofs.YtojblddfggoecaaGreat
open Go.RowKit

/-- Of what w held nothing has turned but what P names. -/
structure Bt (P : Nat → Prop) (w w' : World) : Prop where
  os : w'.os = w.os
  tape : w'.tape = w.tape
  output : w'.output = w.output
  size : w.heap.size ≤ w'.heap.size
  block : ∀ k, k < w.heap.size → ¬ P k → w'.heap[k]? = w.heap[k]?
theorem Bt.refl (P : Nat → Prop) (w : World) : Bt P w w := ⟨rfl, rfl, rfl, Nat.le_refl _, fun _ _ _ => rfl⟩
theorem Bt.trans {P : Nat → Prop} {a b c : World} (h : Bt P a b) (k : Bt P b c) : Bt P a c :=
  ⟨k.os.trans h.os, k.tape.trans h.tape, k.output.trans h.output, Nat.le_trans h.size k.size, fun i hi e => (k.block i (Nat.lt_of_lt_of_le hi h.size) e).trans (h.block i hi e)⟩
theorem Bt.of_below {P : Nat → Prop} {w w' : World} (h : Below w.heap.size w w') : Bt P w w' := ⟨h.os, h.tape, h.output, h.size, fun k hk _ => h.block k hk⟩
theorem Bt.of_but {P : Nat → Prop} {bw bs : Nat} {w w' : World} (h : But bw bs w w') (h1 : P bw) (h2 : P bs) : Bt P w w' :=
  ⟨h.os, h.tape, h.output, h.size, fun k hk e => h.block k hk (fun e1 => e (e1 ▸ h1)) (fun e2 => e (e2 ▸ h2))⟩
theorem Bt.set {P : Nat → Prop} {a w : World} (h : Bt P a w) (r i : Nat) (v : Value) (hr : P r ∨ a.heap.size ≤ r) : Bt P a (w.setCell ⟨r, i, none⟩ v) :=
  ⟨h.os, h.tape, h.output, by simpa [World.setCell] using h.size, fun k hk e => (heap_put _ _ (by show k ≠ r; rintro rfl; rcases hr with hr | hr; exact e hr; omega)).trans (h.block k hk e)⟩
theorem Bt.alloc {P : Nat → Prop} {a w : World} (h : Bt P a w) (o : Obj) : Bt P a (w.alloc o) := h.trans (Bt.of_below ((Below.refl _ _).alloc (Nat.le_refl _) o))
theorem Bt.mono {P Q : Nat → Prop} {w w' : World} (h : Bt P w w') (hq : ∀ k, k < w.heap.size → P k → Q k) : Bt Q w w' := ⟨h.os, h.tape, h.output, h.size, fun k hk e => h.block k hk (fun hp => e (hq k hk hp))⟩
/-- What lies below B lies there still, if nothing that P names lies there. -/
theorem Bt.under {P : Nat → Prop} {B : Nat} {w0 w w' : World} (h : Below B w0 w) (hB : B ≤ w.heap.size) (hp : ∀ k, P k → B ≤ k) (k : Bt P w w') : Below B w0 w' :=
  h.trans ⟨k.os, k.tape, k.output, k.size, fun i hi => k.block i (by omega) (fun e => by have := hp i e; omega)⟩

theorem un_but {w w1 : World} {bw bs : Nat} (k : But bw bs w.drew w1) : But bw bs w w1 := (But.of_below ((Below.refl w.heap.size w).drew)).trans k
theorem laidD1 {w w1 : World} {o : Obj} {bw bs : Nat} (h1 : bw < w.heap.size) (h2 : bs < w.heap.size) (k : But bw bs (w.alloc o).drew w1) : w1.heap[w.heap.size]? = some o := laid1 h1 h2 (un_but k)
theorem laidD2 {w w1 : World} {o p : Obj} {bw bs : Nat} (h1 : bw < w.heap.size) (h2 : bs < w.heap.size) (k : But bw bs ((w.alloc o).drew.alloc p) w1) : w1.heap[w.heap.size]? = some o ∧ w1.heap[w.heap.size + 1]? = some p :=
  laidA (p := p) h1 h2 ⟨k.os, k.tape, k.output, k.size, k.block⟩
theorem laidD3 {w w1 : World} {o p q : Obj} {bw bs : Nat} (h1 : bw < w.heap.size) (h2 : bs < w.heap.size) (k : But bw bs (((w.alloc o).drew.alloc p).alloc q) w1) : w1.heap[w.heap.size]? = some o ∧ w1.heap[w.heap.size + 1]? = some p ∧ w1.heap[w.heap.size + 1 + 1]? = some q :=
  laidB (p := p) (q := q) h1 h2 ⟨k.os, k.tape, k.output, k.size, k.block⟩
theorem bel1 (w : World) (o : Obj) : Below w.heap.size w (w.alloc o).drew := ((Below.refl _ w).alloc (Nat.le_refl _) o).drew
theorem bel2 (w : World) (o p : Obj) : Below w.heap.size w ((w.alloc o).drew.alloc p) := (bel1 w o).alloc (by simp) p
theorem bel3 (w : World) (o p q : Obj) : Below w.heap.size w (((w.alloc o).drew.alloc p).alloc q) := (bel2 w o p).alloc (by simp; omega) q
theorem keepO {w u w1 : World} {bw bs o : Nat} {X : Obj} (hO : w.heap[o]? = some X) (hb : Below w.heap.size w u) (hB : But bw bs u w1) (n1 : o ≠ bw) (n2 : o ≠ bs) : w1.heap[o]? = some X :=
  have l := (Array.getElem?_eq_some_iff.1 hO).1
  (hB.block o (Nat.lt_of_lt_of_le l hb.size) n1 n2).trans ((hb.block o l).trans hO)
/-- Behind the access: the arena, the operation's own block as it was, the result's. -/
structure Md (w : World) (b bw bs W G o : Nat) (ws cs : Nat → Int) (X R : Obj) (u : World) : Prop where
  ar : Ar u b bw bs W G ws cs
  op : u.heap[o]? = some X
  res : u.heap[w.heap.size]? = some R
  bt : Bt (fun k => k = bw ∨ k = bs ∨ k = o) w u
section
variable {w u : World} {b bw bs W G o : Nat} {ws cs ws0 cs0 : Nat → Int} {X R : Obj}
theorem Md.alloc (m : Md w b bw bs W G o ws cs X R u) (q : Obj) : Md w b bw bs W G o ws cs X R (u.alloc q) :=
  ⟨m.ar.alloc q, (Below.heap_alloc _ _ _ (Array.getElem?_eq_some_iff.1 m.op).1).trans m.op, (Below.heap_alloc _ _ _ (Array.getElem?_eq_some_iff.1 m.res).1).trans m.res, m.bt.alloc q⟩
theorem Md.put (m : Md w b bw bs W G o ws cs X R u) (h : Ar w b bw bs W G ws0 cs0) (lo : o < w.heap.size) (s i : Nat) (v : Value) (hs : w.heap.size < s) : Md w b bw bs W G o ws cs X R (u.setCell ⟨s, i, none⟩ v) :=
  ⟨h.fresh m.ar s i v (by omega), (heap_put _ _ (by show o ≠ s; omega)).trans m.op, (heap_put _ _ (by show w.heap.size ≠ s; omega)).trans m.res, m.bt.set s i v (.inr (by omega))⟩
theorem Md.sets3 (m : Md w b bw bs W G o ws cs X R u) (h : Ar w b bw bs W G ws0 cs0) (lo : o < w.heap.size) (s : Nat) (x y z : Value) (hs : w.heap.size < s) : Md w b bw bs W G o ws cs X R (sets3 u s x y z) :=
  ((m.put h lo s 0 x hs).put h lo s 1 y hs).put h lo s 2 z hs
theorem Md.sets4 (m : Md w b bw bs W G o ws cs X R u) (h : Ar w b bw bs W G ws0 cs0) (lo : o < w.heap.size) (s : Nat) (x y z v : Value) (hs : w.heap.size < s) : Md w b bw bs W G o ws cs X R (sets4 u s x y z v) :=
  (m.sets3 h lo s x y z hs).put h lo s 3 v hs
end
theorem Bt.ar3 {bw bs o : Nat} {w w' : World} (h : But bw bs w w') : Bt (fun k => k = bw ∨ k = bs ∨ k = o) w w' := Bt.of_but h (.inl rfl) (.inr (.inl rfl))
theorem new2 {u : World} (x y : Obj) : ((u.alloc x).alloc y).heap[u.heap.size + 1]? = some y := by
  have := heap_alloc_new (u.alloc x) y
  rw [Go.Deep.nblk_alloc] at this
  exact this
theorem old2 {u : World} (x y : Obj) : ((u.alloc x).alloc y).heap[u.heap.size]? = some x := (Below.heap_alloc _ _ _ (by simp)).trans (heap_alloc_new u x)
theorem size_sets3 (u : World) (s : Nat) (x y z : Value) : (sets3 u s x y z).heap.size = u.heap.size := by simp [sets3, World.setCell]
theorem size_sets4 (u : World) (s : Nat) (x y z v : Value) : (sets4 u s x y z v).heap.size = u.heap.size := by simp [sets4, sets3, World.setCell]
theorem new_sets3 (u : World) (s : Nat) (x y z : Value) (X : Obj) : ((sets3 u s x y z).alloc X).heap[u.heap.size]? = some X := by rw [← size_sets3 u s x y z]; exact heap_alloc_new _ _
theorem new_sets4 (u : World) (s : Nat) (x y z v : Value) (X : Obj) : ((sets4 u s x y z v).alloc X).heap[u.heap.size]? = some X := by rw [← size_sets4 u s x y z v]; exact heap_alloc_new _ _
/-- A store into a block that is none of the arena's. -/
theorem Ar.other {u : World} {b bw bs W G : Nat} {ws cs : Nat → Int} (h : Ar u b bw bs W G ws cs) {s : Nat} (n0 : s ≠ b) (n1 : s ≠ bw) (n2 : s ≠ bs) (i : Nat) (v : Value) : Ar (u.setCell ⟨s, i, none⟩ v) b bw bs W G ws cs :=
  ⟨by rw [heap_put _ _ (by show b ≠ s; exact fun e => n0 e.symm)]; exact h.here, h.words.setOther (by show bw ≠ s; exact fun e => n1 e.symm) v, h.steps.setOther (by show bs ≠ s; exact fun e => n2 e.symm) v, h.part⟩
theorem ne_b {u : World} {b bw bs W G s ty : Nat} {ws cs : Nat → Int} {c : Array Value} (h : Ar u b bw bs W G ws cs) (hs : u.heap[s]? = some (.cells c ty (0, 0))) (ht : ty ≠ 85) : s ≠ b := by
  rintro rfl; rw [h.here] at hs; simp at hs; exact ht hs.2.symm
theorem blk5 {w : World} {b ty : Nat} {x y z v a : Value} (h : w.heap[b]? = some (.cells #[x, y, z, v, a] ty (0, 0))) : w.cell? ⟨b, 0, none⟩ = some x ∧ w.cell? ⟨b, 1, none⟩ = some y ∧ w.cell? ⟨b, 2, none⟩ = some z ∧ w.cell? ⟨b, 3, none⟩ = some v ∧ w.cell? ⟨b, 4, none⟩ = some a := by
  simp [World.cell?, h]
set_option maxHeartbeats 4000000 in
theorem push_step {w : World} {b bw bs W G : Nat} {ws cs : Nat → Int} (h : Ar w b bw bs W G ws cs) {ws' cs' : Nat → Int} {o x y z : Nat} {n t i n' t' i' v1 : Int} {v0 v2 : Bool} (hO : w.heap[o]? = some (.cells #[.int .i64 n, .int .i64 t, .int .i64 i, .func (.func 126) #[] #[.pointer (some ⟨x, 0, none⟩), .pointer (some ⟨y, 0, none⟩), .pointer (some ⟨z, 0, none⟩)]] 186 (0, 0)))
    (hc : ∀ u, Below w.heap.size w u → Calls Tryz.prog 126 #[.agg #[.int .i64 n, .int .i64 t, .int .i64 i], .pointer (some ⟨x, 0, none⟩), .pointer (some ⟨y, 0, none⟩), .pointer (some ⟨z, 0, none⟩)] u fun e w' => e = .returned (.tuple #[.agg #[.int .i64 n', .int .i64 t', .int .i64 i'], .agg #[.bool v0, .int .i64 v1, .bool v2]]) ∧ Ar w' b bw bs W G ws' cs' ∧ But bw bs u w') :
    Calls Tryz.prog 162 #[.pointer (some ⟨o, 0, none⟩)] w fun e w' => e = .returned (.agg #[.bool v0, .int .i64 v1, .bool v2]) ∧ Ar w' b bw bs W G ws' cs' ∧ w'.heap[o]? = some (.cells #[.int .i64 n', .int .i64 t', .int .i64 i', .func (.func 126) #[] #[.pointer (some ⟨x, 0, none⟩), .pointer (some ⟨y, 0, none⟩), .pointer (some ⟨z, 0, none⟩)]] 186 (0, 0)) ∧ Bt (fun k => k = bw ∨ k = bs ∨ k = o) w w' := by
  have hO1 := fun q => blk4 (box_alloc hO q)
  have nO1 := ne_row hO (by decide) h.words
  have nO2 := ne_row hO (by decide) h.steps
  have lO := box_lt hO
  have m0 : w.heap.size ≠ o := by omega
  have m1 : w.heap.size + 1 ≠ o := by omega
  have m2 : w.heap.size + 1 + 1 ≠ o := by omega
  go_enter Tryz.func162, Tryz.ntmps162
  go_wp2
  go_cut [3, 4] (fun s3 s4 wx => ∃ p q, s3 = .pointer (some ⟨p, 0, none⟩) ∧ s4 = .pointer (some ⟨q, 0, none⟩) ∧ Md w b bw bs W G o ws' cs' (.cells #[.int .i64 n, .int .i64 t, .int .i64 i, .func (.func 126) #[] #[.pointer (some ⟨x, 0, none⟩), .pointer (some ⟨y, 0, none⟩), .pointer (some ⟨z, 0, none⟩)]] 186 (0, 0)) (.cells #[.bool false, .int .i64 0, .bool false] 165 (0, 0)) wx ∧ wx.heap[p]? = some (.cells #[.int .i64 n', .int .i64 t', .int .i64 i'] 179 (0, 0)) ∧ wx.heap[q]? = some (.cells #[.bool v0, .int .i64 v1, .bool v2] 165 (0, 0)) ∧ w.heap.size < q)
  case first =>
    go_region_held3 (fun w' => w'.cell? ⟨o, 0, none⟩ = some (.int .i64 n) ∧ w'.cell? ⟨o, 1, none⟩ = some (.int .i64 t) ∧ w'.cell? ⟨o, 2, none⟩ = some (.int .i64 i) ∧ w'.cell? ⟨o, 3, none⟩ = some (.func (.func 126) #[] #[.pointer (some ⟨x, 0, none⟩), .pointer (some ⟨y, 0, none⟩), .pointer (some ⟨z, 0, none⟩)])) (go_keep)
      ((go_at_call 126; refine (hc _ (by first | exact bel3 _ _ _ _ | exact bel2 _ _ _ | exact bel1 _ _)).mono ?_; rintro e w1 ⟨rfl, hA, hB⟩; (first
        | (have hL := laidD3 h.lts.1 h.lts.2 hB; have hO2 := keepO hO (bel3 _ _ _ _) hB nO1 nO2; have hR := hL.1; have h1 := hL.2.1; have h2 := hL.2.2; have hT := (Bt.of_below (bel3 _ _ _ _)).trans (Bt.ar3 (o := o) hB); have l1 := box_lt h1; have l2 := box_lt h2; (first | have b1 := blk3 h1 | have b1 := blk4 h1); (first | have b2 := blk3 h2 | have b2 := blk4 h2); have z1 := frz h1; have z2 := frz h2)
        | (have hL := laidD2 h.lts.1 h.lts.2 hB; have hO2 := keepO hO (bel2 _ _ _) hB nO1 nO2; have hR := hL.1; have h1 := hL.2; have hT := (Bt.of_below (bel2 _ _ _)).trans (Bt.ar3 (o := o) hB); have l1 := box_lt h1; (first | have b1 := blk3 h1 | have b1 := blk4 h1); have z1 := frz h1)
        | (have hR := laidD1 h.lts.1 h.lts.2 hB; have hO2 := keepO hO (bel1 _ _) hB nO1 nO2; have hT := (Bt.of_below (bel1 _ _)).trans (Bt.ar3 (o := o) hB))); have l0 := box_lt hR; have bO := blk4 hO2; have zO := frz hO2; have k0 : w1.heap.size ≠ o := (by have := box_lt hO2; omega); have k1 : w1.heap.size + 1 ≠ o := (by have := box_lt hO2; omega); have hM : Md w b bw bs W G o ws' cs' _ _ w1 := ⟨hA, hO2, hR, hT⟩))
    · as_aux_lemma =>
        go_wp2_with fail
        go_meet
        exact ⟨_, _, rfl, rfl, (hM.alloc _).alloc _, old2 _ _, new2 _ _, by omega⟩
    · as_aux_lemma =>
        go_wp2_with fail
        go_meet
        exact ⟨_, _, rfl, rfl, (hM.alloc _).alloc _, new2 _ _, old2 _ _, by omega⟩
    · as_aux_lemma =>
        go_wp2_with fail
        go_meet
        exact ⟨_, _, rfl, rfl, (hM.sets3 h lO _ _ _ _ (by omega)).alloc _, box_alloc (sets3_blk h1 _ _ _) _, new_sets3 _ _ _ _ _ _, by omega⟩
    · as_aux_lemma =>
        go_wp2_with fail
        go_meet
        exact ⟨_, _, rfl, rfl, (hM.sets3 h lO _ _ _ _ (by omega)).sets3 h lO _ _ _ _ (by omega), (sets3_else _ _ _ _ _ (by omega)).trans (sets3_blk h1 _ _ _), sets3_blk ((sets3_else _ _ _ _ _ (by omega)).trans h2) _ _ _, by omega⟩
    · as_aux_lemma =>
        go_wp2_with fail
        go_meet
        exact ⟨_, _, rfl, rfl, (hM.sets3 h lO _ _ _ _ (by omega)).alloc _, new_sets3 _ _ _ _ _ _, box_alloc (sets3_blk h1 _ _ _) _, by omega⟩
    · as_aux_lemma =>
        go_wp2_with fail
        go_meet
        exact ⟨_, _, rfl, rfl, (hM.sets3 h lO _ _ _ _ (by omega)).sets3 h lO _ _ _ _ (by omega), (sets3_else _ _ _ _ _ (by omega)).trans (sets3_blk h2 _ _ _), sets3_blk ((sets3_else _ _ _ _ _ (by omega)).trans h1) _ _ _, by omega⟩
  case rest =>
    obtain ⟨p, q, rfl, rfl, hM, hp, hq, lq⟩ := hcut
    have bp := blk3 hp
    have bq := blk3 hq
    have bO := blk4 hM.op
    have zO := frz hM.op
    have bR := blk3 hM.res
    have zR := frz hM.res
    have e1 : o ≠ p := by rintro rfl; rw [hM.op] at hp; simp at hp
    have e2 : q ≠ o := by rintro rfl; rw [hM.op] at hq; simp at hq
    have e3 : w.heap.size ≠ q := by omega
    go_wp2
    refine bodyPost_ret (results_cell_row rfl _ _ w.heap.size 165 #[.bool v0, .int .i64 v1, .bool v2] (0, 0) _ rfl ?_ Tryz.underlying165 rfl info92) rfl ⟨rfl, ?_, ?_, ?_⟩
    · exact sets3_blk ((sets3_else _ _ _ _ _ (by omega)).trans hM.res) _ _ _
    · exact h.sets3 (((hM.ar.other (ne_b hM.ar hM.op (by decide)) nO1 nO2 0 _).other (ne_b hM.ar hM.op (by decide)) nO1 nO2 1 _).other (ne_b hM.ar hM.op (by decide)) nO1 nO2 2 _) _ _ _ _ (by omega)
    · exact (sets3_else _ _ _ _ _ (by omega)).trans (set_blk (set_blk (set_blk hM.op 0 _) 1 _) 2 _)
    · exact (((((hM.bt.set o 0 _ (.inl (.inr (.inr rfl)))).set o 1 _ (.inl (.inr (.inr rfl)))).set o 2 _ (.inl (.inr (.inr rfl)))).set w.heap.size 0 _ (.inr (Nat.le_refl _))).set w.heap.size 1 _ (.inr (Nat.le_refl _))).set w.heap.size 2 _ (.inr (Nat.le_refl _))
set_option maxHeartbeats 4000000 in
theorem pop_step {w : World} {b bw bs W G : Nat} {ws cs : Nat → Int} (h : Ar w b bw bs W G ws cs) {ws' cs' : Nat → Int} {o x y : Nat} {n t i d n' t' i' d' v1 : Int} {v0 v2 : Bool} (hO : w.heap[o]? = some (.cells #[.int .i64 n, .int .i64 t, .int .i64 i, .int .i64 d, .func (.func 130) #[] #[.pointer (some ⟨x, 0, none⟩), .pointer (some ⟨y, 0, none⟩)]] 193 (0, 0)))
    (hc : ∀ u, Below w.heap.size w u → Calls Tryz.prog 130 #[.agg #[.int .i64 n, .int .i64 t, .int .i64 i, .int .i64 d], .pointer (some ⟨x, 0, none⟩), .pointer (some ⟨y, 0, none⟩)] u fun e w' => e = .returned (.tuple #[.agg #[.int .i64 n', .int .i64 t', .int .i64 i', .int .i64 d'], .agg #[.bool v0, .int .i64 v1, .bool v2]]) ∧ Ar w' b bw bs W G ws' cs' ∧ But bw bs u w') :
    Calls Tryz.prog 163 #[.pointer (some ⟨o, 0, none⟩)] w fun e w' => e = .returned (.agg #[.bool v0, .int .i64 v1, .bool v2]) ∧ Ar w' b bw bs W G ws' cs' ∧ w'.heap[o]? = some (.cells #[.int .i64 n', .int .i64 t', .int .i64 i', .int .i64 d', .func (.func 130) #[] #[.pointer (some ⟨x, 0, none⟩), .pointer (some ⟨y, 0, none⟩)]] 193 (0, 0)) ∧ Bt (fun k => k = bw ∨ k = bs ∨ k = o) w w' := by
  have hO1 := fun q => blk5 (box_alloc hO q)
  have nO1 := ne_row hO (by decide) h.words
  have nO2 := ne_row hO (by decide) h.steps
  have lO := box_lt hO
  have m0 : w.heap.size ≠ o := by omega
  have m1 : w.heap.size + 1 ≠ o := by omega
  have m2 : w.heap.size + 1 + 1 ≠ o := by omega
  go_enter Tryz.func163, Tryz.ntmps163
  go_wp2
  go_cut [3, 4] (fun s3 s4 wx => ∃ p q, s3 = .pointer (some ⟨p, 0, none⟩) ∧ s4 = .pointer (some ⟨q, 0, none⟩) ∧ Md w b bw bs W G o ws' cs' (.cells #[.int .i64 n, .int .i64 t, .int .i64 i, .int .i64 d, .func (.func 130) #[] #[.pointer (some ⟨x, 0, none⟩), .pointer (some ⟨y, 0, none⟩)]] 193 (0, 0)) (.cells #[.bool false, .int .i64 0, .bool false] 165 (0, 0)) wx ∧ wx.heap[p]? = some (.cells #[.int .i64 n', .int .i64 t', .int .i64 i', .int .i64 d'] 188 (0, 0)) ∧ wx.heap[q]? = some (.cells #[.bool v0, .int .i64 v1, .bool v2] 165 (0, 0)) ∧ w.heap.size < q)
  case first =>
    go_region_held3 (fun w' => w'.cell? ⟨o, 0, none⟩ = some (.int .i64 n) ∧ w'.cell? ⟨o, 1, none⟩ = some (.int .i64 t) ∧ w'.cell? ⟨o, 2, none⟩ = some (.int .i64 i) ∧ w'.cell? ⟨o, 3, none⟩ = some (.int .i64 d) ∧ w'.cell? ⟨o, 4, none⟩ = some (.func (.func 130) #[] #[.pointer (some ⟨x, 0, none⟩), .pointer (some ⟨y, 0, none⟩)])) (go_keep)
      ((go_at_call 130; refine (hc _ (by first | exact bel3 _ _ _ _ | exact bel2 _ _ _ | exact bel1 _ _)).mono ?_; rintro e w1 ⟨rfl, hA, hB⟩; (first
        | (have hL := laidD3 h.lts.1 h.lts.2 hB; have hO2 := keepO hO (bel3 _ _ _ _) hB nO1 nO2; have hR := hL.1; have h1 := hL.2.1; have h2 := hL.2.2; have hT := (Bt.of_below (bel3 _ _ _ _)).trans (Bt.ar3 (o := o) hB); have l1 := box_lt h1; have l2 := box_lt h2; (first | have b1 := blk3 h1 | have b1 := blk4 h1); (first | have b2 := blk3 h2 | have b2 := blk4 h2); have z1 := frz h1; have z2 := frz h2)
        | (have hL := laidD2 h.lts.1 h.lts.2 hB; have hO2 := keepO hO (bel2 _ _ _) hB nO1 nO2; have hR := hL.1; have h1 := hL.2; have hT := (Bt.of_below (bel2 _ _ _)).trans (Bt.ar3 (o := o) hB); have l1 := box_lt h1; (first | have b1 := blk3 h1 | have b1 := blk4 h1); have z1 := frz h1)
        | (have hR := laidD1 h.lts.1 h.lts.2 hB; have hO2 := keepO hO (bel1 _ _) hB nO1 nO2; have hT := (Bt.of_below (bel1 _ _)).trans (Bt.ar3 (o := o) hB))); have l0 := box_lt hR; have bO := blk5 hO2; have zO := frz hO2; have k0 : w1.heap.size ≠ o := (by have := box_lt hO2; omega); have k1 : w1.heap.size + 1 ≠ o := (by have := box_lt hO2; omega); have hM : Md w b bw bs W G o ws' cs' _ _ w1 := ⟨hA, hO2, hR, hT⟩))
    · as_aux_lemma =>
        go_wp2_with fail
        go_meet
        exact ⟨_, _, rfl, rfl, (hM.alloc _).alloc _, old2 _ _, new2 _ _, by omega⟩
    · as_aux_lemma =>
        go_wp2_with fail
        go_meet
        exact ⟨_, _, rfl, rfl, (hM.alloc _).alloc _, new2 _ _, old2 _ _, by omega⟩
    · as_aux_lemma =>
        go_wp2_with fail
        go_meet
        exact ⟨_, _, rfl, rfl, (hM.sets4 h lO _ _ _ _ _ (by omega)).alloc _, box_alloc (sets4_blk h1 _ _ _ _) _, new_sets4 _ _ _ _ _ _ _, by omega⟩
    · as_aux_lemma =>
        go_wp2_with fail
        go_meet
        exact ⟨_, _, rfl, rfl, (hM.sets4 h lO _ _ _ _ _ (by omega)).sets3 h lO _ _ _ _ (by omega), (sets3_else _ _ _ _ _ (by omega)).trans (sets4_blk h1 _ _ _ _), sets3_blk ((sets4_else _ _ _ _ _ _ (by omega)).trans h2) _ _ _, by omega⟩
    · as_aux_lemma =>
        go_wp2_with fail
        go_meet
        exact ⟨_, _, rfl, rfl, (hM.sets3 h lO _ _ _ _ (by omega)).alloc _, new_sets3 _ _ _ _ _ _, box_alloc (sets3_blk h1 _ _ _) _, by omega⟩
    · as_aux_lemma =>
        go_wp2_with fail
        go_meet
        exact ⟨_, _, rfl, rfl, (hM.sets4 h lO _ _ _ _ _ (by omega)).sets3 h lO _ _ _ _ (by omega), (sets3_else _ _ _ _ _ (by omega)).trans (sets4_blk h2 _ _ _ _), sets3_blk ((sets4_else _ _ _ _ _ _ (by omega)).trans h1) _ _ _, by omega⟩
  case rest =>
    obtain ⟨p, q, rfl, rfl, hM, hp, hq, lq⟩ := hcut
    have bp := blk4 hp
    have bq := blk3 hq
    have bO := blk5 hM.op
    have zO := frz hM.op
    have bR := blk3 hM.res
    have zR := frz hM.res
    have e1 : o ≠ p := by rintro rfl; rw [hM.op] at hp; simp at hp
    have e2 : q ≠ o := by rintro rfl; rw [hM.op] at hq; simp at hq
    have e3 : w.heap.size ≠ q := by omega
    go_wp2
    refine bodyPost_ret (results_cell_row rfl _ _ w.heap.size 165 #[.bool v0, .int .i64 v1, .bool v2] (0, 0) _ rfl ?_ Tryz.underlying165 rfl info92) rfl ⟨rfl, ?_, ?_, ?_⟩
    · exact sets3_blk ((sets4_else _ _ _ _ _ _ (by omega)).trans hM.res) _ _ _
    · exact h.sets3 ((((hM.ar.other (ne_b hM.ar hM.op (by decide)) nO1 nO2 0 _).other (ne_b hM.ar hM.op (by decide)) nO1 nO2 1 _).other (ne_b hM.ar hM.op (by decide)) nO1 nO2 2 _).other (ne_b hM.ar hM.op (by decide)) nO1 nO2 3 _) _ _ _ _ (by omega)
    · exact (sets3_else _ _ _ _ _ (by omega)).trans (set_blk (set_blk (set_blk (set_blk hM.op 0 _) 1 _) 2 _) 3 _)
    · exact ((((((hM.bt.set o 0 _ (.inl (.inr (.inr rfl)))).set o 1 _ (.inl (.inr (.inr rfl)))).set o 2 _ (.inl (.inr (.inr rfl)))).set o 3 _ (.inl (.inr (.inr rfl)))).set w.heap.size 0 _ (.inr (Nat.le_refl _))).set w.heap.size 1 _ (.inr (Nat.le_refl _))).set w.heap.size 2 _ (.inr (Nat.le_refl _))
end Go.Proofs.YtojblddfggoecaaGreat
