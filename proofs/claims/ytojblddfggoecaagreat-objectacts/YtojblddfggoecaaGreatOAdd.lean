/- ObjectActs: rows that grow. -/
import Derived.Test.YtojblddfggoecaaGreatOPlay
namespace Go.Proofs.YtojblddfggoecaaGreat
open Go.RowKit
theorem infoI : (Tryz.prog.info? 3).map (fun i => (i.zero, i.size, i.bytes)) = some (some (.int .i64 0), 1, 8) := by kernel_rfl
theorem infoII : (Tryz.prog.info? 29).map (fun i => (i.zero, i.size, i.bytes)) = some (some (.slice none 0 0), 1, 24) := by kernel_rfl
/-- The elements of another slice behind a row's. -/
theorem Rw.add {t e : TypeId} {z : Value} {bytes : Nat} (hu : Tryz.prog.underlying t = some (.slice e)) (hinf : (Tryz.prog.info? e).map (fun i => (i.zero, i.size, i.bytes)) = some (some z, 1, bytes)) (hz : z.cells.size = 1) (hby : bytes ≤ 24) {w W : World} {B : Nat} {v : Value} {R : List Value} (h : Rw w B e v R) (hbW : Below w.heap.size w W) (hB : B ≤ w.heap.size)
    (a : Addr) (m c : Nat) (news : List Value) (hl : news.length = m) (hc : ∀ j u, news[j]? = some u → W.cell? (a.add j) = some u) (h1 : ∀ u ∈ news, u.oneCell' = true) (hn : R.length + m ≤ 10000) :
    ∃ v' w', (Builtin.append_ #[t, t] t #[v, .slice (some a) m c]).run Tryz.prog W = .ok v' w' ∧ Rw w' B e v' (R ++ news) ∧ w.grownBy w' v.ownBlock ∧ (v'.ownBlock = v.ownBlock ∨ ∃ k, v'.ownBlock = some k ∧ w.heap.size ≤ k) ∧ (0 < R.length + m → ∃ p cap, v' = .slice (some ⟨p, 0, none⟩) (R.length + m) cap) := by
  obtain ⟨i, hi, hzz⟩ := Option.map_eq_some_iff.1 hinf
  simp only [Prod.mk.injEq] at hzz
  obtain ⟨hz0, hz1, hz2⟩ := hzz
  have hown : W.ownsRow B e 1 v R.length R := World.ownsRow.kept (w := w) h (row := none) ⟨hbW.os, hbW.tape, hbW.output, hbW.size, fun k hk _ => hbW.block k hk⟩ (by cases v.ownBlock <;> simp)
  obtain ⟨v', w', hrun, ho, hg, hnil, hat⟩ := run_append_own_at (P := Tryz.prog) W B t t e i z 1 bytes hu hi hz0 hz1 hz2 hz (by decide) v R.length R hown a m c news (by rw [hl]; omega) hc h1 (by unfold maxLen; omega) (Nat.le_trans (Nat.mul_le_mul hn hby) (by omega)) (Nat.le_trans hB hbW.size)
  have hR : Rw w' B e v' (R ++ news) := by
    unfold Rw
    rw [List.length_append, hl]
    exact ho
  refine ⟨v', w', hrun, hR, ⟨hg.os.trans hbW.os, hg.tape.trans hbW.tape, hg.output.trans hbW.output, Nat.le_trans hbW.size hg.size, fun j hj q => (hg.block j (Nat.lt_of_lt_of_le hj hbW.size) q).trans (hbW.block j hj)⟩, ?_, fun hp => ?_⟩
  · rcases hat with q | q
    · exact .inl q
    · exact .inr ⟨_, q, hbW.size⟩
  · rcases ho.2 with ⟨rfl, h0⟩ | ⟨g, cap, cur, rfl, _⟩
    · omega
    · exact ⟨g, cap, rfl⟩
section
variable {B : Nat} {w0 w : World} {P : Nat → Prop} {so p b W N m : Nat} {cs ws : Nat → Int} {O : List Ob} {y : Nat} {vr vo : Value} {Rr : List Value} {L : List Rc}
theorem set6 {a0 a1 a2 a3 a4 a5 : Value} {ty : TypeId} (h : w.heap[y]? = some (.cells #[a0, a1, a2, a3, a4, a5] ty (0, 0))) (k : Nat) (u : Value) : (w.setCell ⟨y, k, none⟩ u).heap[y]? = some (.cells (#[a0, a1, a2, a3, a4, a5].setIfInBounds k u) ty (0, 0)) := set_blk h k u
/-- The row of numbers becomes another. -/
theorem Play8.refs_set {w' : World} {v' : Value} {R' : List Value} (h : Play8 B w0 w P so p b W N m cs ws O y vr vo Rr L) {r : Option Nat} (hg : w.grownBy w' r) (hr : ∀ k, r = some k → ¬ P k ∧ B ≤ k ∧ k ≠ y ∧ vo.ownBlock ≠ some k ∧ ∀ x ∈ L, x.blk ≠ k) (hR : Rw w' B 3 v' R') (hat : (∀ k, v'.ownBlock = some k → r = some k ∨ w.heap.size ≤ k)) :
    Play8 B w0 (w'.setCell ⟨y, 4, none⟩ v') P so p b W N m cs ws O y v' vo R' L := by
  have hne : ∀ k, v'.ownBlock = some k → ¬ P k ∧ k ≠ y ∧ ∀ x ∈ L, x.blk ≠ k := by
    intro k hk
    rcases hat k hk with q | q
    · obtain ⟨a, _, b, _, d⟩ := hr k q
      exact ⟨a, b, d⟩
    · exact ⟨fun r => by have := h.ev.lt k r; omega, fun r => by have := h.y_lt; omega, fun x hx r => by have := (h.words x hx).1.lt; omega⟩
  have e : ∀ k, k < w.heap.size → k ≠ y → r ≠ some k → (w'.setCell ⟨y, 4, none⟩ v').heap[k]? = w.heap[k]? := fun k hk h1 h2 => (Below.heap_setCell _ _ _ _ h1).trans (hg.block k hk (fun q => h2 q.symm))
  have hy : w'.heap[y]? = w.heap[y]? := hg.block y h.y_lt (fun q => (hr y q.symm).2.2.1 rfl)
  refine h.remake (r := fun k => k = y ∨ r = some k) (by simpa [World.setCell] using hg.size) ⟨hg.os, hg.tape, hg.output⟩ (fun k hk hn => e k hk (fun q => hn (.inl q)) (fun q => hn (.inr q))) (fun k hk => ?_) ?_ (hR.of_block fun k hk => Below.heap_setCell _ _ _ _ (hne k hk).2.1) (h.objs.of_block fun k hk => e k (h.objs.lt hk).2 (h.y_o hk) (fun q => (hr k q).2.2.2.1 hk)) (fun x hx => ?_) h.apart (fun k hk => (hne k hk).1) h.po
  · rcases hk with rfl | hk
    · exact h.py
    · exact ⟨(hr k hk).1, (hr k hk).2.1⟩
  · rw [set6 (hy.trans h.here)]; rfl
  · obtain ⟨a, b, d, _⟩ := h.words x hx
    exact ⟨a.of_block (e _ a.lt (h.y_x hx) (fun q => (hr _ q).2.2.2.2 x hx rfl)), b, d, fun q => (hne _ q).2.2 x hx rfl⟩
/-- The row of rows becomes another; the list with it. -/
theorem Play8.objs_set {w' : World} {v' : Value} {L' : List Rc} (h : Play8 B w0 w P so p b W N m cs ws O y vr vo Rr L) {r : Option Nat} (hg : w.grownBy w' r) (hr : ∀ k, r = some k → ¬ P k ∧ B ≤ k ∧ k ≠ y ∧ vr.ownBlock ≠ some k ∧ ∀ x ∈ L, x.blk ≠ k) (hR : Rw w' B 29 v' (rowO L')) (hat : (∀ k, v'.ownBlock = some k → r = some k ∨ w.heap.size ≤ k))
    (hw : ∀ x ∈ L', x ∈ L ∨ (w'.rowIs x.blk 3 x.o.n (fun j => .int .i64 (x.F j)) ∧ ¬ P x.blk ∧ B ≤ x.blk ∧ vr.ownBlock ≠ some x.blk ∧ x.blk ≠ y)) (ha : L'.Pairwise fun x z => x.blk ≠ z.blk) :
    Play8 B w0 (w'.setCell ⟨y, 5, none⟩ v') P so p b W N m cs ws O y vr v' Rr L' := by
  have hne : ∀ k, v'.ownBlock = some k → ¬ P k ∧ k ≠ y := by
    intro k hk
    rcases hat k hk with q | q
    · obtain ⟨a, _, b, _, d⟩ := hr k q
      exact ⟨a, b⟩
    · exact ⟨fun r => by have := h.ev.lt k r; omega, fun r => by have := h.y_lt; omega⟩
  have e : ∀ k, k < w.heap.size → k ≠ y → r ≠ some k → (w'.setCell ⟨y, 5, none⟩ v').heap[k]? = w.heap[k]? := fun k hk h1 h2 => (Below.heap_setCell _ _ _ _ h1).trans (hg.block k hk (fun q => h2 q.symm))
  have hy : w'.heap[y]? = w.heap[y]? := hg.block y h.y_lt (fun q => (hr y q.symm).2.2.1 rfl)
  refine h.remake (r := fun k => k = y ∨ r = some k) (by simpa [World.setCell] using hg.size) ⟨hg.os, hg.tape, hg.output⟩ (fun k hk hn => e k hk (fun q => hn (.inl q)) (fun q => hn (.inr q))) (fun k hk => ?_) ?_ (h.refs.of_block fun k hk => e k (h.refs.lt hk).2 (h.y_r hk) (fun q => (hr k q).2.2.2.1 hk)) (hR.of_block fun k hk => Below.heap_setCell _ _ _ _ (hne k hk).2) (fun x hx => ?_) ha h.pr (fun k hk => (hne k hk).1)
  · rcases hk with rfl | hk
    · exact h.py
    · exact ⟨(hr k hk).1, (hr k hk).2.1⟩
  · rw [set6 (hy.trans h.here)]; rfl
  · rcases hw x hx with hx | ⟨q1, q2, q3, q4, q5⟩
    · obtain ⟨a, b, d, f⟩ := h.words x hx
      exact ⟨a.of_block (e _ a.lt (h.y_x hx) (fun q => (hr _ q).2.2.2.2 x hx rfl)), b, d, f⟩
    · exact ⟨q1.setOther (a := ⟨y, 5, none⟩) q5 _, q2, q3, q4⟩
theorem Play8.of_r (h : Play8 B w0 w P so p b W N m cs ws O y vr vo Rr L) : ∀ k, vr.ownBlock = some k → ¬ P k ∧ B ≤ k ∧ k ≠ y ∧ vo.ownBlock ≠ some k ∧ ∀ x ∈ L, x.blk ≠ k :=
  fun k hk => ⟨h.pr k hk, (h.refs.lt hk).1, h.y_r hk, h.r_o hk, fun x hx q => (h.words x hx).2.2.2 (q ▸ hk)⟩
theorem Play8.of_o (h : Play8 B w0 w P so p b W N m cs ws O y vr vo Rr L) : ∀ k, vo.ownBlock = some k → ¬ P k ∧ B ≤ k ∧ k ≠ y ∧ vr.ownBlock ≠ some k ∧ ∀ x ∈ L, x.blk ≠ k :=
  fun k hk => ⟨h.po k hk, (h.objs.lt hk).1, h.y_o hk, fun q => h.r_o q hk, fun _ hx q => h.o_x hx (q ▸ hk)⟩
theorem Ev.more (h : Ev B w0 w P so p b W N m cs ws O) {m' : Nat} (hm : m ≤ m') : Ev B w0 w P so p b W N m' cs ws O := by
  obtain ⟨mb, T, xs, nn, D, h1, h2, h3⟩ := h.sto
  exact ⟨⟨mb, T, xs, nn, D, h1, by omega, by omega⟩, h.few.mono (by omega), h.own, h.bel, h.size⟩
theorem Play8.more (h : Play8 B w0 w P so p b W N m cs ws O y vr vo Rr L) {m' : Nat} (hm : m ≤ m') : Play8 B w0 w P so p b W N m' cs ws O y vr vo Rr L :=
  ⟨h.ev.more hm, h.here, h.refs, h.objs, h.words, h.apart, h.py, h.pr, h.po⟩
end
/-- What an act leaves. -/
def ActPost8 (B : Nat) (w0 : World) (so p b W N m y : Nat) (e : Ending) (w' : World) : Prop := e = .returned (.bool true) ∧ Edge8 B w0 w' so p b W N m y
end Go.Proofs.YtojblddfggoecaaGreat
