/- ObjectApart: two rows beside a store. -/
import Derived.Test.YtojblddfggoecaaGreatOX
namespace Go.Proofs.YtojblddfggoecaaGreat
open Go.RowKit
theorem Mine.form {w : World} {B : Nat} {v : Value} {n : Nat} {f : Nat → Int} (h : Mine w B v n f) : ∃ ao cap, v = .slice ao n cap := by
  rcases h.2 with ⟨rfl, rfl⟩ | ⟨g, cap, cur, rfl, _⟩
  · exact ⟨none, 0, rfl⟩
  · exact ⟨_, _, rfl⟩
theorem Mine.cellAt {w : World} {B : Nat} {ao : Option Addr} {cap n m : Nat} {f : Nat → Int} (h : Mine w B (.slice ao m cap) n f) (hn : 0 < n) : ∃ p, ao = some ⟨p, 0, none⟩ ∧ ∀ i, i < n → w.cell? ⟨p, i, none⟩ = some (.int .i64 (f i)) := by
  obtain ⟨p, c, e, _, _, _, cur, hp, _, _, hc⟩ := h.shape hn
  simp only [Value.slice.injEq] at e
  exact ⟨p, e.1, fun i hi => by simp only [World.cell?, hp]; simpa using hc i hi⟩
/-- A law's two rows beside its store. -/
structure Two8 (B : Nat) (w0 w : World) (P : Nat → Prop) (so p b W N m : Nat) (cs ws : Nat → Int) (O : List Ob) (vi vl : Value) (n : Nat) (fi fl : Nat → Int) : Prop where
  ev : Ev B w0 w P so p b W N m cs ws O
  ids : Mine w B vi n fi
  lens : Mine w B vl n fl
  pi : ∀ k, vi.ownBlock = some k → ¬ P k
  pl : ∀ k, vl.ownBlock = some k → ¬ P k
  ne : ∀ k, vi.ownBlock = some k → vl.ownBlock ≠ some k
section
variable {B : Nat} {w0 w : World} {P : Nat → Prop} {so p b W N m : Nat} {cs ws : Nat → Int} {O : List Ob} {vi vl : Value} {n : Nat} {fi fl : Nat → Int}
theorem Two8.turn {w' : World} {m' : Nat} {cs' ws' : Nat → Int} {O' : List Ob} (h : Two8 B w0 w P so p b W N m cs ws O vi vl n fi fl) (ht : EvT B w0 w P so p b W N m' cs' ws' O' w') : ∃ P', Two8 B w0 w' P' so p b W N m' cs' ws' O' vi vl n fi fl := by
  obtain ⟨P', hE, hB, hW⟩ := ht
  refine ⟨P', hE, h.ids.of_block fun k hk => hB.block k (h.ids.lt hk).2 (h.pi k hk), h.lens.of_block fun k hk => hB.block k (h.lens.lt hk).2 (h.pl k hk), fun k hk r => ?_, fun k hk r => ?_, h.ne⟩
  · exact (hW k r).elim (h.pi k hk) (fun r => by have := h.ids.lt hk; omega)
  · exact (hW k r).elim (h.pl k hk) (fun r => by have := h.lens.lt hk; omega)
theorem Two8.below {w' : World} (h : Two8 B w0 w P so p b W N m cs ws O vi vl n fi fl) (hb : Below w.heap.size w w') : Two8 B w0 w' P so p b W N m cs ws O vi vl n fi fl :=
  ⟨h.ev.below hb, h.ids.below hb, h.lens.below hb, h.pi, h.pl, h.ne⟩
theorem Ev.grown {w' : World} (h : Ev B w0 w P so p b W N m cs ws O) {r : Option Nat} (hg : w.grownBy w' r) (hr : ∀ k, r = some k → ¬ P k ∧ B ≤ k) : Ev B w0 w' P so p b W N m cs ws O :=
  h.keep (fun k hk => hg.block k (h.lt k hk) (fun q => (hr k q.symm).1 hk)) hg.size (h.bel.trans ⟨hg.os, hg.tape, hg.output, hg.size, fun k hk => hg.block k (by have := h.size; omega) (fun q => by have := (hr k q.symm).2; omega)⟩)
/-- One more in each. -/
theorem Two8.app (h : Two8 B w0 w P so p b W N m cs ws O vi vl n fi fl) (x y : Int) (hn : n ≤ 1000) : ∃ p1 c1 w1, (Builtin.append_ #[29, 29] 29 #[vi, .slice (some ⟨w.heap.size, 0, none⟩) 1 1]).run Tryz.prog (w.alloc (.cells #[.int .i64 x] 3)) = .ok (.slice (some ⟨p1, 0, none⟩) (n + 1) c1) w1 ∧
    ∃ p2 c2 w2, (Builtin.append_ #[29, 29] 29 #[vl, .slice (some ⟨w1.heap.size, 0, none⟩) 1 1]).run Tryz.prog (w1.alloc (.cells #[.int .i64 y] 3)) = .ok (.slice (some ⟨p2, 0, none⟩) (n + 1) c2) w2 ∧
    Two8 B w0 w2 P so p b W N m cs ws O (.slice (some ⟨p1, 0, none⟩) (n + 1) c1) (.slice (some ⟨p2, 0, none⟩) (n + 1) c2) (n + 1) (cat n fi (fun _ => x)) (cat n fl (fun _ => y)) := by
  obtain ⟨p1, c1, w1, hr1, hM1, hg1, hat1⟩ := app1 h.ids x h.ev.size hn
  have e1 := h.ev.grown hg1 (fun k hk => ⟨h.pi k hk, (h.ids.lt hk).1⟩)
  have l1 : Mine w1 B vl n fl := h.lens.of_block fun k hk => hg1.block k (h.lens.lt hk).2 (fun r => h.ne k r.symm hk)
  have np1 : ¬ P p1 := fun r => by
    rcases hat1 with q | q
    · exact h.pi _ q r
    · have := h.ev.lt _ r; omega
  have ne1 : vl.ownBlock ≠ some p1 := fun r => by
    rcases hat1 with q | q
    · exact h.ne _ q r
    · have := h.lens.lt r; omega
  have b1 : (Value.slice (some ⟨p1, 0, none⟩) (n + 1) c1).ownBlock = some p1 := rfl
  obtain ⟨p2, c2, w2, hr2, hM2, hg2, hat2⟩ := app1 l1 y e1.size hn
  have e2 := e1.grown hg2 (fun k hk => ⟨h.pl k hk, (l1.lt hk).1⟩)
  have np2 : ¬ P p2 := fun r => by
    rcases hat2 with q | q
    · exact h.pl _ q r
    · have := e1.lt _ r; omega
  have hne : p1 ≠ p2 := fun r => by
    rcases hat2 with q | q
    · exact ne1 (r ▸ q)
    · have := (hM1.lt b1).2; omega
  refine ⟨p1, c1, w1, hr1, p2, c2, w2, hr2, e2, hM1.of_block fun k hk => ?_, hM2, fun k hk => ?_, fun k hk => ?_, fun k hk r => ?_⟩
  · obtain rfl : p1 = k := by simpa [Value.ownBlock] using hk
    exact hg2.block p1 (hM1.lt b1).2 (fun r => ne1 r.symm)
  · obtain rfl : p1 = k := by simpa [Value.ownBlock] using hk
    exact np1
  · obtain rfl : p2 = k := by simpa [Value.ownBlock] using hk
    exact np2
  · obtain rfl : p1 = k := by simpa [Value.ownBlock] using hk
    obtain rfl : p2 = p1 := by simpa [Value.ownBlock] using r
    exact hne rfl
end
theorem at_65 (z : Int) : ∃ a : Nat, wrap64 ((IntKind.u64.wrap z).tmod 65) = a ∧ a < 65 := by
  have h0 : 0 ≤ IntKind.u64.wrap z := by rw [IntKind.wrap_u64]; omega
  generalize IntKind.u64.wrap z = q at h0 ⊢
  rw [Int.tmod_eq_emod_of_nonneg h0]
  have h1 := Int.emod_nonneg q (show (65 : Int) ≠ 0 by omega)
  have h2 := Int.emod_lt_of_pos q (show 0 < (65 : Int) by omega)
  exact ⟨(q % 65).toNat, by rw [IntWalk.wrap64_in _ (by omega)]; omega, by omega⟩
/-- What the rows tell, and what the objects hold. -/
structure Apt (ws : Nat → Int) (O : List Ob) (i : Nat) (fi fl : Nat → Int) : Prop where
  len : O.length = i
  tot_ : tot O ≤ 9 * i
  rows : ∀ (a : Nat) (o : Ob), O[a]? = some o → fi a = o.ref ∧ fl a = o.n
  size : ∀ o ∈ O, o.n ≤ 64
  vals : ∀ (a : Nat) (o : Ob), O[a]? = some o → ∀ j : Nat, j < o.n → ws (o.ad 0 j) = 100 * (a : Int) + (j : Int)
end Go.Proofs.YtojblddfggoecaaGreat
