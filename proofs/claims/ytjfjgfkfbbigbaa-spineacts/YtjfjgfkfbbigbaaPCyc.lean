/- SpineCycles: the law's own rows beside its space; which arrays there must be. -/
import Derived.Test.YtjfjgfkfbbigbaaPWrites
namespace Go.Proofs.Ytjfjgfkfbbigbaa
open Go.RowKit

/-- Those of the first n arrays that are not gone: number and length. -/
def Lst (K : Nat → Int) (Gn : Nat → Bool) : Nat → List (Int × Int)
  | 0 => []
  | n + 1 => Lst K Gn n ++ (if Gn n = true then [] else [((n : Int) + 1, K n)])
def sumP (h : Int) : List (Int × Int) → Int
  | [] => 0
  | p :: r => p.2 + h + sumP h r
theorem sumP_append (h : Int) : ∀ l m : List (Int × Int), sumP h (l ++ m) = sumP h l + sumP h m
  | [], m => by simp [sumP]
  | p :: r, m => by simp only [List.cons_append, sumP, sumP_append h r m]; omega
def sh (z : Ary) : Int × Int := (z.id, z.n)
theorem sum_sz : ∀ xs : List Ary, sumG sz xs = sumP 4 (xs.map (fun z => (z.id, z.n)))
  | [] => rfl
  | x :: r => by simp only [sumG, List.map_cons, sumP, sum_sz r]
theorem sum_wt : ∀ xs : List Ary, sumG wt xs = sumP 2 (xs.map (fun z => (z.id, z.n)))
  | [] => rfl
  | x :: r => by simp only [sumG, List.map_cons, sumP, sum_wt r]
def tot (K : Nat → Int) : Nat → Int
  | 0 => 0
  | n + 1 => tot K n + K n
theorem Lst_le {K : Nat → Int} {Gn : Nat → Bool} : ∀ {n : Nat}, (∀ j, j < n → 0 ≤ K j ∧ K j < 100) → 0 ≤ sumP 2 (Lst K Gn n) ∧ sumP 2 (Lst K Gn n) ≤ tot K n + 2 * n ∧ 0 ≤ tot K n ∧ tot K n ≤ 100 * n
  | 0, _ => by simp [Lst, sumP, tot]
  | n + 1, h => by
    have ih := Lst_le (Gn := Gn) (n := n) fun j hj => h j (by omega)
    have hn := h n (by omega)
    simp only [Lst, tot, sumP_append]
    split
    · simp only [sumP]; omega
    · simp only [sumP]; omega
theorem Lst_mem {K : Nat → Int} {Gn : Nat → Bool} {p : Int × Int} : ∀ {n : Nat}, p ∈ Lst K Gn n ↔ ∃ j, j < n ∧ Gn j = false ∧ p = ((j : Int) + 1, K j)
  | 0 => by simp [Lst]
  | n + 1 => by
    rw [Lst, List.mem_append, Lst_mem (n := n)]
    constructor
    · rintro (⟨j, h1, h2, h3⟩ | h)
      · exact ⟨j, by omega, h2, h3⟩
      · by_cases hg : Gn n = true
        · simp [hg] at h
        · rw [if_neg hg] at h
          exact ⟨n, by omega, by simpa using hg, by simpa using h⟩
    · rintro ⟨j, h1, h2, h3⟩
      by_cases e : j = n
      · subst e; right; rw [if_neg (by rw [h2]; simp)]; simp [h3]
      · exact .inl ⟨j, by omega, h2, h3⟩
theorem Lst_congr {K K' : Nat → Int} {Gn : Nat → Bool} : ∀ {n : Nat}, (∀ j, j < n → K j = K' j) → Lst K Gn n = Lst K' Gn n
  | 0, _ => rfl
  | n + 1, h => by simp only [Lst]; rw [Lst_congr (n := n) fun j hj => h j (by omega), h n (by omega)]
def updB (G : Nat → Bool) (k : Nat) : Nat → Bool := fun j => if j = k then true else G j
theorem Lst_drop {K : Nat → Int} {Gn : Nat → Bool} (k : Nat) : ∀ (n : Nat), Lst K (updB Gn k) n = (Lst K Gn n).filter (fun p => decide (p.1 ≠ (k : Int) + 1))
  | 0 => rfl
  | n + 1 => by
    simp only [Lst, List.filter_append, Lst_drop k n]
    congr 1
    unfold updB
    by_cases e : n = k
    · subst e
      by_cases hg : Gn n = true
      · simp [hg]
      · simp [hg]
    · have e' : ¬ (n : Int) + 1 = (k : Int) + 1 := by omega
      by_cases hg : Gn n = true
      · simp [e, hg]
      · simp [e, hg, e']
theorem erase_filter : ∀ {xs : List Ary} {k : Nat} {x : Ary}, SortedA xs → xs[k]? = some x → xs.eraseIdx k = xs.filter (fun z => decide (z.id ≠ x.id))
  | [], k, x, _, h => by simp at h
  | y :: r, 0, x, hs, h => by
    simp at h; subst h
    have hy := (List.pairwise_cons.1 hs).1
    have e : r.filter (fun z => decide (z.id ≠ y.id)) = r := List.filter_eq_self.2 fun z hz => by have := hy z hz; simp; omega
    rw [List.eraseIdx_cons_zero, List.filter_cons_of_neg (by simp), e]
  | y :: r, k + 1, x, hs, h => by
    have h' : r[k]? = some x := by simpa using h
    have hy := (List.pairwise_cons.1 hs).1 x (List.mem_of_getElem? h')
    have hs' : SortedA r := (List.pairwise_cons.1 hs).2
    rw [List.eraseIdx_cons_succ, List.filter_cons_of_pos (by simp; omega), erase_filter hs' h']
theorem drop_shape {xs : List Ary} {k : Nat} {x : Ary} (hs : SortedA xs) (h : xs[k]? = some x) : (xs.eraseIdx k).map (fun z => (z.id, z.n)) = (xs.map (fun z => (z.id, z.n))).filter (fun p => decide (p.1 ≠ x.id)) := by
  rw [erase_filter hs h, List.filter_map]; rfl
/-- A law's two rows beside its space. -/
structure Two (B : Nat) (w0 w : World) (P : Nat → Prop) (s b W : Nat) (q : St) (V : Int → Int → Int) (vi vl : Value) (ni nl : Nat) (fi fl : Nat → Int) : Prop where
  env : Env B w0 w P s b W q V
  ids : Mine w B vi ni fi
  lens : Mine w B vl nl fl
  pi : ∀ k, vi.ownBlock = some k → ¬ P k
  pl : ∀ k, vl.ownBlock = some k → ¬ P k
  ne : ∀ k, vi.ownBlock = some k → vl.ownBlock ≠ some k
theorem Mine.of_block {w w' : World} {B : Nat} {v : Value} {n : Nat} {f : Nat → Int} (h : Mine w B v n f) (e : ∀ k, v.ownBlock = some k → w'.heap[k]? = w.heap[k]?) : Mine w' B v n f := by
  refine ⟨h.1, ?_⟩
  rcases h.2 with r | ⟨g, cap, cur, rfl, h1, h2, h3⟩
  · exact .inl r
  · exact .inr ⟨g, cap, cur, rfl, h1, (e g rfl).trans h2, h3⟩
section
variable {B : Nat} {w0 w : World} {P : Nat → Prop} {s b W : Nat} {q : St} {V : Int → Int → Int} {vi vl : Value} {ni nl : Nat} {fi fl : Nat → Int}
theorem Mine.lt {v : Value} {n : Nat} {f : Nat → Int} (h : Mine w B v n f) {k : Nat} (hk : v.ownBlock = some k) : B ≤ k ∧ k < w.heap.size := World.ownsRow.lt h k hk
theorem Two.turn {w' : World} {q' : St} {V' : Int → Int → Int} (h : Two B w0 w P s b W q V vi vl ni nl fi fl) (ht : EnvT B w0 w P s b W q' V' w') : ∃ P', Two B w0 w' P' s b W q' V' vi vl ni nl fi fl ∧ Bt P w w' ∧ Wider P P' w := by
  obtain ⟨P', hE, hB, hW⟩ := ht
  refine ⟨P', ⟨hE, h.ids.of_block fun k hk => hB.block k (h.ids.lt hk).2 (h.pi k hk), h.lens.of_block fun k hk => hB.block k (h.lens.lt hk).2 (h.pl k hk), fun k hk r => ?_, fun k hk r => ?_, h.ne⟩, hB, hW⟩
  · exact (hW k r).elim (h.pi k hk) (fun r => by have := h.ids.lt hk; omega)
  · exact (hW k r).elim (h.pl k hk) (fun r => by have := h.lens.lt hk; omega)
theorem Two.below {w' : World} (h : Two B w0 w P s b W q V vi vl ni nl fi fl) (hb : Below w.heap.size w w') : Two B w0 w' P s b W q V vi vl ni nl fi fl :=
  ⟨h.env.below hb, h.ids.below hb, h.lens.below hb, h.pi, h.pl, h.ne⟩
theorem Env.grown {w' : World} (h : Env B w0 w P s b W q V) {r : Option Nat} (hg : w.grownBy w' r) (hr : ∀ k, r = some k → ¬ P k ∧ B ≤ k) : Env B w0 w' P s b W q V := by
  obtain ⟨c, hc, hW, bw, bs, v, f, hS, hI⟩ := h.gd
  obtain ⟨o1, o2, o3, o4, o5⟩ := hS.own
  have e : ∀ k, P k → w'.heap[k]? = w.heap[k]? := fun k hk => hg.block k (h.lt k hk) (fun q => (hr k q.symm).1 hk)
  refine ⟨⟨c, hc, hW, bw, bs, v, f, ⟨(e s o1).trans hS.here, ⟨(e b o2).trans hS.ar.here, hS.ar.words.of_block (e _ o3), hS.ar.steps.of_block (e _ o4), hS.ar.part⟩, hS.row.of_block fun k hk => e k (o5 k hk), hS.own⟩, hI⟩, h.own, fun k hk => Nat.lt_of_lt_of_le (h.lt k hk) hg.size, h.bel.trans ⟨hg.os, hg.tape, hg.output, hg.size, fun k hk => hg.block k (by have := h.size; omega) (fun q => by have := (hr k q.symm).2; omega)⟩, Nat.le_trans h.size hg.size⟩
theorem Two.app_ids (h : Two B w0 w P s b W q V vi vl ni nl fi fl) (x : Int) (hn : ni ≤ 1000) : ∃ p cap w', (Builtin.append_ #[36, 36] 36 #[vi, .slice (some ⟨w.heap.size, 0, none⟩) 1 1]).run Try.prog (w.alloc (.cells #[.int .i64 x] 3)) = .ok (.slice (some ⟨p, 0, none⟩) (ni + 1) cap) w' ∧
    Two B w0 w' P s b W q V (.slice (some ⟨p, 0, none⟩) (ni + 1) cap) vl (ni + 1) nl (cat ni fi (fun _ => x)) fl := by
  obtain ⟨p, cap, w', hr, hM, hg, hat⟩ := app1 h.ids x h.env.size hn
  have hp : ∀ k, (Value.slice (some ⟨p, 0, none⟩) (ni + 1) cap).ownBlock = some k → k = p := fun k hk => by simpa [Value.ownBlock] using hk.symm
  refine ⟨p, cap, w', hr, h.env.grown hg (fun k hk => ⟨h.pi k hk, (h.ids.lt hk).1⟩), hM, h.lens.of_block fun k hk => hg.block k (h.lens.lt hk).2 (fun r => h.ne k r.symm hk), fun k hk r => ?_, h.pl, fun k hk r => ?_⟩
  · have e := hp k hk
    subst e
    rcases hat with q | q
    · exact h.pi _ q r
    · have := h.env.lt _ r; omega
  · have e := hp k hk
    subst e
    rcases hat with q | q
    · exact h.ne _ q r
    · have := h.lens.lt r; omega
theorem Two.app_lens (h : Two B w0 w P s b W q V vi vl ni nl fi fl) (x : Int) (hn : nl ≤ 1000) : ∃ p cap w', (Builtin.append_ #[36, 36] 36 #[vl, .slice (some ⟨w.heap.size, 0, none⟩) 1 1]).run Try.prog (w.alloc (.cells #[.int .i64 x] 3)) = .ok (.slice (some ⟨p, 0, none⟩) (nl + 1) cap) w' ∧
    Two B w0 w' P s b W q V vi (.slice (some ⟨p, 0, none⟩) (nl + 1) cap) ni (nl + 1) fi (cat nl fl (fun _ => x)) := by
  obtain ⟨p, cap, w', hr, hM, hg, hat⟩ := app1 h.lens x h.env.size hn
  have hp : ∀ k, (Value.slice (some ⟨p, 0, none⟩) (nl + 1) cap).ownBlock = some k → k = p := fun k hk => by simpa [Value.ownBlock] using hk.symm
  refine ⟨p, cap, w', hr, h.env.grown hg (fun k hk => ⟨h.pl k hk, (h.lens.lt hk).1⟩), h.ids.of_block fun k hk => hg.block k (h.ids.lt hk).2 (fun r => h.ne k hk r.symm), hM, h.pi, fun k hk r => ?_, fun k hk r => ?_⟩
  · have e := hp k hk
    subst e
    rcases hat with q | q
    · exact h.pl _ q r
    · have := h.env.lt _ r; omega
  · have e := hp _ r
    subst e
    rcases hat with q | q
    · exact h.ne _ hk q
    · have := h.ids.lt hk; omega
theorem Mine.form {v : Value} {n : Nat} {f : Nat → Int} (h : Mine w B v n f) : ∃ ao cap, v = .slice ao n cap := by
  rcases h.2 with ⟨rfl, rfl⟩ | ⟨g, cap, cur, rfl, _⟩
  · exact ⟨none, 0, rfl⟩
  · exact ⟨_, _, rfl⟩
theorem Mine.cellAt {ao : Option Addr} {cap n m : Nat} {f : Nat → Int} (h : Mine w B (.slice ao m cap) n f) (hn : 0 < n) : ∃ p, ao = some ⟨p, 0, none⟩ ∧ ∀ i, i < n → w.cell? ⟨p, i, none⟩ = some (.int .i64 (f i)) := by
  obtain ⟨p, c, e, _, _, _, cur, hp, _, _, hc⟩ := h.shape hn
  simp only [Value.slice.injEq] at e
  exact ⟨p, e.1, fun i hi => by simp only [World.cell?, hp]; simpa using hc i hi⟩
end
end Go.Proofs.Ytjfjgfkfbbigbaa
