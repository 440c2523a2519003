/- CollectRoots' own memory beside the heap. -/
import Derived.Test.YtibnipockmnmhaaGreatMC4
namespace Go.Proofs.YtibnipockmnmhaaGreat
open Go.RowKit
/-- Three rows of ints of the law's own, in the array at y, beside a heap of three threads. -/
structure Rl (B : Nat) (w0 w : World) (hb y : Nat) (X : Cm) (Z : Cx) (vl : Nat → Value) (L : Nat → List Int) : Prop where
  cv : CvC B w0 w hb X Z
  row : w.rowIs y 60 3 (fun t => vl t)
  own : ∀ t, t < 3 → Ri w B (vl t) (L t)
  out : ¬ Z.all hb X.T y ∧ ∀ t, t < 3 → ∀ k, (vl t).ownBlock = some k → ¬ Z.all hb X.T k
  dis : ∀ s t, s < 3 → t < 3 → s ≠ t → ∀ k, (vl s).ownBlock = some k → (vl t).ownBlock ≠ some k
  low : B ≤ y
  is : X.T = 3 ∧ X.ph = 0
section
variable {B : Nat} {w0 w w' : World} {hb y : Nat} {X X' : Cm} {Z : Cx} {vl : Nat → Value} {L : Nat → List Int}
theorem Rl.heap (H : Rl B w0 w hb y X Z vl L) (hT : CcT B w0 w hb Z X' w') (e1 : X'.T = X.T) (e2 : X'.ph = X.ph) : ∃ Z', Rl B w0 w' hb y X' Z' vl L := by
  obtain ⟨Z', h1, h2, h3⟩ := hT
  rw [e1] at h2 h3
  have hy := H.row.lt
  have far : ∀ k, k < w.heap.size → ¬ Z.all hb X.T k → ¬ Z'.all hb X.T k ∧ w'.heap[k]? = w.heap[k]? := fun k hk hn => ⟨fun r => (h3 k r).elim hn (fun q => by omega), h2.block k hk hn⟩
  refine ⟨Z', h1, H.row.of_block (far y hy H.out.1).2, fun t ht => (H.own t ht).of_block fun k hk => (far k ((H.own t ht).lt hk).2 (H.out.2 t ht k hk)).2, ?_, H.dis, H.low, ?_⟩
  · rw [e1]
    exact ⟨(far y hy H.out.1).1, fun t ht k hk => (far k ((H.own t ht).lt hk).2 (H.out.2 t ht k hk)).1⟩
  · rw [e1, e2]; exact H.is
theorem Rl.below (H : Rl B w0 w hb y X Z vl L) (b : Below w.heap.size w w') : Rl B w0 w' hb y X Z vl L :=
  ⟨H.cv.below b, H.row.of_block (b.block y H.row.lt), fun t ht => (H.own t ht).below b, H.out, H.dis, H.low, H.is⟩
theorem rl_app (H : Rl B w0 w hb y X Z vl L) {t : Nat} (ht : t < 3) (hl : (L t).length ≤ 100) (x : Int) : ∃ ao cap ao' cap' w3, vl t = .slice ao (L t).length cap ∧ (appC #[39, 39] 39 #[.slice ao (L t).length cap, .slice (some ⟨w.heap.size, 0, none⟩) 1 1]).run Tryz.prog (w.alloc (.cells #[.int .i64 x] 3)) = .ok (.slice ao' ((L t).length + 1) cap') w3 ∧
    ((w.cell? ⟨y, t, none⟩ = some (.slice ao (L t).length cap) ∧ y < w.heap.size) ∧ w3.cell? ⟨y, t, none⟩ = some (.slice ao (L t).length cap) ∧ y < w3.heap.size ∧ w3.frozen? ⟨y, t, none⟩ = false) ∧ Rl B w0 (w3.setCell ⟨y, t, none⟩ (.slice ao' ((L t).length + 1) cap')) hb y X Z (fun i => if i = t then .slice ao' ((L t).length + 1) cap' else vl i) (setL L t (L t ++ [x])) := by
  have hU := H.own t ht
  obtain ⟨ao, cap, e⟩ := hU.form
  obtain ⟨ao', cap', w3, hrun, hU3, hg, hat⟩ := hU.more x H.cv.hv.size (by omega) (heap_alloc_new w (.cells #[.int .i64 x] 3)) ((Below.refl _ _).alloc (Nat.le_refl _) _)
  have hy := H.row.lt
  have hney : ∀ s, s < 3 → ∀ k, (vl s).ownBlock = some k → k ≠ y := fun s hs k hk q => by
    subst q
    obtain ⟨cur, h2⟩ := (H.own s hs).kind hk
    obtain ⟨c0, h1, _⟩ := H.row
    rw [h1] at h2; simp at h2
  have hr3 : w3.rowIs y 60 3 (fun i => vl i) := H.row.of_block (hg.block y hy (fun q => hney t ht y q.symm rfl))
  have hne3 : ∀ k, (Value.slice ao' ((L t).length + 1) cap').ownBlock = some k → k ≠ y := fun k hk q => by
    subst q
    obtain ⟨cur, h2⟩ := hU3.kind hk
    obtain ⟨c0, h1, _⟩ := hr3
    rw [h1] at h2; simp at h2
  have hnew : ∀ k, (Value.slice ao' ((L t).length + 1) cap').ownBlock = some k → (vl t).ownBlock = some k ∨ w.heap.size ≤ k := fun k hk => by
    rcases hat with q | ⟨j, q1, q2⟩
    · exact .inl (by rw [← q]; exact hk)
    · rw [hk] at q1; simp at q1; exact .inr (by omega)
  have c3 := hr3.cell ht
  refine ⟨ao, cap, ao', cap', w3, e, by rw [← e]; exact hrun, ⟨⟨by rw [H.row.cell ht, e], hy⟩, by rw [c3, e], hr3.lt, hr3.frozen t⟩, ?_⟩
  have hblk : ∀ k, k < w.heap.size → k ≠ y → (vl t).ownBlock ≠ some k → (w3.setCell ⟨y, t, none⟩ (.slice ao' ((L t).length + 1) cap')).heap[k]? = w.heap[k]? := fun k hk n1 n2 => (heap_put _ _ n1).trans (hg.block k hk (fun q => n2 q.symm))
  have hs : w.heap.size ≤ (w3.setCell ⟨y, t, none⟩ (.slice ao' ((L t).length + 1) cap')).heap.size := by have := hg.size; simp [World.setCell]; omega
  refine ⟨H.cv.keep (fun k hk => hblk k (H.cv.all_lt hk) (fun q => H.out.1 (by rw [← q]; exact hk)) (fun q => H.out.2 t ht k q hk)) hs (H.cv.hv.bel.trans ⟨hg.os, hg.tape, hg.output, hs, fun k hk => hblk k (Nat.lt_of_lt_of_le hk H.cv.hv.size) (by have := H.low; omega) (fun q => by have := (hU.lt q).1; omega)⟩), (hr3.set t _).congr (fun i _ => ?_), fun s hs3 => ?_, ⟨H.out.1, fun s hs3 k hk => ?_⟩, fun s r hs3 hr3' hsr k hk => ?_, H.low, H.is⟩
  · by_cases q : i = t <;> simp [q]
  · show Ri _ B (if s = t then _ else vl s) (setL L t (L t ++ [x]) s)
    unfold setL
    by_cases q : s = t
    · rw [if_pos q, if_pos q]
      exact hU3.of_block fun k hk => heap_put _ _ (hne3 k hk)
    · rw [if_neg q, if_neg q]
      exact (H.own s hs3).of_block fun k hk => hblk k ((H.own s hs3).lt hk).2 (hney s hs3 k hk) (fun z => H.dis t s ht hs3 (fun z => q z.symm) k z hk)
  · by_cases q : s = t
    · have hk2 : (Value.slice ao' ((L t).length + 1) cap').ownBlock = some k := by simpa [q] using hk
      rcases hnew k hk2 with z | z
      · exact H.out.2 t ht k z
      · exact fun r => by have := H.cv.all_lt r; omega
    · exact H.out.2 s hs3 k (by simpa [q] using hk)
  · by_cases q : s = t
    · have hk2 : (Value.slice ao' ((L t).length + 1) cap').ownBlock = some k := by simpa [q] using hk
      have q2 : r ≠ t := fun z => hsr (by rw [q, z])
      intro hr
      have hr2 : (vl r).ownBlock = some k := by simpa [q2] using hr
      rcases hnew k hk2 with z | z
      · exact H.dis t r ht hr3' (fun z => q2 z.symm) k z hr2
      · have := ((H.own r hr3').lt hr2).2; omega
    · have hk2 : (vl s).ownBlock = some k := by simpa [q] using hk
      intro hr
      by_cases q2 : r = t
      · have hr2 : (Value.slice ao' ((L t).length + 1) cap').ownBlock = some k := by simpa [q2] using hr
        rcases hnew k hr2 with z | z
        · exact H.dis t s ht hs3 (fun z => q z.symm) k z hk2
        · have := ((H.own s hs3).lt hk2).2; omega
      · exact H.dis s r hs3 hr3' hsr k hk2 (by simpa [q2] using hr)
theorem ri_made {w : World} {B p : Nat} {xs : List Int} {cs : Array Value} (h : w.heap[p]? = some (.cells cs 3 (0, 0))) (hc : cs.toList = xs.map (fun u => Value.int .i64 u)) (hB : B ≤ p) (hl : xs.length ≤ 100) : Ri w B (.slice (some ⟨p, 0, none⟩) xs.length xs.length) xs := by
  have hs : cs.size = xs.length := by rw [← Array.length_toList, hc, List.length_map]
  refine ⟨by rw [List.length_map]; omega, .inr ⟨p, xs.length, cs, rfl, hB, h, Nat.le_refl _, by unfold maxLen; omega, by omega, ?_⟩⟩
  rw [hc, List.take_of_length_le (by rw [List.length_map]; omega)]
/-- The rows as they begin. -/
def lst (a b : Int) (t : Nat) : List Int := if t = 0 then [a] else if t = 1 then [b] else []
theorem rl_start (H : CvC B w0 w hb X Z) (h1 : X.T = 3 ∧ X.ph = 0) (a b : Int) : ∃ vl, Rl B w0 ((((w.alloc (.cells #[.int .i64 a] 3)).alloc (.cells #[.int .i64 b] 3)).alloc (.cells #[] 3)).alloc (.cells #[.slice (some ⟨w.heap.size, 0, none⟩) 1 1, .slice (some ⟨w.heap.size + 1, 0, none⟩) 1 1, .slice (some ⟨w.heap.size + 1 + 1, 0, none⟩) 0 0] 60)) hb (w.heap.size + 1 + 1 + 1) X Z vl (lst a b) := by
  obtain ⟨W1, e1⟩ : ∃ W1, W1 = w.alloc (.cells #[.int .i64 a] 3) := ⟨_, rfl⟩
  obtain ⟨W2, e2⟩ : ∃ W2, W2 = W1.alloc (.cells #[.int .i64 b] 3) := ⟨_, rfl⟩
  obtain ⟨W3, e3⟩ : ∃ W3, W3 = W2.alloc (.cells #[] 3) := ⟨_, rfl⟩
  obtain ⟨W4, e4⟩ : ∃ W4, W4 = W3.alloc (.cells #[.slice (some ⟨w.heap.size, 0, none⟩) 1 1, .slice (some ⟨w.heap.size + 1, 0, none⟩) 1 1, .slice (some ⟨w.heap.size + 1 + 1, 0, none⟩) 0 0] 60) := ⟨_, rfl⟩
  rw [← e1, ← e2, ← e3, ← e4]
  have s1 : W1.heap.size = w.heap.size + 1 := by rw [e1, Go.Deep.nblk_alloc]
  have s2 : W2.heap.size = w.heap.size + 1 + 1 := by rw [e2, Go.Deep.nblk_alloc, s1]
  have s3 : W3.heap.size = w.heap.size + 1 + 1 + 1 := by rw [e3, Go.Deep.nblk_alloc, s2]
  have z1 : W1.heap[w.heap.size]? = some (.cells #[.int .i64 a] 3 (0, 0)) := by rw [e1]; exact heap_alloc_new w _
  have z2 : W2.heap[w.heap.size + 1]? = some (.cells #[.int .i64 b] 3 (0, 0)) := by have h := heap_alloc_new W1 (.cells #[.int .i64 b] 3); rw [s1] at h; rw [e2]; exact h
  have z3 : W3.heap[w.heap.size + 1 + 1]? = some (.cells #[] 3 (0, 0)) := by have h := heap_alloc_new W2 (.cells #[] 3); rw [s2] at h; rw [e3]; exact h
  have z4 : W4.heap[w.heap.size + 1 + 1 + 1]? = some (.cells #[.slice (some ⟨w.heap.size, 0, none⟩) 1 1, .slice (some ⟨w.heap.size + 1, 0, none⟩) 1 1, .slice (some ⟨w.heap.size + 1 + 1, 0, none⟩) 0 0] 60 (0, 0)) := by
    have h := heap_alloc_new W3 (.cells #[.slice (some ⟨w.heap.size, 0, none⟩) 1 1, .slice (some ⟨w.heap.size + 1, 0, none⟩) 1 1, .slice (some ⟨w.heap.size + 1 + 1, 0, none⟩) 0 0] 60); rw [s3] at h; rw [e4]; exact h
  have k4 : ∀ k, k < W3.heap.size → W4.heap[k]? = W3.heap[k]? := fun k hk => by rw [e4]; exact Below.heap_alloc _ _ _ hk
  have k3 : ∀ k, k < W2.heap.size → W3.heap[k]? = W2.heap[k]? := fun k hk => by rw [e3]; exact Below.heap_alloc _ _ _ hk
  have k2 : ∀ k, k < W1.heap.size → W2.heap[k]? = W1.heap[k]? := fun k hk => by rw [e2]; exact Below.heap_alloc _ _ _ hk
  have y1 := (k4 w.heap.size (by omega)).trans ((k3 w.heap.size (by omega)).trans ((k2 w.heap.size (by omega)).trans z1))
  have y2 := (k4 (w.heap.size + 1) (by omega)).trans ((k3 (w.heap.size + 1) (by omega)).trans z2)
  have y3 := (k4 (w.heap.size + 1 + 1) (by omega)).trans z3
  have bb : Below w.heap.size w W4 := by
    rw [e4, e3, e2, e1]
    exact ((((Below.refl _ w).alloc (Nat.le_refl _) _).alloc (by rw [Go.Deep.nblk_alloc]; omega) _).alloc (by rw [Go.Deep.nblk_alloc, Go.Deep.nblk_alloc]; omega) _).alloc (by rw [Go.Deep.nblk_alloc, Go.Deep.nblk_alloc, Go.Deep.nblk_alloc]; omega) _
  have hB := H.hv.size
  have hall : ∀ k, Z.all hb X.T k → k < w.heap.size := fun k hk => H.all_lt hk
  have own : ∀ t, t < 3 → ∀ k, (if t = 0 then Value.slice (some ⟨w.heap.size, 0, none⟩) 1 1 else if t = 1 then .slice (some ⟨w.heap.size + 1, 0, none⟩) 1 1 else .slice (some ⟨w.heap.size + 1 + 1, 0, none⟩) 0 0).ownBlock = some k → k = w.heap.size + t := fun t ht k hk => by
    rcases (show t = 0 ∨ t = 1 ∨ t = 2 by omega) with q | q | q <;> subst q <;> simp [Value.ownBlock] at hk <;> omega
  refine ⟨fun t => if t = 0 then .slice (some ⟨w.heap.size, 0, none⟩) 1 1 else if t = 1 then .slice (some ⟨w.heap.size + 1, 0, none⟩) 1 1 else .slice (some ⟨w.heap.size + 1 + 1, 0, none⟩) 0 0, H.below bb, ⟨_, z4, rfl, fun t ht => ?_⟩, fun t ht => ?_, ⟨fun q => by have := hall _ q; omega, fun t ht k hk q => by have := hall _ q; have := own t ht k hk; omega⟩, fun s t hs ht hn k hk hk2 => by have := own s hs k hk; have := own t ht k hk2; omega, by omega, h1⟩
  · rcases (show t = 0 ∨ t = 1 ∨ t = 2 by omega) with q | q | q <;> subst q <;> rfl
  · rcases (show t = 0 ∨ t = 1 ∨ t = 2 by omega) with q | q | q <;> subst q
    · exact ri_made (xs := [a]) y1 rfl (by omega) (by simp)
    · exact ri_made (xs := [b]) y2 rfl (by omega) (by simp)
    · exact ri_made (xs := []) y3 rfl (by omega) (by simp)
end
end Go.Proofs.YtibnipockmnmhaaGreat
