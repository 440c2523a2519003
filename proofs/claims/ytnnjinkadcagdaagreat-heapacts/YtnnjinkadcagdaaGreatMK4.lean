/- HeapActs: make and word, whatever they are called with. -/
import Derived.Test.YtnnjinkadcagdaaGreatMK1
import Derived.Test.YtnnjinkadcagdaaGreatMK3
namespace Go.Proofs.YtnnjinkadcagdaaGreat
open Go.RowKit
section
variable {B : Nat} {w0 w : World} {P : Nat → Prop} {h W G m : Nat} {c : Int → Int} {S : List (Option Cel)} {F : Nat → Nat → Int} {y : Nat} {va : Value} {L : List Lc}
theorem Agr9.few (hA : Agr9 S F L) (H : Play9 B w0 w P h W G m c S F y va L) : L.length ≤ 1000 := by
  have h1 := cnt_sum S
  have h2 := H.hv.facts
  have h3 := hA.cnt
  have h4 : roomW W = (W + 3) / 4 := rfl
  omega
theorem mk9_any (H : Play9 B w0 w P h W G m c S F y va L) (hA : Agr9 S F L) (hm : m ≤ 3000) (K A q C I V : Int) :
    Calls Tryz.prog 25 #[.pointer (some ⟨y, 0, none⟩), .agg #[.int .i64 K, .int .i64 A, .int .i64 q, .int .i64 C, .int .i64 I, .int .i64 V]] w (ActPost9 B w0 h W G (m + 1) y) := by
  have hL := hA.few H
  by_cases a0 : A < 0
  · exact mk9_neg H hA K A q C I V a0
  by_cases a1 : (G : Int) ≤ A
  · exact mk9_far H hA K A q C I V a1
  have ha : 0 ≤ A ∧ A < G := by omega
  by_cases k0 : C < 1
  · exact mk9_kneg H hA K A q C I V ha k0
  by_cases k1 : 4 < C
  · exact mk9_kfar H hA K A q C I V ha k1
  have hk : 1 ≤ C ∧ C ≤ 4 := by omega
  by_cases hn : kmin C ≤ V ∧ V ≤ kmax C
  · by_cases i0 : I < 0
    · exact mk9_class H hA K A q C I V ha hk hn i0
    · by_cases hf : (roomW W : Int) - sumS S < V + 16
      · exact mk9_full H hA K A q C I V ha hk hn (by omega) hf
      · have h0 : 0 ≤ V := by
          have : 0 ≤ kmin C := by unfold kmin; split <;> omega
          omega
        obtain ⟨n, rfl⟩ := Int.eq_ofNat_of_zero_le h0
        exact mk9_ok H hA hm hL K A q C I n ha hk hn (by omega) (by omega)
  · exact mk9_size H hA K A q C I V ha hk hn
theorem wd9_any (H : Play9 B w0 w P h W G m c S F y va L) (hA : Agr9 S F L) (hm : m ≤ 3000) (K A q C I V t : Int) :
    Calls Tryz.prog 26 #[.pointer (some ⟨y, 0, none⟩), .agg #[.int .i64 K, .int .i64 A, .int .i64 q, .int .i64 C, .int .i64 I, .int .i64 V], .int .i64 t] w (ActPost9 B w0 h W G (m + 1) y) := by
  have hL := hA.few H
  obtain ⟨R, hR⟩ := fnd9_any t L
  by_cases hK : K < 5
  · by_cases a0 : A < 0
    · exact wl9_neg H hA hm hL K A q C I V t R hR hK a0
    by_cases a1 : (G : Int) ≤ A
    · exact wl9_far H hA hm hL K A q C I V t R hR hK a1
    have ha : 0 ≤ A ∧ A < G := by omega
    by_cases hr : R < 0
    · exact wl9_miss H hA hm hL K A q C I V t R hR hK ha hr
    by_cases i0 : I < 0
    · exact wl9_low H hA hm hL K A q C I V t R hR hK ha hr i0
    obtain ⟨i, x, hx, ex, hRi⟩ := hR.got hr
    by_cases i1 : (x.n : Int) ≤ I
    · refine wl9_high H hA hm hL K A q C I V t R hR hK ha hr (by omega) fun i' x' e hx' => ?_
      obtain rfl : i = i' := by omega
      rw [hx] at hx'
      cases hx'
      exact i1
    obtain ⟨j, rfl⟩ := Int.eq_ofNat_of_zero_le (show 0 ≤ I by omega)
    by_cases hkd : x.kind = 1
    · exact wl9_obj H hA hm hL K A q C j V t R hR hK ha hr i x hRi hx ex j rfl (by omega) hkd
    · exact wl9_arr H hA hm hL K A q C j V t R hR hK ha hr i x hRi hx ex j rfl (by omega) hkd
  · by_cases a0 : A < 0
    · exact wp9_neg H hA hm hL K A q C I V t R hR hK a0
    by_cases a1 : (G : Int) ≤ A
    · exact wp9_far H hA hm hL K A q C I V t R hR hK a1
    have ha : 0 ≤ A ∧ A < G := by omega
    by_cases hr : R < 0
    · exact wp9_miss H hA hm hL K A q C I V t R hR hK ha hr
    by_cases i0 : I < 0
    · exact wp9_low H hA hm hL K A q C I V t R hR hK ha hr i0
    obtain ⟨i, x, hx, ex, hRi⟩ := hR.got hr
    by_cases i1 : (x.n : Int) ≤ I
    · refine wp9_high H hA hm hL K A q C I V t R hR hK ha hr (by omega) fun i' x' e hx' => ?_
      obtain rfl : i = i' := by omega
      rw [hx] at hx'
      cases hx'
      exact i1
    obtain ⟨j, rfl⟩ := Int.eq_ofNat_of_zero_le (show 0 ≤ I by omega)
    by_cases hkd : x.kind = 1
    · exact wp9_obj H hA hm hL K A q C j V t R hR hK ha hr i x hRi hx ex j rfl (by omega) hkd
    · exact wp9_arr H hA hm hL K A q C j V t R hR hK ha hr i x hRi hx ex j rfl (by omega) hkd
end
end Go.Proofs.YtnnjinkadcagdaaGreat
/- HeapActs: a row of all cells but one. -/
namespace Go.Proofs.YtnnjinkadcagdaaGreat
open Go.RowKit
section
variable {w W : World} {B : Nat} {e : TypeId} {k : Nat} {v : Value} {R : List (List Value)}
theorem Rs.flat {p m cap : Nat} (h : Rs w B e k (.slice (some ⟨p, 0, none⟩) m cap) R) {j : Nat} {u : Value} (hj : R.flatten[j]? = some u) : w.cell? ⟨p, j, none⟩ = some u := by
  rcases h.own.2 with ⟨q, _⟩ | ⟨g, cap', cur, q, h1, h2, h3, h4, h5, h6⟩
  · simp at q
  · simp only [Value.slice.injEq, Option.some.injEq, Addr.mk.injEq, and_true] at q
    obtain ⟨rfl, rfl, rfl⟩ := q
    rw [← h6, List.getElem?_take] at hj
    split at hj
    · simp only [World.cell?, h2]
      simpa using hj
    · cases hj
/-- Some more, behind them. -/
theorem Rs.adds {P : Program} (h : Rs w B e k v R) {t : TypeId} {i : TypeInfo} {z : Value} {bytes : Nat} (ht : P.underlying t = some (.slice e)) (hi : P.info? e = some i) (hz : i.zero = some z) (hs : i.size = k) (hb : i.bytes = bytes) (hzs : z.cells.size = k) (hk : 0 < k) (hby : bytes ≤ 1000) (hbW : Below w.heap.size w W) (hB : B ≤ w.heap.size)
    (a : Addr) (m c : Nat) (N : List (List Value)) (hl : N.length = m) (hN : ∀ r ∈ N, r.length = k) (hc : ∀ j u, N.flatten[j]? = some u → W.cell? (a.add j) = some u) (h1 : ∀ r ∈ N, ∀ u ∈ r, u.oneCell' = true) (hn : R.length + m ≤ 10000) :
    ∃ v' w', (Builtin.append_ #[t, t] t #[v, .slice (some a) m c]).run P W = .ok v' w' ∧ Rs w' B e k v' (R ++ N) ∧ w.grownBy w' v.ownBlock ∧ (v'.ownBlock = v.ownBlock ∨ ∃ j, v'.ownBlock = some j ∧ w.heap.size ≤ j) := by
  obtain ⟨v', w', hrun, hown, hg, _, hat⟩ := run_append_own_at (P := P) W B t t e i z k bytes ht hi hz hs hb hzs hk v R.length R.flatten (h.below hbW).own a m c N.flatten (by rw [flat_len N hN, hl]) hc (fun u hu => by
    obtain ⟨r, hr, hu2⟩ := List.mem_flatten.1 hu
    exact h1 r hr u hu2) (by unfold maxLen; omega) (Nat.le_trans (Nat.mul_le_mul hn hby) (by omega)) (Nat.le_trans hB hbW.size)
  refine ⟨v', w', hrun, ⟨?_, fun r hr => ?_⟩, ⟨hg.os.trans hbW.os, hg.tape.trans hbW.tape, hg.output.trans hbW.output, Nat.le_trans hbW.size hg.size, fun j hj q => (hg.block j (Nat.lt_of_lt_of_le hj hbW.size) q).trans (hbW.block j hj)⟩, ?_⟩
  · rw [List.flatten_append, List.length_append, hl]
    exact hown
  · rcases List.mem_append.1 hr with q | q
    · exact h.len r q
    · exact hN r q
  · rcases hat with q | q
    · exact .inl q
    · exact .inr ⟨_, q, hbW.size⟩
/-- A new row of all but the n-th: what the two appends do. x2: where the second slice lies. -/
theorem Rs.del {t : TypeId} {i : TypeInfo} {z : Value} {bytes : Nat} (ht : Tryz.prog.underlying t = some (.slice e)) (hi : Tryz.prog.info? e = some i) (hz : i.zero = some z) (hs : i.size = k) (hb : i.bytes = bytes) (hzs : z.cells.size = k) (hk : 0 < k) (hby : bytes ≤ 1000) {p cap : Nat} (h : Rs w B e k (.slice (some ⟨p, 0, none⟩) R.length cap) R) (h1 : ∀ r ∈ R, ∀ u ∈ r, u.oneCell' = true) (hB : B ≤ w.heap.size) {n : Nat} (hn : n < R.length) (hR : R.length ≤ 1000) (x2 : Addr) (hx2 : x2 = ⟨p, (n + 1) * k, none⟩ ∨ n + 1 = R.length) (c2 : Nat) :
    ∃ v1 w1 v2 w2, (Builtin.append_ #[t, t] t #[.slice (some ⟨w.heap.size, 0, none⟩) 0 0, .slice (some ⟨p, 0, none⟩) n cap]).run Tryz.prog (w.alloc (.cells #[] e)).drew = .ok v1 w1 ∧
      (Builtin.append_ #[t, t] t #[v1, .slice (some x2) (R.length - (n + 1)) c2]).run Tryz.prog w1 = .ok v2 w2 ∧ Rs w2 B e k v2 (R.eraseIdx n) ∧ w.grownBy w2 none ∧ w.grownBy w1 none ∧ (∀ j, v2.ownBlock = some j → w.heap.size ≤ j) := by
  have hb0 : Below w.heap.size w (w.alloc (.cells #[] e)).drew := ((Below.refl _ _).alloc (Nat.le_refl _) _).drew
  have hp : p < w.heap.size := (h.lt rfl).2
  have hz0 : Rs (w.alloc (.cells #[] e)) w.heap.size e k (.slice (some ⟨w.heap.size, 0, none⟩) 0 0) [] := ⟨World.ownsRow_made w #[] 0 (Nat.le_refl _) (by decide) (by simp), fun r hr => by simp at hr⟩
  have hsz : (w.alloc (.cells #[] e)).heap.size = w.heap.size + 1 := Go.Deep.nblk_alloc _ _
  have hcell : ∀ (W : World), W.heap[p]? = w.heap[p]? → ∀ j u, R.flatten[j]? = some u → W.cell? ⟨p, j, none⟩ = some u := fun W e j u hu => (World.cell?_of_block (a := ⟨p, j, none⟩) e).trans (h.flat hu)
  have e1 : R.flatten = (R.take n).flatten ++ (R.drop n).flatten := by rw [← List.flatten_append, List.take_append_drop]
  have e2 : R.flatten = (R.take (n + 1)).flatten ++ (R.drop (n + 1)).flatten := by rw [← List.flatten_append, List.take_append_drop]
  have l2 : (R.take (n + 1)).flatten.length = (n + 1) * k := by
    rw [flat_len _ (fun r hr => h.len r (List.mem_of_mem_take hr)), List.length_take, Nat.min_eq_left (by omega)]
  obtain ⟨v1, w1, hr1, hR1, hg1, hat1⟩ := hz0.adds ht hi hz hs hb hzs hk hby (Below.refl _ _).drew (by omega) ⟨p, 0, none⟩ n cap (R.take n) (by rw [List.length_take]; omega) (fun r hr => h.len r (List.mem_of_mem_take hr)) (by
    intro j u hj
    rw [add_lit, Nat.zero_add]
    have hj2 : R.flatten[j]? = some u := by rw [e1, List.getElem?_append_left (List.getElem?_eq_some_iff.1 hj).1]; exact hj
    exact hcell _ (hb0.block p hp) j u hj2) (fun r hr => h1 r (List.mem_of_mem_take hr)) (by simp; omega)
  rw [List.nil_append] at hR1
  have g1 : w.grownBy w1 none := ⟨hg1.os, hg1.tape, hg1.output, by have := hg1.size; rw [hsz] at this; omega, fun j hj _ => (hg1.block j (by rw [hsz]; omega) (fun r => by simp only [Value.ownBlock, Option.some.injEq] at r; omega)).trans (Below.heap_alloc _ _ j hj)⟩
  obtain ⟨v2, w2, hr2, hR2, hg2, hat2⟩ := hR1.adds ht hi hz hs hb hzs hk hby (Below.refl _ _) (by have := g1.size; omega) x2 (R.length - (n + 1)) c2 (R.drop (n + 1)) (by rw [List.length_drop]) (fun r hr => h.len r (List.mem_of_mem_drop hr)) (by
    intro j u hj
    have hj2 : R.flatten[(n + 1) * k + j]? = some u := by rw [e2, List.getElem?_append_right (by rw [l2]; omega), l2, show (n + 1) * k + j - (n + 1) * k = j by omega]; exact hj
    rcases hx2 with rfl | q
    · rw [add_lit]
      exact hcell w1 (g1.block p hp (by simp)) _ u hj2
    · rw [q, List.drop_length] at hj; simp at hj) (fun r hr => h1 r (List.mem_of_mem_drop hr)) (by rw [List.length_take]; omega)
  have own1 : ∀ j, v1.ownBlock = some j → w.heap.size ≤ j := fun j hj => (hR1.lt hj).1
  refine ⟨v1, w1, v2, w2, hr1, hr2, ?_, ⟨hg2.os.trans g1.os, hg2.tape.trans g1.tape, hg2.output.trans g1.output, Nat.le_trans g1.size hg2.size, fun j hj _ => (hg2.block j (Nat.lt_of_lt_of_le hj g1.size) (fun r => by have := own1 j r.symm; omega)).trans (g1.block j hj (by simp))⟩, g1, fun j hj => (hR2.lt hj).1⟩
  have hR3 : Rs w2 w.heap.size e k v2 (R.eraseIdx n) := by rw [List.eraseIdx_eq_take_drop_succ]; exact hR2
  exact hR3.lower hB
end
theorem map_erase9 {α β : Type} (g : α → β) : ∀ (L : List α) (k : Nat), (L.map g).eraseIdx k = (L.eraseIdx k).map g
  | [], k => rfl
  | a :: r, 0 => rfl
  | a :: r, k + 1 => by simp only [List.map_cons, List.eraseIdx_cons_succ, map_erase9 g r k]
theorem sumL_erase : ∀ (L : List Lc) (i : Nat) (x : Lc), L[i]? = some x → sumL (L.eraseIdx i) + (x.n + 16) = sumL L
  | [], i, x, h => by simp at h
  | a :: r, 0, x, h => by simp at h; subst h; simp only [List.eraseIdx_cons_zero, sumL]; omega
  | a :: r, i + 1, x, h => by have := sumL_erase r i x (by simpa using h); simp only [List.eraseIdx_cons_succ, sumL]; omega
section
variable {B : Nat} {w0 w : World} {P : Nat → Prop} {h W G m : Nat} {c : Int → Int} {S : List (Option Cel)} {F : Nat → Nat → Int} {y : Nat} {va : Value} {L : List Lc}
theorem Agr9.freed (hA : Agr9 S F L) {i : Nat} {x : Lc} (hx : L[i]? = some x) {cl : Cel} (hl : S[x.ref]? = some (some cl)) : Agr9 (S.set x.ref none) F (L.eraseIdx i) := by
  have hil : i < L.length := (List.getElem?_eq_some_iff.1 hx).1
  obtain ⟨⟨ad, hlv⟩, _⟩ := hA.live x (List.mem_of_getElem? hx)
  rw [hlv] at hl
  cases hl
  have hsg := sumS_gone S x.ref _ hlv
  refine ⟨fun z hz => ?_, hA.nodup.sublist (List.eraseIdx_sublist ..), fun k cl hk => ?_, ?_, ?_⟩
  · obtain ⟨j, hj, hzj⟩ := List.mem_eraseIdx_iff_getElem?.1 hz
    obtain ⟨⟨a, h1⟩, h2⟩ := hA.live z (List.mem_of_getElem? hzj)
    have hne := hA.ref_ne hx hzj (fun q => hj q.symm)
    exact ⟨⟨a, by rw [List.getElem?_set_ne (fun q => hne q.symm)]; exact h1⟩, h2⟩
  · by_cases q : x.ref = k
    · subst q
      rw [List.getElem?_set_self (List.getElem?_eq_some_iff.1 hlv).1] at hk
      simp at hk
    · rw [List.getElem?_set_ne q] at hk
      obtain ⟨z, hz, ez⟩ := hA.all k cl hk
      obtain ⟨j, hj⟩ := List.getElem?_of_mem hz
      refine ⟨z, List.mem_eraseIdx_iff_getElem?.2 ⟨j, fun r => ?_, hj⟩, ez⟩
      subst r
      rw [hx] at hj
      cases hj
      exact q ez
  · have := hA.cnt
    rw [List.length_eraseIdx, if_pos hil]
    omega
  · have h1 := sumL_erase L i x hx
    have h2 := hA.sum
    have h3 := hsg.1
    simp only at h3
    omega
theorem rowL_one (L : List Lc) : ∀ r ∈ L.map rowL, ∀ u ∈ r, u.oneCell' = true := fun r hr u hu => by
  obtain ⟨x, _, rfl⟩ := List.mem_map.1 hr
  simp only [rowL, List.mem_cons, List.not_mem_nil, or_false] at hu
  rcases hu with rfl | rfl | rfl | rfl <;> rfl
/-- A cell less. -/
theorem Play9.del {p cap : Nat} (H : Play9 B w0 w P h W G m c S F y (.slice (some ⟨p, 0, none⟩) L.length cap) L) {i : Nat} (hi : i < L.length) (hL : L.length ≤ 1000) (x2 : Addr) (hx2 : x2 = ⟨p, (i + 1) * 4, none⟩ ∨ i + 1 = L.length) (c2 : Nat) :
    ∃ v1 w1 ao c8 w2, (appC #[30, 30] 30 #[.slice (some ⟨w.heap.size, 0, none⟩) 0 0, .slice (some ⟨p, 0, none⟩) i cap]).run Tryz.prog (w.alloc (.cells #[] 68)).drew = .ok v1 w1 ∧
      (appC #[30, 30] 30 #[v1, .slice (some x2) (L.length - (i + 1)) c2]).run Tryz.prog w1 = .ok (.slice ao (L.length - 1) c8) w2 ∧ w1.heap[y]? = w.heap[y]? ∧ w2.heap[y]? = w.heap[y]? ∧ Play9 B w0 (w2.setCell ⟨y, 3, none⟩ (.slice ao (L.length - 1) c8)) P h W G m c S F y (.slice ao (L.length - 1) c8) (L.eraseIdx i) := by
  obtain ⟨i0, hi0, hzz⟩ := Option.map_eq_some_iff.1 infoLc
  simp only [Prod.mk.injEq] at hzz
  obtain ⟨hz0, hz1, hz2⟩ := hzz
  have hlen : (L.map rowL).length = L.length := List.length_map _
  have hrow : Rs w B 68 4 (.slice (some ⟨p, 0, none⟩) (L.map rowL).length cap) (L.map rowL) := by rw [hlen]; exact H.row
  obtain ⟨v1, w1, v2, w2, hr1, hr2, hR2, hg2, hg1, hown⟩ := hrow.del (t := 30) Tryz.underlying30 hi0 hz0 hz1 hz2 rfl (by decide) (by omega) (rowL_one L) H.hv.size (n := i) (by rw [hlen]; exact hi) (by rw [hlen]; exact hL) x2 (by rw [hlen]; exact hx2) c2
  rw [map_erase9] at hR2
  obtain ⟨ao, c8, e⟩ := hR2.form
  rw [List.length_map, List.length_eraseIdx, if_pos hi] at e
  subst e
  rw [hlen] at hr2
  have hy1 := hg1.block y H.y_lt (by simp)
  have hy2 := hg2.block y H.y_lt (by simp)
  have hne : ∀ k, (Value.slice ao (L.length - 1) c8).ownBlock = some k → ¬ P k ∧ k ≠ y := fun k hk => ⟨fun r => by have := H.hv.lt _ r; have := hown k hk; omega, fun r => by have := H.y_lt; have := hown k hk; omega⟩
  refine ⟨v1, w1, ao, c8, w2, hr1, hr2, hy1, hy2, ?_⟩
  refine H.remake (r := fun k => k = y) (by simpa [World.setCell] using hg2.size) ⟨hg2.os, hg2.tape, hg2.output⟩ (fun k hk hn => (heap_put _ _ hn).trans (hg2.block k hk (by simp))) (fun k hk => hk ▸ H.py) (set_blk (hy2.trans H.here) 3 _) (hR2.of_block fun k hk => heap_put _ _ (hne k hk).2) (fun x hx => ?_) (H.apart.sublist (List.eraseIdx_sublist ..)) (fun k hk => (hne k hk).1)
  have hx' := List.mem_of_mem_eraseIdx hx
  obtain ⟨a1, a2, a3⟩ := H.words x hx'
  exact ⟨a1.of_block ((heap_put _ _ (H.y_x hx')).trans (hg2.block _ a1.lt (by simp))), a2, a3⟩
end
end Go.Proofs.YtnnjinkadcagdaaGreat
