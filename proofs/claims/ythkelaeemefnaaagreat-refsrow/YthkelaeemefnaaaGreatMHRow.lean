/- Rows of structs, whatever they hold. -/
import Derived.Test.YthkelaeemefnaaaGreatMS5
import Derived.Deep.MidRow
import Derived.Maps.AppendAt
namespace Go.Proofs.YthkelaeemefnaaaGreat
open Go.RowKit
theorem flat_len {k : Nat} : ∀ R : List (List Value), (∀ r ∈ R, r.length = k) → R.flatten.length = R.length * k
  | [], _ => by simp
  | a :: R, h => by
    rw [List.flatten_cons, List.length_append, h a (by simp), flat_len R (fun r hr => h r (by simp [hr])), List.length_cons, Nat.succ_mul]; omega
theorem flat_at {k : Nat} : ∀ (R : List (List Value)), (∀ r ∈ R, r.length = k) → ∀ (i : Nat) (r : List Value), R[i]? = some r → ∀ j, j < k → R.flatten[i * k + j]? = r[j]?
  | [], _, i, r, h, _, _ => by simp at h
  | a :: R, hl, 0, r, h, j, hj => by
    simp at h; subst h
    rw [List.flatten_cons, List.getElem?_append_left (by rw [hl a (by simp)]; omega)]; simp
  | a :: R, hl, i + 1, r, h, j, hj => by
    have ha := hl a (by simp)
    have e : (i + 1) * k = i * k + k := Nat.succ_mul i k
    rw [List.flatten_cons, List.getElem?_append_right (by omega), ha, show (i + 1) * k + j - k = i * k + j by omega]
    exact flat_at R (fun r hr => hl r (by simp [hr])) i r (by simpa using h) j hj
/-- What cells that are written leave of a block. -/
theorem setCells_block {b ty : Nat} : ∀ (vs : List Value) (o : Nat) (w : World) (c : Array Value), w.heap[b]? = some (.cells c ty (0, 0)) → o + vs.length ≤ c.size →
    ∃ c', (w.setCells b o vs).heap[b]? = some (.cells c' ty (0, 0)) ∧ c'.size = c.size ∧ ∀ j, c'[j]? = if o ≤ j ∧ j < o + vs.length then vs[j - o]? else c[j]?
  | [], o, w, c, h, _ => ⟨c, h, rfl, fun j => by rw [if_neg (by simp)]⟩
  | v :: r, o, w, c, h, hl => by
    rw [List.length_cons] at hl
    obtain ⟨c', h1, h2, h3⟩ := setCells_block r (o + 1) (w.setCell ⟨b, o, none⟩ v) _ (set_blk h o v) (by simp; omega)
    refine ⟨c', h1, by simpa using h2, fun j => ?_⟩
    rw [h3 j, List.length_cons, Array.getElem?_setIfInBounds]
    by_cases e : o = j
    · subst e
      rw [if_neg (by omega), if_pos rfl, if_pos (by omega), if_pos (by omega), Nat.sub_self]; rfl
    · rw [if_neg e]
      by_cases e2 : o + 1 ≤ j ∧ j < o + 1 + r.length
      · rw [if_pos e2, if_pos (by omega), show j - o = (j - (o + 1)) + 1 by omega]; simp
      · rw [if_neg e2, if_neg (by omega)]
theorem setCells_else {b k : Nat} (hk : k ≠ b) : ∀ (vs : List Value) (o : Nat) (w : World), (w.setCells b o vs).heap[k]? = w.heap[k]?
  | [], _, _ => rfl
  | _ :: r, o, _ => (setCells_else hk r (o + 1) _).trans (heap_put _ _ hk)
theorem setCells_size (b : Nat) : ∀ (vs : List Value) (o : Nat) (w : World), (w.setCells b o vs).heap.size = w.heap.size
  | [], _, _ => rfl
  | _ :: r, o, _ => (setCells_size b r (o + 1) _).trans (by simp [World.setCell])
theorem setCells_rest (b : Nat) : ∀ (vs : List Value) (o : Nat) (w : World), (w.setCells b o vs).os = w.os ∧ (w.setCells b o vs).tape = w.tape ∧ (w.setCells b o vs).output = w.output
  | [], _, _ => ⟨rfl, rfl, rfl⟩
  | v :: r, o, w => setCells_rest b r (o + 1) (w.setCell ⟨b, o, none⟩ v)
theorem cell_of1 {w w' : World} {a : Addr} (e : w'.heap[a.block]? = w.heap[a.block]?) : w'.cell? a = w.cell? a := by
  unfold World.cell?; rw [e]
theorem cell_in1 {w : World} {a : Addr} {v : Value} (h : w.cell? a = some v) : a.block < w.heap.size := by
  apply Classical.byContradiction
  intro q
  unfold World.cell? at h
  rw [Array.getElem?_eq_none (by omega)] at h
  simp at h
/-- v is a row of structs of k cells each, from block B on. -/
structure Rs (w : World) (B : Nat) (e : TypeId) (k : Nat) (v : Value) (R : List (List Value)) : Prop where
  own : w.ownsRow B e k v R.length R.flatten
  len : ∀ r ∈ R, r.length = k
section
variable {w w' : World} {B : Nat} {e : TypeId} {k : Nat} {v : Value} {R : List (List Value)}
theorem Rs.nil (w : World) (B : Nat) (e : TypeId) (k : Nat) : Rs w B e k (.slice none 0 0) [] := ⟨World.ownsRow_nil w B e k, fun r h => by simp at h⟩
theorem Rs.of_block (h : Rs w B e k v R) (q : ∀ j, v.ownBlock = some j → w'.heap[j]? = w.heap[j]?) : Rs w' B e k v R := by
  refine ⟨⟨h.own.1, ?_⟩, h.len⟩
  rcases h.own.2 with r | ⟨g, cap, cur, rfl, h1, h2, h3⟩
  · exact .inl r
  · exact .inr ⟨g, cap, cur, rfl, h1, (q g rfl).trans h2, h3⟩
theorem Rs.lt (h : Rs w B e k v R) {j : Nat} (hj : v.ownBlock = some j) : B ≤ j ∧ j < w.heap.size := World.ownsRow.lt h.own j hj
theorem Rs.below (h : Rs w B e k v R) (b : Below w.heap.size w w') : Rs w' B e k v R := h.of_block fun j hj => b.block j (h.lt hj).2
theorem Rs.lower (h : Rs w B e k v R) {B' : Nat} (hB : B' ≤ B) : Rs w B' e k v R := by
  refine ⟨⟨h.own.1, ?_⟩, h.len⟩
  rcases h.own.2 with r | ⟨g, cap, cur, rfl, h1, h2⟩
  · exact .inl r
  · exact .inr ⟨g, cap, cur, rfl, Nat.le_trans hB h1, h2⟩
theorem Rs.kind (h : Rs w B e k v R) {j : Nat} (hj : v.ownBlock = some j) : ∃ cur, w.heap[j]? = some (.cells cur e (0, 0)) := by
  rcases h.own.2 with ⟨rfl, _⟩ | ⟨g, cap, cur, rfl, _, h2, _⟩
  · simp [Value.ownBlock] at hj
  · simp only [Value.ownBlock, Option.some.injEq] at hj
    subst hj
    exact ⟨cur, h2⟩
theorem Rs.form (h : Rs w B e k v R) : ∃ ao cap, v = .slice ao R.length cap := by
  rcases h.own.2 with ⟨rfl, h0⟩ | ⟨g, cap, cur, rfl, _⟩
  · exact ⟨none, 0, by rw [h0]⟩
  · exact ⟨_, _, rfl⟩
theorem Rs.cells {ao : Option Addr} {m cap : Nat} (h : Rs w B e k (.slice ao m cap) R) (hn : 0 < R.length) : ∃ p, ao = some ⟨p, 0, none⟩ ∧ (B ≤ p ∧ p < w.heap.size) ∧ (R.length ≤ cap ∧ cap ≤ maxLen) ∧ (∀ j, w.frozen? ⟨p, j, none⟩ = false) ∧ ∀ i r, R[i]? = some r → w.rangeAt p (i * k) r := by
  rcases h.own.2 with ⟨_, h0⟩ | ⟨g, cap', cur, q, h1, h2, h3, h4, h5, h6⟩
  · omega
  · simp only [Value.slice.injEq] at q
    obtain ⟨rfl, rfl, rfl⟩ := q
    refine ⟨g, rfl, ⟨h1, box_lt h2⟩, ⟨h3, h4⟩, fun j => frz h2 j, fun i r hr j u hu => ?_⟩
    have hi : i < R.length := (List.getElem?_eq_some_iff.1 hr).1
    have hj : j < k := by
      have := (List.getElem?_eq_some_iff.1 hu).1
      have := h.len r (List.mem_of_getElem? hr)
      omega
    have hlt : i * k + j < R.length * k := by
      have : (i + 1) * k ≤ R.length * k := Nat.mul_le_mul_right k hi
      have e1 : (i + 1) * k = i * k + k := Nat.succ_mul i k
      omega
    have hf := flat_at R h.len i r hr j hj
    rw [hu, ← h6, List.getElem?_take, if_pos hlt] at hf
    simp only [World.cell?, h2]
    simpa using hf
theorem Rs.set {p m cap : Nat} (h : Rs w B e k (.slice (some ⟨p, 0, none⟩) m cap) R) {i : Nat} (hi : i < R.length) {r : List Value} (hr : r.length = k) : Rs (w.setCells p (i * k) r) B e k (.slice (some ⟨p, 0, none⟩) m cap) (R.set i r) := by
  have hl' : ∀ z ∈ R.set i r, z.length = k := fun z hz => by
    rcases List.mem_or_eq_of_mem_set hz with q | q
    · exact h.len z q
    · rw [q]; exact hr
  rcases h.own.2 with ⟨q, _⟩ | ⟨g, cap', cur, q, h1, h2, h3, h4, h5, h6⟩
  · simp at q
  · simp only [Value.slice.injEq, Option.some.injEq, Addr.mk.injEq, and_true] at q
    obtain ⟨rfl, rfl, rfl⟩ := q
    have e1 : (i + 1) * k = i * k + k := Nat.succ_mul i k
    have e2 : (i + 1) * k ≤ cap * k := Nat.mul_le_mul_right k (by omega)
    obtain ⟨c', g1, g2, g3⟩ := setCells_block r (i * k) w cur h2 (by rw [h5, hr]; omega)
    refine ⟨⟨by rw [flat_len _ hl'], .inr ⟨p, cap, c', by rw [List.length_set], h1, g1, by rw [List.length_set]; exact h3, h4, g2.trans h5, ?_⟩⟩, hl'⟩
    rw [List.length_set]
    apply List.ext_getElem?
    intro j
    by_cases hj : j < R.length * k
    · have hk : 0 < k := Nat.pos_of_ne_zero fun z => by subst z; simp at hj
      have hd : j / k < R.length := Nat.div_lt_of_lt_mul (by rw [Nat.mul_comm]; exact hj)
      have hm := Nat.mod_lt j hk
      have ej : j = (j / k) * k + j % k := by rw [Nat.mul_comm]; exact (Nat.div_add_mod j k).symm
      rw [List.getElem?_take, if_pos hj, Array.getElem?_toList, g3 j, hr]
      generalize hD : j / k = d at *
      generalize hM : j % k = t at *
      rw [ej]
      by_cases e : d = i
      · subst e
        rw [flat_at _ hl' d r (by rw [List.getElem?_set_self hd]) t hm, if_pos (by omega), show d * k + t - d * k = t by omega]
      · obtain ⟨z, hz⟩ : ∃ z, R[d]? = some z := ⟨_, List.getElem?_eq_getElem hd⟩
        have hne : ¬ (i * k ≤ d * k + t ∧ d * k + t < i * k + k) := by
          rcases Nat.lt_or_gt_of_ne e with q | q
          · have := Nat.mul_le_mul_right k (show d + 1 ≤ i by omega)
            rw [Nat.succ_mul] at this; omega
          · have := Nat.mul_le_mul_right k (show i + 1 ≤ d by omega)
            rw [Nat.succ_mul] at this; omega
        rw [if_neg hne, flat_at _ hl' d z (by rw [List.getElem?_set_ne (fun q => e q.symm)]; exact hz) t hm, ← flat_at R h.len d z hz t hm, ← h6, List.getElem?_take, if_pos (by omega), Array.getElem?_toList]
    · rw [List.getElem?_eq_none (by rw [List.length_take]; omega), List.getElem?_eq_none (by rw [flat_len _ hl', List.length_set]; omega)]
/-- One more, behind them. -/
theorem Rs.app {P : Program} (h : Rs w B e k v R) {t ty : TypeId} {i : TypeInfo} {z : Value} {bytes : Nat} (ht : P.underlying t = some (.slice e)) (hi : P.info? e = some i) (hz : i.zero = some z) (hs : i.size = k) (hby : i.bytes = bytes) (hzs : z.cells.size = k) (hk : 0 < k) (x : List Value) (hx : x.length = k) (h1 : ∀ u ∈ x, u.oneCell' = true)
    (hB : B ≤ w.heap.size) (hn : R.length + 1 ≤ maxLen) (hb : (R.length + 1) * bytes ≤ 140737488355328) {W : World} {a : Nat} (hW : W.heap[a]? = some (.cells x.toArray e (0, 0))) (hbW : Below w.heap.size w W) :
    ∃ v' w', (Builtin.append_ #[t, t] ty #[v, .slice (some ⟨a, 0, none⟩) 1 1]).run P W = .ok v' w' ∧ Rs w' B e k v' (R ++ [x]) ∧ w.grownBy w' v.ownBlock ∧ (v'.ownBlock = v.ownBlock ∨ ∃ j, v'.ownBlock = some j ∧ w.heap.size ≤ j) := by
  have hnew : ∀ j u, x[j]? = some u → W.cell? ((⟨a, 0, none⟩ : Addr).add j) = some u := by
    intro j u hu
    rw [add_lit, Nat.zero_add]
    simp only [World.cell?, hW]
    simpa using hu
  obtain ⟨v', w', hrun, hown, hg, _, hat⟩ := run_append_own_at (P := P) W B t ty e i z k bytes ht hi hz hs hby hzs hk v R.length R.flatten (h.below hbW).own ⟨a, 0, none⟩ 1 1 x (by omega) hnew h1 hn hb (Nat.le_trans hB hbW.size)
  refine ⟨v', w', hrun, ⟨?_, fun r hr => ?_⟩, ⟨hg.os.trans hbW.os, hg.tape.trans hbW.tape, hg.output.trans hbW.output, Nat.le_trans hbW.size hg.size, fun j hj q => (hg.block j (Nat.lt_of_lt_of_le hj hbW.size) q).trans (hbW.block j hj)⟩, ?_⟩
  · rw [List.flatten_append, List.length_append]
    simpa using hown
  · rcases List.mem_append.1 hr with q | q
    · exact h.len r q
    · rw [List.mem_singleton.1 q]; exact hx
  · rcases hat with q | q
    · exact .inl q
    · exact .inr ⟨_, q, hbW.size⟩
end
/-- v is a row of these numbers. -/
def Ri (w : World) (B : Nat) (v : Value) (U : List Int) : Prop := w.ownsRow B 3 1 v U.length (U.map fun u => .int .i64 u)
section
variable {w w' : World} {B : Nat} {v : Value} {U : List Int}
theorem Ri.nil (w : World) (B : Nat) : Ri w B (.slice none 0 0) [] := World.ownsRow_nil w B 3 1
theorem Ri.of_block (h : Ri w B v U) (q : ∀ j, v.ownBlock = some j → w'.heap[j]? = w.heap[j]?) : Ri w' B v U := by
  refine ⟨h.1, ?_⟩
  rcases h.2 with r | ⟨g, cap, cur, rfl, h1, h2, h3⟩
  · exact .inl r
  · exact .inr ⟨g, cap, cur, rfl, h1, (q g rfl).trans h2, h3⟩
theorem Ri.lt (h : Ri w B v U) {j : Nat} (hj : v.ownBlock = some j) : B ≤ j ∧ j < w.heap.size := World.ownsRow.lt h j hj
theorem Ri.below (h : Ri w B v U) (b : Below w.heap.size w w') : Ri w' B v U := h.of_block fun j hj => b.block j (h.lt hj).2
theorem Ri.kind (h : Ri w B v U) {j : Nat} (hj : v.ownBlock = some j) : ∃ cur, w.heap[j]? = some (.cells cur 3 (0, 0)) := by
  rcases h.2 with ⟨rfl, _⟩ | ⟨g, cap, cur, rfl, _, h2, _⟩
  · simp [Value.ownBlock] at hj
  · simp only [Value.ownBlock, Option.some.injEq] at hj
    subst hj
    exact ⟨cur, h2⟩
theorem Ri.form (h : Ri w B v U) : ∃ ao cap, v = .slice ao U.length cap := by
  rcases h.2 with ⟨rfl, h0⟩ | ⟨g, cap, cur, rfl, _⟩
  · exact ⟨none, 0, by rw [h0]⟩
  · exact ⟨_, _, rfl⟩
theorem Ri.cells {ao : Option Addr} {m cap : Nat} (h : Ri w B (.slice ao m cap) U) (hn : 0 < U.length) : ∃ p, ao = some ⟨p, 0, none⟩ ∧ (B ≤ p ∧ p < w.heap.size) ∧ (U.length ≤ cap ∧ cap ≤ maxLen) ∧ (∀ j, w.frozen? ⟨p, j, none⟩ = false) ∧ ∀ i u, U[i]? = some u → w.cell? ⟨p, i, none⟩ = some (.int .i64 u) := by
  rcases h.2 with ⟨_, h0⟩ | ⟨g, cap', cur, q, h1, h2, h3, h4, h5, h6⟩
  · omega
  · simp only [Value.slice.injEq] at q
    obtain ⟨rfl, rfl, rfl⟩ := q
    refine ⟨g, rfl, ⟨h1, box_lt h2⟩, ⟨h3, h4⟩, fun j => frz h2 j, fun i u hu => ?_⟩
    have hi : i < U.length := (List.getElem?_eq_some_iff.1 hu).1
    have hf : (U.map fun u => Value.int .i64 u)[i]? = some (.int .i64 u) := by rw [List.getElem?_map, hu]; rfl
    rw [← h6, List.getElem?_take, if_pos (by omega)] at hf
    simp only [World.cell?, h2]
    simpa using hf
/-- All but the last. -/
theorem Ri.cut {p n cap : Nat} {u : Int} (h : Ri w B (.slice (some ⟨p, 0, none⟩) n cap) (U ++ [u])) : Ri w B (.slice (some ⟨p, 0, none⟩) U.length cap) U := by
  rcases h.2 with ⟨q, _⟩ | ⟨g, cap', cur, q, h1, h2, h3, h4, h5, h6⟩
  · simp at q
  · simp only [Value.slice.injEq, Option.some.injEq, Addr.mk.injEq, and_true] at q
    obtain ⟨rfl, rfl, rfl⟩ := q
    rw [List.length_append, List.length_singleton] at h3 h6
    refine ⟨by simp, .inr ⟨p, cap, cur, rfl, h1, h2, by omega, h4, h5, ?_⟩⟩
    have e := congrArg (List.take (U.length * 1)) h6
    rw [List.take_take, Nat.min_eq_left (by omega)] at e
    rw [e, List.map_append]
    simp
theorem Ri.app {P : Program} (h : Ri w B v U) {t ty : TypeId} {i : TypeInfo} {z : Value} {bytes : Nat} (ht : P.underlying t = some (.slice 3)) (hi : P.info? 3 = some i) (hz : i.zero = some z) (hs : i.size = 1) (hby : i.bytes = bytes) (hzs : z.cells.size = 1) (x : Int)
    (hB : B ≤ w.heap.size) (hn : U.length + 1 ≤ maxLen) (hb : (U.length + 1) * bytes ≤ 140737488355328) {W : World} {a : Nat} (hW : W.heap[a]? = some (.cells #[.int .i64 x] 3 (0, 0))) (hbW : Below w.heap.size w W) :
    ∃ ao cap w', (Builtin.append_ #[t, t] ty #[v, .slice (some ⟨a, 0, none⟩) 1 1]).run P W = .ok (.slice ao (U.length + 1) cap) w' ∧ Ri w' B (.slice ao (U.length + 1) cap) (U ++ [x]) ∧ w.grownBy w' v.ownBlock ∧ ((Value.slice ao (U.length + 1) cap).ownBlock = v.ownBlock ∨ ∃ j, (Value.slice ao (U.length + 1) cap).ownBlock = some j ∧ w.heap.size ≤ j) := by
  have hnew : ∀ j u, ([.int .i64 x] : List Value)[j]? = some u → W.cell? ((⟨a, 0, none⟩ : Addr).add j) = some u := by
    intro j u hu
    rw [add_lit, Nat.zero_add]
    simp only [World.cell?, hW]
    simpa using hu
  obtain ⟨v', w', hrun, hown, hg, _, hat⟩ := run_append_own_at (P := P) W B t ty 3 i z 1 bytes ht hi hz hs hby hzs (by decide) v U.length _ (h.below hbW) ⟨a, 0, none⟩ 1 1 [.int .i64 x] rfl hnew (by simp [Value.oneCell']) hn hb (Nat.le_trans hB hbW.size)
  have hR : Ri w' B v' (U ++ [x]) := by unfold Ri; rw [List.map_append, List.length_append]; exact hown
  obtain ⟨ao, cap, e⟩ := hR.form
  rw [List.length_append, List.length_singleton] at e
  subst e
  refine ⟨ao, cap, w', hrun, hR, ⟨hg.os.trans hbW.os, hg.tape.trans hbW.tape, hg.output.trans hbW.output, Nat.le_trans hbW.size hg.size, fun j hj q => (hg.block j (Nat.lt_of_lt_of_le hj hbW.size) q).trans (hbW.block j hj)⟩, ?_⟩
  rcases hat with q | q
  · exact .inl q
  · exact .inr ⟨_, q, hbW.size⟩
end
end Go.Proofs.YthkelaeemefnaaaGreat
