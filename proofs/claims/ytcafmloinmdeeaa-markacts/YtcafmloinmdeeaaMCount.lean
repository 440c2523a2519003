/- How many are black: plain. The law's memory beside the colours: a row of its own. -/
import Derived.Test.YtcafmloinmdeeaaMQue
import Derived.Test.YtcafmloinmdeeaaMAwake
import Derived.Test.YtcafmloinmdeeaaSInts
namespace Go.Proofs.Ytcafmloinmdeeaa
open Go.RowKit
theorem blk_has {c : Nat → Int} {x : Nat} (hc : c x = 3) : ∀ {i}, x < i → x ∈ blk c i := by
  intro i
  induction i with
  | zero => intro h; omega
  | succ i ih =>
    intro h
    by_cases e : x = i
    · subst e; rw [blk_yes hc]; simp
    · have := ih (by omega)
      unfold blk
      split
      · exact List.mem_append_left _ this
      · exact this
theorem blk_nodup (c : Nat → Int) : ∀ i, (blk c i).Nodup
  | 0 => List.nodup_nil
  | i + 1 => by
    unfold blk
    split
    · rw [List.nodup_append]
      refine ⟨blk_nodup c i, by simp, fun a ha b hb e => ?_⟩
      have := (blk_mem ha).1
      have := List.mem_singleton.1 hb
      omega
    · exact blk_nodup c i
/-- Just those of L are black. -/
theorem blk_count {c : Nat → Int} {N : Nat} {L : List Nat} (hn : L.Nodup) (hl : ∀ x, x ∈ L → x < N) (h : ∀ x, x < N → (c x = 3 ↔ x ∈ L)) : (blk c N).length = L.length := by
  have h1 := (blk_nodup c N).length_le_of_subset (l₂ := L) (fun x hx => (h x (blk_mem hx).1).1 (blk_mem hx).2)
  have h2 := hn.length_le_of_subset (l₂ := blk c N) (fun x hx => blk_has ((h x (hl x hx)).2 hx) (hl x hx))
  omega
theorem blk_none {c : Nat → Int} : ∀ {i}, (∀ j, j < i → c j ≠ 3) → blk c i = []
  | 0, _ => rfl
  | i + 1, h => by rw [blk_no (h i (by omega)), blk_none (fun j hj => h j (by omega))]
/-- Black's slice, by its length alone. -/
theorem black_len {w : World} {s bc bi N : Nat} {c : Nat → Int} {q : List Nat} (h : Mk w s bc bi N c q) (m : Nat) (hm : (blk c N).length = m) :
    Calls Try.prog 13 #[.pointer (some ⟨s, 0, none⟩)] w fun e w' => ∃ ao cap, e = .returned (.slice ao m cap) ∧ Below w.heap.size w w' := by
  refine (black_ok h).mono ?_
  rintro e w' ⟨v, rfl, hr, _, hb⟩
  rw [hm] at hr
  rcases hr.2 with ⟨rfl, h0⟩ | ⟨g, cap, cur, rfl, _⟩
  · exact ⟨none, 0, by rw [h0], hb⟩
  · exact ⟨_, _, rfl, hb⟩
/-- A block that a law may keep a row in. -/
def Okq (B s bc bi : Nat) : Nat → Prop := fun g => B ≤ g ∧ ¬ Mb s bc bi g
structure Rw (B : Nat) (w0 u : World) (s bc bi N : Nat) (c : Nat → Int) (q : List Nat) (v : Value) (p : List Nat) : Prop where
  wk : Mk u s bc bi N c q
  row : Que u (Okq B s bc bi) v p
  bel : Below B w0 u
  big : B ≤ u.heap.size
  ap : ∀ k, Mb s bc bi k → B ≤ k
section
variable {B : Nat} {w0 u u' : World} {s bc bi N : Nat} {c c' : Nat → Int} {q q' p : List Nat} {v : Value}
theorem Rw.call (h : Rw B w0 u s bc bi N c q v p) (hM : Mk u' s bc bi N c' q') (k : Bt (Mb s bc bi) u u') : Rw B w0 u' s bc bi N c' q' v p :=
  ⟨hM, h.row.of_blocks fun j hj ho => k.block j hj ho.2, Bt.under h.bel h.big h.ap k, Nat.le_trans h.big k.size, h.ap⟩
theorem Rw.below (h : Rw B w0 u s bc bi N c q v p) (k : Below u.heap.size u u') : Rw B w0 u' s bc bi N c q v p := h.call (h.wk.below k) (Bt.of_below k)
theorem Rw.app (h : Rw B w0 u s bc bi N c q v p) {v' : Value} {p' : List Nat} (hq : Que u' (Okq B s bc bi) v' p') (k : Bt (Okq B s bc bi) u u') : Rw B w0 u' s bc bi N c q v' p' :=
  ⟨h.wk.of_blocks fun j hj => k.block j (h.wk.mb_lt j hj) (fun o => o.2 hj), hq, Bt.under h.bel h.big (fun _ hj => hj.1) k, Nat.le_trans h.big k.size, h.ap⟩
theorem Rw.fresh (h : Rw B w0 u s bc bi N c q v p) : ∀ j, u.heap.size ≤ j → Okq B s bc bi j := fun j hj => ⟨Nat.le_trans h.big hj, fun m => by have := h.wk.mb_lt j m; omega⟩
end
theorem at_c (k : Nat) (z : Int) (h1 : 1 ≤ k) (h2 : k ≤ 64) : ∃ a : Nat, wrap64 ((IntKind.u64.wrap z).tmod (k : Int)) = a ∧ a < k := by
  have h0 : 0 ≤ IntKind.u64.wrap z := by rw [IntKind.wrap_u64]; omega
  generalize IntKind.u64.wrap z = q at h0 ⊢
  rw [Int.tmod_eq_emod_of_nonneg h0]
  have h1 := Int.emod_nonneg q (show (k : Int) ≠ 0 by omega)
  have h2 := Int.emod_lt_of_pos q (show 0 < (k : Int) by omega)
  exact ⟨(q % (k : Int)).toNat, by rw [IntWalk.wrap64_in _ (by omega)]; omega, by omega⟩
end Go.Proofs.Ytcafmloinmdeeaa
