/- A law's own row of numbers, appended to at its end and cut at its beginning. -/
import Derived.Test.YtcafmloinmdeeaaMBlack
import Derived.ArgAppend
namespace Go.Proofs.Ytcafmloinmdeeaa
open Go.RowKit
/-- v holds the numbers q, in a block of which Ok is told, from some place on; or it is nil. -/
def Que (w : World) (Ok : Nat → Prop) (v : Value) (q : List Nat) : Prop :=
  (v = .slice none 0 0 ∧ q = []) ∨ ∃ (g o cap : Nat) (cur : Array Value), v = .slice (some ⟨g, o, none⟩) q.length cap ∧ Ok g ∧ w.heap[g]? = some (.cells cur 3 (0, 0)) ∧ q.length ≤ cap ∧ o + cap ≤ cur.size ∧ ∀ j x : Nat, q[j]? = some x → cur[o + j]? = some (.int .i64 (x : Int))
section
variable {w w' : World} {Ok : Nat → Prop} {v : Value} {q : List Nat}
theorem Que.nil (w : World) (Ok : Nat → Prop) : Que w Ok (.slice none 0 0) [] := .inl ⟨rfl, rfl⟩
theorem Que.of_blocks (h : Que w Ok v q) (e : ∀ k, k < w.heap.size → Ok k → w'.heap[k]? = w.heap[k]?) : Que w' Ok v q := by
  rcases h with h | ⟨g, o, cap, cur, h1, h2, h3, h4⟩
  · exact .inl h
  · exact .inr ⟨g, o, cap, cur, h1, h2, (e g (Array.getElem?_eq_some_iff.1 h3).1 h2).trans h3, h4⟩
theorem Que.below (h : Que w Ok v q) (hb : Below w.heap.size w w') : Que w' Ok v q := h.of_blocks fun k hk _ => hb.block k hk
theorem Que.shape (h : Que w Ok v q) : ∃ ao cap, v = .slice ao q.length cap := by
  rcases h with ⟨rfl, rfl⟩ | ⟨g, o, cap, cur, rfl, _⟩
  · exact ⟨_, _, rfl⟩
  · exact ⟨_, _, rfl⟩
/-- One at least: where it lies. -/
theorem Que.open (h : Que w Ok v q) (hn : 0 < q.length) : ∃ g o cap, v = .slice (some ⟨g, o, none⟩) q.length cap ∧ q.length ≤ cap ∧ ∀ j x : Nat, q[j]? = some x → w.cell? ⟨g, o + j, none⟩ = some (.int .i64 (x : Int)) := by
  rcases h with ⟨_, rfl⟩ | ⟨g, o, cap, cur, h1, _, h3, h4, _, h5⟩
  · simp at hn
  · exact ⟨g, o, cap, h1, h4, fun j x hj => by simp [World.cell?, h3, h5 j x hj]⟩
theorem que_of_own {base n : Nat} (h : w.ownsRow base 3 1 v n (vals3 q)) (hn : n = q.length) (hOk : ∀ p, base ≤ p → Ok p) : Que w Ok v q := by
  subst hn
  rcases h.2 with ⟨rfl, h0⟩ | ⟨g, cap, cur, rfl, hb, hg, hc, hm, hs, ht⟩
  · exact .inl ⟨rfl, List.eq_nil_of_length_eq_zero h0⟩
  · refine .inr ⟨g, 0, cap, cur, rfl, hOk g hb, hg, hc, by omega, fun j x hj => ?_⟩
    have hjl := (List.getElem?_eq_some_iff.1 hj).1
    have h1 : (vals3 q)[j]? = some (.int .i64 (x : Int)) := by simp [vals3, hj]
    rw [← ht, List.getElem?_take, if_pos (by omega)] at h1
    rw [Nat.zero_add]
    simpa using h1
theorem que_app (h : Que w Ok v q) (hOk : ∀ p, w.heap.size ≤ p → Ok p) (x : Nat) (hl : q.length ≤ 5000) :
    ∃ p o cap w', (apM #[29, 29] 29 #[v, .slice (some ⟨w.heap.size, 0, none⟩) 1 1]).run Try.prog (w.alloc (.cells #[.int .i64 (x : Int)] 3)) = .ok (.slice (some ⟨p, o, none⟩) (q.length + 1) cap) w' ∧
      Que w' Ok (.slice (some ⟨p, o, none⟩) (q.length + 1) cap) (q ++ [x]) ∧ Bt Ok w w' := by
  obtain ⟨i0, hi, hz0, hz1, hz2⟩ := info_parts minfo3
  have hal : Below w.heap.size w (w.alloc (.cells #[.int .i64 (x : Int)] 3)) := (Below.refl _ w).alloc (Nat.le_refl _) _
  have hlen : (q ++ [x]).length = q.length + 1 := by simp
  have hnew : ∀ j u, [Value.int .i64 (x : Int)][j]? = some u → (w.alloc (.cells #[.int .i64 (x : Int)] 3)).cell? ((⟨w.heap.size, 0, none⟩ : Addr).add j) = some u := cell_one_new w (.int .i64 (x : Int)) 3
  have grown : ∀ {v' w' row}, w'.ownsRow w.heap.size 3 1 v' (q.length + 1) (vals3 (q ++ [x])) → (w.alloc (.cells #[.int .i64 (x : Int)] 3)).grownBy w' row → row = none →
      ∃ p o cap, v' = .slice (some ⟨p, o, none⟩) (q.length + 1) cap ∧ Que w' Ok v' (q ++ [x]) ∧ Bt Ok w w' := by
    intro v' w' row ho hg hr
    obtain ⟨p, cap, rfl⟩ := ownsRow_succ ho
    subst hr
    exact ⟨p, 0, cap, rfl, que_of_own ho hlen.symm hOk, hg.os, hg.tape, hg.output, Nat.le_trans hal.size hg.size, fun k hk _ => (hg.block k (by simp; omega) (by simp)).trans (hal.block k hk)⟩
  rcases h with ⟨rfl, rfl⟩ | ⟨g, o, cap, cur, rfl, h2, h3, h4, h5, h6⟩
  · obtain ⟨v', w', hrun, hown, hg, _⟩ := run_append_own (P := Try.prog) (w := w.alloc (.cells #[.int .i64 (x : Int)] 3)) w.heap.size 29 29 3 i0 (.int .i64 0) 1 8 Try.underlying29 hi hz0 hz1 hz2 rfl (by decide) (.slice none 0 0) 0 [] (World.ownsRow_nil _ _ _ _) ⟨w.heap.size, 0, none⟩ 1 1 [.int .i64 (x : Int)] rfl hnew (by simp [Value.oneCell']) (by unfold maxLen; omega) (by omega) (by simp)
    obtain ⟨p, o, cap, rfl, hq, hb⟩ := grown (by simpa [vals3] using hown) hg rfl
    exact ⟨p, o, cap, w', hrun, hq, hb⟩
  · have hgl := (Array.getElem?_eq_some_iff.1 h3).1
    have h3' : (w.alloc (.cells #[.int .i64 (x : Int)] 3)).heap[g]? = some (.cells cur 3 (0, 0)) := (hal.block g hgl).trans h3
    by_cases hr : q.length + 1 ≤ cap
    · have hrun := run_append_room_cells (P := Try.prog) (w.alloc (.cells #[.int .i64 (x : Int)] 3)) 29 29 3 i0 Try.underlying29 hi g o q.length cap ⟨w.heap.size, 0, none⟩ 1 1 [.int .i64 (x : Int)] (by rw [hz1]; rfl) hnew (by simp [Value.oneCell']) hr
        (fun j hj => by
          obtain rfl : j = 0 := by simpa using hj
          rw [hz1]
          simp [World.cell?, h3', show o + q.length < cur.size by omega]) (fun j hj => by simp [World.frozen?, h3'])
      rw [hz1, Nat.mul_one] at hrun
      refine ⟨g, o, cap, _, hrun, .inr ⟨g, o, cap, cur.setIfInBounds (o + q.length) (.int .i64 (x : Int)), by rw [hlen], h2, mset h3', by rw [hlen]; exact hr, by simpa using h5, fun j y hj => ?_⟩, ?_⟩
      · rw [Array.getElem?_setIfInBounds]
        by_cases hjq : j < q.length
        · rw [List.getElem?_append_left hjq] at hj
          rw [if_neg (by omega)]
          exact h6 j y hj
        · rw [List.getElem?_append_right (by omega)] at hj
          obtain rfl : j = q.length := by
            have := (List.getElem?_eq_some_iff.1 hj).1
            simp at this; omega
          simp at hj
          rw [if_pos rfl, if_pos (by omega), hj]
      · exact (Bt.of_below hal).set g _ _ (.inl h2)
    · have hvl : (vals3 q).length = q.length := by simp [vals3]
      obtain ⟨v', w', hrun, hown, hg⟩ := run_append_arg_grows (P := Try.prog) (w.alloc (.cells #[.int .i64 (x : Int)] 3)) 29 29 3 i0 (.int .i64 0) 1 8 Try.underlying29 hi hz0 hz1 hz2 rfl (by decide) ⟨g, o, none⟩ q.length cap (vals3 q) (by rw [hvl, Nat.mul_one])
        (fun j u hj => by
          have hjl := (List.getElem?_eq_some_iff.1 hj).1
          rw [hvl] at hjl
          have hq := h6 j q[j] (List.getElem?_eq_getElem hjl)
          simp only [vals3, List.getElem?_map, List.getElem?_eq_getElem hjl, Option.map_some, Option.some.injEq] at hj
          rw [Addr.add_lit, ← hj]
          simp [World.cell?, h3', hq]) ⟨w.heap.size, 0, none⟩ 1 1 [.int .i64 (x : Int)] rfl hnew (by omega) (by unfold maxLen; omega) (by omega)
      obtain ⟨p, o', cap', rfl, hq, hb⟩ := grown (World.ownsRow.mono (by rw [vals3_snoc]; exact hown) (by simp)) hg rfl
      exact ⟨p, o', cap', w', hrun, hq, hb⟩
/-- queue[1:]. -/
theorem que_tail {x : Nat} {t : List Nat} (h : Que w Ok v (x :: t)) : ∃ g o cap, v = .slice (some ⟨g, o, none⟩) (t.length + 1) (cap + 1) ∧ Que w Ok (.slice (some ⟨g, o, none⟩) (t.length + 1) (cap + 1)) (x :: t) ∧
    (cap = 0 → Que w Ok (.slice (some ⟨g, o, none⟩) t.length cap) t) ∧ (cap ≠ 0 → Que w Ok (.slice (some ⟨g, o + 1, none⟩) t.length cap) t) ∧ w.cell? ⟨g, o, none⟩ = some (.int .i64 (x : Int)) := by
  have h0 := h
  rcases h with ⟨_, h⟩ | ⟨g, o, cap, cur, rfl, h2, h3, h4, h5, h6⟩
  · simp at h
  · simp only [List.length_cons] at h4
    obtain ⟨k, rfl⟩ : ∃ k, cap = k + 1 := ⟨cap - 1, by omega⟩
    refine ⟨g, o, k, rfl, h0, fun hk => .inr ⟨g, o, k, cur, rfl, h2, h3, by omega, by omega, fun j y hj => ?_⟩, fun hk => .inr ⟨g, o + 1, k, cur, rfl, h2, h3, by omega, by omega, fun j y hj => ?_⟩, ?_⟩
    · have := (List.getElem?_eq_some_iff.1 hj).1
      omega
    · have := h6 (j + 1) y (by simpa using hj)
      rwa [show o + 1 + j = o + (j + 1) by omega]
    · simp [World.cell?, h3, show cur[o]? = _ from h6 0 x rfl]
end
end Go.Proofs.Ytcafmloinmdeeaa
