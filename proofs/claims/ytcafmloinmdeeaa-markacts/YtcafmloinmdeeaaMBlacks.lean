/- SpoilInts; the law's own blacks: the black ones are just those, told twice. -/
import Derived.Test.YtcafmloinmdeeaaMCount
namespace Go.Proofs.Ytcafmloinmdeeaa
open Go.RowKit
section
variable {w w' : World} {Ok : Nat → Prop} {v : Value} {q : List Nat}
set_option maxRecDepth 20000 in
theorem mspoil_ok (h : Que w Ok v q) (hl : q.length ≤ 5000) : Calls Try.prog 20 #[v] w fun e w' => e = .returned (.tuple #[]) ∧ Bt Ok w w' := by
  rcases h with ⟨rfl, rfl⟩ | ⟨g, o, cap, cur, rfl, h2, h3, h4, h5, h6⟩
  · go_enter Try.func20, Try.ntmps20
    go_wp2
    go_loopg [2] 1 (fun r v2 wr => v2 = .int .i64 0 ∧ w = wr)
    case atStart => exact ⟨rfl, rfl⟩
    case round =>
      obtain ⟨rfl, rfl⟩ := hrel
      go_wp2
      go_end0
      exact ⟨rfl, Bt.refl _ _⟩
  · have HI : Hid (∀ j, j < q.length → ∃ z : Int, cur[o + j]? = some (.int .i64 z)) := fun j hj => ⟨_, h6 j q[j] (List.getElem?_eq_getElem hj)⟩
    generalize q.length = m at HI h4 hl ⊢
    have HO : Hid (Ok g) := h2
    have H3 : Hid (w.heap[g]? = some (.cells cur 3 (0, 0))) := h3
    clear h6 h2 h3 h5
    go_enter Try.func20, Try.ntmps20
    go_wp2
    go_loopg [2] m (fun r v2 wr => ∃ (i : Nat) (cur : Array Value), v2 = .int .i64 i ∧ i ≤ m ∧ m - i ≤ r ∧ Hid (wr.heap[g]? = some (.cells cur 3 (0, 0))) ∧ Hid (∀ j, j < m → ∃ z : Int, cur[o + j]? = some (.int .i64 z)) ∧ Hid (Bt Ok w wr))
    case atStart => exact ⟨0, cur, rfl, by omega, by omega, H3, HI, Bt.refl _ _⟩
    case round =>
      clear H3 HI
      obtain ⟨i, cur, rfl, hi, hk, hg, hz, hb⟩ := hrel
      by_cases hlt : i < m
      · have hlt' : (i : Int) < (m : Int) := by omega
        obtain ⟨z, ez⟩ := hz.out i hlt
        have c0 : wr.cell? ⟨g, o + i, none⟩ = some (.int .i64 z) := by simp [World.cell?, hg.out, ez]
        have z0 : wr.frozen? ⟨g, o + i, none⟩ = false := by simp [World.frozen?, hg.out]
        have HG : ∀ x : Int, Hid ((wr.setCell ⟨g, o + i, none⟩ (.int .i64 x)).heap[g]? = some (.cells (cur.setIfInBounds (o + i) (.int .i64 x)) 3 (0, 0))) := fun x => mset hg.out
        have HZ : ∀ x : Int, Hid (∀ j, j < m → ∃ z : Int, (cur.setIfInBounds (o + i) (.int .i64 x))[o + j]? = some (.int .i64 z)) := fun x j hj => by
          rw [Array.getElem?_setIfInBounds]
          by_cases e : o + i = o + j
          · have hs := (Array.getElem?_eq_some_iff.1 ez).1
            rw [if_pos e, if_pos (by omega)]
            exact ⟨_, rfl⟩
          · rw [if_neg e]; exact hz.out j hj
        have HB : ∀ x : Int, Hid (Bt Ok w (wr.setCell ⟨g, o + i, none⟩ (.int .i64 x))) := fun x => hb.out.set g _ _ (.inl HO.out)
        clear ez hz hg hb
        go_wp2
        go_roundg (m - (i + 1))
        case rel => exact ⟨i + 1, _, by go_num, by omega, by omega, HG _, HZ _, HB _⟩
        case measure => omega
      · have hlt' : ¬ (i : Int) < (m : Int) := by omega
        go_wp2
        go_end0
        exact ⟨rfl, hb.out⟩
end
theorem Que.mono {w : World} {Ok Ok' : Nat → Prop} {v : Value} {q : List Nat} (h : Que w Ok v q) (k : ∀ g, g < w.heap.size → Ok g → Ok' g) : Que w Ok' v q := by
  rcases h with h | ⟨g, o, cap, cur, h1, h2, h3, h4⟩
  · exact .inl h
  · exact .inr ⟨g, o, cap, cur, h1, k g (Array.getElem?_eq_some_iff.1 h3).1 h2, h3, h4⟩
section
variable {w w' : World} {s bc bi N : Nat} {c : Nat → Int} {q : List Nat}
/-- Black's slice lies in new memory. -/
theorem black_que (h : Mk w s bc bi N c q) (m : Nat) (hm : (blk c N).length = m) :
    Calls Try.prog 13 #[.pointer (some ⟨s, 0, none⟩)] w fun e w' => ∃ ao cap, e = .returned (.slice ao m cap) ∧ Que w' (fun g => w.heap.size ≤ g) (.slice ao m cap) (blk c N) ∧ Below w.heap.size w w' := by
  refine (black_ok h).mono ?_
  rintro e w' ⟨v, rfl, hr, _, hb⟩
  have hq := que_of_own (Ok := fun g => w.heap.size ≤ g) hr rfl (fun p hp => hp)
  obtain ⟨ao, cap, rfl⟩ := hq.shape
  rw [hm] at hq ⊢
  exact ⟨ao, cap, rfl, hq, hb⟩
theorem blk_at {c : Nat → Int} {i N : Nat} (hi : i < N) (hc : c i = 3) : (blk c N)[(blk c i).length]? = some i ∧ (blk c i).length < (blk c N).length := by
  have h1 : (blk c (i + 1)).length = (blk c i).length + 1 := by rw [blk_yes hc]; simp
  refine ⟨?_, by have := blk_mono (c := c) (show i + 1 ≤ N by omega); omega⟩
  rw [blk_get (show i + 1 ≤ N by omega) _ (by omega), blk_yes hc, List.getElem?_append_right (Nat.le_refl _)]
  simp
set_option maxRecDepth 20000 in
set_option maxHeartbeats 2000000 in
theorem blacks_ok (h : Mk w s bc bi N c q) (gs : Nat) (hr : w.rowIs gs 3 N (fun i => .int .i64 (c i))) :
    Calls Try.prog 12 #[.pointer (some ⟨s, 0, none⟩), .slice (some ⟨gs, 0, none⟩) N N] w fun e w' => e = .returned (.bool true) ∧ Below w.heap.size w w' := by
  obtain ⟨m, hm⟩ : ∃ m, (blk c N).length = m := ⟨_, rfl⟩
  have hmN : m ≤ N := hm ▸ blk_len c N
  have hN := h.few.2
  have hb1 := black_que h m hm
  have HR : Hid (w.rowIs gs 3 N (fun i => .int .i64 (c i))) := hr
  have HM : Hid ((blk c N).length = m) := hm
  have HK : Hid (Mk w s bc bi N c q) := h
  clear h hr hm
  go_enter Try.func12, Try.ntmps12
  go_wp2_with (first
    | (go_at_call 13; refine (black_que hM1 m HM.out).mono ?_; clear hM1; rintro e w2 ⟨a2, c2, rfl, q2, b2⟩)
    | (go_at_call 13; refine hb1.mono ?_; clear hb1; rintro e w1 ⟨a1, c1, rfl, q1, b1⟩; have hM1 := HK.out.below b1))
  have HQ1 : Hid (Que w2 (fun g => w.heap.size ≤ g ∧ g < w1.heap.size) (.slice a1 m c1) (blk c N)) := (q1.mono (fun g h1 h2 => ⟨h2, h1⟩)).below b2
  have HQ2 : Hid (Que w2 (fun g => w1.heap.size ≤ g) (.slice a2 m c2) (blk c N)) := q2
  have HB : Hid (Below w.heap.size w w2) := b1.trans (b2.mono b1.size)
  have HS : Hid (w.heap.size ≤ w1.heap.size) := b1.size
  clear q1 q2 b1 b2 HK
  go_loopg [7, 8] N (fun r v7 v8 wr => ∃ i : Nat, v7 = .int .i64 ((blk c i).length : Nat) ∧ v8 = .int .i64 i ∧ i ≤ N ∧ N - i ≤ r ∧ w2 = wr)
  case atStart => exact ⟨0, rfl, rfl, by omega, by omega, rfl⟩
  case round =>
    obtain ⟨i, rfl, rfl, hi, hkx, rfl⟩ := hrel
    have HR2 := HR.out.of_block (HB.out.block gs HR.out.lt)
    by_cases hlt : i < N
    · have hlt' : (i : Int) < (N : Int) := by omega
      have ci := HR2.cell hlt
      by_cases h3 : c i = 3
      · rw [h3] at ci
        obtain ⟨hat, hlb⟩ := blk_at hlt h3
        have HL : Hid ((blk c (i + 1)).length = (blk c i).length + 1) := by show _ = _; rw [blk_yes h3]; simp
        obtain ⟨g, o, cap, hsl, hle, hcel⟩ := HQ1.out.open (by omega)
        simp only [Value.slice.injEq] at hsl
        obtain ⟨rfl, -, rfl⟩ := hsl
        have ck := hcel _ _ hat
        rw [HM.out] at hlb
        clear hcel hat hle h3
        generalize hk : (blk c i).length = k at *
        have hk1 : (k : Int) < (m : Int) := by omega
        have hk2 : decide ((m : Int) ≤ (k : Int)) = false := by simp; omega
        clear hk
        go_wp2
        go_roundg (N - (i + 1))
        case rel => exact ⟨i + 1, by rw [HL.out]; go_num, by go_num, by omega, by omega, rfl⟩
        case measure => omega
      · have h3' : (c i != 3) = true := by simp [h3]
        have HL : Hid ((blk c (i + 1)).length = (blk c i).length) := by show _ = _; rw [blk_no h3]
        generalize c i = z at ci h3'
        clear h3
        go_wp2
        go_roundg (N - (i + 1))
        case rel => exact ⟨i + 1, by rw [HL.out], by go_num, by omega, by omega, rfl⟩
        case measure => omega
    · obtain rfl : i = N := by omega
      have hlt' : ¬ (i : Int) < (i : Int) := by omega
      rw [HM.out]
      have hsp := mspoil_ok HQ1.out (by rw [HM.out]; omega)
      rcases Nat.eq_zero_or_pos m with h0 | h0
      · subst h0
        go_wp2_with (go_at_call 20; refine hsp.mono ?_; rintro e w3 ⟨rfl, hb3⟩)
        go_ret
        exact ⟨rfl, Bt.under HB.out HB.out.size (fun k hk => hk.1) hb3⟩
      · obtain ⟨x, hx⟩ : ∃ x, (blk c i)[0]? = some x := ⟨_, List.getElem?_eq_getElem (by have := HM.out; omega)⟩
        have hxm := blk_mem (List.mem_of_getElem? hx)
        have hm0 : ((m : Int) == 0) = false := by simp; omega
        have hm1 : (0 : Int) < (m : Int) := by omega
        obtain ⟨g, o, cap, hsl, hle, hcel⟩ := HQ2.out.open (by have := HM.out; omega)
        simp only [Value.slice.injEq] at hsl
        obtain ⟨rfl, -, rfl⟩ := hsl
        have hxi : (x : Int) < (i : Int) := by omega
        have HC : Hid (w2.rowIs gs 3 i (fun j => .int .i64 (c j))) := HR2
        have HX : Hid ((blk c i)[0]? = some x ∧ x < i ∧ c x = 3) := ⟨hx, hxm⟩
        clear hcel HR2 hx hxm
        go_wp2_with (go_at_call 20; refine hsp.mono ?_; rintro e w3 ⟨rfl, hb3⟩; have q3 := HQ2.out.of_blocks (w' := w3) (fun k hk ho => hb3.block k hk (fun q => by have := q.2; omega)); obtain ⟨g3, o3, cap3, hsl3, _, hcel3⟩ := q3.open (by have := HM.out; omega); simp only [Value.slice.injEq, Option.some.injEq, Addr.mk.injEq, and_true] at hsl3; obtain ⟨⟨rfl, rfl⟩, -, rfl⟩ := hsl3; have d0 := hcel3 0 x HX.out.1; rw [Nat.add_zero] at d0; have cx := (HC.out.of_block (hb3.block gs HC.out.lt (fun q => by have := q.1; have := HR.out.lt; omega))).cell HX.out.2.1; rw [HX.out.2.2] at cx; clear hcel3 q3)
        go_ret
        exact ⟨rfl, Bt.under HB.out HB.out.size (fun k hk => hk.1) hb3⟩
end
end Go.Proofs.Ytcafmloinmdeeaa
