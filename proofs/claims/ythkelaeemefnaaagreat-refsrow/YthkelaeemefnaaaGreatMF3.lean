/- New of a pool. -/
import Derived.Test.YthkelaeemefnaaaGreatMF2
import Derived.Test.YthkelaeemefnaaaGreatMA
namespace Go.Proofs.YthkelaeemefnaaaGreat
open Go.RowKit

set_option maxRecDepth 20000 in
set_option maxHeartbeats 2000000 in
theorem pnew_ok {w : World} {b bw bs W G : Nat} {ws cs : Nat → Int} (h : Ar w b bw bs W G ws cs) (x y : Int) (base n : Nat) (hx : x = base) (hy : y = n) (n1 : 1 ≤ n) (n2 : n ≤ 1000) (h1 : base + (14 * n + 64) ≤ W) (hW : W ≤ 65536) (hG : G ≤ 12) :
    Calls Tryz.prog 132 #[.pointer (some ⟨b, 0, none⟩), .int .i64 x, .int .i64 y] w fun e w' => ∃ p P, e = .returned (.tuple #[.pointer (some ⟨p, 0, none⟩), .int .i64 0]) ∧ Pl w' P p b W base n G cs 0 (up n 1) (zap ws (base + 8 * n) n) ∧ Bt (fun j => j = bw ∨ j = bs) w w' ∧ ∀ j, P j → j = b ∨ j = bw ∨ j = bs ∨ w.heap.size ≤ j := by
  subst hx hy
  have hw := words_any h
  have hl := h.lts
  have hb := h.lt
  have a1 : decide ((n : Int) < 1) = false := by simp; omega
  have a2 : decide (2000 < (n : Int)) = false := by simp; omega
  have a3 : decide ((base : Int) < 0) = false := by simp
  have a4 : decide ((W : Int) - (14 * (n : Int) + 64) < (base : Int)) = false := by simp; omega
  have ht := newTable_ok h ((base : Int) + 8 * n) n (base + 8 * n) n (by omega) rfl (by omega) hW
  go_enter Tryz.func132, Tryz.ntmps132
  go_wp2_with (first
    | (go_at_call 131; refine hw.mono ?_; rintro e w1 ⟨rfl, rfl⟩)
    | (go_at_call 150; refine ht.mono ?_; rintro e w2 ⟨bc, rfl, l2, q2, hA2, hB2⟩)
    | (go_at_call 151; refine (newList_ok hA2 ((base : Int) + 8 * n + n) n (base + 9 * n) n (by omega) rfl n1 n2 (by omega) hW hG).mono ?_; rintro e w3 ⟨Q, s, pl, k, rfl, hL⟩))
  go_ret2
  obtain ⟨hG3, hB3, hQ3, hc3, l3, hq3⟩ := hL
  have s2 := hB2.size
  have s3 := hB3.size
  have l4 := box_lt q2
  refine ⟨w3.heap.size, fun j => Q j ∨ j = w3.heap.size ∨ j = bc ∨ j = pl, rfl, ⟨Q, s, bc, pl, k, hG3.alloc _, ?_, ?_, cell_alloc hc3 _, fun j hj => .inl hj, ⟨.inr (.inl rfl), .inr (.inr (.inl rfl)), .inr (.inr (.inr rfl))⟩, ⟨fun q => ?_, fun q => ?_, hq3⟩, ?_, h1, hW, n1, n2, ?_⟩, ?_, ?_⟩
  · simpa using heap_alloc_new w3 _
  · exact box_alloc ((hB3.block bc l4 (by omega)).trans q2) _
  · have := hG3.lt _ q; omega
  · rcases hQ3 bc q with e | e | e | e <;> omega
  · have hpl : pl < w3.heap.size := cell_in hc3
    rintro j (q | q | q | q)
    · have := hG3.lt j q; simp; omega
    · simp; omega
    · simp; omega
    · subst q; simp; omega
  · intro f hf
    rw [zap_in _ (by omega) (by omega)]
    exact ⟨by omega, by omega, fun _ => up_mem.2 (by omega), fun _ => rfl⟩
  · exact ((Bt.of_but hB2 (.inl rfl) (.inr rfl)).trans hB3).alloc _
  · rintro j (q | q | q | q)
    · rcases hQ3 j q with e | e | e | e
      · exact .inl e
      · exact .inr (.inl e)
      · exact .inr (.inr (.inl e))
      · exact .inr (.inr (.inr (by omega)))
    · exact .inr (.inr (.inr (by omega)))
    · exact .inr (.inr (.inr (by omega)))
    · exact .inr (.inr (.inr (by omega)))
theorem pnew_no {w : World} {b bw bs W G : Nat} {ws cs : Nat → Int} (h : Ar w b bw bs W G ws cs) (base n : Int) (hW : W ≤ 65536) (hn : ¬ (1 ≤ n ∧ n ≤ 2000 ∧ 0 ≤ base ∧ base + (14 * n + 64) ≤ W)) :
    Calls Tryz.prog 132 #[.pointer (some ⟨b, 0, none⟩), .int .i64 base, .int .i64 n] w fun e w' => e = .returned (.tuple #[.pointer none, .int .i64 600]) ∧ w' = w := by
  have hw := words_any h
  by_cases a1 : n < 1
  · clear hn
    go_enter Tryz.func132, Tryz.ntmps132
    go_wp2
    go_ret2
    exact ⟨rfl, rfl⟩
  · have b1 : decide (n < 1) = false := by simp; omega
    by_cases a2 : 2000 < n
    · clear hn a1
      go_enter Tryz.func132, Tryz.ntmps132
      go_wp2
      go_ret2
      exact ⟨rfl, rfl⟩
    · have b2 : decide (2000 < n) = false := by simp; omega
      by_cases a3 : base < 0
      · clear hn a1 a2
        go_enter Tryz.func132, Tryz.ntmps132
        go_wp2
        go_ret2
        exact ⟨rfl, rfl⟩
      · have b3 : decide (base < 0) = false := by simp; omega
        have b4 : (W : Int) - (14 * n + 64) < base := by omega
        have c1 : 1 ≤ n := by omega
        have c2 : n ≤ 2000 := by omega
        clear hn a1 a2 a3
        go_enter Tryz.func132, Tryz.ntmps132
        go_wp2_with (go_at_call 131; refine hw.mono ?_; rintro e w1 ⟨rfl, rfl⟩)
        go_ret2
        exact ⟨rfl, rfl⟩
theorem Pl.below {w' : World} {w : World} {P : Nat → Prop} {p b W base n G : Nat} {cs : Nat → Int} {T : Int} {xs : List Int} {ws : Nat → Int} (h : Pl w P p b W base n G cs T xs ws) (e : Below w.heap.size w w') : Pl w' P p b W base n G cs T xs ws := by
  obtain ⟨Q, s, bc, pl, k, h⟩ := h
  exact ⟨Q, s, bc, pl, k, h.below e⟩
theorem Pl.keep {w' : World} {w : World} {P : Nat → Prop} {p b W base n G : Nat} {cs : Nat → Int} {T : Int} {xs : List Int} {ws : Nat → Int} (h : Pl w P p b W base n G cs T xs ws) (e : ∀ j, P j → w'.heap[j]? = w.heap[j]?) (hs : w.heap.size ≤ w'.heap.size) : Pl w' P p b W base n G cs T xs ws := by
  obtain ⟨Q, s, bc, pl, k, h⟩ := h
  exact ⟨Q, s, bc, pl, k, h.keep e hs⟩
theorem Pl.lt {w : World} {P : Nat → Prop} {p b W base n G : Nat} {cs : Nat → Int} {T : Int} {xs : List Int} {ws : Nat → Int} (h : Pl w P p b W base n G cs T xs ws) : ∀ j, P j → j < w.heap.size := by
  obtain ⟨Q, s, bc, pl, k, h⟩ := h
  exact h.lt
theorem Pl.facts {w : World} {P : Nat → Prop} {p b W base n G : Nat} {cs : Nat → Int} {T : Int} {xs : List Int} {ws : Nat → Int} (h : Pl w P p b W base n G cs T xs ws) : base + (14 * n + 64) ≤ W ∧ W ≤ 65536 ∧ 1 ≤ n ∧ n ≤ 1000 ∧ (∀ f, f < n → 0 ≤ ws (base + 8 * n + f) ∧ ws (base + 8 * n + f) ≤ 3 ∧ (ws (base + 8 * n + f) = 0 ↔ (f : Int) + 1 ∈ xs)) ∧ xs.length ≤ n ∧ xs.Nodup ∧ (∀ x, x ∈ xs → 1 ≤ x ∧ x ≤ n) := by
  obtain ⟨Q, s, bc, pl, k, h⟩ := h
  exact ⟨h.fit, h.big, h.n1, h.n2, h.col, h.good.range.2.2.1, h.good.range.2.2.2.1, h.good.range.1⟩
theorem Turn.pl {w w' : World} {P : Nat → Prop} {p b W base n G : Nat} {cs' : Nat → Int} {T' : Int} {xs' : List Int} {ws' : Nat → Int} {B : Nat} {w0 : World} (h : Turn w P p b W base n G cs' T' xs' ws' w') (hb : Below B w0 w) (hB : B ≤ w.heap.size) (hP : ∀ j, P j → B ≤ j) :
    ∃ P', Pl w' P' p b W base n G cs' T' xs' ws' ∧ Below B w0 w' ∧ B ≤ w'.heap.size ∧ ∀ j, P' j → B ≤ j := by
  obtain ⟨P', h1, h2, h3⟩ := h
  exact ⟨P', h1, Bt.under hb hB hP h2, Nat.le_trans hB h2.size, fun j hj => (h3 j hj).elim (hP j) (fun q => by omega)⟩

end Go.Proofs.YthkelaeemefnaaaGreat
/- A pool of any number of fragments is made, whatever it holds then. -/
namespace Go.Proofs.YthkelaeemefnaaaGreat
open Go.RowKit
theorem own_block {w w' : World} {B e n : Nat} {v : Value} {xs : List Value} (h : w.ownsRow B e 1 v n xs) (k : ∀ j, v.ownBlock = some j → w'.heap[j]? = w.heap[j]?) : w'.ownsRow B e 1 v n xs := by
  refine ⟨h.1, ?_⟩
  rcases h.2 with hn | ⟨g, cap, cur, rfl, hb, hg, r⟩
  · exact .inl hn
  · exact .inr ⟨g, cap, cur, rfl, hb, (k g rfl).trans hg, r⟩
theorem own_over {w w' : World} {B e n bw bs : Nat} {v : Value} {xs : List Value} (h : w.ownsRow B e 1 v n xs) (k : Bt (fun j => j = bw ∨ j = bs) w w') (h1 : bw < B) (h2 : bs < B) : w'.ownsRow B e 1 v n xs :=
  own_block h fun j hj => by
    have := World.ownsRow.lt h j hj
    exact k.block j this.2 (fun r => by rcases r with r | r <;> omega)
theorem own_not {w : World} {B e n k : Nat} {v : Value} {xs : List Value} (h : w.ownsRow B e 1 v n xs) (hk : k < B) : some k ≠ v.ownBlock := fun r => by
  have := World.ownsRow.lt h k r.symm
  omega
theorem app_stacks (W : World) (s B : Nat) (v : Value) (len : Nat) (xs : List Value) (ho : W.ownsRow B 222 1 v len xs) (hB : B ≤ W.heap.size) (hl : len ≤ 100) : ∃ ao k w', (Builtin.append_ #[197, 197] 197 #[v, .slice (some ⟨W.heap.size, 0, none⟩) 1 1]).run Tryz.prog (W.alloc (.cells #[.pointer (some ⟨s, 0, none⟩)] 222)) = .ok (.slice ao (len + 1) k) w' ∧
    (∃ xs', w'.ownsRow B 222 1 (.slice ao (len + 1) k) (len + 1) xs') ∧ W.grownBy w' v.ownBlock := by
  obtain ⟨i, hi, hz, hs, hby⟩ := info_parts infoPS
  have hb := (Below.refl W.heap.size W).alloc (Nat.le_refl _) (.cells #[.pointer (some ⟨s, 0, none⟩)] 222)
  have ho2 : (W.alloc (.cells #[.pointer (some ⟨s, 0, none⟩)] 222)).ownsRow B 222 1 v len xs := World.ownsRow.kept ho (row := none) ⟨hb.os, hb.tape, hb.output, hb.size, fun i hi _ => hb.block i hi⟩ (by cases h : v.ownBlock <;> simp)
  obtain ⟨v', w', hr, ho', hg, _⟩ := run_append_own_wide (P := Tryz.prog) (W.alloc (.cells #[.pointer (some ⟨s, 0, none⟩)] 222)) B 197 197 222 i _ 1 8 Tryz.underlying197 hi hz hs hby rfl (by decide) v len xs ho2 ⟨W.heap.size, 0, none⟩ 1 1 [.pointer (some ⟨s, 0, none⟩)] rfl (cell_one_new W (.pointer (some ⟨s, 0, none⟩)) 222) (by intro u hu; simp at hu; subst hu; rfl) (by unfold maxLen; omega) (by omega) (by simp; omega)
  obtain ⟨ao, k, rfl⟩ : ∃ ao k, v' = .slice ao (len + 1) k := by
    rcases ho'.2 with ⟨rfl, q⟩ | ⟨g, cap, _, rfl, _⟩
    · omega
    · exact ⟨_, _, rfl⟩
  exact ⟨ao, k, w', hr, ⟨_, ho'⟩, ⟨hg.os.trans hb.os, hg.tape.trans hb.tape, hg.output.trans hb.output, Nat.le_trans hb.size hg.size, fun k hk e => (hg.block k (by simp; omega) e).trans (hb.block k hk)⟩⟩
set_option maxRecDepth 20000 in
set_option maxHeartbeats 2000000 in
theorem newList_any {w : World} {b bw bs W G : Nat} {ws cs : Nat → Int} (h : Ar w b bw bs W G ws cs) (x y : Int) (tb n : Nat) (hx : x = tb) (hy : y = n) (n2 : n ≤ 2000) (h1 : tb + (2 * n + 16) ≤ W) (hW : W ≤ 65536) (hG : G ≤ 12) :
    Calls Tryz.prog 151 #[.pointer (some ⟨b, 0, none⟩), .int .i64 x, .int .i64 y] w fun e w' => ∃ v ws', e = .returned (.agg #[v]) ∧ Ar w' b bw bs W G ws' cs ∧ Bt (fun j => j = bw ∨ j = bs) w w' := by
  subst hx hy
  have hl := h.lts
  have hb := h.lt
  go_enter Tryz.func151, Tryz.ntmps151
  go_wp2
  go_loopw [1, 2] (fun v1 v2 wr => ∃ (t m len k : Nat) (ao : Option Addr) (xs : List Value) (ws' : Nat → Int), v1 = .int .i64 t ∧ v2 = .int .i64 m ∧ (m ≤ 2000 ∧ t + 2 * m + 8 * ((m + 999) / 1000) ≤ W ∧ len + (m + 999) / 1000 ≤ 2) ∧ wr.heap[w.heap.size]? = some (.cells #[.slice none 0 0] 199 (0, 0)) ∧ wr.heap[w.heap.size + 1]? = some (.cells #[.slice ao len k] 199 (0, 0)) ∧
    wr.ownsRow (w.heap.size + 2) 222 1 (.slice ao len k) len xs ∧ Ar wr b bw bs W G ws' cs ∧ Bt (fun j => j = bw ∨ j = bs) w wr ∧ w.heap.size + 2 ≤ wr.heap.size) (fun _ v2 _ => (intOf v2).toNat)
  case atStart =>
    have z1 := heap_alloc_new (w.alloc (.cells #[.slice none 0 0] 199)) (.cells #[.slice none 0 0] 199)
    rw [Go.Deep.nblk_alloc] at z1
    exact ⟨tb, n, 0, 0, none, _, ws, rfl, rfl, ⟨n2, by omega, by omega⟩, box_alloc (heap_alloc_new w _) _, z1, World.ownsRow_nil _ _ _ _, (h.alloc _).alloc _, Bt.of_below (two_below _ _ _), by simp⟩
  case round =>
    obtain ⟨t, m, len, k, ao, xs, ws', rfl, rfl, ⟨m2, ht, hlen⟩, y0, y1, hown, hA, hB, hs1⟩ := hrel
    rcases Nat.eq_zero_or_pos m with hm | hm
    · have d0 : decide ((0 : Int) < (m : Int)) = false := by simp; omega
      have c0 := box_cell y0
      have c1 := box_cell y1
      have f0 := frz y0
      go_wp2
      exact bodyPost_ret (results_cell_row rfl _ _ w.heap.size 199 _ (0, 0) _ rfl (set_blk y0 0 _) Tryz.underlying199 rfl infoLI) rfl ⟨_, ws', rfl, h.fresh hA _ 0 _ (by omega), hB.set _ 0 _ (.inr (Nat.le_refl _))⟩
    · have c1 := box_cell y1
      have m1 : (0 : Int) < m := by omega
      rcases Nat.lt_or_ge 1000 m with hc | hc
      · have hmin : min (m : Int) 1000 = 1000 := by omega
        have Hm : Hid (m ≤ 2000 ∧ t + 2 * m + 8 * ((m + 999) / 1000) ≤ W ∧ len + (m + 999) / 1000 ≤ 2 ∧ 1000 < m) := ⟨m2, ht, hlen, hc⟩
        have hf : Calls Tryz.prog 164 #[.pointer (some ⟨b, 0, none⟩), .int .i64 t, .int .i64 1000] wr fun e w' => ∃ (s : Nat) (P : Nat → Prop), e = .returned (.tuple #[.pointer (some ⟨s, 0, none⟩), .int .i64 0]) ∧ Good w' P s ⟨b, W, t, ws'⟩ G 1000 cs (fun _ => .idle) 0 (up 1000 1) ∧ Bt (fun k => k = bw ∨ k = bs) wr w' ∧ (∀ k, P k → k = b ∨ k = bw ∨ k = bs ∨ wr.heap.size ≤ k) := newFull_ok hA t 1000 (by omega) (by omega) (by omega) hG hW
        have hc' : decide ((m : Int) ≤ 1000) = false := by simp; omega
        go_wp2_with (first | (at_builtin; refine wpList_appS _ _ hrun rfl rfl rfl rfl rfl ?_; clear hrun) | (go_at_call 165; refine (room_ok _ _ (by omega) (by omega)).mono ?_; rintro e w4 ⟨rfl, rfl⟩) | (go_at_call 164; refine hf.mono ?_; rintro e w2 ⟨s, Q, rfl, hG2, hB2, hQ2⟩; have hown2 := (own_over hown hB2 (by omega) (by omega)); obtain ⟨ao', k', w3, hrun, ⟨xs', ho3⟩, hg3⟩ := app_stacks w2 s (w.heap.size + 2) _ len xs hown2 (Nat.le_trans hs1 hB2.size) (by omega); have z1 := (hB2.block _ (box_lt y1) (by omega)).trans y1; have z1' := box_alloc z1 (.cells #[.pointer (some ⟨s, 0, none⟩)] 222); have z2 := (hg3.block _ (box_lt z1) (own_not hown (by omega))).trans z1; have e1 := box_cell z1; have e2 := box_cell z2; have e3 := frz z2))
        go_roundw
        case rel =>
          have hh := Hm.out
          have s2 := hB2.size
          have s3 := hg3.size
          have hA3 : ∃ ws3, Ar w3 b bw bs W G ws3 cs := by
            obtain ⟨bw', bs', _, _, _, ws2, _, hS, _⟩ := hG2
            have hR : Ar w2 b bw' bs' W G ws2 cs := hS.ar
            obtain ⟨rfl, rfl⟩ := hA.stays hR (hB2.block b hA.lt (fun r => r.elim h.b_bw h.b_bs))
            exact ⟨ws2, ⟨(hg3.block _ hR.lt (own_not hown (by omega))).trans hR.here, hR.words.of_block (hg3.block _ hR.words.lt (own_not hown (by omega))), hR.steps.of_block (hg3.block _ hR.steps.lt (own_not hown (by omega))), hR.part⟩⟩
          obtain ⟨ws3, hA3⟩ := hA3
          have hB3 : Bt (fun j => j = bw ∨ j = bs) w w3 := ⟨hg3.os.trans (hB2.os.trans hB.os), hg3.tape.trans (hB2.tape.trans hB.tape), hg3.output.trans (hB2.output.trans hB.output), by omega, fun k hk e => (hg3.block k (by omega) (own_not hown (by omega))).trans ((hB2.block k (by omega) e).trans (hB.block k hk e))⟩
          refine ⟨t + 2008, m - 1000, len + 1, k', ao', xs', ws3, by go_num, by go_num, ⟨by omega, by omega, by omega⟩, ?_, set_blk z2 0 _, own_block ho3 fun j hj => ?_, h.fresh hA3 _ 0 _ (by omega), hB3.set _ 0 _ (.inr (by omega)), by simp [World.setCell]; omega⟩
          · exact (heap_put _ _ (by show w.heap.size ≠ w.heap.size + 1; omega)).trans ((hg3.block _ (by omega) (own_not hown (by omega))).trans ((hB2.block _ (by omega) (by omega)).trans y0))
          · have := World.ownsRow.lt ho3 j hj
            exact heap_put _ _ (by show j ≠ w.heap.size + 1; omega)
        case measure => (have h9 := Hm.out; simp [intOf]; omega)
      · have hmin : min (m : Int) 1000 = m := by omega
        have Hm : Hid (m ≤ 2000 ∧ t + 2 * m + 8 * ((m + 999) / 1000) ≤ W ∧ len + (m + 999) / 1000 ≤ 2 ∧ m ≤ 1000) := ⟨m2, ht, hlen, hc⟩
        have hf : Calls Tryz.prog 164 #[.pointer (some ⟨b, 0, none⟩), .int .i64 t, .int .i64 m] wr fun e w' => ∃ (s : Nat) (P : Nat → Prop), e = .returned (.tuple #[.pointer (some ⟨s, 0, none⟩), .int .i64 0]) ∧ Good w' P s ⟨b, W, t, ws'⟩ G m cs (fun _ => .idle) 0 (up m 1) ∧ Bt (fun k => k = bw ∨ k = bs) wr w' ∧ (∀ k, P k → k = b ∨ k = bw ∨ k = bs ∨ wr.heap.size ≤ k) := newFull_ok hA t m (by omega) (by omega) (by omega) hG hW
        have hc' : (m : Int) ≤ 1000 := by omega
        go_wp2_with (first | (at_builtin; refine wpList_appS _ _ hrun rfl rfl rfl rfl rfl ?_; clear hrun) | (go_at_call 165; refine (room_ok _ _ (by omega) (by omega)).mono ?_; rintro e w4 ⟨rfl, rfl⟩) | (go_at_call 164; refine hf.mono ?_; rintro e w2 ⟨s, Q, rfl, hG2, hB2, hQ2⟩; have hown2 := (own_over hown hB2 (by omega) (by omega)); obtain ⟨ao', k', w3, hrun, ⟨xs', ho3⟩, hg3⟩ := app_stacks w2 s (w.heap.size + 2) _ len xs hown2 (Nat.le_trans hs1 hB2.size) (by omega); have z1 := (hB2.block _ (box_lt y1) (by omega)).trans y1; have z1' := box_alloc z1 (.cells #[.pointer (some ⟨s, 0, none⟩)] 222); have z2 := (hg3.block _ (box_lt z1) (own_not hown (by omega))).trans z1; have e1 := box_cell z1; have e2 := box_cell z2; have e3 := frz z2))
        go_roundw
        case rel =>
          have hh := Hm.out
          have s2 := hB2.size
          have s3 := hg3.size
          have hA3 : ∃ ws3, Ar w3 b bw bs W G ws3 cs := by
            obtain ⟨bw', bs', _, _, _, ws2, _, hS, _⟩ := hG2
            have hR : Ar w2 b bw' bs' W G ws2 cs := hS.ar
            obtain ⟨rfl, rfl⟩ := hA.stays hR (hB2.block b hA.lt (fun r => r.elim h.b_bw h.b_bs))
            exact ⟨ws2, ⟨(hg3.block _ hR.lt (own_not hown (by omega))).trans hR.here, hR.words.of_block (hg3.block _ hR.words.lt (own_not hown (by omega))), hR.steps.of_block (hg3.block _ hR.steps.lt (own_not hown (by omega))), hR.part⟩⟩
          obtain ⟨ws3, hA3⟩ := hA3
          have hB3 : Bt (fun j => j = bw ∨ j = bs) w w3 := ⟨hg3.os.trans (hB2.os.trans hB.os), hg3.tape.trans (hB2.tape.trans hB.tape), hg3.output.trans (hB2.output.trans hB.output), by omega, fun k hk e => (hg3.block k (by omega) (own_not hown (by omega))).trans ((hB2.block k (by omega) e).trans (hB.block k hk e))⟩
          refine ⟨t + (2 * m + 8), 0, len + 1, k', ao', xs', ws3, by go_num, by go_num, ⟨by omega, by omega, by omega⟩, ?_, set_blk z2 0 _, own_block ho3 fun j hj => ?_, h.fresh hA3 _ 0 _ (by omega), hB3.set _ 0 _ (.inr (by omega)), by simp [World.setCell]; omega⟩
          · exact (heap_put _ _ (by show w.heap.size ≠ w.heap.size + 1; omega)).trans ((hg3.block _ (by omega) (own_not hown (by omega))).trans ((hB2.block _ (by omega) (by omega)).trans y0))
          · have := World.ownsRow.lt ho3 j hj
            exact heap_put _ _ (by show j ≠ w.heap.size + 1; omega)
        case measure => (have h9 := Hm.out; simp [intOf]; omega)
theorem pnew_any {w : World} {b bw bs W G : Nat} {ws cs : Nat → Int} (h : Ar w b bw bs W G ws cs) (x y : Int) (base n : Nat) (hx : x = base) (hy : y = n) (n1 : 1 ≤ n) (n2 : n ≤ 2000) (h1 : base + (14 * n + 64) ≤ W) (hW : W ≤ 65536) (hG : G ≤ 12) :
    Calls Tryz.prog 132 #[.pointer (some ⟨b, 0, none⟩), .int .i64 x, .int .i64 y] w fun e w' => ∃ p ws', e = .returned (.tuple #[.pointer (some ⟨p, 0, none⟩), .int .i64 0]) ∧ w.heap.size ≤ p ∧ Ar w' b bw bs W G ws' cs ∧ Bt (fun j => j = bw ∨ j = bs) w w' := by
  subst hx hy
  have hw := words_any h
  have hl := h.lts
  have hb := h.lt
  have a1 : decide ((n : Int) < 1) = false := by simp; omega
  have a2 : decide (2000 < (n : Int)) = false := by simp; omega
  have a3 : decide ((base : Int) < 0) = false := by simp
  have a4 : decide ((W : Int) - (14 * (n : Int) + 64) < (base : Int)) = false := by simp; omega
  have ht := newTable_ok h ((base : Int) + 8 * n) n (base + 8 * n) n (by omega) rfl (by omega) hW
  go_enter Tryz.func132, Tryz.ntmps132
  go_wp2_with (first
    | (go_at_call 131; refine hw.mono ?_; rintro e w1 ⟨rfl, rfl⟩)
    | (go_at_call 150; refine ht.mono ?_; rintro e w2 ⟨bc, rfl, l2, q2, hA2, hB2⟩)
    | (go_at_call 151; refine (newList_any hA2 ((base : Int) + 8 * n + n) n (base + 9 * n) n (by omega) rfl n2 (by omega) hW hG).mono ?_; rintro e w3 ⟨v, ws3, rfl, hA3, hB3⟩))
  go_ret2
  exact ⟨_, ws3, rfl, Nat.le_trans hB2.size hB3.size, hA3.alloc _, ((Bt.of_but hB2 (.inl rfl) (.inr rfl)).trans hB3).alloc _⟩
end Go.Proofs.YthkelaeemefnaaaGreat
/- Used of a pool. -/
namespace Go.Proofs.YthkelaeemefnaaaGreat
open Go.RowKit

/-- How many of the first i have a colour. -/
def cnt (C : Nat → Int) : Nat → Nat
  | 0 => 0
  | i + 1 => cnt C i + (if C i = 0 then 0 else 1)
theorem cnt_le (C : Nat → Int) (i : Nat) : cnt C i ≤ i := by induction i with | zero => exact Nat.le_refl _ | succ i ih => simp only [cnt]; split <;> omega
theorem cnt_mono (C : Nat → Int) {i j : Nat} (h : i ≤ j) : cnt C i ≤ cnt C j := by
  induction j with
  | zero => rw [Nat.le_zero.1 h]; exact Nat.le_refl _
  | succ j ih =>
    by_cases e : i = j + 1
    · subst e; exact Nat.le_refl _
    · have := ih (by omega); simp only [cnt]; omega
theorem cnt_lt (C : Nat → Int) {i j : Nat} (h : i < j) (hc : C i ≠ 0) : cnt C i < cnt C j := by
  have := cnt_mono C (show i + 1 ≤ j by omega)
  simp only [cnt, if_neg hc] at this
  omega
theorem cnt_all {C : Nat → Int} {n : Nat} (h : ∀ i, i < n → C i ≠ 0) : cnt C n = n := by
  induction n with
  | zero => rfl
  | succ n ih => simp only [cnt, if_neg (h n (by omega)), ih (fun i hi => h i (by omega))]
theorem cnt_none {C : Nat → Int} {n : Nat} (h : ∀ i, i < n → C i = 0) : cnt C n = 0 := by
  induction n with
  | zero => rfl
  | succ n ih => simp only [cnt, if_pos (h n (by omega)), ih (fun i hi => h i (by omega))]
/-- F lists those below i that have a colour, rising. -/
def Lists (C : Nat → Int) (F : Nat → Int) (i : Nat) : Prop := (∀ f, f < i → C f ≠ 0 → F (cnt C f) = f) ∧ ∀ j, j < cnt C i → ∃ f, f < i ∧ C f ≠ 0 ∧ F j = f
theorem Lists.skip {C F : Nat → Int} {i : Nat} (h : Lists C F i) (hc : C i = 0) : Lists C F (i + 1) := by
  refine ⟨fun f hf hu => ?_, fun j hj => ?_⟩
  · by_cases e : f = i
    · subst e; exact absurd hc hu
    · exact h.1 f (by omega) hu
  · simp only [cnt, if_pos hc, Nat.add_zero] at hj
    obtain ⟨f, h1, h2⟩ := h.2 j hj
    exact ⟨f, by omega, h2⟩
theorem Lists.more {C F : Nat → Int} {i : Nat} (h : Lists C F i) (hc : C i ≠ 0) : Lists C (cat (cnt C i) F (fun _ => (i : Int))) (i + 1) := by
  refine ⟨fun f hf hu => ?_, fun j hj => ?_⟩
  · by_cases e : f = i
    · subst e; unfold cat; rw [if_neg (by omega)]
    · have := cnt_lt C (show f < i by omega) hu
      unfold cat; rw [if_pos this]; exact h.1 f (by omega) hu
  · simp only [cnt, if_neg hc] at hj
    by_cases e : j < cnt C i
    · obtain ⟨f, h1, h2, h3⟩ := h.2 j e
      exact ⟨f, by omega, h2, by unfold cat; rw [if_pos e]; exact h3⟩
    · exact ⟨i, by omega, hc, by unfold cat; rw [if_neg e]⟩
end Go.Proofs.YthkelaeemefnaaaGreat
