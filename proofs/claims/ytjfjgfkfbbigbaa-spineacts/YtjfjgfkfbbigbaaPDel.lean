/- find, behind; slices.Delete of one array; remove, add. -/
import Derived.Test.YtjfjgfkfbbigbaaPFind
import Derived.Lib.LazyBuf
namespace Go.Proofs.Ytjfjgfkfbbigbaa
open Go.RowKit

theorem infoA : (Try.prog.info? 72).map (fun i => (i.zero, i.size, i.bytes)) = some (some (.agg #[.int .i64 0, .int .i64 0, .int .i64 0]), 3, 24) := by kernel_rfl

theorem find_yes {w : World} {v : Value} {xs : List Ary} (h : Arys w v xs) (hs : SortedA xs) (hl : xs.length < 1000000) (t : Int) (hh : has xs t = true) :
    Calls Try.prog 26 #[v, .int .i64 t] w fun e w' => ∃ p, v.ownBlock = some p ∧ e = .returned (.pointer (some ⟨p, pos xs t * 3, none⟩)) ∧ Below w.heap.size w w' := by
  obtain ⟨x, hx, _⟩ := has_at hs hh
  have hp : pos xs t < xs.length := (List.getElem?_eq_some_iff.1 hx).1
  have hB := bs_any h hs hl t
  obtain ⟨p, cap, rfl, _⟩ := h.cells (by omega)
  rw [hh] at hB
  generalize pos xs t = k at *
  generalize xs.length = N at *
  clear hx hh hs h
  go_enter Try.func26, Try.ntmps26
  go_wp2_with (go_at_call 44; refine hB.mono ?_; rintro e w1 ⟨rfl, hb⟩)
  go_ret
  exact ⟨p, rfl, by simp, hb⟩
theorem find_no {w : World} {v : Value} {xs : List Ary} (h : Arys w v xs) (hs : SortedA xs) (hl : xs.length < 1000000) (t : Int) (hh : has xs t = false) :
    Calls Try.prog 26 #[v, .int .i64 t] w fun e w' => e = .returned (.pointer none) ∧ Below w.heap.size w w' := by
  have hB := bs_any h hs hl t
  rw [hh] at hB
  generalize pos xs t = k at *
  clear hh hs h
  go_enter Try.func26, Try.ntmps26
  go_wp2_with (go_at_call 44; refine hB.mono ?_; rintro e w1 ⟨rfl, hb⟩)
  go_ret
  exact ⟨rfl, hb⟩
theorem behind_yes {w : World} {v : Value} {xs : List Ary} (h : Arys w v xs) (hs : SortedA xs) (hl : xs.length < 1000000) (t : Int) (ht : -1000000 ≤ t ∧ t < 4611686018427387904) (hp : pos xs (t + 1) < xs.length) :
    Calls Try.prog 60 #[v, .int .i64 t] w fun e w' => ∃ p, v.ownBlock = some p ∧ e = .returned (.pointer (some ⟨p, pos xs (t + 1) * 3, none⟩)) ∧ Below w.heap.size w w' := by
  have hB := bs_any h hs hl (t + 1)
  obtain ⟨p, cap, rfl, _⟩ := h.cells (by omega)
  have h2 : (((pos xs (t + 1) : Nat) : Int) == (xs.length : Int)) = false := by simp; omega
  generalize pos xs (t + 1) = k at *
  generalize has xs (t + 1) = F at *
  generalize xs.length = N at *
  clear hs h
  go_enter Try.func60, Try.ntmps60
  go_wp2_with (go_at_call 44; refine hB.mono ?_; rintro e w1 ⟨rfl, hb⟩)
  go_ret
  exact ⟨p, rfl, by simp, hb⟩
theorem behind_no {w : World} {v : Value} {xs : List Ary} (h : Arys w v xs) (hs : SortedA xs) (hl : xs.length < 1000000) (t : Int) (ht : -1000000 ≤ t ∧ t < 4611686018427387904) (hp : pos xs (t + 1) = xs.length) :
    Calls Try.prog 60 #[v, .int .i64 t] w fun e w' => e = .returned (.pointer none) ∧ Below w.heap.size w w' := by
  have hB := bs_any h hs hl (t + 1)
  have hV : ∃ ao cap, v = .slice ao xs.length cap := by
    rcases h.shape with ⟨rfl, rfl⟩ | ⟨p, cap, rfl, _⟩
    · exact ⟨none, 0, rfl⟩
    · exact ⟨_, cap, rfl⟩
  rw [hp] at hB
  generalize has xs (t + 1) = F at *
  clear hp hs h
  obtain ⟨ao, cap, rfl⟩ := hV
  generalize xs.length = N at *
  go_enter Try.func60, Try.ntmps60
  go_wp2_with (go_at_call 44; refine hB.mono ?_; rintro e w1 ⟨rfl, hb⟩)
  go_ret
  exact ⟨rfl, hb⟩

/-- The cells of a row of arrays, all of its block's. -/
theorem Arys.row {w : World} {p cap : Nat} {xs : List Ary} {n : Nat} (h : Arys w (.slice (some ⟨p, 0, none⟩) n cap) xs) : n = xs.length ∧ n ≤ cap ∧ cap ≤ maxLen ∧ ∃ F : Nat → Value, w.rowIs p 72 (cap * 3) F ∧ ∀ j, j < xs.length * 3 → (cellsA xs)[j]? = some (F j) := by
  rcases h.shape with ⟨hq, _⟩ | ⟨p', cap', hq, hc, hm, cur, hp, hs, ht⟩
  · simp at hq
  · simp only [Value.slice.injEq, Option.some.injEq, Addr.mk.injEq] at hq
    obtain ⟨⟨rfl, _⟩, rfl, rfl⟩ := hq
    refine ⟨rfl, hc, hm, fun j => cur[j]?.getD default, ⟨cur, hp, hs, fun j hj => ?_⟩, fun j hj => ?_⟩
    · show cur[j]? = some (cur[j]?.getD default)
      rw [Array.getElem?_eq_getElem (by omega)]; rfl
    · show _ = some (cur[j]?.getD default)
      rw [← ht, List.getElem?_take, if_pos (by omega), Array.getElem?_toList, Array.getElem?_eq_getElem (by omega)]; rfl
theorem Arys.of_row {w : World} {p cap : Nat} {xs : List Ary} {F : Nat → Value} (hr : w.rowIs p 72 (cap * 3) F) (hc : xs.length ≤ cap) (hm : cap ≤ maxLen) (hF : ∀ j, j < xs.length * 3 → (cellsA xs)[j]? = some (F j)) : Arys w (.slice (some ⟨p, 0, none⟩) xs.length cap) xs := by
  obtain ⟨c, hp, hs, hcell⟩ := hr
  refine ⟨cellsA_length xs, .inr ⟨p, cap, c, rfl, Nat.zero_le _, hp, hc, hm, hs, ?_⟩⟩
  apply List.ext_getElem?
  intro j
  rw [List.getElem?_take]
  by_cases hj : j < xs.length * 3
  · rw [if_pos hj, hF j hj, Array.getElem?_toList, hcell j (by omega)]
  · rw [if_neg hj, List.getElem?_eq_none (by rw [cellsA_length]; omega)]
theorem cellsA_take (xs : List Ary) (i j : Nat) (hj : j < i * 3) (hi : i ≤ xs.length) : (cellsA (xs.take i))[j]? = (cellsA xs)[j]? := by
  conv => rhs; rw [← List.take_append_drop i xs, cellsA_append]
  rw [List.getElem?_append_left (by rw [cellsA_length, List.length_take]; omega)]
theorem cellsA_drop (xs : List Ary) (i j : Nat) (hi : i ≤ xs.length) : (cellsA (xs.drop i))[j]? = (cellsA xs)[i * 3 + j]? := by
  conv => rhs; rw [← List.take_append_drop i xs, cellsA_append]
  have e : (cellsA (xs.take i)).length = i * 3 := by rw [cellsA_length, List.length_take, Nat.min_eq_left hi]
  rw [List.getElem?_append_right (by rw [e]; omega), e, Nat.add_sub_cancel_left]
theorem erase_cells (xs : List Ary) (i : Nat) (hi : i < xs.length) (F : Nat → Value) (hF : ∀ j, j < xs.length * 3 → (cellsA xs)[j]? = some (F j)) (j : Nat) (hj : j < (xs.length - 1) * 3) :
    (cellsA (xs.eraseIdx i))[j]? = some (if i * 3 ≤ j ∧ j < i * 3 + (cellsA (xs.drop (i + 1))).length then (cellsA (xs.drop (i + 1)))[j - i * 3]?.getD default else F j) := by
  have hl : (cellsA (xs.drop (i + 1))).length = (xs.length - (i + 1)) * 3 := by rw [cellsA_length, List.length_drop]
  have e : (cellsA (xs.take i)).length = i * 3 := by rw [cellsA_length, List.length_take, Nat.min_eq_left (by omega)]
  rw [List.eraseIdx_eq_take_drop_succ, cellsA_append]
  by_cases h : i * 3 ≤ j
  · rw [if_pos ⟨h, by rw [hl]; omega⟩, List.getElem?_append_right (by rw [e]; exact h), e]
    rw [List.getElem?_eq_getElem (by rw [hl]; omega)]; rfl
  · rw [if_neg (fun q => h q.1), List.getElem?_append_left (by rw [e]; omega), cellsA_take xs i j (by omega) (by omega)]
    exact hF j (by omega)

theorem zeroA (w : World) (t ty : TypeId) (ht : Try.prog.underlying t = some (.slice 72)) (b o c : Nat)
    (hc : ∀ j, j < 3 → (w.cell? ⟨b, o + j, none⟩).isSome = true) (hf : ∀ j, j < 3 → w.frozen? ⟨b, o + j, none⟩ = false) :
    (Builtin.clear_ #[t] ty #[.slice (some ⟨b, o, none⟩) 1 c]).run Try.prog w = .ok (.tuple #[]) (w.setCells b o [.int .i64 0, .int .i64 0, .int .i64 0]) := by
  have hz : ∀ w, (zeroValue 72).run Try.prog w = .ok (.agg #[.int .i64 0, .int .i64 0, .int .i64 0]) w := fun w => by kernel_rfl
  have hst := run_storeCells_cells (P := Try.prog) b o [.int .i64 0, .int .i64 0, .int .i64 0] 0 w (by simpa using hc) (by simpa using hf) (by simp [Value.oneCell'])
  simp only [Nat.add_zero] at hst
  have hzc : (Builtin.zeroCells (Value.agg #[.int .i64 0, .int .i64 0, .int .i64 0]).cells 1).toList = [.int .i64 0, .int .i64 0, .int .i64 0] := by kernel_rfl
  simp [Builtin.clear_, run_underlying ht, hz, hzc, hst]

theorem setCells_grown (w : World) (b o : Nat) (vs : List Value) : w.grownBy (w.setCells b o vs) (some b) := by
  induction vs generalizing w o with
  | nil => exact ⟨rfl, rfl, rfl, Nat.le_refl _, fun _ _ _ => rfl⟩
  | cons v r ih =>
    have h := ih (w.setCell ⟨b, o, none⟩ v) (o + 1)
    refine ⟨h.os, h.tape, h.output, Nat.le_trans (by simp [World.setCell]) h.size, fun k hk e => (h.block k (by simp [World.setCell]; exact hk) e).trans (Below.heap_setCell _ _ _ _ (fun q => e (by rw [q])))⟩
set_option maxRecDepth 20000 in
set_option maxHeartbeats 2000000 in
theorem delete_ok {w : World} {p cap n : Nat} {xs : List Ary} (h : Arys w (.slice (some ⟨p, 0, none⟩) n cap) xs) (i : Nat) (J : Int) (hi : i < n) (hJ : J = (i : Int) + 1) :
    Calls Try.prog 51 #[.slice (some ⟨p, 0, none⟩) n cap, .int .i64 i, .int .i64 J] w fun e w' => e = .returned (.slice (some ⟨p, 0, none⟩) (n - 1) cap) ∧ Arys w' (.slice (some ⟨p, 0, none⟩) (n - 1) cap) (xs.eraseIdx i) ∧ w.grownBy w' (some p) := by
  obtain ⟨hn, hcap, hm, F, hR, hF⟩ := h.row
  obtain ⟨j, hj⟩ : ∃ j : Nat, j = i + 1 := ⟨_, rfl⟩
  have hJ' : J = (j : Int) := by omega
  subst hJ'
  have hjn : j ≤ n := by omega
  clear hJ
  obtain ⟨i0, hi0, hzz⟩ := Option.map_eq_some_iff.1 infoA
  simp only [Prod.mk.injEq] at hzz
  obtain ⟨_, hz1, _⟩ := hzz
  obtain ⟨news, hnews⟩ : ∃ news, news = cellsA (xs.drop j) := ⟨_, rfl⟩
  have hlen : news.length = (n - j) * 3 := by rw [hnews, cellsA_length, List.length_drop, hn]
  have hget : ∀ t, t < (n - j) * 3 → news[t]? = some (F (j * 3 + t)) := by
    intro t ht
    rw [hnews, cellsA_drop xs j t (by omega)]
    exact hF _ (by omega)
  obtain ⟨A, hA, hsrc⟩ : ∃ A : Addr, (if cap = j then some (⟨p, 0, none⟩ : Addr) else some ⟨p, j * 3, none⟩) = some A ∧ Hid (∀ t u, news[t]? = some u → w.drew.cell? (A.add t) = some u) := by
    by_cases hcj : cap = j
    · refine ⟨⟨p, 0, none⟩, by simp [hcj], fun t u hu => ?_⟩
      have h0 : news.length = 0 := by rw [hlen]; omega
      rw [List.length_eq_zero_iff.1 h0] at hu
      simp at hu
    · refine ⟨⟨p, j * 3, none⟩, by simp [hcj], fun t u hu => ?_⟩
      have ht : t < (n - j) * 3 := by
        have := (List.getElem?_eq_some_iff.1 hu).1
        rwa [hlen] at this
      rw [hget t ht] at hu
      rw [add_lit]
      exact (hR.cell (by omega)).trans hu
  have s1 : Hid (news.length = (n - j) * 3) := hlen
  have s2 : Hid (∀ u ∈ news, u.oneCell' = true) := by rw [hnews]; exact cellsA_one _
  have s3 : Hid (∀ t, t < news.length → (w.drew.cell? ⟨p, 0 + i * 3 + t, none⟩).isSome = true ∧ w.drew.frozen? ⟨p, 0 + i * 3 + t, none⟩ = false) := by
    intro t ht
    rw [hlen] at ht
    rw [Nat.zero_add]
    exact ⟨by show (w.cell? _).isSome = true; rw [hR.cell (by omega)]; rfl, hR.frozen _⟩
  obtain ⟨W1, hW1⟩ : ∃ W1, W1 = w.drew.setCells p (0 + i * 3) news := ⟨_, rfl⟩
  have hR1 := Go.rowIs_setCells news (0 + i * 3) w.drew F hR.drew
  rw [← hW1] at hR1
  have hcl : ∀ ty, (Builtin.clear_ #[62] ty #[.slice (some ⟨p, (i + (n - j)) * 3, none⟩) (n - (i + (n - j))) (cap - (i + (n - j)))]).run Try.prog W1 = .ok (.tuple #[]) (W1.setCells p ((i + (n - j)) * 3) [.int .i64 0, .int .i64 0, .int .i64 0]) := by
    intro ty
    rw [show n - (i + (n - j)) = 1 by omega]
    exact zeroA W1 _ ty Try.underlying62 p _ _ (fun t ht => by rw [hR1.cell (by omega)]; rfl) (fun t _ => hR1.frozen _)
  have hfin : Hid (Arys (W1.setCells p ((i + (n - j)) * 3) [.int .i64 0, .int .i64 0, .int .i64 0]) (.slice (some ⟨p, 0, none⟩) (n - 1) cap) (xs.eraseIdx i) ∧ w.grownBy (W1.setCells p ((i + (n - j)) * 3) [.int .i64 0, .int .i64 0, .int .i64 0]) (some p)) := by
    constructor
    · have hR2 := Go.rowIs_setCells [.int .i64 0, .int .i64 0, .int .i64 0] ((i + (n - j)) * 3) W1 _ hR1
      have hel : (xs.eraseIdx i).length = n - 1 := by rw [List.length_eraseIdx, if_pos (by omega), hn]
      have := Arys.of_row (xs := xs.eraseIdx i) hR2 (by omega) hm (fun t ht => by
        rw [hel] at ht
        rw [if_neg (by omega), erase_cells xs i (by omega) F hF t (by omega), hnews, hj]
        simp only [Nat.zero_add])
      rw [hel] at this
      exact this
    · have g1 : w.grownBy W1 (some p) := by
        have := setCells_grown w.drew p (0 + i * 3) news
        rw [← hW1] at this
        exact ⟨this.os, this.tape, this.output, this.size, this.block⟩
      have g2 := setCells_grown W1 p ((i + (n - j)) * 3) [.int .i64 0, .int .i64 0, .int .i64 0]
      exact ⟨g2.os.trans g1.os, g2.tape.trans g1.tape, g2.output.trans g1.output, Nat.le_trans g1.size g2.size, fun k hk e => (g2.block k (Nat.lt_of_lt_of_le hk g1.size) e).trans (g1.block k hk e)⟩
  have hW : Hid (W1 = w.drew.setCells p (0 + i * 3) news) := hW1
  have hic : i ≤ cap := by omega
  have hjc : j ≤ cap := by omega
  have hne : ((i : Int) == (j : Int)) = false := by simp; omega
  have hend : Hid (n - 1 = i + (n - j)) := (by omega : n - 1 = i + (n - j))
  have hij : i ≤ j := by omega
  have hni : ¬ n = i := by omega
  have hnc : ¬ cap = i + (n - j) := by omega
  clear hW1 hR1 hR hF hget hnews hlen h hn hj hi
  go_enter Try.func51, Try.ntmps51
  go_wp2_with fail
  go_region_law (refine step_append_room rfl (.tmp 22) (.tmp 25) 62 rfl 72 i0 3 Try.underlying62 hi0 hz1 p 0 i cap (by simp [Act.eval, Act.put]) A (n - j) (cap - j) news (by simp [Act.eval, Act.put]) s1.out hsrc.out s2.out (by omega) s3.out ?_; rw [← hW.out])
  go_wp2
  go_ret
  refine ⟨?_, hfin.out⟩
  rw [hend.out]
  rfl
theorem remove_ok {w : World} {v : Value} {xs : List Ary} {s : Nat} (h : Arys w v xs) (hs : SortedA xs) (hl : xs.length < 1000000) (t : Int) (hh : has xs t = true) (hc : w.cell? ⟨s, 5, none⟩ = some v) (hf : w.frozen? ⟨s, 5, none⟩ = false) (hne : v.ownBlock ≠ some s) :
    Calls Try.prog 39 #[.pointer (some ⟨s, 5, none⟩), .int .i64 t] w fun e w' => e = .returned (.tuple #[]) ∧ ∃ v' w1, w' = w1.setCell ⟨s, 5, none⟩ v' ∧ Arys w1 v' (xs.eraseIdx (pos xs t)) ∧ w.grownBy w1 v.ownBlock ∧ v'.ownBlock = v.ownBlock := by
  obtain ⟨x, hx, _⟩ := has_at hs hh
  have hp : pos xs t < xs.length := (List.getElem?_eq_some_iff.1 hx).1
  have hB := bs_any h hs hl t
  obtain ⟨p, cap, rfl, hpw, _⟩ := h.cells (by omega)
  have hsw : s < w.heap.size := World.block_lt_of_cell? w _ hc
  rw [hh] at hB
  have key : ∀ w1, Below w.heap.size w w1 → Arys w1 (.slice (some ⟨p, 0, none⟩) xs.length cap) xs := fun w1 hb => h.below hb
  have HG : Hid (∀ w1, w.grownBy w1 (some p) → w1.cell? ⟨s, 5, none⟩ = some (.slice (some ⟨p, 0, none⟩) xs.length cap) ∧ w1.frozen? ⟨s, 5, none⟩ = false) := fun w1 hg => by
    have e := hg.block s hsw (fun q => hne q.symm)
    exact ⟨(World.cell?_of_block (a := ⟨s, 5, none⟩) e).trans hc, (World.frozen?_of_block (a := ⟨s, 5, none⟩) e).trans hf⟩
  generalize pos xs t = k at *
  generalize hN : xs.length = N at *
  clear hx hh hs hN
  go_enter Try.func39, Try.ntmps39
  go_wp2_with (first
    | (go_at_call 44; refine hB.mono ?_; rintro e w1 ⟨rfl, hb⟩; have c1 := (HG.out w1 ⟨hb.os, hb.tape, hb.output, hb.size, fun j hj _ => hb.block j hj⟩).1)
    | (go_at_call 51; refine (delete_ok (key _ hb) k _ hp rfl).mono ?_; rintro e w2 ⟨rfl, hA, hg⟩; have hg2 : w.grownBy w2 (some p) := ⟨hg.os.trans hb.os, hg.tape.trans hb.tape, hg.output.trans hb.output, Nat.le_trans hb.size hg.size, fun j hj q => (hg.block j (Nat.lt_of_lt_of_le hj hb.size) q).trans (hb.block j hj)⟩; obtain ⟨c2, f2⟩ := HG.out w2 hg2))
  go_end0
  exact ⟨rfl, _, _, rfl, hA, hg2, rfl⟩

/-- An append, by a name that the walk does not open. -/
def appA (ats : Array TypeId) (ty : TypeId) (args : Array Value) : Sem Value := Builtin.append_ ats ty args
theorem app_A (ats : Array TypeId) (ty : TypeId) (args : Array Value) : Builtin.append_ ats ty args = appA ats ty args := rfl
attribute [local go_sem ↓] app_A
theorem add_ok {w : World} {v : Value} {xs : List Ary} {s : Nat} (h : Arys w v xs) (hl : xs.length < 1000000) (x y z : Int) (hc : w.cell? ⟨s, 5, none⟩ = some v) (hf : w.frozen? ⟨s, 5, none⟩ = false) (hne : v.ownBlock ≠ some s) :
    Calls Try.prog 37 #[.pointer (some ⟨s, 5, none⟩), .agg #[.int .i64 x, .int .i64 y, .int .i64 z]] w fun e w' => e = .returned (.tuple #[]) ∧ ∃ v' w1, w' = w1.setCell ⟨s, 5, none⟩ v' ∧ Arys w1 v' (xs ++ [⟨x, y, z⟩]) ∧ w.grownBy w1 v.ownBlock ∧ (v'.ownBlock = v.ownBlock ∨ ∃ k, v'.ownBlock = some k ∧ w.heap.size ≤ k) := by
  have hsw : s < w.heap.size := World.block_lt_of_cell? w _ hc
  obtain ⟨i0, hi0, hzz⟩ := Option.map_eq_some_iff.1 infoA
  simp only [Prod.mk.injEq] at hzz
  obtain ⟨hz0, hz1, hz2⟩ := hzz
  obtain ⟨W, hW⟩ : ∃ W, W = ((w.alloc (.cells #[.int .i64 x, .int .i64 y, .int .i64 z] 72)).alloc (.cells #[.int .i64 x, .int .i64 y, .int .i64 z] 72)).drew := ⟨_, rfl⟩
  have hbW : Below w.heap.size w W := by rw [hW]; exact (((Below.refl _ w).alloc (Nat.le_refl _) _).alloc (by simp) _).drew
  have hnew : ∀ j u, ([.int .i64 x, .int .i64 y, .int .i64 z] : List Value)[j]? = some u → W.cell? ((⟨w.heap.size + 1, 0, none⟩ : Addr).add j) = some u := by
    intro j u hu
    rw [add_lit, Nat.zero_add]
    have e : W.heap[w.heap.size + 1]? = some (.cells #[.int .i64 x, .int .i64 y, .int .i64 z] 72 (0, 0)) := by
      rw [hW]
      have := heap_alloc_new (w.alloc (.cells #[.int .i64 x, .int .i64 y, .int .i64 z] 72)) (.cells #[.int .i64 x, .int .i64 y, .int .i64 z] 72)
      rw [Go.Deep.nblk_alloc] at this
      exact this
    simp only [World.cell?, e]
    simpa using hu
  obtain ⟨v', w', hrun, hown, hg, _, hat⟩ := run_append_own_at (P := Try.prog) W 0 62 62 72 i0 _ 3 24 Try.underlying62 hi0 hz0 hz1 hz2 rfl (by decide) v xs.length (cellsA xs) (h.below hbW) ⟨w.heap.size + 1, 0, none⟩ 1 1 [.int .i64 x, .int .i64 y, .int .i64 z] rfl hnew (by simp [Value.oneCell']) (by unfold maxLen; omega) (by omega) (Nat.zero_le _)
  have hA : Arys w' v' (xs ++ [⟨x, y, z⟩]) := by
    unfold Arys
    rw [cellsA_append, List.length_append]
    exact hown
  have hg2 : w.grownBy w' v.ownBlock := ⟨hg.os.trans hbW.os, hg.tape.trans hbW.tape, hg.output.trans hbW.output, Nat.le_trans hbW.size hg.size, fun j hj q => (hg.block j (Nat.lt_of_lt_of_le hj hbW.size) q).trans (hbW.block j hj)⟩
  have hat2 : v'.ownBlock = v.ownBlock ∨ ∃ k, v'.ownBlock = some k ∧ w.heap.size ≤ k := by
    rcases hat with q | q
    · exact .inl q
    · exact .inr ⟨_, q, hbW.size⟩
  obtain ⟨n', cap', ao, rfl⟩ : ∃ n' cap' ao, v' = .slice ao n' cap' := by
    rcases hA.shape with ⟨rfl, _⟩ | ⟨p, cap, rfl, _⟩
    · exact ⟨_, _, _, rfl⟩
    · exact ⟨_, _, _, rfl⟩
  obtain ⟨n0, cap0, ao0, rfl⟩ : ∃ n' cap' ao, v = .slice ao n' cap' := by
    rcases h.shape with ⟨rfl, _⟩ | ⟨p, cap, rfl, _⟩
    · exact ⟨_, _, _, rfl⟩
    · exact ⟨_, _, _, rfl⟩
  have e := hg2.block s hsw (fun q => hne q.symm)
  have c1 : w'.cell? ⟨s, 5, none⟩ = some (.slice ao0 n0 cap0) := (World.cell?_of_block (a := ⟨s, 5, none⟩) e).trans hc
  have f1 : w'.frozen? ⟨s, 5, none⟩ = false := (World.frozen?_of_block (a := ⟨s, 5, none⟩) e).trans hf
  rw [app_A, hW] at hrun
  have HA : Hid _ := hA
  have HG : Hid _ := hg2
  have HT : Hid _ := hat2
  clear hA hg2 hat2 hat hg hown hnew hbW hW h e
  go_enter Try.func37, Try.ntmps37
  go_wp2
  go_region
  go_wp2
  go_end0
  exact ⟨rfl, _, _, rfl, HA.out, HG.out, HT.out⟩
end Go.Proofs.Ytjfjgfkfbbigbaa
