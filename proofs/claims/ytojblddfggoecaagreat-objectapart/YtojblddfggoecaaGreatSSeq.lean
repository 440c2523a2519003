/- The stack from the top down: what is told outside any agent. -/
import Derived.Test.YtojblddfggoecaaGreatSDo
import Derived.RangeFuncNested
import Derived.RangeFuncBound
import Derived.RangeFuncCalls
import Derived.RangeFuncLeaves
import Derived.RangeFuncBox
import Derived.RangeFuncFrom
import Derived.Shelf.Abstract
import Derived.Shelf.RegionOpen
import Derived.OwnWalkIn
import Derived.LoopNIn
import Derived.LoopIn
import Derived.Maps.AppendAt
namespace Go.Proofs.YtojblddfggoecaaGreat
open Go.RowKit Go.Shelf
attribute [local go_sem] Oper.semAt_some

theorem peekTop_ok {w : World} {b bw bs W G : Nat} {ws cs : Nat → Int} (h : Ar w b bw bs W G ws cs) {bt bu bl : Nat} {c : Int} (hx : Bx w bw bs bt bu bl c) {base cap : Nat} {t i : Int} (ha : base < W) (h1 : 0 < c) (hq : wrap64 ((ws base).tdiv c) = t) (hr : (ws base).tmod c = i) (hi : 0 ≤ i) :
    Calls Tryz.prog 117 #[.agg #[.pointer (some ⟨b, 0, none⟩), .func (.func 135) #[] #[.pointer (some ⟨bt, 0, none⟩)], .func (.func 136) #[] #[.pointer (some ⟨bu, 0, none⟩)], .pointer (some ⟨b, 0, none⟩), .func (.func 137) #[] #[.pointer (some ⟨bl, 0, none⟩)], .func (.func 124) #[] #[], .int .i64 base, .int .i64 cap]] w fun e w' => e = .returned (.int .i64 i) ∧ Below w.heap.size w w' := by
  go_enter Tryz.func117, Tryz.ntmps117
  go_wp2_with (go_at_call 133; refine (topPeek_ok (h.alloc _) (hx.alloc _) base ha h1 hq hr hi).mono ?_; rintro e w1 ⟨rfl, hb⟩)
  go_ret
  exact ⟨rfl, (((Below.refl w.heap.size w).alloc (Nat.le_refl _) _).trans (hb.mono (by simp))).alloc (by have := hb.size; simp at this; omega) _⟩
set_option maxHeartbeats 1000000 in
theorem peekBelow_ok {w : World} {b bw bs W G : Nat} {ws cs : Nat → Int} (h : Ar w b bw bs W G ws cs) {bt bu bl : Nat} {c : Int} (hx : Bx w bw bs bt bu bl c) {base cap : Nat} {i : Int} (a : Nat) (ha : a < W) (hp : (base : Int) + i = a) (hW : W ≤ 65536) (hi : 0 ≤ ws a) (hj : ws a < c) :
    Calls Tryz.prog 118 #[.agg #[.pointer (some ⟨b, 0, none⟩), .func (.func 135) #[] #[.pointer (some ⟨bt, 0, none⟩)], .func (.func 136) #[] #[.pointer (some ⟨bu, 0, none⟩)], .pointer (some ⟨b, 0, none⟩), .func (.func 137) #[] #[.pointer (some ⟨bl, 0, none⟩)], .func (.func 124) #[] #[], .int .i64 base, .int .i64 cap], .int .i64 i] w fun e w' => e = .returned (.int .i64 (ws a)) ∧ Below w.heap.size w w' := by
  have hX := blk8 (heap_alloc_new w (.cells #[.pointer (some ⟨b, 0, none⟩), .func (.func 135) #[] #[.pointer (some ⟨bt, 0, none⟩)], .func (.func 136) #[] #[.pointer (some ⟨bu, 0, none⟩)], .pointer (some ⟨b, 0, none⟩), .func (.func 137) #[] #[.pointer (some ⟨bl, 0, none⟩)], .func (.func 124) #[] #[], .int .i64 base, .int .i64 cap] 123))
  go_enter Tryz.func118, Tryz.ntmps118
  go_wp2
  go_region_held3 (fun w' => w'.cell? ⟨w.heap.size, 0, none⟩ = some (.pointer (some ⟨b, 0, none⟩)) ∧ w'.cell? ⟨w.heap.size, 1, none⟩ = some (.func (.func 135) #[] #[.pointer (some ⟨bt, 0, none⟩)]) ∧ w'.cell? ⟨w.heap.size, 2, none⟩ = some (.func (.func 136) #[] #[.pointer (some ⟨bu, 0, none⟩)]) ∧ w'.cell? ⟨w.heap.size, 3, none⟩ = some (.pointer (some ⟨b, 0, none⟩)) ∧ w'.cell? ⟨w.heap.size, 4, none⟩ = some (.func (.func 137) #[] #[.pointer (some ⟨bl, 0, none⟩)]) ∧ w'.cell? ⟨w.heap.size, 5, none⟩ = some (.func (.func 124) #[] #[]) ∧ w'.cell? ⟨w.heap.size, 6, none⟩ = some (.int .i64 base) ∧ w'.cell? ⟨w.heap.size, 7, none⟩ = some (.int .i64 cap)) (go_keep)
    (first
      | (go_at_call 134; refine (linkPeek_ok hA1 hx1 a ha hi hj).mono ?_; rintro e w2 ⟨rfl, hb2⟩; have eX2 := blk8 (ov hb2 hL))
      | (go_at_call 104; refine (placeOf_any (cap := cap) (bt := bt) (bu := bu) (bl := bl) i a _ hp (by omega)).mono ?_; rintro e w1 ⟨rfl, hb⟩; have hb1 := un_drew hb; have hA1 := (h.alloc _).below hb1; have hx1 := (hx.alloc _).below hb1; have hL := ov hb1 (heap_alloc_new w _); have eX := blk8 hL))
  go_wp2
  go_ret
  exact ⟨rfl, ((Below.refl w.heap.size w).alloc (Nat.le_refl _) _).trans ((hb1.mono (by simp)).trans (hb2.mono (by have := hb1.size; simp at this; omega)))⟩
theorem downward_ok (s : Nat) (w : World) :
    Calls Tryz.prog 97 #[.pointer (some ⟨s, 0, none⟩)] w fun e w' => e = .returned (.func (.func 116) #[] #[.pointer (some ⟨w.heap.size, 0, none⟩)]) ∧ w' = w.alloc (.cells #[.pointer (some ⟨s, 0, none⟩)] 99) := by
  go_enter Tryz.func97, Tryz.ntmps97
  go_wp2
  go_ret
  exact ⟨rfl, rfl⟩
theorem grown_of {w w' : World} (h : Below w.heap.size w w') : w.grownBy w' none := ⟨h.os, h.tape, h.output, h.size, fun k hk _ => h.block k hk⟩

theorem length_le {cap : Nat} {xs : List Int} (hr : ∀ x, x ∈ xs → 1 ≤ x ∧ x ≤ cap) (hn : xs.Nodup) : xs.length ≤ cap := by
  have h1 : (xs.map Int.toNat).Nodup := by
    induction xs with
    | nil => simp
    | cons x r ih =>
      have hx := hr x (by simp)
      rw [List.map_cons, List.nodup_cons]
      refine ⟨fun hm => ?_, ih (fun y hy => hr y (by simp [hy])) (List.nodup_cons.1 hn).2⟩
      obtain ⟨y, hy, e⟩ := List.mem_map.1 hm
      have hy' := hr y (by simp [hy])
      exact (List.nodup_cons.1 hn).1 ((show y = x by omega) ▸ hy)
  have h2 : (xs.map Int.toNat) ⊆ (List.range cap).map (· + 1) := by
    intro n hm
    obtain ⟨x, hx, rfl⟩ := List.mem_map.1 hm
    have := hr x hx
    exact List.mem_map.2 ⟨x.toNat - 1, List.mem_range.2 (by omega), by omega⟩
  have h3 := h1.length_le_of_subset h2
  simpa using h3
theorem hd_nil : hd [] = 0 := rfl
theorem hd_cons (x : Int) (r : List Int) : hd (x :: r) = x := rfl
theorem Lk.at_ {base : Nat} {ws : Nat → Int} {pre rest : List Int} {x : Int} (h : Lk base ws (pre ++ x :: rest)) : ws (base + x.toNat) = hd rest := by
  induction pre with
  | nil => exact h.1
  | cons y r ih => exact ih h.2

/-- What a round must keep: what lay below n, and the box at B. -/
def Kp (n B : Nat) (W W' : World) : Prop := Below n W W' ∧ W'.heap[B]? = W.heap[B]?
set_option maxRecDepth 100000 in
set_option maxHeartbeats 2000000 in
theorem down1_in (n : Nat) (hn : 1 ≤ n) (l Bn : Nat) {w : World} {P : Nat → Prop} {s b bw bs bt bu bl W G base cap : Nat} {ws cs : Nat → Int} {ops : Nat → Op} {ob : Nat → Nat} {T : Int} {xs : List Int} (h : Stk w P s b bw bs bt bu bl W G base cap ws cs ops ob) (hI : Inv base cap ws ops T xs) (hT : T ≤ 1000000000) (J Jx : List Int → World → Prop)
    (W1 : World) (hJ : AbidesFrom W1.heap.size J) (hY : ∀ pre x W, J pre W → pre.length < xs.length → YieldAt Fence.wide (n - 1) Tryz.prog l #[.int .i64 x] W fun e W' =>
      (e = .returned (.bool true) ∧ J (pre ++ [x]) W' ∧ Kp w.heap.size Bn W W') ∨ (e = .returned (.bool false) ∧ Jx (pre ++ [x]) W'))
    (hBn : W1.heap[Bn]? = some (.cells #[.pointer (some ⟨s, 0, none⟩)] 99 (0, 0))) (hL : Below w.heap.size w W1) (h0 : J [] W1) :
    CallsIn Fence.wide n Tryz.prog 116 #[.func (.yield l) #[] #[], .pointer (some ⟨Bn, 0, none⟩)] W1 fun e W' => (∃ v, e = .returned v) ∧
      ((∃ ys, ys = xs ∧ J ys W') ∨ (∃ pre, pre <+: xs ∧ Jx pre W')) := by
  have hJ' : ∀ pre A B, J pre A → Below A.heap.size A B → J pre B := fun pre A B hA hb => hJ pre A B none hA (grown_of hb) (fun r e => by cases e)
  have hc := c_facts h
  have ht := top_facts hI hT
  have hh := hd_range hI.range
  have hlen := length_le hI.range hI.nodup
  have hW := h.big
  have h1 := h.below hL
  have s1 := h1.cw
  have hb1 := box_cell hBn
  have kT : ∀ u, Below w.heap.size w u → Calls Tryz.prog 117 #[.agg #[.pointer (some ⟨b, 0, none⟩), .func (.func 135) #[] #[.pointer (some ⟨bt, 0, none⟩)], .func (.func 136) #[] #[.pointer (some ⟨bu, 0, none⟩)], .pointer (some ⟨b, 0, none⟩), .func (.func 137) #[] #[.pointer (some ⟨bl, 0, none⟩)], .func (.func 124) #[] #[], .int .i64 base, .int .i64 cap]] u fun e w' => e = .returned (.int .i64 (hd xs)) ∧ Below u.heap.size u w' := fun u hu => peekTop_ok (h.ar.below hu) (h.bx.below hu) hc.2.2.1 hc.1 ht.1 ht.2 hh.1
  have hrange := hI.range
  have hchain := hI.chain
  clear hh ht hI hT h1
  refine callsIn_of_wp Tryz.func116 rfl trivial ?_ rfl
  simp only [Tryz.ntmps116, List.size_toArray, List.length_cons, List.length_nil, Nat.reduceAdd, Nat.reduceSub, Array.replicate_succ, Array.replicate_zero, List.push_toArray, List.append_toArray, List.nil_append, List.cons_append]
  gi_wp2_with (refine ⟨trivial, ?_⟩; gi_at_call 117; refine (callsIn_wide.2 (kT W1 hL)).mono ?_; rintro e w2 ⟨rfl, hb2⟩; have hb3 := hL.trans (hb2.mono hL.size); have s2 := (h.below hb3).cw; have hB2 := ov hb2 hBn; have hb4 := box_cell hB2)
  gi_loopw [3, 14] (fun p k wr => ∃ (pre rest : List Int) (m : Nat), p = .int .i64 (hd rest) ∧ k = .int .i64 m ∧ m = pre.length ∧ xs = pre ++ rest ∧ Below w.heap.size w wr ∧ wr.heap[Bn]? = some (.cells #[.pointer (some ⟨s, 0, none⟩)] 99 (0, 0)) ∧ J pre wr) (fun _ k _ => cap - (intOf k).toNat)
  case atStart => exact ⟨[], xs, 0, rfl, rfl, rfl, rfl, hb3, hB2, hJ' _ _ _ h0 hb2⟩
  case round =>
    obtain ⟨pre, rest, m, rfl, rfl, hm, hx, hbr, hBr, hJr⟩ := hrel
    clear s1 s2 hb1 hb4 hBn hL h0 hb2 hb3 hB2 kT
    have hpl : pre.length + rest.length ≤ cap := by rw [hx] at hlen; simpa using hlen
    have s3 := (h.below hbr).cw
    have hb5 := box_cell hBr
    have hrg := h.base1
    have Hx : Hid (xs = pre ++ rest) := hx
    by_cases hlt : m < cap
    · cases rest with
      | nil =>
        rw [hd_nil]
        clear hx
        gi_wp2
        refine ⟨fun _ h => (by cases h), ?_⟩
        gi_wp2
        refine bodyPost_ret (results_none rfl _ _ _) rfl ?_
        exact ⟨⟨_, rfl⟩, .inl ⟨pre, by simp [Hx.out], hJr⟩⟩
      | cons x r =>
        obtain ⟨fn, tmps, assign, body, hy, hR⟩ := hY pre x _ hJr (by rw [hx]; simp)
        have hx1 := hrange x (by rw [hx]; simp)
        have hx0 : (x == 0) = false := by simp; omega
        have hnx : ws (base + x.toNat) = hd r := (show Lk base ws (pre ++ x :: r) from hx ▸ hchain).at_
        have hr1 := hd_range (cap := cap) (xs := r) (fun y hy => hrange y (by rw [hx]; simp [hy]))
        have kB : Hid (∀ u, Below w.heap.size w u → Calls Tryz.prog 118 #[.agg #[.pointer (some ⟨b, 0, none⟩), .func (.func 135) #[] #[.pointer (some ⟨bt, 0, none⟩)], .func (.func 136) #[] #[.pointer (some ⟨bu, 0, none⟩)], .pointer (some ⟨b, 0, none⟩), .func (.func 137) #[] #[.pointer (some ⟨bl, 0, none⟩)], .func (.func 124) #[] #[], .int .i64 base, .int .i64 cap], .int .i64 x] u fun e w' => e = .returned (.int .i64 (hd r)) ∧ Below u.heap.size u w') := fun u hu => hnx ▸ peekBelow_ok (h.ar.below hu) (h.bx.below hu) (base + x.toNat) (by omega) (by omega) hW (by rw [hnx]; omega) (by rw [hnx]; omega)
        rw [hd_cons]
        clear hnx hr1 hx1 hrange hchain hx
        gi_wp2
        refine hR.mono ?_
        rintro e W3 (⟨rfl, hJ3, hk3⟩ | ⟨rfl, hJx3⟩)
        · have hb6 := hbr.trans hk3.1
          have s4 := (h.below hb6).cw
          have hB6 := hk3.2.trans hBr
          have hb7 := box_cell hB6
          gi_wp2_with (refine ⟨trivial, ?_⟩; gi_at_call 118; refine (callsIn_wide.2 (kB.out _ hb6)).mono ?_; rintro e w5 ⟨rfl, hb8⟩)
          go_roundw
          case rel => exact ⟨pre ++ [x], r, m + 1, rfl, by go_num, by simp [hm], by simp [Hx.out], hb6.trans (hb8.mono hb6.size), ov hb8 hB6, hJ' _ _ _ hJ3 hb8⟩
          case measure => simp [intOf]; omega
        · gi_wp2
          refine bodyPost_ret (results_none rfl _ _ _) rfl ?_
          exact ⟨⟨_, rfl⟩, .inr ⟨pre ++ [x], ⟨r, by simp [Hx.out]⟩, hJx3⟩⟩
    · have hr0 : rest = [] := List.length_eq_zero_iff.1 (by omega)
      subst hr0
      clear hx
      gi_wp2
      go_end0
      exact ⟨⟨_, rfl⟩, .inl ⟨pre, by simp [Hx.out], hJr⟩⟩
/-- **Downward hands the items over, from the top down.** -/
theorem down_stops (n : Nat) (hn : 1 ≤ n) (Bn : Nat) {w : World} {P : Nat → Prop} {s b bw bs bt bu bl W G base cap : Nat} {ws cs : Nat → Int} {ops : Nat → Op} {ob : Nat → Nat} {T : Int} {xs : List Int} (h : Stk w P s b bw bs bt bu bl W G base cap ws cs ops ob) (hI : Inv base cap ws ops T xs) (hT : T ≤ 1000000000) {u : World} (hu : Below w.heap.size w u) (hBn : u.heap[Bn]? = some (.cells #[.pointer (some ⟨s, 0, none⟩)] 99 (0, 0))) :
    SeqStopsK Fence.wide n Tryz.prog 116 #[.pointer (some ⟨Bn, 0, none⟩)] (fun x : Int => #[Value.int .i64 x]) (Kp w.heap.size Bn) (fun ys => ys = xs) (fun pre => pre <+: xs) xs.length u := fun l J Jx W hW hJ _ hY h0 =>
  down1_in n hn l Bn h hI hT J Jx W hJ hY (ov hW hBn) (hu.trans (hW.mono hu.size)) h0
theorem kp_t {n B : Nat} {X Y Z : World} (h : Kp n B X Y) (k : Kp n B Y Z) : Kp n B X Z := ⟨h.1.trans k.1, k.2.trans h.2⟩
theorem kp_b {n B : Nat} {u : World} (hn : n ≤ u.heap.size) (hB : B < u.heap.size) (W : World) (l : Nat) (o o' : Obj) (hl : u.heap.size ≤ l) (h : W.heap[l]? = some o) (h1 : o.isCells = false) (h2 : o.isWalk = false) : Kp n B W (W.putObj l o') :=
  ⟨belowK_b hn W l o o' hl h h1 h2, (belowK_b (n₀ := B + 1) (w := u) (by omega) W l o o' hl h h1 h2).block B (by omega)⟩
end Go.Proofs.YtojblddfggoecaaGreat
