/- A stack that holds all of its numbers: fill, NewFull; HasItems. -/
import Derived.Test.YtojblddfggoecaaGreatFView
namespace Go.Proofs.YtojblddfggoecaaGreat
open Go.RowKit

/-- k, k + 1 .. : m numbers. -/
def up : Nat → Int → List Int
  | 0, _ => []
  | m + 1, k => k :: up m (k + 1)
theorem up_len (m : Nat) (k : Int) : (up m k).length = m := by induction m generalizing k with | zero => rfl | succ m ih => simp [up, ih]
theorem up_mem {m : Nat} {k x : Int} : x ∈ up m k ↔ k ≤ x ∧ x < k + m := by
  induction m generalizing k with
  | zero => simp [up]
  | succ m ih => simp only [up, List.mem_cons, ih]; omega
theorem up_nodup (m : Nat) (k : Int) : (up m k).Nodup := by
  induction m generalizing k with
  | zero => simp [up]
  | succ m ih => exact List.nodup_cons.2 ⟨fun h => by have := up_mem.1 h; omega, ih _⟩
theorem up_link {base : Nat} {ws : Nat → Int} (m k : Nat) (hk : 1 ≤ k) (h1 : ∀ j, k ≤ j → j + 1 < k + m → ws (base + j) = (j : Int) + 1) (h2 : 0 < m → ws (base + (k + m - 1)) = 0) : Lk base ws (up m k) := by
  induction m generalizing k with
  | zero => trivial
  | succ m ih =>
    have e : up (m + 1) (k : Int) = (k : Int) :: up m ((k + 1 : Nat) : Int) := by simp [up]
    rw [e]
    refine ⟨?_, ih (k + 1) (by omega) (fun j a b => h1 j (by omega) (by omega)) (fun hm => by have := h2 (by omega); rw [show k + 1 + m - 1 = k + (m + 1) - 1 by omega]; exact this)⟩
    rw [show base + ((k : Int)).toNat = base + k by simp]
    cases m with
    | zero => rw [show base + k = base + (k + (0 + 1) - 1) by omega]; exact h2 (by omega)
    | succ m => rw [h1 k (by omega) (by omega)]; simp [up, hd]
theorem linkTo_at (x y : Int) (w : World) (h : x + 1 = y) (h0 : 0 ≤ x) (h1 : x < 100000) : Calls Tryz.prog 105 #[.int .i64 x] w fun e w' => e = .returned (.int .i64 y) ∧ w' = w := by
  subst h; exact linkTo_any x w h0 h1
set_option maxRecDepth 20000 in
set_option maxHeartbeats 4000000 in
theorem fill_ok {w : World} {b bw bs W G : Nat} {ws cs : Nat → Int} (h : Ar w b bw bs W G ws cs) {bt bu bl : Nat} {c : Int} (hx : Bx w bw bs bt bu bl c) {base cap : Nat} (h1 : 1 ≤ cap) (h2 : cap ≤ 1000) (ha : base + cap < W) (hW : W ≤ 65536) :
    Calls Tryz.prog 82 #[.agg #[.pointer (some ⟨b, 0, none⟩), .func (.func 135) #[] #[.pointer (some ⟨bt, 0, none⟩)], .func (.func 136) #[] #[.pointer (some ⟨bu, 0, none⟩)], .pointer (some ⟨b, 0, none⟩), .func (.func 137) #[] #[.pointer (some ⟨bl, 0, none⟩)], .func (.func 124) #[] #[], .int .i64 base, .int .i64 cap]] w fun e w' => (∃ v, e = .returned v) ∧ ∃ ws', Ar w' b bw bs W G ws' cs ∧ But bw bs w w' ∧ ws' base = 1 ∧ Lk base ws' (up cap 1) ∧ ∀ a, a < base ∨ base + cap < a → ws' a = ws a := by
  have hw0 := h.lts
  go_enter Tryz.func82, Tryz.ntmps82
  go_wp2
  go_loopw [6] (fun v6 wr => ∃ (i : Nat) (ws' : Nat → Int), i ≤ cap - 1 ∧ v6 = .int .i64 i ∧ Ar wr b bw bs W G ws' cs ∧ But bw bs w wr ∧ wr.heap[w.heap.size]? = some (.cells #[.pointer (some ⟨b, 0, none⟩), .func (.func 135) #[] #[.pointer (some ⟨bt, 0, none⟩)], .func (.func 136) #[] #[.pointer (some ⟨bu, 0, none⟩)], .pointer (some ⟨b, 0, none⟩), .func (.func 137) #[] #[.pointer (some ⟨bl, 0, none⟩)], .func (.func 124) #[] #[], .int .i64 base, .int .i64 cap] 123 (0, 0)) ∧ Hid (∀ j, 1 ≤ j → j ≤ i → ws' (base + j) = (j : Int) + 1) ∧ Hid (∀ a, a < base ∨ base + cap < a → ws' a = ws a)) (fun v6 _ => cap - (intOf v6).toNat)
  case atStart => exact ⟨0, ws, by omega, rfl, h.alloc _, (But.refl _ _ _).alloc _, heap_alloc_new _ _, fun j a b => absurd a (by omega), fun a _ => rfl⟩
  case round =>
    obtain ⟨i, ws', hi, rfl, hA, hB, hX, hws, hout⟩ := hrel
    have hxr := hx.but hB
    have x8 := blk8 hX
    by_cases hlt : i < cap - 1
    · clear h hx
      have hlt' : (i : Int) < (cap : Int) - 1 := by omega
      have hwr : IntKind.i64.wrap ((i : Int) + 1) = (i : Int) + 1 := IntWalk.i64_in ((i : Int) + 1) (by omega)
      have hk1 : ∀ u, Calls Tryz.prog 105 #[.int .i64 (i : Int)] u fun e w' => e = .returned (.int .i64 ((i : Int) + 1)) ∧ w' = u := fun u => linkTo_at _ _ _ rfl (by omega) (by omega)
      have hk2 : ∀ u, Calls Tryz.prog 105 #[.int .i64 (IntKind.i64.wrap ((i : Int) + 1))] u fun e w' => e = .returned (.int .i64 ((i : Int) + 2)) ∧ w' = u := fun u => by rw [hwr]; exact linkTo_at _ _ _ (by omega) (by omega) (by omega)
      clear hwr
      go_wp2
      go_region_held3 (fun w' => w'.cell? ⟨w.heap.size, 0, none⟩ = some (.pointer (some ⟨b, 0, none⟩)) ∧ w'.cell? ⟨w.heap.size, 1, none⟩ = some (.func (.func 135) #[] #[.pointer (some ⟨bt, 0, none⟩)]) ∧ w'.cell? ⟨w.heap.size, 2, none⟩ = some (.func (.func 136) #[] #[.pointer (some ⟨bu, 0, none⟩)]) ∧ w'.cell? ⟨w.heap.size, 3, none⟩ = some (.pointer (some ⟨b, 0, none⟩)) ∧ w'.cell? ⟨w.heap.size, 4, none⟩ = some (.func (.func 137) #[] #[.pointer (some ⟨bl, 0, none⟩)]) ∧ w'.cell? ⟨w.heap.size, 5, none⟩ = some (.func (.func 124) #[] #[]) ∧ w'.cell? ⟨w.heap.size, 6, none⟩ = some (.int .i64 base) ∧ w'.cell? ⟨w.heap.size, 7, none⟩ = some (.int .i64 cap)) (go_keep)
        (first
          | (go_at_call 103; refine (linkPoke_ok hA1 (base + (i + 1)) ((i : Int) + 2) (by omega)).mono ?_; rintro e w2 ⟨rfl, hA2, hB2⟩; have hL2 := (hB2.block _ (box_lt hL) (by omega) (by omega)).trans hL; have eX2 := blk8 hL2)
          | (go_at_call 104; refine (placeOf_any (cap := cap) (bt := bt) (bu := bu) (bl := bl) ((i : Int) + 1) (base + (i + 1)) _ (by omega) (by omega)).mono ?_; rintro e w1 ⟨rfl, hb⟩; have hb1 := un_drew hb; have hA1 := hA.below hb1; have hL := ov hb1 hX; have eX := blk8 hL)
          | (go_at_call 105; refine (hk1 _).mono ?_; rintro e w3 ⟨rfl, rfl⟩)
          | (go_at_call 105; refine (hk2 _).mono ?_; rintro e w3 ⟨rfl, rfl⟩))
      go_wp2
      go_roundw
      case rel => exact ⟨i + 1, _, by omega, by go_num, hA2, (hB.trans (But.of_below hb1)).trans hB2, hL2, fun j a b => (by
        by_cases e : j = i + 1
        · subst e; rw [upd_at]; omega
        · rw [upd_else _ _ (by omega)]; exact hws.out j a (by omega)), fun a q => (by rw [upd_else _ _ (by omega)]; exact hout.out a q)⟩
      case measure => simp [intOf]; omega
    · have Hi : Hid (i = cap - 1) := (show i = cap - 1 by omega)
      have hge : ¬ ((i : Int) < (cap : Int) - 1) := by omega
      have hwr : IntKind.i64.wrap ((cap : Int) - 1) = (cap : Int) - 1 := IntWalk.i64_in ((cap : Int) - 1) (by omega)
      have hk1 : ∀ u, Calls Tryz.prog 105 #[.int .i64 (IntKind.i64.wrap ((cap : Int) - 1))] u fun e w' => e = .returned (.int .i64 (cap : Int)) ∧ w' = u := fun u => by rw [hwr]; exact linkTo_at _ _ _ (by omega) (by omega) (by omega)
      have hk2 : ∀ u, Calls Tryz.prog 105 #[.int .i64 0] u fun e w' => e = .returned (.int .i64 1) ∧ w' = u := fun u => linkTo_at _ _ _ (by omega) (by omega) (by omega)
      clear h hx hwr
      go_wp2
      go_region_held3 (fun w' => w'.cell? ⟨w.heap.size, 0, none⟩ = some (.pointer (some ⟨b, 0, none⟩)) ∧ w'.cell? ⟨w.heap.size, 1, none⟩ = some (.func (.func 135) #[] #[.pointer (some ⟨bt, 0, none⟩)]) ∧ w'.cell? ⟨w.heap.size, 2, none⟩ = some (.func (.func 136) #[] #[.pointer (some ⟨bu, 0, none⟩)]) ∧ w'.cell? ⟨w.heap.size, 3, none⟩ = some (.pointer (some ⟨b, 0, none⟩)) ∧ w'.cell? ⟨w.heap.size, 4, none⟩ = some (.func (.func 137) #[] #[.pointer (some ⟨bl, 0, none⟩)]) ∧ w'.cell? ⟨w.heap.size, 5, none⟩ = some (.func (.func 124) #[] #[]) ∧ w'.cell? ⟨w.heap.size, 6, none⟩ = some (.int .i64 base) ∧ w'.cell? ⟨w.heap.size, 7, none⟩ = some (.int .i64 cap)) (go_keep)
        (first
          | (go_at_call 103; refine (linkPoke_ok hA1 (base + cap) 0 (by omega)).mono ?_; rintro e w2 ⟨rfl, hA2, hB2⟩; have hL2 := (hB2.block _ (box_lt hL) (by omega) (by omega)).trans hL; have eX2 := blk8 hL2)
          | (go_at_call 104; refine (placeOf_any (cap := cap) (bt := bt) (bu := bu) (bl := bl) (cap : Int) (base + cap) _ (by omega) (by omega)).mono ?_; rintro e w1 ⟨rfl, hb⟩; have hb1 := un_drew hb; have hA1 := hA.below hb1; have hL := ov hb1 hX; have eX := blk8 hL)
          | (go_at_call 105; refine (hk1 _).mono ?_; rintro e w3 ⟨rfl, rfl⟩))
      have hB2' := (hB.trans (But.of_below hb1)).trans hB2
      have hx2 := hxr.but ((But.of_below hb1).trans hB2)
      clear hA1 hL eX hB hX x8 hB2
      go_wp2
      go_region_held3 (fun w' => w'.cell? ⟨w.heap.size, 0, none⟩ = some (.pointer (some ⟨b, 0, none⟩)) ∧ w'.cell? ⟨w.heap.size, 1, none⟩ = some (.func (.func 135) #[] #[.pointer (some ⟨bt, 0, none⟩)]) ∧ w'.cell? ⟨w.heap.size, 2, none⟩ = some (.func (.func 136) #[] #[.pointer (some ⟨bu, 0, none⟩)]) ∧ w'.cell? ⟨w.heap.size, 3, none⟩ = some (.pointer (some ⟨b, 0, none⟩)) ∧ w'.cell? ⟨w.heap.size, 4, none⟩ = some (.func (.func 137) #[] #[.pointer (some ⟨bl, 0, none⟩)]) ∧ w'.cell? ⟨w.heap.size, 5, none⟩ = some (.func (.func 124) #[] #[]) ∧ w'.cell? ⟨w.heap.size, 6, none⟩ = some (.int .i64 base) ∧ w'.cell? ⟨w.heap.size, 7, none⟩ = some (.int .i64 cap)) (go_keep)
        (first
          | (go_at_call 106; refine (topPoke_ok (t := 0) (i := 1) (hA2.below (below_drewN _ 1 _)) (hx2.below (below_drewN _ 1 _)) base (by omega) (z := 1) (by rw [Int.zero_mul]; kernel_rfl)).mono ?_; rintro e w4 ⟨rfl, hA4, hB4⟩; have hL4 := (hB4.block _ (box_lt hL2) (by omega) (by omega)).trans hL2; have eX4 := blk8 hL4)
          | (go_at_call 105; refine (hk2 _).mono ?_; rintro e w3 ⟨rfl, rfl⟩))
      go_wp2
      go_end0
      refine ⟨⟨_, rfl⟩, _, hA4, hB2'.trans ((But.of_below (below_drewN _ 1 _)).trans hB4), upd_at _ _ _, ?_, fun a q => ?_⟩
      · have e1 : i = cap - 1 := Hi.out
        refine up_link cap 1 (Nat.le_refl _) (fun j a b => ?_) (fun _ => ?_)
        · rw [upd_else _ _ (by omega), upd_else _ _ (by omega)]; exact hws.out j a (by omega)
        · rw [upd_else _ _ (by omega), show base + (1 + cap - 1) = base + cap by omega, upd_at]
      · rw [upd_else _ _ (by omega), upd_else _ _ (by omega)]; exact hout.out a q

/-- The arena's rows have turned, and nothing else of the stack. -/
theorem Stk.rows {w w' : World} {P : Nat → Prop} {s b bw bs bt bu bl W G base cap : Nat} {ws cs : Nat → Int} {ob : Nat → Nat} {ws' cs' : Nat → Int} (h : Stk w P s b bw bs bt bu bl W G base cap ws cs (fun _ => .idle) ob) (hA : Ar w' b bw bs W G ws' cs') (hB : But bw bs w w') : Stk w' P s b bw bs bt bu bl W G base cap ws' cs' (fun _ => .idle) ob :=
  ⟨hA, h.bx.but hB, h.here.of_block (hB.block s h.here.lt (fun q => row_stk h.ar.words h.here q.symm) (fun q => row_stk h.ar.steps h.here q.symm)), fun _ _ => trivial, fun _ _ _ _ _ q => absurd rfl q, fun _ _ => rfl, h.foot, fun k hk => Nat.lt_of_lt_of_le (h.lt k hk) hB.size, h.few, h.big, h.base1, h.cap1, h.cap2⟩
set_option maxRecDepth 20000 in
set_option maxHeartbeats 1000000 in
theorem newFull_ok {w : World} {b bw bs W G : Nat} {ws cs : Nat → Int} (h : Ar w b bw bs W G ws cs) (base cap : Nat) (h1 : 1 ≤ cap) (h2 : cap ≤ 1000) (h3 : base + (2 * cap + 8) ≤ W) (hG : G ≤ 12) (hW : W ≤ 65536) :
    Calls Tryz.prog 66 #[.pointer (some ⟨b, 0, none⟩), .int .i64 base, .int .i64 cap] w fun e w' => ∃ (s : Nat) (P : Nat → Prop), e = .returned (.tuple #[.pointer (some ⟨s, 0, none⟩), .int .i64 0]) ∧
      Good w' P s ⟨b, W, base, ws⟩ G cap cs (fun _ => .idle) 0 (up cap 1) ∧ Bt (fun k => k = bw ∨ k = bs) w w' ∧ (∀ k, P k → k = b ∨ k = bw ∨ k = bs ∨ w.heap.size ≤ k) := by
  have hnew := snew_ok h base cap h1 h2 h3 hG hW
  go_enter Tryz.func66, Tryz.ntmps66
  go_wp2_with (first
    | (go_at_call 81; refine hnew.mono ?_; rintro e w1 ⟨s, bt, bu, bl, rfl, hS, hB1⟩; have cw := hS.cw)
    | (go_at_call 82; refine (fill_ok hS.ar hS.bx h1 h2 (by omega) hW).mono ?_; rintro e w2 ⟨⟨ev, rfl⟩, ws2, hA2, hB2, t0, hl, ho⟩))
  go_ret2
  refine ⟨s, _, rfl, ⟨_, _, _, _, _, _, _, hS.rows hA2 hB2, ⟨Int.le_refl _, ?_, hl, ?_, up_nodup _ _, fun _ => trivial, fun _ _ _ q => absurd q (by simp [Op.link])⟩, fun a ha => ?_⟩, hB1.trans (Bt.of_but hB2 (.inl rfl) (.inr rfl)), ?_⟩
  · rw [t0]; cases cap with | zero => omega | succ c => simp [up, hd]
  · intro x hx; have := up_mem.1 hx; omega
  · simp only at ha
    rw [ho a ha, upd_else _ _ (by omega)]
  · rintro k (rfl | rfl | rfl | q)
    · exact .inl rfl
    · exact .inr (.inl rfl)
    · exact .inr (.inr (.inl rfl))
    · exact .inr (.inr (.inr q.1))
theorem hasItems_ok {w : World} {P : Nat → Prop} {s : Nat} {b : Zone} {G cap : Nat} {cs : Nat → Int} {ops : Nat → Op} {T : Int} {xs : List Int} (h : Good w P s b G cap cs ops T xs) (hT : T ≤ 1000000000) (r : Bool) (hr : (hd xs != 0) = r) :
    Calls Tryz.prog 98 #[.pointer (some ⟨s, 0, none⟩)] w fun e w' => e = .returned (.bool r) ∧ Below w.heap.size w w' := by
  obtain ⟨bw, bs, bt, bu, bl, ws, ob, hS, hI, _⟩ := h
  have hc := c_facts hS
  have ht := top_facts hI hT
  have hh := hd_range hI.range
  have s1 := hS.cw
  have kT : Calls Tryz.prog 117 #[.agg #[.pointer (some ⟨b.b, 0, none⟩), .func (.func 135) #[] #[.pointer (some ⟨bt, 0, none⟩)], .func (.func 136) #[] #[.pointer (some ⟨bu, 0, none⟩)], .pointer (some ⟨b.b, 0, none⟩), .func (.func 137) #[] #[.pointer (some ⟨bl, 0, none⟩)], .func (.func 124) #[] #[], .int .i64 b.base, .int .i64 cap]] w fun e w' => e = .returned (.int .i64 (hd xs)) ∧ Below w.heap.size w w' := peekTop_ok hS.ar hS.bx hc.2.2.1 hc.1 ht.1 ht.2 hh.1
  clear ht hc hI hS
  go_enter Tryz.func98, Tryz.ntmps98
  go_wp2_with (go_at_call 117; refine kT.mono ?_; rintro e w1 ⟨rfl, hb⟩)
  all_goals (go_ret; exact ⟨by first | rfl | (rw [← hr]; simp), hb⟩)
end Go.Proofs.YtojblddfggoecaaGreat
