/- New of a stack. -/
import Derived.Test.YtojblddfggoecaaGreatSBegin
namespace Go.Proofs.YtojblddfggoecaaGreat
open Go.RowKit

theorem info72 : (Tryz.prog.info? 117).map (·.size) = some 3 := by kernel_rfl
theorem info76 : (Tryz.prog.info? 121).map (·.size) = some 3 := by kernel_rfl
theorem info78 : (Tryz.prog.info? 123).map (·.size) = some 8 := by kernel_rfl
theorem nil_rt (bt : Nat) (w : World) : (binOp BinOp.eql 114 (.func (.func 135) #[] #[.pointer (some ⟨bt, 0, none⟩)]) .nilFunc).run Tryz.prog w = .ok (.bool false) w := by kernel_rfl
theorem nil_wt (bu : Nat) (w : World) : (binOp BinOp.eql 115 (.func (.func 136) #[] #[.pointer (some ⟨bu, 0, none⟩)]) .nilFunc).run Tryz.prog w = .ok (.bool false) w := by kernel_rfl
theorem nil_rl (bl : Nat) (w : World) : (binOp BinOp.eql 118 (.func (.func 137) #[] #[.pointer (some ⟨bl, 0, none⟩)]) .nilFunc).run Tryz.prog w = .ok (.bool false) w := by kernel_rfl
theorem nil_wl (w : World) : (binOp BinOp.eql 119 (.func (.func 124) #[] #[]) .nilFunc).run Tryz.prog w = .ok (.bool false) w := by kernel_rfl
theorem readTop_ok (c : Int) (w : World) : Calls Tryz.prog 120 #[.int .i64 c] w fun e w' => ∃ bt, e = .returned (.func (.func 135) #[] #[.pointer (some ⟨bt, 0, none⟩)]) ∧ Below w.heap.size w w' ∧ w.heap.size ≤ bt ∧ w'.heap[bt]? = some (.cells #[.int .i64 c] 3 (0, 0)) := by
  go_enter Tryz.func120, Tryz.ntmps120
  go_wp2
  go_ret
  exact ⟨_, rfl, (Below.refl _ _).alloc (Nat.le_refl _) _, Nat.le_refl _, heap_alloc_new _ _⟩
theorem writeTop_ok (c : Int) (w : World) : Calls Tryz.prog 121 #[.int .i64 c] w fun e w' => ∃ bu, e = .returned (.func (.func 136) #[] #[.pointer (some ⟨bu, 0, none⟩)]) ∧ Below w.heap.size w w' ∧ w.heap.size ≤ bu ∧ w'.heap[bu]? = some (.cells #[.int .i64 c] 3 (0, 0)) := by
  go_enter Tryz.func121, Tryz.ntmps121
  go_wp2
  go_ret
  exact ⟨_, rfl, (Below.refl _ _).alloc (Nat.le_refl _) _, Nat.le_refl _, heap_alloc_new _ _⟩
theorem readLink_ok (c : Int) (w : World) : Calls Tryz.prog 123 #[.int .i64 c] w fun e w' => ∃ bl, e = .returned (.func (.func 137) #[] #[.pointer (some ⟨bl, 0, none⟩)]) ∧ Below w.heap.size w w' ∧ w.heap.size ≤ bl ∧ w'.heap[bl]? = some (.cells #[.int .i64 c] 3 (0, 0)) := by
  go_enter Tryz.func123, Tryz.ntmps123
  go_wp2
  go_ret
  exact ⟨_, rfl, (Below.refl _ _).alloc (Nat.le_refl _) _, Nat.le_refl _, heap_alloc_new _ _⟩
theorem viewTop_ok (b bt bu : Nat) (w : World) : Calls Tryz.prog 119 #[.pointer (some ⟨b, 0, none⟩), .func (.func 135) #[] #[.pointer (some ⟨bt, 0, none⟩)], .func (.func 136) #[] #[.pointer (some ⟨bu, 0, none⟩)]] w fun e w' => e = .returned (.agg #[.pointer (some ⟨b, 0, none⟩), .func (.func 135) #[] #[.pointer (some ⟨bt, 0, none⟩)], .func (.func 136) #[] #[.pointer (some ⟨bu, 0, none⟩)]]) ∧ Below w.heap.size w w' := by
  have h1 := nil_rt bt
  have h2 := nil_wt bu
  go_enter Tryz.func119, Tryz.ntmps119
  go_wp2
  exact bodyPost_ret (results_cell_row rfl _ _ w.heap.size 117 _ (0, 0) _ rfl (heap_alloc_new w _) Tryz.underlying117 rfl info72) rfl ⟨rfl, (Below.refl _ _).alloc (Nat.le_refl _) _⟩
theorem viewLink_ok (b bl : Nat) (w : World) : Calls Tryz.prog 122 #[.pointer (some ⟨b, 0, none⟩), .func (.func 137) #[] #[.pointer (some ⟨bl, 0, none⟩)], .func (.func 124) #[] #[]] w fun e w' => e = .returned (.agg #[.pointer (some ⟨b, 0, none⟩), .func (.func 137) #[] #[.pointer (some ⟨bl, 0, none⟩)], .func (.func 124) #[] #[]]) ∧ Below w.heap.size w w' := by
  have h1 := nil_rl bl
  have h2 := nil_wl
  go_enter Tryz.func122, Tryz.ntmps122
  go_wp2
  exact bodyPost_ret (results_cell_row rfl _ _ w.heap.size 121 _ (0, 0) _ rfl (heap_alloc_new w _) Tryz.underlying121 rfl info76) rfl ⟨rfl, (Below.refl _ _).alloc (Nat.le_refl _) _⟩
theorem blk_sets8 {u : World} {s ty : Nat} {a0 a1 a2 a3 a4 a5 a6 a7 : Value} (h : u.heap[s]? = some (.cells #[a0, a1, a2, a3, a4, a5, a6, a7] ty (0, 0))) (x0 x1 x2 x3 x4 x5 x6 x7 : Value) :
    ((((((((u.setCell ⟨s, 0, none⟩ x0).setCell ⟨s, 1, none⟩ x1).setCell ⟨s, 2, none⟩ x2).setCell ⟨s, 3, none⟩ x3).setCell ⟨s, 4, none⟩ x4).setCell ⟨s, 5, none⟩ x5).setCell ⟨s, 6, none⟩ x6).setCell ⟨s, 7, none⟩ x7).heap[s]? = some (.cells #[x0, x1, x2, x3, x4, x5, x6, x7] ty (0, 0)) := by
  have h0 : (u.setCell ⟨s, 0, none⟩ x0).heap[s]? = some (.cells #[x0, a1, a2, a3, a4, a5, a6, a7] ty (0, 0)) := set_blk h 0 x0
  have h1 : ((u.setCell ⟨s, 0, none⟩ x0).setCell ⟨s, 1, none⟩ x1).heap[s]? = some (.cells #[x0, x1, a2, a3, a4, a5, a6, a7] ty (0, 0)) := set_blk h0 1 x1
  have h2 : (((u.setCell ⟨s, 0, none⟩ x0).setCell ⟨s, 1, none⟩ x1).setCell ⟨s, 2, none⟩ x2).heap[s]? = some (.cells #[x0, x1, x2, a3, a4, a5, a6, a7] ty (0, 0)) := set_blk h1 2 x2
  have h3 : ((((u.setCell ⟨s, 0, none⟩ x0).setCell ⟨s, 1, none⟩ x1).setCell ⟨s, 2, none⟩ x2).setCell ⟨s, 3, none⟩ x3).heap[s]? = some (.cells #[x0, x1, x2, x3, a4, a5, a6, a7] ty (0, 0)) := set_blk h2 3 x3
  have h4 : (((((u.setCell ⟨s, 0, none⟩ x0).setCell ⟨s, 1, none⟩ x1).setCell ⟨s, 2, none⟩ x2).setCell ⟨s, 3, none⟩ x3).setCell ⟨s, 4, none⟩ x4).heap[s]? = some (.cells #[x0, x1, x2, x3, x4, a5, a6, a7] ty (0, 0)) := set_blk h3 4 x4
  have h5 : ((((((u.setCell ⟨s, 0, none⟩ x0).setCell ⟨s, 1, none⟩ x1).setCell ⟨s, 2, none⟩ x2).setCell ⟨s, 3, none⟩ x3).setCell ⟨s, 4, none⟩ x4).setCell ⟨s, 5, none⟩ x5).heap[s]? = some (.cells #[x0, x1, x2, x3, x4, x5, a6, a7] ty (0, 0)) := set_blk h4 5 x5
  have h6 : (((((((u.setCell ⟨s, 0, none⟩ x0).setCell ⟨s, 1, none⟩ x1).setCell ⟨s, 2, none⟩ x2).setCell ⟨s, 3, none⟩ x3).setCell ⟨s, 4, none⟩ x4).setCell ⟨s, 5, none⟩ x5).setCell ⟨s, 6, none⟩ x6).heap[s]? = some (.cells #[x0, x1, x2, x3, x4, x5, x6, a7] ty (0, 0)) := set_blk h5 6 x6
  have h7 : ((((((((u.setCell ⟨s, 0, none⟩ x0).setCell ⟨s, 1, none⟩ x1).setCell ⟨s, 2, none⟩ x2).setCell ⟨s, 3, none⟩ x3).setCell ⟨s, 4, none⟩ x4).setCell ⟨s, 5, none⟩ x5).setCell ⟨s, 6, none⟩ x6).setCell ⟨s, 7, none⟩ x7).heap[s]? = some (.cells #[x0, x1, x2, x3, x4, x5, x6, x7] ty (0, 0)) := set_blk h6 7 x7
  exact h7
theorem bel_sets8 {B : Nat} {w u : World} {s : Nat} (h : Below B w u) (hs : B ≤ s) (x0 x1 x2 x3 x4 x5 x6 x7 : Value) :
    Below B w ((((((((u.setCell ⟨s, 0, none⟩ x0).setCell ⟨s, 1, none⟩ x1).setCell ⟨s, 2, none⟩ x2).setCell ⟨s, 3, none⟩ x3).setCell ⟨s, 4, none⟩ x4).setCell ⟨s, 5, none⟩ x5).setCell ⟨s, 6, none⟩ x6).setCell ⟨s, 7, none⟩ x7) :=
  (((((((h.setCell (p := ⟨s, 0, none⟩) hs _).setCell (p := ⟨s, 1, none⟩) hs _).setCell (p := ⟨s, 2, none⟩) hs _).setCell (p := ⟨s, 3, none⟩) hs _).setCell (p := ⟨s, 4, none⟩) hs _).setCell (p := ⟨s, 5, none⟩) hs _).setCell (p := ⟨s, 6, none⟩) hs _).setCell (p := ⟨s, 7, none⟩) hs _
theorem oth_sets8 {u : World} {s k : Nat} (hk : k ≠ s) (x0 x1 x2 x3 x4 x5 x6 x7 : Value) :
    ((((((((u.setCell ⟨s, 0, none⟩ x0).setCell ⟨s, 1, none⟩ x1).setCell ⟨s, 2, none⟩ x2).setCell ⟨s, 3, none⟩ x3).setCell ⟨s, 4, none⟩ x4).setCell ⟨s, 5, none⟩ x5).setCell ⟨s, 6, none⟩ x6).setCell ⟨s, 7, none⟩ x7).heap[k]? = u.heap[k]? := by
  rw [heap_put _ _ hk, heap_put _ _ hk, heap_put _ _ hk, heap_put _ _ hk, heap_put _ _ hk, heap_put _ _ hk, heap_put _ _ hk, heap_put _ _ hk]
set_option maxHeartbeats 1000000 in
theorem wordsOf_ok (b base cap : Nat) (w : World) (hc : cap ≤ 1000) : Calls Tryz.prog 101 #[.pointer (some ⟨b, 0, none⟩), .int .i64 base, .int .i64 cap] w fun e w' => ∃ bt bu bl, e = .returned (.agg #[.pointer (some ⟨b, 0, none⟩), .func (.func 135) #[] #[.pointer (some ⟨bt, 0, none⟩)], .func (.func 136) #[] #[.pointer (some ⟨bu, 0, none⟩)], .pointer (some ⟨b, 0, none⟩), .func (.func 137) #[] #[.pointer (some ⟨bl, 0, none⟩)], .func (.func 124) #[] #[], .int .i64 base, .int .i64 cap]) ∧ Below w.heap.size w w' ∧ w.heap.size ≤ bt ∧ w.heap.size ≤ bu ∧ w.heap.size ≤ bl ∧
    w'.heap[bt]? = some (.cells #[.int .i64 ((cap : Int) + 1)] 3 (0, 0)) ∧ w'.heap[bu]? = some (.cells #[.int .i64 ((cap : Int) + 1)] 3 (0, 0)) ∧ w'.heap[bl]? = some (.cells #[.int .i64 ((cap : Int) + 1)] 3 (0, 0)) := by
  go_enter Tryz.func101, Tryz.ntmps101
  go_wp2_with (first
    | (go_at_call 120; refine (readTop_ok _ _).mono ?_; rintro e w1 ⟨bt, rfl, hb1, l1, q1⟩)
    | (go_at_call 121; refine (writeTop_ok _ _).mono ?_; rintro e w2 ⟨bu, rfl, hb2, l2, q2⟩)
    | (go_at_call 119; refine (viewTop_ok b bt bu _).mono ?_; rintro e w3 ⟨rfl, hb3⟩)
    | (go_at_call 123; refine (readLink_ok _ _).mono ?_; rintro e w4 ⟨bl, rfl, hb4, l4, q4⟩)
    | (go_at_call 122; refine (viewLink_ok b bl _).mono ?_; rintro e w5 ⟨rfl, hb5⟩; have hR := ov hb5 (ov hb4 (ov hb3 (ov hb2 (ov hb1 (heap_alloc_new w _))))); have c8 := blk8 hR; have fz := frz hR))
  have s1 := hb1.size
  have s2 := hb2.size
  have s3 := hb3.size
  have s4 := hb4.size
  have s0 := Go.Deep.nblk_alloc w (.cells #[.pointer none, .nilFunc, .nilFunc, .pointer none, .nilFunc, .nilFunc, .int .i64 0, .int .i64 0] 123)
  have hA := ((Below.refl w.heap.size w).alloc (Nat.le_refl _) (.cells #[.pointer none, .nilFunc, .nilFunc, .pointer none, .nilFunc, .nilFunc, .int .i64 0, .int .i64 0] 123)).trans ((hb1.mono (by omega)).trans ((hb2.mono (by omega)).trans ((hb3.mono (by omega)).trans ((hb4.mono (by omega)).trans (hb5.mono (by omega))))))
  refine bodyPost_ret (results_cell_row rfl _ _ w.heap.size 123 #[.pointer (some ⟨b, 0, none⟩), .func (.func 135) #[] #[.pointer (some ⟨bt, 0, none⟩)], .func (.func 136) #[] #[.pointer (some ⟨bu, 0, none⟩)], .pointer (some ⟨b, 0, none⟩), .func (.func 137) #[] #[.pointer (some ⟨bl, 0, none⟩)], .func (.func 124) #[] #[], .int .i64 base, .int .i64 cap] (0, 0) _ rfl ?_ Tryz.underlying123 rfl info78) rfl ⟨bt, bu, bl, rfl, ?_, by omega, by omega, by omega, ?_, ?_, ?_⟩
  · exact blk_sets8 hR _ _ _ _ _ _ _ _
  · exact bel_sets8 hA (Nat.le_refl _) _ _ _ _ _ _ _ _
  · exact (oth_sets8 (by omega) _ _ _ _ _ _ _ _).trans (ov hb5 (ov hb4 (ov hb3 (ov hb2 q1))))
  · exact (oth_sets8 (by omega) _ _ _ _ _ _ _ _).trans (ov hb5 (ov hb4 (ov hb3 q2)))
  · exact (oth_sets8 (by omega) _ _ _ _ _ _ _ _).trans (ov hb5 q4)
theorem clear_ok {w : World} {b bw bs W G : Nat} {ws cs : Nat → Int} (h : Ar w b bw bs W G ws cs) {bt bu bl : Nat} {c : Int} (hx : Bx w bw bs bt bu bl c) {base cap : Nat} (ha : base < W) :
    Calls Tryz.prog 102 #[.agg #[.pointer (some ⟨b, 0, none⟩), .func (.func 135) #[] #[.pointer (some ⟨bt, 0, none⟩)], .func (.func 136) #[] #[.pointer (some ⟨bu, 0, none⟩)], .pointer (some ⟨b, 0, none⟩), .func (.func 137) #[] #[.pointer (some ⟨bl, 0, none⟩)], .func (.func 124) #[] #[], .int .i64 base, .int .i64 cap]] w fun e w' => (∃ v, e = .returned v) ∧ Ar w' b bw bs W G (upd ws base 0) cs ∧ But bw bs w w' := by
  go_enter Tryz.func102, Tryz.ntmps102
  go_wp2_with (go_at_call 106; refine (topPoke_ok (t := 0) (i := 0) (h.alloc _) (hx.alloc _) base ha (z := 0) (by rw [Int.zero_mul]; kernel_rfl)).mono ?_; rintro e w1 ⟨rfl, hA, hB⟩)
  go_end0
  exact ⟨⟨_, rfl⟩, hA, ((But.refl bw bs w).alloc _).trans hB⟩
theorem room_ok (c : Int) (w : World) (h1 : 1 ≤ c) (h2 : c ≤ 1000) : Calls Tryz.prog 67 #[.int .i64 c] w fun e w' => e = .returned (.int .i64 (2 * c + 8)) ∧ w' = w := by
  go_enter Tryz.func67, Tryz.ntmps67
  go_wp2
  go_ret
  exact ⟨by first | rfl | go_num | (simp; omega), rfl⟩
set_option maxRecDepth 20000 in
set_option maxHeartbeats 2000000 in
theorem snew_ok {w : World} {b bw bs W G : Nat} {ws cs : Nat → Int} (h : Ar w b bw bs W G ws cs) (base cap : Nat) (h1 : 1 ≤ cap) (h2 : cap ≤ 1000) (h3 : base + (2 * cap + 8) ≤ W) (hG : G ≤ 12) (hW : W ≤ 65536) :
    Calls Tryz.prog 81 #[.pointer (some ⟨b, 0, none⟩), .int .i64 base, .int .i64 cap] w fun e w' => ∃ s bt bu bl, e = .returned (.tuple #[.pointer (some ⟨s, 0, none⟩), .int .i64 0]) ∧
      Stk w' (fun k => k = b ∨ k = bw ∨ k = bs ∨ w.heap.size ≤ k ∧ k < w'.heap.size) s b bw bs bt bu bl W G base cap (upd ws base 0) cs (fun _ => .idle) (fun _ => 0) ∧ Bt (fun k => k = bw ∨ k = bs) w w' := by
  have hw := words_any h
  have e1 : decide ((W : Int) - (2 * (cap : Int) + 8) < (base : Int)) = false := by simp; omega
  have hlt := h.lts
  have hb0 := h.lt
  have key : ∀ w2 bt bu bl, Below w.heap.size w w2 → w.heap.size ≤ bt → w.heap.size ≤ bu → w.heap.size ≤ bl → w2.heap[bt]? = some (.cells #[.int .i64 ((cap : Int) + 1)] 3 (0, 0)) → w2.heap[bu]? = some (.cells #[.int .i64 ((cap : Int) + 1)] 3 (0, 0)) → w2.heap[bl]? = some (.cells #[.int .i64 ((cap : Int) + 1)] 3 (0, 0)) → Bx w2 bw bs bt bu bl ((cap : Int) + 1) :=
    fun w2 bt bu bl _ l1 l2 l3 q1 q2 q3 => ⟨q1, q2, q3, by omega, by omega, by omega, by omega, by omega, by omega⟩
  go_enter Tryz.func81, Tryz.ntmps81
  go_wp2_with (first
    | (go_at_call 41; refine hw.mono ?_; rintro e w1 ⟨rfl, rfl⟩)
    | (go_at_call 67; refine (room_ok _ _ (by omega) (by omega)).mono ?_; rintro e w1 ⟨rfl, rfl⟩)
    | (go_at_call 101; refine (wordsOf_ok b base cap _ h2).mono ?_; rintro e w2 ⟨bt, bu, bl, rfl, hb2, l1, l2, l3, q1, q2, q3⟩; have hX := key _ _ _ _ hb2 l1 l2 l3 q1 q2 q3; have hA2 := h.below hb2)
    | (go_at_call 102; refine (clear_ok (hA2.alloc _) (hX.alloc _) (by omega)).mono ?_; rintro e w3 ⟨⟨ev, rfl⟩, hA3, hB3⟩))
  go_ret2
  have hS0 := heap_alloc_new w2 (.cells #[.pointer (some ⟨b, 0, none⟩), .pointer (some ⟨b, 0, none⟩), .func (.func 135) #[] #[.pointer (some ⟨bt, 0, none⟩)], .func (.func 136) #[] #[.pointer (some ⟨bu, 0, none⟩)], .pointer (some ⟨b, 0, none⟩), .func (.func 137) #[] #[.pointer (some ⟨bl, 0, none⟩)], .func (.func 124) #[] #[], .int .i64 base, .int .i64 cap, .nilIface, .int .i64 0, .nilIface, .int .i64 0, .nilIface, .int .i64 0, .nilIface, .int .i64 0, .nilIface, .int .i64 0, .nilIface, .int .i64 0, .nilIface, .int .i64 0, .nilIface, .int .i64 0, .nilIface, .int .i64 0, .nilIface, .int .i64 0, .nilIface, .int .i64 0, .nilIface, .int .i64 0] 131)
  have s2 := hb2.size
  have s3 := hB3.size
  rw [Go.Deep.nblk_alloc] at s3
  have hS3 := (hB3.block _ (by rw [Go.Deep.nblk_alloc]; omega) (by omega) (by omega)).trans hS0
  have hBt : Bt (fun k => k = bw ∨ k = bs) _ w3 := ((Bt.of_below hb2).alloc _).trans (Bt.of_but hB3 (.inl rfl) (.inr rfl))
  refine ⟨_, bt, bu, bl, rfl, ⟨hA3, (hX.alloc _).but hB3, ⟨_, hS3, rfl, fun i hi => ?_⟩, fun _ _ => trivial, fun _ _ _ _ _ q => absurd rfl q, fun _ _ => rfl, ⟨.inr (.inr (.inr ⟨by omega, by omega⟩)), .inl rfl, .inr (.inl rfl), .inr (.inr (.inl rfl)), .inr (.inr (.inr ⟨l1, ?_⟩)), .inr (.inr (.inr ⟨l2, ?_⟩)), .inr (.inr (.inr ⟨l3, ?_⟩))⟩, fun k hk => ?_, hG, hW, by omega, h1, h2⟩, hBt⟩
  · obtain rfl | rfl | rfl | rfl | rfl | rfl | rfl | rfl | rfl | rfl | rfl | rfl | rfl | rfl | rfl | rfl | rfl | rfl | rfl | rfl | rfl | rfl | rfl | rfl | rfl | rfl | rfl | rfl | rfl | rfl | rfl | rfl | rfl : i = 0 ∨ i = 1 ∨ i = 2 ∨ i = 3 ∨ i = 4 ∨ i = 5 ∨ i = 6 ∨ i = 7 ∨ i = 8 ∨ i = 9 ∨ i = 10 ∨ i = 11 ∨ i = 12 ∨ i = 13 ∨ i = 14 ∨ i = 15 ∨ i = 16 ∨ i = 17 ∨ i = 18 ∨ i = 19 ∨ i = 20 ∨ i = 21 ∨ i = 22 ∨ i = 23 ∨ i = 24 ∨ i = 25 ∨ i = 26 ∨ i = 27 ∨ i = 28 ∨ i = 29 ∨ i = 30 ∨ i = 31 ∨ i = 32 := by omega
    all_goals rfl
  · have := box_lt q1; omega
  · have := box_lt q2; omega
  · have := box_lt q3; omega
  · rcases hk with rfl | rfl | rfl | hk
    · omega
    · omega
    · omega
    · exact hk.2
/-- New refuses. -/
theorem snew_no {w : World} {b bw bs W G : Nat} {ws cs : Nat → Int} (h : Ar w b bw bs W G ws cs) (base cap : Int) (hW : W ≤ 65536) (hn : ¬ (1 ≤ cap ∧ cap ≤ 1000 ∧ 0 ≤ base ∧ base + (2 * cap + 8) ≤ W)) :
    Calls Tryz.prog 81 #[.pointer (some ⟨b, 0, none⟩), .int .i64 base, .int .i64 cap] w fun e w' => e = .returned (.tuple #[.pointer none, .int .i64 500]) ∧ w' = w := by
  have hw := words_any h
  by_cases a1 : cap < 1
  · clear hn
    go_enter Tryz.func81, Tryz.ntmps81
    go_wp2
    go_ret2
    exact ⟨rfl, rfl⟩
  · by_cases a2 : 1000 < cap
    · clear hn
      go_enter Tryz.func81, Tryz.ntmps81
      go_wp2
      go_ret2
      exact ⟨rfl, rfl⟩
    · by_cases a3 : base < 0
      · have b2 : decide (1000 < cap) = false := by simp; omega
        have b1 : decide (cap < 1) = false := by simp; omega
        clear hn
        go_enter Tryz.func81, Tryz.ntmps81
        go_wp2
        go_ret2
        exact ⟨rfl, rfl⟩
      · have b1 : decide (cap < 1) = false := by simp; omega
        have b2 : decide (1000 < cap) = false := by simp; omega
        have b3 : decide (base < 0) = false := by simp; omega
        have b4 : (W : Int) - (2 * cap + 8) < base := by omega
        have c1 : 1 ≤ cap := by omega
        have c2 : cap ≤ 1000 := by omega
        clear hn a1 a2 a3
        go_enter Tryz.func81, Tryz.ntmps81
        go_wp2_with (first | (go_at_call 41; refine hw.mono ?_; rintro e w1 ⟨rfl, rfl⟩) | (go_at_call 67; refine (room_ok _ _ c1 c2).mono ?_; rintro e w1 ⟨rfl, rfl⟩))
        go_ret2
        exact ⟨rfl, rfl⟩
theorem snew_nil (base cap : Int) (w : World) :
    Calls Tryz.prog 81 #[.pointer none, .int .i64 base, .int .i64 cap] w fun e w' => e = .returned (.tuple #[.pointer none, .int .i64 1]) ∧ w' = w := by
  go_enter Tryz.func81, Tryz.ntmps81
  go_wp2
  go_ret2
  exact ⟨rfl, rfl⟩
end Go.Proofs.YtojblddfggoecaaGreat
