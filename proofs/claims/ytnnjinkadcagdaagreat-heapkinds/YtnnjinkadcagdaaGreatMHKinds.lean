/- The walk of HeapKinds. -/
import Derived.Test.YtnnjinkadcagdaaGreatMHSteps
namespace Go.Proofs.YtnnjinkadcagdaaGreat
open Go.RowKit
/-- What the law leaves. -/
def KdPost (w : World) (e : Ending) (w' : World) : Prop := e = .returned (.bool true) ∧ Below w.heap.size w w'
set_option maxRecDepth 20000 in
set_option maxHeartbeats 2000000 in
theorem kinds_none (kind class_ size : Int) (w : World) (k : Int) (hk : kind.tmod 7 = k) (h : k < 1 ∨ 4 < k) (s : Int) (hs : size.tmod 1100 = s) : Calls Tryz.prog 5 #[.int .i64 kind, .int .i64 class_, .int .i64 size] w (KdPost w) := by
  go_enter Tryz.func5, Tryz.ntmps5
  go_wp2_with (first
    | (go_at_call 9; refine (awake9 w).mono ?_; rintro e w1 ⟨rfl, hb1⟩; have hN := z_new 8192 2 8192 2 w1 rfl rfl (by omega) (by omega))
    | (go_at_call 7; refine hN.mono ?_; rintro e w2 ⟨h, P2, rfl, H2⟩; have H2' := H2.lower hb1.size hb1; clear hN H2; have hM := z_kind H2' 1 k class_ s (by omega) (by omega))
    | (go_at_call 16; refine hM.mono ?_; rintro e w3 ⟨rfl, hb3⟩; have HB : Hid (Below w.heap.size w w3) := (H2'.below hb3).bel; clear hM)
    | (go_at_call 8; refine (num_any _ _).mono ?_; rintro e w9 ⟨rfl, hw9⟩; replace hw9 := hw9.symm; subst hw9))
  all_goals
    go_ret
    exact ⟨rfl, HB.out⟩
set_option maxRecDepth 20000 in
set_option maxHeartbeats 2000000 in
theorem kinds1_low (kind class_ size : Int) (w : World) (hk : kind.tmod 7 = 1) (s : Int) (hs : size.tmod 1100 = s) (h : s < 0) : Calls Tryz.prog 5 #[.int .i64 kind, .int .i64 class_, .int .i64 size] w (KdPost w) := by
  have h1 : decide (0 ≤ s) = false := by simp; omega
  go_enter Tryz.func5, Tryz.ntmps5
  go_wp2_with (first
    | (go_at_call 9; refine (awake9 w).mono ?_; rintro e w1 ⟨rfl, hb1⟩; have hN := z_new 8192 2 8192 2 w1 rfl rfl (by omega) (by omega))
    | (go_at_call 7; refine hN.mono ?_; rintro e w2 ⟨h, P2, rfl, H2⟩; have H2' := H2.lower hb1.size hb1; clear hN H2; have hM := z_size H2' 1 1 class_ s (by omega) (by omega) (fun q => by have q2 : 0 ≤ s ∧ s ≤ 64 := q.1; omega))
    | (go_at_call 16; refine hM.mono ?_; rintro e w3 ⟨rfl, hb3⟩; have HB : Hid (Below w.heap.size w w3) := (H2'.below hb3).bel; clear hM)
    | (go_at_call 8; refine (num_any _ _).mono ?_; rintro e w9 ⟨rfl, hw9⟩; replace hw9 := hw9.symm; subst hw9))
  all_goals
    go_ret
    exact ⟨rfl, HB.out⟩
set_option maxRecDepth 20000 in
set_option maxHeartbeats 2000000 in
theorem kinds1_high (kind class_ size : Int) (w : World) (hk : kind.tmod 7 = 1) (s : Int) (hs : size.tmod 1100 = s) (h : 64 < s) : Calls Tryz.prog 5 #[.int .i64 kind, .int .i64 class_, .int .i64 size] w (KdPost w) := by
  have h1 : 0 ≤ s := by omega
  have h2 : decide (s ≤ 64) = false := by simp; omega
  go_enter Tryz.func5, Tryz.ntmps5
  go_wp2_with (first
    | (go_at_call 9; refine (awake9 w).mono ?_; rintro e w1 ⟨rfl, hb1⟩; have hN := z_new 8192 2 8192 2 w1 rfl rfl (by omega) (by omega))
    | (go_at_call 7; refine hN.mono ?_; rintro e w2 ⟨h, P2, rfl, H2⟩; have H2' := H2.lower hb1.size hb1; clear hN H2; have hM := z_size H2' 1 1 class_ s (by omega) (by omega) (fun q => by have q2 : 0 ≤ s ∧ s ≤ 64 := q.1; omega))
    | (go_at_call 16; refine hM.mono ?_; rintro e w3 ⟨rfl, hb3⟩; have HB : Hid (Below w.heap.size w w3) := (H2'.below hb3).bel; clear hM)
    | (go_at_call 8; refine (num_any _ _).mono ?_; rintro e w9 ⟨rfl, hw9⟩; replace hw9 := hw9.symm; subst hw9))
  all_goals
    go_ret
    exact ⟨rfl, HB.out⟩
set_option maxRecDepth 20000 in
set_option maxHeartbeats 2000000 in
theorem kinds1_class (kind class_ size : Int) (w : World) (hk : kind.tmod 7 = 1) (s : Int) (hs : size.tmod 1100 = s) (h : 0 ≤ s ∧ s ≤ 64) (hc : class_ < 0) : Calls Tryz.prog 5 #[.int .i64 kind, .int .i64 class_, .int .i64 size] w (KdPost w) := by
  have h1 : 0 ≤ s := by omega
  have h2 : s ≤ 64 := by omega
  go_enter Tryz.func5, Tryz.ntmps5
  go_wp2_with (first
    | (go_at_call 9; refine (awake9 w).mono ?_; rintro e w1 ⟨rfl, hb1⟩; have hN := z_new 8192 2 8192 2 w1 rfl rfl (by omega) (by omega))
    | (go_at_call 7; refine hN.mono ?_; rintro e w2 ⟨h, P2, rfl, H2⟩; have H2' := H2.lower hb1.size hb1; clear hN H2; have hM := z_size H2' 1 1 class_ s (by omega) (by omega) (fun q => by have q2 : 0 ≤ class_ := q.2; omega))
    | (go_at_call 16; refine hM.mono ?_; rintro e w3 ⟨rfl, hb3⟩; have HB : Hid (Below w.heap.size w w3) := (H2'.below hb3).bel; clear hM)
    | (go_at_call 8; refine (num_any _ _).mono ?_; rintro e w9 ⟨rfl, hw9⟩; replace hw9 := hw9.symm; subst hw9))
  all_goals
    go_ret
    exact ⟨rfl, HB.out⟩
set_option maxRecDepth 20000 in
set_option maxHeartbeats 2000000 in
theorem kinds2_low (kind class_ size : Int) (w : World) (hk : kind.tmod 7 = 2) (s : Int) (hs : size.tmod 1100 = s) (h : s < 0) : Calls Tryz.prog 5 #[.int .i64 kind, .int .i64 class_, .int .i64 size] w (KdPost w) := by
  have h1 : decide (0 ≤ s) = false := by simp; omega
  go_enter Tryz.func5, Tryz.ntmps5
  go_wp2_with (first
    | (go_at_call 9; refine (awake9 w).mono ?_; rintro e w1 ⟨rfl, hb1⟩; have hN := z_new 8192 2 8192 2 w1 rfl rfl (by omega) (by omega))
    | (go_at_call 7; refine hN.mono ?_; rintro e w2 ⟨h, P2, rfl, H2⟩; have H2' := H2.lower hb1.size hb1; clear hN H2; have hM := z_size H2' 1 2 class_ s (by omega) (by omega) (fun q => by have q2 : 0 ≤ s ∧ s ≤ 1000 := q.1; omega))
    | (go_at_call 16; refine hM.mono ?_; rintro e w3 ⟨rfl, hb3⟩; have HB : Hid (Below w.heap.size w w3) := (H2'.below hb3).bel; clear hM)
    | (go_at_call 8; refine (num_any _ _).mono ?_; rintro e w9 ⟨rfl, hw9⟩; replace hw9 := hw9.symm; subst hw9))
  all_goals
    go_ret
    exact ⟨rfl, HB.out⟩
set_option maxRecDepth 20000 in
set_option maxHeartbeats 2000000 in
theorem kinds2_high (kind class_ size : Int) (w : World) (hk : kind.tmod 7 = 2) (s : Int) (hs : size.tmod 1100 = s) (h : 1000 < s) : Calls Tryz.prog 5 #[.int .i64 kind, .int .i64 class_, .int .i64 size] w (KdPost w) := by
  have h1 : 0 ≤ s := by omega
  have h2 : decide (s ≤ 1000) = false := by simp; omega
  go_enter Tryz.func5, Tryz.ntmps5
  go_wp2_with (first
    | (go_at_call 9; refine (awake9 w).mono ?_; rintro e w1 ⟨rfl, hb1⟩; have hN := z_new 8192 2 8192 2 w1 rfl rfl (by omega) (by omega))
    | (go_at_call 7; refine hN.mono ?_; rintro e w2 ⟨h, P2, rfl, H2⟩; have H2' := H2.lower hb1.size hb1; clear hN H2; have hM := z_size H2' 1 2 class_ s (by omega) (by omega) (fun q => by have q2 : 0 ≤ s ∧ s ≤ 1000 := q.1; omega))
    | (go_at_call 16; refine hM.mono ?_; rintro e w3 ⟨rfl, hb3⟩; have HB : Hid (Below w.heap.size w w3) := (H2'.below hb3).bel; clear hM)
    | (go_at_call 8; refine (num_any _ _).mono ?_; rintro e w9 ⟨rfl, hw9⟩; replace hw9 := hw9.symm; subst hw9))
  all_goals
    go_ret
    exact ⟨rfl, HB.out⟩
set_option maxRecDepth 20000 in
set_option maxHeartbeats 2000000 in
theorem kinds2_class (kind class_ size : Int) (w : World) (hk : kind.tmod 7 = 2) (s : Int) (hs : size.tmod 1100 = s) (h : 0 ≤ s ∧ s ≤ 1000) (hc : class_ < 0) : Calls Tryz.prog 5 #[.int .i64 kind, .int .i64 class_, .int .i64 size] w (KdPost w) := by
  have h1 : 0 ≤ s := by omega
  have h2 : s ≤ 1000 := by omega
  go_enter Tryz.func5, Tryz.ntmps5
  go_wp2_with (first
    | (go_at_call 9; refine (awake9 w).mono ?_; rintro e w1 ⟨rfl, hb1⟩; have hN := z_new 8192 2 8192 2 w1 rfl rfl (by omega) (by omega))
    | (go_at_call 7; refine hN.mono ?_; rintro e w2 ⟨h, P2, rfl, H2⟩; have H2' := H2.lower hb1.size hb1; clear hN H2; have hM := z_size H2' 1 2 class_ s (by omega) (by omega) (fun q => by have q2 : 0 ≤ class_ := q.2; omega))
    | (go_at_call 16; refine hM.mono ?_; rintro e w3 ⟨rfl, hb3⟩; have HB : Hid (Below w.heap.size w w3) := (H2'.below hb3).bel; clear hM)
    | (go_at_call 8; refine (num_any _ _).mono ?_; rintro e w9 ⟨rfl, hw9⟩; replace hw9 := hw9.symm; subst hw9))
  all_goals
    go_ret
    exact ⟨rfl, HB.out⟩
set_option maxRecDepth 20000 in
set_option maxHeartbeats 2000000 in
theorem kinds3_low (kind class_ size : Int) (w : World) (hk : kind.tmod 7 = 3) (s : Int) (hs : size.tmod 1100 = s) (h : s < 0) : Calls Tryz.prog 5 #[.int .i64 kind, .int .i64 class_, .int .i64 size] w (KdPost w) := by
  have h1 : decide (0 ≤ s) = false := by simp; omega
  go_enter Tryz.func5, Tryz.ntmps5
  go_wp2_with (first
    | (go_at_call 9; refine (awake9 w).mono ?_; rintro e w1 ⟨rfl, hb1⟩; have hN := z_new 8192 2 8192 2 w1 rfl rfl (by omega) (by omega))
    | (go_at_call 7; refine hN.mono ?_; rintro e w2 ⟨h, P2, rfl, H2⟩; have H2' := H2.lower hb1.size hb1; clear hN H2; have hM := z_size H2' 1 3 class_ s (by omega) (by omega) (fun q => by have q2 : 0 ≤ s ∧ s ≤ 1000 := q.1; omega))
    | (go_at_call 16; refine hM.mono ?_; rintro e w3 ⟨rfl, hb3⟩; have HB : Hid (Below w.heap.size w w3) := (H2'.below hb3).bel; clear hM)
    | (go_at_call 8; refine (num_any _ _).mono ?_; rintro e w9 ⟨rfl, hw9⟩; replace hw9 := hw9.symm; subst hw9))
  all_goals
    go_ret
    exact ⟨rfl, HB.out⟩
set_option maxRecDepth 20000 in
set_option maxHeartbeats 2000000 in
theorem kinds3_high (kind class_ size : Int) (w : World) (hk : kind.tmod 7 = 3) (s : Int) (hs : size.tmod 1100 = s) (h : 1000 < s) : Calls Tryz.prog 5 #[.int .i64 kind, .int .i64 class_, .int .i64 size] w (KdPost w) := by
  have h1 : 0 ≤ s := by omega
  have h2 : decide (s ≤ 1000) = false := by simp; omega
  go_enter Tryz.func5, Tryz.ntmps5
  go_wp2_with (first
    | (go_at_call 9; refine (awake9 w).mono ?_; rintro e w1 ⟨rfl, hb1⟩; have hN := z_new 8192 2 8192 2 w1 rfl rfl (by omega) (by omega))
    | (go_at_call 7; refine hN.mono ?_; rintro e w2 ⟨h, P2, rfl, H2⟩; have H2' := H2.lower hb1.size hb1; clear hN H2; have hM := z_size H2' 1 3 class_ s (by omega) (by omega) (fun q => by have q2 : 0 ≤ s ∧ s ≤ 1000 := q.1; omega))
    | (go_at_call 16; refine hM.mono ?_; rintro e w3 ⟨rfl, hb3⟩; have HB : Hid (Below w.heap.size w w3) := (H2'.below hb3).bel; clear hM)
    | (go_at_call 8; refine (num_any _ _).mono ?_; rintro e w9 ⟨rfl, hw9⟩; replace hw9 := hw9.symm; subst hw9))
  all_goals
    go_ret
    exact ⟨rfl, HB.out⟩
set_option maxRecDepth 20000 in
set_option maxHeartbeats 2000000 in
theorem kinds3_class (kind class_ size : Int) (w : World) (hk : kind.tmod 7 = 3) (s : Int) (hs : size.tmod 1100 = s) (h : 0 ≤ s ∧ s ≤ 1000) (hc : class_ < 0) : Calls Tryz.prog 5 #[.int .i64 kind, .int .i64 class_, .int .i64 size] w (KdPost w) := by
  have h1 : 0 ≤ s := by omega
  have h2 : s ≤ 1000 := by omega
  go_enter Tryz.func5, Tryz.ntmps5
  go_wp2_with (first
    | (go_at_call 9; refine (awake9 w).mono ?_; rintro e w1 ⟨rfl, hb1⟩; have hN := z_new 8192 2 8192 2 w1 rfl rfl (by omega) (by omega))
    | (go_at_call 7; refine hN.mono ?_; rintro e w2 ⟨h, P2, rfl, H2⟩; have H2' := H2.lower hb1.size hb1; clear hN H2; have hM := z_size H2' 1 3 class_ s (by omega) (by omega) (fun q => by have q2 : 0 ≤ class_ := q.2; omega))
    | (go_at_call 16; refine hM.mono ?_; rintro e w3 ⟨rfl, hb3⟩; have HB : Hid (Below w.heap.size w w3) := (H2'.below hb3).bel; clear hM)
    | (go_at_call 8; refine (num_any _ _).mono ?_; rintro e w9 ⟨rfl, hw9⟩; replace hw9 := hw9.symm; subst hw9))
  all_goals
    go_ret
    exact ⟨rfl, HB.out⟩
set_option maxRecDepth 20000 in
set_option maxHeartbeats 2000000 in
theorem kinds4_bad (kind class_ size : Int) (w : World) (hk : kind.tmod 7 = 4) (s : Int) (hs : size.tmod 1100 = s) (h : s ≠ 1) : Calls Tryz.prog 5 #[.int .i64 kind, .int .i64 class_, .int .i64 size] w (KdPost w) := by
  have h1 : (s == 1) = false := by simpa using h
  go_enter Tryz.func5, Tryz.ntmps5
  go_wp2_with (first
    | (go_at_call 9; refine (awake9 w).mono ?_; rintro e w1 ⟨rfl, hb1⟩; have hN := z_new 8192 2 8192 2 w1 rfl rfl (by omega) (by omega))
    | (go_at_call 7; refine hN.mono ?_; rintro e w2 ⟨h, P2, rfl, H2⟩; have H2' := H2.lower hb1.size hb1; clear hN H2; have hM := z_size H2' 1 4 class_ s (by omega) (by omega) (fun q => by have q2 : 1 ≤ s ∧ s ≤ 1 := q.1; omega))
    | (go_at_call 16; refine hM.mono ?_; rintro e w3 ⟨rfl, hb3⟩; have HB : Hid (Below w.heap.size w w3) := (H2'.below hb3).bel; clear hM)
    | (go_at_call 8; refine (num_any _ _).mono ?_; rintro e w9 ⟨rfl, hw9⟩; replace hw9 := hw9.symm; subst hw9))
  all_goals
    go_ret
    exact ⟨rfl, HB.out⟩
set_option maxRecDepth 20000 in
set_option maxHeartbeats 2000000 in
theorem kinds4_class (kind class_ size : Int) (w : World) (hk : kind.tmod 7 = 4) (s : Int) (hs : size.tmod 1100 = s) (h : s = 1) (hc : class_ < 0) : Calls Tryz.prog 5 #[.int .i64 kind, .int .i64 class_, .int .i64 size] w (KdPost w) := by
  have h1 : (s == 1) = true := by simpa using h
  clear h
  go_enter Tryz.func5, Tryz.ntmps5
  go_wp2_with (first
    | (go_at_call 9; refine (awake9 w).mono ?_; rintro e w1 ⟨rfl, hb1⟩; have hN := z_new 8192 2 8192 2 w1 rfl rfl (by omega) (by omega))
    | (go_at_call 7; refine hN.mono ?_; rintro e w2 ⟨h, P2, rfl, H2⟩; have H2' := H2.lower hb1.size hb1; clear hN H2; have hM := z_size H2' 1 4 class_ s (by omega) (by omega) (fun q => by have q2 : 0 ≤ class_ := q.2; omega))
    | (go_at_call 16; refine hM.mono ?_; rintro e w3 ⟨rfl, hb3⟩; have HB : Hid (Below w.heap.size w w3) := (H2'.below hb3).bel; clear hM)
    | (go_at_call 8; refine (num_any _ _).mono ?_; rintro e w9 ⟨rfl, hw9⟩; replace hw9 := hw9.symm; subst hw9))
  all_goals
    go_ret
    exact ⟨rfl, HB.out⟩
set_option maxRecDepth 20000 in
set_option maxHeartbeats 2000000 in
theorem kinds1_ok (kind class_ size : Int) (w : World) (hk : kind.tmod 7 = 1) (s : Int) (hs : size.tmod 1100 = s) (h : 0 ≤ s ∧ s ≤ 64) (hc : 0 ≤ class_) : Calls Tryz.prog 5 #[.int .i64 kind, .int .i64 class_, .int .i64 size] w (KdPost w) := by
  have h1 : 0 ≤ s := by omega
  have h2 : s ≤ 64 := by omega
  have hc2 : decide (class_ < 0) = false := by simp; omega
  obtain ⟨n, hn⟩ : ∃ n : Nat, s = (n : Int) := ⟨s.toNat, by omega⟩
  have Hn : Hid (s = (n : Int) ∧ n ≤ 1000) := ⟨hn, by omega⟩
  clear hn
  go_enter Tryz.func5, Tryz.ntmps5
  go_wp2_with (first
    | (go_at_call 9; refine (awake9 w).mono ?_; rintro e w1 ⟨rfl, hb1⟩; have hN := z_new 8192 2 8192 2 w1 rfl rfl (by omega) (by omega))
    | (go_at_call 7; refine hN.mono ?_; rintro e w2 ⟨h, P2, rfl, H2⟩; have H2' := H2.lower hb1.size hb1; clear hN H2; have hM := z_make H2' (by omega) 1 1 class_ s n Hn.out.1 (by omega) (by omega) (by show (0 : Int) ≤ s ∧ s ≤ 64; omega) (by omega) (by have := Hn.out.2; show 0 + (n + 16) ≤ 2048; omega))
    | (go_at_call 16; refine hM.mono ?_; rintro e w3 ⟨ix, S3, ad, c3, rfl, hAd, hT3⟩; obtain ⟨P3, H3⟩ := hT3.in_; have hx := hAd.new; have HC : Hid (cntS S3 = 1) := hAd.cnt; have hC := z_cell H3 (by omega) hx; have en : (((⟨1, class_, n, ad⟩ : Cel).n : Nat) : Int) = s := Hn.out.1.symm; rw [en] at hC; clear hM hT3 H2' en)
    | (go_at_call 20; refine hC.mono ?_; rintro e w4 ⟨rfl, hb4⟩; have H4 := (H3.below hb4).below ((Below.refl _ _).alloc (Nat.le_refl _) (.cells #[.int .i64 1, .int .i64 class_, .int .i64 s] 50)); have hz4 := heap_alloc_new w4 (.cells #[.int .i64 1, .int .i64 class_, .int .i64 s] 50); have hL := z_load_out H4 (by omega) hx 0 s (by omega) (by have := Hn.out.1; show ¬ (0 ≤ s ∧ s < (n : Int)); omega); clear hC hb4 H3)
    | (go_at_call 17; refine hL.mono ?_; rintro e w5 ⟨rfl, hb5⟩; have H5 := H4.below hb5; have cz := cell3 ((hb5.block _ (box_lt hz4)).trans hz4); have hR := z_refs H5 (by omega); clear hL hb5 H4 hz4)
    | (go_at_call 13; refine hR.mono ?_; rintro e w6 ⟨v, rfl, hRi, hb6⟩; obtain ⟨ao, cap, rfl⟩ := hRi.form; rw [nums_len, HC.out]; have HB : Hid (Below w.heap.size w w6) := (H5.below hb6).bel; clear hR hb6 hRi H5)
    | (go_at_call 8; refine (num_any _ _).mono ?_; rintro e w9 ⟨rfl, hw9⟩; replace hw9 := hw9.symm; subst hw9))
  all_goals
    go_ret
    exact ⟨rfl, HB.out⟩
set_option maxRecDepth 20000 in
set_option maxHeartbeats 2000000 in
theorem kinds2_ok (kind class_ size : Int) (w : World) (hk : kind.tmod 7 = 2) (s : Int) (hs : size.tmod 1100 = s) (h : 0 ≤ s ∧ s ≤ 1000) (hc : 0 ≤ class_) : Calls Tryz.prog 5 #[.int .i64 kind, .int .i64 class_, .int .i64 size] w (KdPost w) := by
  have h1 : 0 ≤ s := by omega
  have h2 : s ≤ 1000 := by omega
  have hc2 : decide (class_ < 0) = false := by simp; omega
  obtain ⟨n, hn⟩ : ∃ n : Nat, s = (n : Int) := ⟨s.toNat, by omega⟩
  have Hn : Hid (s = (n : Int) ∧ n ≤ 1000) := ⟨hn, by omega⟩
  clear hn
  go_enter Tryz.func5, Tryz.ntmps5
  go_wp2_with (first
    | (go_at_call 9; refine (awake9 w).mono ?_; rintro e w1 ⟨rfl, hb1⟩; have hN := z_new 8192 2 8192 2 w1 rfl rfl (by omega) (by omega))
    | (go_at_call 7; refine hN.mono ?_; rintro e w2 ⟨h, P2, rfl, H2⟩; have H2' := H2.lower hb1.size hb1; clear hN H2; have hM := z_make H2' (by omega) 1 2 class_ s n Hn.out.1 (by omega) (by omega) (by show (0 : Int) ≤ s ∧ s ≤ 1000; omega) (by omega) (by have := Hn.out.2; show 0 + (n + 16) ≤ 2048; omega))
    | (go_at_call 16; refine hM.mono ?_; rintro e w3 ⟨ix, S3, ad, c3, rfl, hAd, hT3⟩; obtain ⟨P3, H3⟩ := hT3.in_; have hx := hAd.new; have HC : Hid (cntS S3 = 1) := hAd.cnt; have hC := z_cell H3 (by omega) hx; have en : (((⟨2, class_, n, ad⟩ : Cel).n : Nat) : Int) = s := Hn.out.1.symm; rw [en] at hC; clear hM hT3 H2' en)
    | (go_at_call 20; refine hC.mono ?_; rintro e w4 ⟨rfl, hb4⟩; have H4 := (H3.below hb4).below ((Below.refl _ _).alloc (Nat.le_refl _) (.cells #[.int .i64 2, .int .i64 class_, .int .i64 s] 50)); have hz4 := heap_alloc_new w4 (.cells #[.int .i64 2, .int .i64 class_, .int .i64 s] 50); have hL := z_load_out H4 (by omega) hx 0 s (by omega) (by have := Hn.out.1; show ¬ (0 ≤ s ∧ s < (n : Int)); omega); clear hC hb4 H3)
    | (go_at_call 17; refine hL.mono ?_; rintro e w5 ⟨rfl, hb5⟩; have H5 := H4.below hb5; have cz := cell3 ((hb5.block _ (box_lt hz4)).trans hz4); have hR := z_refs H5 (by omega); clear hL hb5 H4 hz4)
    | (go_at_call 13; refine hR.mono ?_; rintro e w6 ⟨v, rfl, hRi, hb6⟩; obtain ⟨ao, cap, rfl⟩ := hRi.form; rw [nums_len, HC.out]; have HB : Hid (Below w.heap.size w w6) := (H5.below hb6).bel; clear hR hb6 hRi H5)
    | (go_at_call 8; refine (num_any _ _).mono ?_; rintro e w9 ⟨rfl, hw9⟩; replace hw9 := hw9.symm; subst hw9))
  all_goals
    go_ret
    exact ⟨rfl, HB.out⟩
set_option maxRecDepth 20000 in
set_option maxHeartbeats 2000000 in
theorem kinds3_ok (kind class_ size : Int) (w : World) (hk : kind.tmod 7 = 3) (s : Int) (hs : size.tmod 1100 = s) (h : 0 ≤ s ∧ s ≤ 1000) (hc : 0 ≤ class_) : Calls Tryz.prog 5 #[.int .i64 kind, .int .i64 class_, .int .i64 size] w (KdPost w) := by
  have h1 : 0 ≤ s := by omega
  have h2 : s ≤ 1000 := by omega
  have hc2 : decide (class_ < 0) = false := by simp; omega
  obtain ⟨n, hn⟩ : ∃ n : Nat, s = (n : Int) := ⟨s.toNat, by omega⟩
  have Hn : Hid (s = (n : Int) ∧ n ≤ 1000) := ⟨hn, by omega⟩
  clear hn
  go_enter Tryz.func5, Tryz.ntmps5
  go_wp2_with (first
    | (go_at_call 9; refine (awake9 w).mono ?_; rintro e w1 ⟨rfl, hb1⟩; have hN := z_new 8192 2 8192 2 w1 rfl rfl (by omega) (by omega))
    | (go_at_call 7; refine hN.mono ?_; rintro e w2 ⟨h, P2, rfl, H2⟩; have H2' := H2.lower hb1.size hb1; clear hN H2; have hM := z_make H2' (by omega) 1 3 class_ s n Hn.out.1 (by omega) (by omega) (by show (0 : Int) ≤ s ∧ s ≤ 1000; omega) (by omega) (by have := Hn.out.2; show 0 + (n + 16) ≤ 2048; omega))
    | (go_at_call 16; refine hM.mono ?_; rintro e w3 ⟨ix, S3, ad, c3, rfl, hAd, hT3⟩; obtain ⟨P3, H3⟩ := hT3.in_; have hx := hAd.new; have HC : Hid (cntS S3 = 1) := hAd.cnt; have hC := z_cell H3 (by omega) hx; have en : (((⟨3, class_, n, ad⟩ : Cel).n : Nat) : Int) = s := Hn.out.1.symm; rw [en] at hC; clear hM hT3 H2' en)
    | (go_at_call 20; refine hC.mono ?_; rintro e w4 ⟨rfl, hb4⟩; have H4 := (H3.below hb4).below ((Below.refl _ _).alloc (Nat.le_refl _) (.cells #[.int .i64 3, .int .i64 class_, .int .i64 s] 50)); have hz4 := heap_alloc_new w4 (.cells #[.int .i64 3, .int .i64 class_, .int .i64 s] 50); have hL := z_load_out H4 (by omega) hx 0 s (by omega) (by have := Hn.out.1; show ¬ (0 ≤ s ∧ s < (n : Int)); omega); clear hC hb4 H3)
    | (go_at_call 17; refine hL.mono ?_; rintro e w5 ⟨rfl, hb5⟩; have H5 := H4.below hb5; have cz := cell3 ((hb5.block _ (box_lt hz4)).trans hz4); have hR := z_refs H5 (by omega); clear hL hb5 H4 hz4)
    | (go_at_call 13; refine hR.mono ?_; rintro e w6 ⟨v, rfl, hRi, hb6⟩; obtain ⟨ao, cap, rfl⟩ := hRi.form; rw [nums_len, HC.out]; have HB : Hid (Below w.heap.size w w6) := (H5.below hb6).bel; clear hR hb6 hRi H5)
    | (go_at_call 8; refine (num_any _ _).mono ?_; rintro e w9 ⟨rfl, hw9⟩; replace hw9 := hw9.symm; subst hw9))
  all_goals
    go_ret
    exact ⟨rfl, HB.out⟩
set_option maxRecDepth 20000 in
set_option maxHeartbeats 2000000 in
theorem kinds4_ok (kind class_ size : Int) (w : World) (hk : kind.tmod 7 = 4) (s : Int) (hs : size.tmod 1100 = s) (h : s = 1) (hc : 0 ≤ class_) : Calls Tryz.prog 5 #[.int .i64 kind, .int .i64 class_, .int .i64 size] w (KdPost w) := by
  have h1 : (s == 1) = true := by simpa using h
  have H1 : Hid (s = 1) := h
  have hc2 : decide (class_ < 0) = false := by simp; omega
  obtain ⟨n, hn⟩ : ∃ n : Nat, s = (n : Int) := ⟨s.toNat, by omega⟩
  have Hn : Hid (s = (n : Int) ∧ n ≤ 1000) := ⟨hn, by omega⟩
  clear hn h
  go_enter Tryz.func5, Tryz.ntmps5
  go_wp2_with (first
    | (go_at_call 9; refine (awake9 w).mono ?_; rintro e w1 ⟨rfl, hb1⟩; have hN := z_new 8192 2 8192 2 w1 rfl rfl (by omega) (by omega))
    | (go_at_call 7; refine hN.mono ?_; rintro e w2 ⟨h, P2, rfl, H2⟩; have H2' := H2.lower hb1.size hb1; clear hN H2; have hM := z_make H2' (by omega) 1 4 class_ s n Hn.out.1 (by omega) (by omega) (by have := H1.out; show (1 : Int) ≤ s ∧ s ≤ 1; omega) (by omega) (by have := Hn.out.2; show 0 + (n + 16) ≤ 2048; omega))
    | (go_at_call 16; refine hM.mono ?_; rintro e w3 ⟨ix, S3, ad, c3, rfl, hAd, hT3⟩; obtain ⟨P3, H3⟩ := hT3.in_; have hx := hAd.new; have HC : Hid (cntS S3 = 1) := hAd.cnt; have hC := z_cell H3 (by omega) hx; have en : (((⟨4, class_, n, ad⟩ : Cel).n : Nat) : Int) = s := Hn.out.1.symm; rw [en] at hC; clear hM hT3 H2' en)
    | (go_at_call 20; refine hC.mono ?_; rintro e w4 ⟨rfl, hb4⟩; have H4 := (H3.below hb4).below ((Below.refl _ _).alloc (Nat.le_refl _) (.cells #[.int .i64 4, .int .i64 class_, .int .i64 s] 50)); have hz4 := heap_alloc_new w4 (.cells #[.int .i64 4, .int .i64 class_, .int .i64 s] 50); have hL := z_load_out H4 (by omega) hx 0 s (by omega) (by have := Hn.out.1; show ¬ (0 ≤ s ∧ s < (n : Int)); omega); clear hC hb4 H3)
    | (go_at_call 17; refine hL.mono ?_; rintro e w5 ⟨rfl, hb5⟩; have H5 := H4.below hb5; have cz := cell3 ((hb5.block _ (box_lt hz4)).trans hz4); have hR := z_refs H5 (by omega); clear hL hb5 H4 hz4)
    | (go_at_call 13; refine hR.mono ?_; rintro e w6 ⟨v, rfl, hRi, hb6⟩; obtain ⟨ao, cap, rfl⟩ := hRi.form; rw [nums_len, HC.out]; have HB : Hid (Below w.heap.size w w6) := (H5.below hb6).bel; clear hR hb6 hRi H5)
    | (go_at_call 8; refine (num_any _ _).mono ?_; rintro e w9 ⟨rfl, hw9⟩; replace hw9 := hw9.symm; subst hw9))
  all_goals
    go_ret
    exact ⟨rfl, HB.out⟩
theorem kinds_walk (kind class_ size : Int) (w : World) : Calls Tryz.prog 5 #[.int .i64 kind, .int .i64 class_, .int .i64 size] w fun e w' => e = .returned (.bool true) ∧ Below w.heap.size w w' := by
  show Calls Tryz.prog 5 #[.int .i64 kind, .int .i64 class_, .int .i64 size] w (KdPost w)
  obtain ⟨k, hk⟩ : ∃ k, kind.tmod 7 = k := ⟨_, rfl⟩
  obtain ⟨s, hs⟩ : ∃ s, size.tmod 1100 = s := ⟨_, rfl⟩
  by_cases h : k < 1 ∨ 4 < k
  · exact kinds_none kind class_ size w k hk h s hs
  · have h4 : k = 1 ∨ k = 2 ∨ k = 3 ∨ k = 4 := by omega
    rcases h4 with rfl | rfl | rfl | rfl
    · by_cases a : s < 0
      · exact kinds1_low kind class_ size w hk s hs a
      · by_cases b : 64 < s
        · exact kinds1_high kind class_ size w hk s hs b
        · by_cases c : class_ < 0
          · exact kinds1_class kind class_ size w hk s hs (by omega) c
          · exact kinds1_ok kind class_ size w hk s hs (by omega) (by omega)
    · by_cases a : s < 0
      · exact kinds2_low kind class_ size w hk s hs a
      · by_cases b : 1000 < s
        · exact kinds2_high kind class_ size w hk s hs b
        · by_cases c : class_ < 0
          · exact kinds2_class kind class_ size w hk s hs (by omega) c
          · exact kinds2_ok kind class_ size w hk s hs (by omega) (by omega)
    · by_cases a : s < 0
      · exact kinds3_low kind class_ size w hk s hs a
      · by_cases b : 1000 < s
        · exact kinds3_high kind class_ size w hk s hs b
        · by_cases c : class_ < 0
          · exact kinds3_class kind class_ size w hk s hs (by omega) c
          · exact kinds3_ok kind class_ size w hk s hs (by omega) (by omega)
    · by_cases a : s = 1
      · by_cases c : class_ < 0
        · exact kinds4_class kind class_ size w hk s hs a c
        · exact kinds4_ok kind class_ size w hk s hs a (by omega)
      · exact kinds4_bad kind class_ size w hk s hs a
end Go.Proofs.YtnnjinkadcagdaaGreat
