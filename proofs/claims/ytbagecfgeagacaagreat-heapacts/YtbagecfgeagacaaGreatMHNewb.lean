/- New of a heap: made, or refused. -/
import Derived.Test.YtbagecfgeagacaaGreatMHNew
import Derived.Test.YtbagecfgeagacaaGreatMHSide
namespace Go.Proofs.YtbagecfgeagacaaGreat
open Go.RowKit
theorem onew_any (p : Nat) (w : World) : Calls Tryz.prog 45 #[.pointer (some ⟨p, 0, none⟩)] w fun e w' => ∃ so, e = .returned (.tuple #[.pointer (some ⟨so, 0, none⟩), .int .i64 0]) ∧ Below w.heap.size w w' := by
  have a1 := (Below.refl w.heap.size w).alloc (Nat.le_refl _) (.map #[] 0)
  have a2 := a1.alloc (by simp) (.cells #[.pointer (some ⟨p, 0, none⟩), .map (some w.heap.size)] 126)
  have hmm := @run_makeMap Tryz.prog
  go_enter Tryz.func45, Tryz.ntmps45
  go_wp2
  go_ret2
  exact ⟨_, rfl, a2⟩
set_option maxRecDepth 20000 in
set_option maxHeartbeats 1000000 in
theorem keepersIn_any {w : World} {b bw bs W G : Nat} (h : Ar w b bw bs W G (fun _ => 0) (fun _ => 0)) (hW : 512 ≤ W ∧ W ≤ 65536) (hG : G ≤ 12) :
    Calls Tryz.prog 38 #[.pointer (some ⟨b, 0, none⟩)] w fun e w' => ∃ so s, e = .returned (.tuple #[.pointer (some ⟨so, 0, none⟩), .agg #[.pointer (some ⟨s, 0, none⟩)]]) ∧ Bt (fun k => k = bw ∨ k = bs) w w' := by
  have c0 := h.c0
  have hbl := h.lt
  have hRo := roomOf_ok W (by omega)
  have hFr := fragmentsFor_ok (roomW W) (by unfold roomW; omega)
  have b0 := (Below.refl w.heap.size w).alloc (Nat.le_refl _) (.cells #[.pointer none] 92)
  have hA0 : Ar (w.alloc (.cells #[.pointer none] 92)) b bw bs W G (fun _ => 0) (fun _ => 0) := h.alloc _
  have hz0 := heap_alloc_new w (.cells #[.pointer none] 92)
  have hlts := h.lts
  clear h
  go_enter Tryz.func38, Tryz.ntmps38
  go_wp2_with (first
    | (go_at_call 43; refine (words_at (by first | exact hA0.c0 | exact cw)).mono ?_; rintro e w9 ⟨rfl, hw9⟩; replace hw9 := hw9.symm; subst hw9)
    | (go_at_call 24; refine (hRo _).mono ?_; rintro e w9 ⟨rfl, hw9⟩; replace hw9 := hw9.symm; subst hw9)
    | (go_at_call 42; refine (hFr _).mono ?_; rintro e w9 ⟨N, rfl, hw9, hE1, hE2⟩; replace hw9 := hw9.symm; subst hw9; have HE : Hid (Enough W N) := ⟨hE1, hE2⟩; have hft := HE.out.fits hW.1 (by omega); have hPN := pnew_any hA0 0 N 0 N rfl rfl hft.1 hft.2.1 (by omega) (by omega) hG; have hRm : ∃ r : Nat, (∀ u, Calls Tryz.prog 47 #[.int .i64 N] u fun e w' => e = .returned (.int .i64 r) ∧ w' = u) ∧ r ≤ 11 * N + 16 := fragRoom_some N hft.2.1; obtain ⟨r, hRm, hr⟩ := hRm; have hr2 : r + 32 ≤ W := (by have := HE.out.most; have e : roomW W = (W + 3) / 4 := rfl; omega); clear hE1 hE2)
    | (go_at_call 44; refine hPN.mono ?_; rintro e w1 ⟨p, ws1, rfl, hp1, hA1, hB1⟩; have hON := onew_any p w1; clear hPN)
    | (go_at_call 45; refine hON.mono ?_; rintro e w2 ⟨so, rfl, hb2⟩; have hA2 := hA1.below hb2; have cw := hA2.c0; have hSN := spnew_g (f := intf ws1) (c := fun _ => 0) (V := fun _ a => intf ws1 a) (by rw [natf_intf]; exact hA2) (fun _ => rfl) (r : Int) ((W : Int) - (r : Int)) (by omega) (by omega) (by omega) (by omega); clear hON)
    | (go_at_call 46; refine hSN.mono ?_; rintro e w3 ⟨s, P1, rfl, hG3, hb3, hP1⟩; have hz1 := (hB1.block w.heap.size (by rw [Go.Deep.nblk_alloc]; omega) (by omega)).trans hz0; have hz2 := (hb2.block w.heap.size (box_lt hz1)).trans hz1; have hz3 := (hb3.block w.heap.size (box_lt hz2)).trans hz2; have k3 := box_cell hz3; have k4 := frz hz3 0; have k5 := box_lt hz3; clear hSN)
    | (go_at_call 47; refine (hRm _).mono ?_; rintro e w9 ⟨rfl, hw9⟩; replace hw9 := hw9.symm; subst hw9))
  have hB3 : Bt (fun k => k = bw ∨ k = bs) w w3 := ((Bt.of_below b0).trans hB1).trans (Bt.of_below (hb2.trans (hb3.mono hb2.size)))
  have hsz : w3.heap.size = (w3.setCell ⟨w.heap.size, 0, none⟩ (.pointer (some ⟨s, 0, none⟩))).heap.size := by simp [World.setCell]
  refine bodyPost_ret (results_tc rfl _ _ w.heap.size 92 _ (0, 0) _ rfl (set_blk hz3 0 _) Tryz.underlying92 rfl infoAr) rfl ⟨so, s, rfl, hB3.os, hB3.tape, hB3.output, by rw [← hsz]; exact hB3.size, fun k hk e => (heap_put _ _ (by show k ≠ w.heap.size; omega)).trans (hB3.block k hk e)⟩
/-- Which heaps there may not be. -/
theorem hnew_no (x y : Int) (w : World) (hx : ¬ ((512 ≤ x ∧ x ≤ 65536) ∧ 1 ≤ y ∧ y ≤ 12)) :
    Calls Tryz.prog 7 #[.int .i64 x, .int .i64 y] w fun e w' => e = .returned (.tuple #[.pointer none, .int .i64 900]) ∧ Below w.heap.size w w' := by
  by_cases h1 : (1 ≤ x ∧ x ≤ 65536) ∧ 1 ≤ y ∧ y ≤ 12
  · obtain ⟨W, rfl⟩ := Int.eq_ofNat_of_zero_le (show 0 ≤ x by omega)
    obtain ⟨G, rfl⟩ := Int.eq_ofNat_of_zero_le (show 0 ≤ y by omega)
    have hN := new_ok W G w (by omega) (by omega) (by omega) (by omega)
    have h2 : ((W : Int)) < 512 := by omega
    clear hx h1
    go_enter Tryz.func7, Tryz.ntmps7
    go_wp2_with (go_at_call 22; refine hN.mono ?_; rintro e w1 ⟨b, bw, bs, rfl, hA, hb, _, _, _⟩)
    go_ret2
    exact ⟨rfl, hb⟩
  · have hN : Calls Tryz.prog 22 #[.int .i64 x, .int .i64 y] w fun e w' => e = .returned (.tuple #[.pointer none, .int .i64 300]) ∧ w' = w := by
      by_cases h2 : 1 ≤ x ∧ x ≤ 65536
      · exact new_no_agents x y w h2 (fun r => h1 ⟨h2, r⟩)
      · exact new_no_words x y w h2
    clear hx h1
    go_enter Tryz.func7, Tryz.ntmps7
    go_wp2_with (go_at_call 22; refine hN.mono ?_; rintro e w9 ⟨rfl, hw9⟩; replace hw9 := hw9.symm; subst hw9)
    go_ret2
    exact ⟨rfl, Below.refl _ _⟩
/-- A heap of the law's own. -/
def NwPost (w : World) (W G : Nat) (e : Ending) (w' : World) : Prop :=
  ∃ h X, e = .returned (.tuple #[.pointer (some ⟨h, 0, none⟩), .int .i64 0]) ∧ HpC w' h W G 0 (fun _ => 0) [] (fun _ _ => 0) X ∧ Below w.heap.size w w' ∧ ∀ k, X.own h k → w.heap.size ≤ k
set_option maxRecDepth 20000 in
theorem hnew_ok (W G : Nat) (w : World) (hW : 512 ≤ W ∧ W ≤ 20000) (hG : 1 ≤ G ∧ G ≤ 12) :
    Calls Tryz.prog 7 #[.int .i64 W, .int .i64 G] w (NwPost w W G) := by
  have hN := new_ok W G w (by omega) (by omega) (by omega) (by omega)
  have hRo := roomOf_ok W (by omega)
  have h2 : decide ((W : Int) < 512) = false := by simp; omega
  have HW : Hid ((512 ≤ W ∧ W ≤ 20000) ∧ 1 ≤ G ∧ G ≤ 12) := ⟨hW, hG⟩
  clear hW hG
  go_enter Tryz.func7, Tryz.ntmps7
  go_wp2_with (first
    | (go_at_call 22; refine hN.mono ?_; rintro e w1 ⟨b, bw, bs, rfl, hA, hb, l0, l1, l2⟩; have hlts := hA.lts; have hbl := hA.lt; have hK := kindsIn_ok (w := w1) (b := b) (Q := fun so s w2 => KQ (w1.alloc (.cells #[.slice none 0 0, .slice none 0 0] 60)) b bw bs W G so s w2) ((keepersIn_ok (hA.alloc _) HW.out.1 HW.out.2.2).mono (by rintro e w2 ⟨so, s, rfl, hq⟩; refine ⟨so, s, rfl, hq, ?_⟩; obtain ⟨_, _, _, _, _, _, _, _, _, _, _, _, _, _, _, hB⟩ := hq; exact (hB.block w1.heap.size (by rw [Go.Deep.nblk_alloc]; omega) (by omega)).trans (heap_alloc_new w1 _))); clear hN)
    | (go_at_call 23; refine hK.mono ?_; rintro e w4 ⟨so, s, w2, kb, kc, rfl, hQ, hR, hB4⟩; clear hK)
    | (go_at_call 24; refine (hRo _).mono ?_; rintro e w9 ⟨rfl, hw9⟩; replace hw9 := hw9.symm; subst hw9))
  go_ret2
  obtain ⟨P1, P2, mb, p, N, xs, ws, V, hS, hG, hM, hlt, hE, hz, hP, hB⟩ := hQ
  rw [Go.Deep.nblk_alloc] at hP
  have hs1 := hb.size
  have far : ∀ k, P1 k ∨ P2 k → k ≠ w1.heap.size := fun k hk => by rcases hP k hk with z | z | z | z <;> omega
  have e4 : ∀ k, P1 k ∨ P2 k → w4.heap[k]? = w2.heap[k]? := fun k hk => hB4.block k (hk.elim (hlt k) (hS.raw.lt k)) (far k hk)
  have hS4 : Sto w4 P2 so mb p b W 0 N G (fun _ => 0) 0 xs ws 0 (.map []) [] := ⟨hS.raw.keep (fun k hk => e4 k (.inr hk)) hB4.size, hS.inv, hS.mp⟩
  have hG4 := hG.keep (w' := w4) (fun k hk => e4 k (.inl hk))
  have hM4 := hM.keep (w' := w4) hG (fun k hk => e4 k (.inl hk))
  have a5 := (Below.refl w4.heap.size w4).alloc (Nat.le_refl _) (.cells #[.pointer (some ⟨b, 0, none⟩), .slice (some ⟨kb, 0, none⟩) 4 kc, .slice none 0 0, .slice none 0 0, .slice none 0 0, .int .i64 (roomW W)] 66)
  have hkb := hR.lt (j := kb) rfl
  have hs4 := hB4.size
  refine ⟨w4.heap.size, ⟨P1, P2, b, so, mb, p, s, N, 0, xs, ws, 0, .map [], [], q0 (11 * (N : Int) + 8) (((W : Int) - (11 * N + 8)) / 2), V, kb, kc, .slice none 0 0, .slice none 0 0, []⟩, rfl, ⟨⟨hS4.below a5, hG4.below a5, ?_, fun k hk => ?_, ?_, (hR.lower (Nat.zero_le _)).below a5, Rs.nil _ _ _ _, Ri.nil _ _, fun k hk => ?_, ⟨rfl, hz⟩⟩, Tab.nil, Lnk.nil _ _ _, hE, HW.out.1, Nat.zero_le _, rfl, rfl, ⟨by show (0 : Int) ≤ _; omega, Nat.le_refl _, by show (0 : Int) ≤ _; omega, Nat.le_refl _, Nat.le_refl _⟩, fun j => ⟨Int.le_refl _, by show (0 : Int) ≤ _; omega⟩⟩, ?_, fun k hk => ?_⟩
  · intro k hk hq
    rcases hM4 k hk hq with r | ⟨bw', bs', W', G', ws', cs', hA', r⟩
    · exact .inl r
    · exact .inr ⟨bw', bs', W', G', ws', cs', hA'.alloc _, r⟩
  · have := hlt k hk
    rw [Go.Deep.nblk_alloc]; omega
  · have e := heap_alloc_new w4 (.cells #[.pointer (some ⟨b, 0, none⟩), .slice (some ⟨kb, 0, none⟩) 4 kc, .slice none 0 0, .slice none 0 0, .slice none 0 0, .int .i64 (roomW W)] 66)
    rw [show (roomW W : Int) - (sumS [] : Nat) = roomW W by simp [sumS]]
    exact e
  · have hk' : k = w4.heap.size ∨ k = kb ∨ (Value.slice none 0 0).ownBlock = some k ∨ (Value.slice none 0 0).ownBlock = some k := hk
    rcases hk' with z | z | z | z
    · exact ⟨fun r => by have := hlt k r; omega, fun r => by have := hS.raw.lt k r; omega⟩
    · exact ⟨fun r => by have := hlt k r; omega, fun r => by have := hS.raw.lt k r; omega⟩
    · simp [Value.ownBlock] at z
    · simp [Value.ownBlock] at z
  · have h1 := hb.alloc hb.size (.cells #[.slice none 0 0, .slice none 0 0] 60)
    have h2 := Bt.under h1 (by rw [Go.Deep.nblk_alloc]; omega) (fun k hk => by rcases hk with z | z <;> omega) hB
    have h3 := Bt.under h2 h2.size (fun k hk => by omega) hB4
    exact h3.trans (a5.mono h3.size)
  · have hk' : P1 k ∨ P2 k ∨ (k = w4.heap.size ∨ k = kb ∨ (Value.slice none 0 0).ownBlock = some k ∨ (Value.slice none 0 0).ownBlock = some k) := hk
    have h1 := hb.alloc hb.size (.cells #[.slice none 0 0, .slice none 0 0] 60)
    have hs2 := hB.size
    rw [Go.Deep.nblk_alloc] at hs2
    rcases hk' with z | z | z | z | z | z
    · rcases hP k (.inl z) with z | z | z | z <;> omega
    · rcases hP k (.inr z) with z | z | z | z <;> omega
    · omega
    · omega
    · simp [Value.ownBlock] at z
    · simp [Value.ownBlock] at z
set_option maxRecDepth 20000 in
theorem hnew_any (W G : Nat) (w : World) (hW : 512 ≤ W ∧ W ≤ 65536) (hG : 1 ≤ G ∧ G ≤ 12) :
    Calls Tryz.prog 7 #[.int .i64 W, .int .i64 G] w fun e w' => ∃ h, e = .returned (.tuple #[.pointer (some ⟨h, 0, none⟩), .int .i64 0]) ∧ Below w.heap.size w w' := by
  have hN := new_ok W G w (by omega) (by omega) (by omega) (by omega)
  have hRo := roomOf_ok W (by omega)
  have h2 : decide ((W : Int) < 512) = false := by simp; omega
  have HW : Hid ((512 ≤ W ∧ W ≤ 65536) ∧ 1 ≤ G ∧ G ≤ 12) := ⟨hW, hG⟩
  clear hW hG
  go_enter Tryz.func7, Tryz.ntmps7
  go_wp2_with (first
    | (go_at_call 22; refine hN.mono ?_; rintro e w1 ⟨b, bw, bs, rfl, hA, hb, l0, l1, l2⟩; have hlts := hA.lts; have hbl := hA.lt; have hK := kindsIn_ok (w := w1) (b := b) (Q := fun so s w2 => Bt (fun k => k = bw ∨ k = bs) (w1.alloc (.cells #[.slice none 0 0, .slice none 0 0] 60)) w2) ((keepersIn_any (hA.alloc _) HW.out.1 HW.out.2.2).mono (by rintro e w2 ⟨so, s, rfl, hB⟩; refine ⟨so, s, rfl, hB, ?_⟩; exact (hB.block w1.heap.size (by rw [Go.Deep.nblk_alloc]; omega) (by omega)).trans (heap_alloc_new w1 _))); clear hN)
    | (go_at_call 23; refine hK.mono ?_; rintro e w4 ⟨so, s, w2, kb, kc, rfl, hB, hR, hB4⟩; clear hK)
    | (go_at_call 24; refine (hRo _).mono ?_; rintro e w9 ⟨rfl, hw9⟩; replace hw9 := hw9.symm; subst hw9))
  go_ret2
  have hs1 := hb.size
  have h1 := hb.alloc hb.size (.cells #[.slice none 0 0, .slice none 0 0] 60)
  have h2 := Bt.under h1 (by rw [Go.Deep.nblk_alloc]; omega) (fun k hk => by rcases hk with z | z <;> omega) hB
  have h3 := Bt.under h2 h2.size (fun k hk => by omega) hB4
  exact ⟨_, rfl, h3.alloc h3.size _⟩
end Go.Proofs.YtbagecfgeagacaaGreat
