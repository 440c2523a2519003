/- New of a heap. -/
import Derived.Test.YtbagecfgeagacaaGreatMHCall
import Derived.Test.YtbagecfgeagacaaGreatMHKnd
import Derived.Test.YtbagecfgeagacaaGreatMF3
namespace Go.Proofs.YtbagecfgeagacaaGreat
open Go.RowKit
theorem results_tc {P : Program} {fn : Func} {p u : Tmp} {ty : TypeId} (h : fn.results = #[.tmp u, .cell p ty]) (tmps : Array Value) (w : World) (g : Nat) (t : TypeId) (cs : Array Value) (fr : Nat × Nat) (d : TypeDesc)
    (hp : tmps.getD p undef = .pointer (some ⟨g, 0, none⟩)) (hg : w.heap[g]? = some (.cells cs t fr))
    (hu : P.underlying ty = some d) (hd : (match d with | .struct _ | .array _ _ => true | _ => false) = true) (hi : (P.info? ty).map (·.size) = some cs.size) :
    (results fn tmps).run P w = .ok (.tuple #[tmps.getD u undef, .agg cs]) w := by
  have hp' : tmps[p]?.getD undef = .pointer (some ⟨g, 0, none⟩) := by simpa using hp
  simp [results, h, hp', asAddr, run_loadVar_row w g t ty cs fr d hg hu hd hi]
theorem infoAr : (Tryz.prog.info? 92).map (·.size) = some 1 := by kernel_rfl
theorem words_at {u : World} {b : Nat} {ao : Option Addr} {W k : Nat} (c0 : u.cell? ⟨b, 0, none⟩ = some (.slice ao W k)) : Calls Tryz.prog 43 #[.pointer (some ⟨b, 0, none⟩)] u fun e w' => e = .returned (.int .i64 W) ∧ w' = u := by
  go_enter Tryz.func43, Tryz.ntmps43
  go_wp2
  go_ret
  exact ⟨rfl, rfl⟩
theorem fragRoom_eq (n : Nat) (h1 : 1 ≤ n) (h2 : n ≤ 999) (w : World) : Calls Tryz.prog 47 #[.int .i64 n] w fun e w' => e = .returned (.int .i64 (11 * (n : Int) + 8)) ∧ w' = w :=
  (fragRoom_ok n (by omega) w).mono fun e w' ⟨h3, h4⟩ => ⟨by rw [h3]; have := lroom_eq h1 h2; exact congrArg (fun x => Ending.returned (Value.int .i64 x)) (by omega), h4⟩
/-- What the keepers are in the end. -/
def KQ (w : World) (b bw bs W G : Nat) (so s : Nat) (w' : World) : Prop :=
  ∃ (P1 P2 : Nat → Prop) (mb p N : Nat) (xs : List Int) (ws : Nat → Int) (V : Int → Int → Int), Sto w' P2 so mb p b W 0 N G (fun _ => 0) 0 xs ws 0 (.map []) [] ∧ Gd w' P1 s b W G (q0 (11 * (N : Int) + 8) (((W : Int) - (11 * N + 8)) / 2)) V (fun _ => 0) ∧ Meet w' P1 P2 b ∧ (∀ k, P1 k → k < w'.heap.size) ∧ Enough W N ∧ 11 * N + 8 ≤ W ∧
    (∀ k, P1 k ∨ P2 k → k = b ∨ k = bw ∨ k = bs ∨ w.heap.size ≤ k) ∧ Bt (fun k => k = bw ∨ k = bs) w w'
set_option maxRecDepth 20000 in
set_option maxHeartbeats 1000000 in
theorem keepersIn_ok {w : World} {b bw bs W G : Nat} (h : Ar w b bw bs W G (fun _ => 0) (fun _ => 0)) (hW : 512 ≤ W ∧ W ≤ 20000) (hG : G ≤ 12) :
    Calls Tryz.prog 38 #[.pointer (some ⟨b, 0, none⟩)] w fun e w' => ∃ so s, e = .returned (.tuple #[.pointer (some ⟨so, 0, none⟩), .agg #[.pointer (some ⟨s, 0, none⟩)]]) ∧ KQ w b bw bs W G so s w' := by
  have c0 := h.c0
  have hbl := h.lt
  have hRo := roomOf_ok W (by omega)
  have hFr := fragmentsFor_ok (roomW W) (by unfold roomW; omega)
  have b0 := (Below.refl w.heap.size w).alloc (Nat.le_refl _) (.cells #[.pointer none] 92)
  have hA0 : Ar (w.alloc (.cells #[.pointer none] 92)) b bw bs W G (fun _ => 0) (fun _ => 0) := h.alloc _
  have hz0 := heap_alloc_new w (.cells #[.pointer none] 92)
  have hlts := h.lts
  have HW : Hid (512 ≤ W ∧ W ≤ 20000) := hW
  have n1 := h.b_bw
  have n2 := h.b_bs
  clear h
  go_enter Tryz.func38, Tryz.ntmps38
  go_wp2_with (first
    | (go_at_call 43; refine (words_at (by first | exact hA0.c0 | exact cw)).mono ?_; rintro e w9 ⟨rfl, hw9⟩; replace hw9 := hw9.symm; subst hw9)
    | (go_at_call 24; refine (hRo _).mono ?_; rintro e w9 ⟨rfl, hw9⟩; replace hw9 := hw9.symm; subst hw9)
    | (go_at_call 42; refine (hFr _).mono ?_; rintro e w9 ⟨N, rfl, hw9, hE1, hE2⟩; replace hw9 := hw9.symm; subst hw9; have HE : Hid (Enough W N) := ⟨hE1, hE2⟩; have hft := HE.out.fits hW.1 (by omega); have hN7 := hft.2.2.2 hW.2; have hPN := pnew_ok hA0 0 N 0 N rfl rfl hft.1 (by omega) (by omega) (by omega) hG; clear hE1 hE2)
    | (go_at_call 44; refine hPN.mono ?_; rintro e w1 ⟨p, P0, rfl, hP, hB1, hQ1⟩; have hON := onew_ok hP (by rw [up_len]; exact OInv.none _ _ _); clear hPN)
    | (go_at_call 45; refine hON.mono ?_; rintro e w2 ⟨so, mb, rfl, hS, hb2, l1, l2⟩; obtain ⟨PP, hPl, hsub, _⟩ := hS.raw.pl; obtain ⟨bw2, bs2, w0, hA2, hO2, q1, q2, q3⟩ := hPl.ar; have cw := hA2.c0; have hSN := spnew_g (f := intf w0) (c := fun _ => 0) (V := fun _ a => intf w0 a) (by rw [natf_intf]; exact hA2) (fun _ => rfl) (11 * (N : Int) + 8) ((W : Int) - (11 * (N : Int) + 8)) (by omega) (by omega) (by omega) (by omega); clear hON)
    | (go_at_call 46; refine hSN.mono ?_; rintro e w3 ⟨s, P1, rfl, hG3, hb3, hP1⟩; have hz1 := (hB1.block w.heap.size (by rw [Go.Deep.nblk_alloc]; omega) (by omega)).trans hz0; have hz2 := (hb2.block w.heap.size (box_lt hz1)).trans hz1; have hz3 := (hb3.block w.heap.size (box_lt hz2)).trans hz2; have k3 := box_cell hz3; have k4 := frz hz3 0; have k5 := box_lt hz3; clear hSN)
    | (go_at_call 47; refine (fragRoom_eq N (by omega) (by omega) _).mono ?_; rintro e w9 ⟨rfl, hw9⟩; replace hw9 := hw9.symm; subst hw9))
  have hS3 := hS.below hb3
  have hbb : w2.heap[b]? = (w.alloc (.cells #[.pointer none] 92)).heap[b]? := (hb2.block b (Nat.lt_of_lt_of_le hA0.lt hB1.size)).trans (hB1.block b hA0.lt (fun z => z.elim n1 n2))
  obtain ⟨rfl, rfl⟩ := hA0.stays hA2 hbb
  have hA3 : Ar w3 b bw2 bs2 W G w0 (fun _ => 0) := hA2.below hb3
  have hB3 : Bt (fun k => k = bw2 ∨ k = bs2) w w3 := ((Bt.of_below b0).trans hB1).trans (Bt.of_below (hb2.trans (hb3.mono hb2.size)))
  have hs0 := b0.size
  have hs1 := hB1.size
  have hs2 := hb2.size
  have hsz : w3.heap.size = (w3.setCell ⟨w.heap.size, 0, none⟩ (.pointer (some ⟨s, 0, none⟩))).heap.size := by simp [World.setCell]
  have fr : ∀ k, k ≠ w.heap.size → (w3.setCell ⟨w.heap.size, 0, none⟩ (.pointer (some ⟨s, 0, none⟩))).heap[k]? = w3.heap[k]? := fun k hk => heap_put _ _ hk
  have hP2 : ∀ k, (P0 k ∨ k = so ∨ k = mb) → k = b ∨ k = bw2 ∨ k = bs2 ∨ w.heap.size + 1 ≤ k := fun k hk => by
    rw [Go.Deep.nblk_alloc] at hQ1 hs1 hs0
    rcases hk with r | r | r
    · rcases hQ1 k r with e | e | e | e
      · exact .inl e
      · exact .inr (.inl e)
      · exact .inr (.inr (.inl e))
      · exact .inr (.inr (.inr e))
    · exact .inr (.inr (.inr (by omega)))
    · exact .inr (.inr (.inr (by omega)))
  have hP1' : ∀ k, P1 k → k = b ∨ k = bw2 ∨ k = bs2 ∨ w2.heap.size ≤ k := hP1
  have far : ∀ k, (P1 k ∨ (P0 k ∨ k = so ∨ k = mb)) → k ≠ w.heap.size := fun k hk e => by
    rw [Go.Deep.nblk_alloc] at hs1
    rcases hk with r | r
    · rcases hP1' k r with z | z | z | z <;> omega
    · rcases hP2 k r with z | z | z | z <;> omega
  refine bodyPost_ret (results_tc rfl _ _ w.heap.size 92 _ (0, 0) _ rfl (set_blk hz3 0 _) Tryz.underlying92 rfl infoAr) rfl ⟨so, s, rfl, fun k => P1 k ∧ k < w3.heap.size, _, mb, p, N, _, _, _, ⟨hS3.raw.keep (fun k hk => fr k (far k (.inr hk))) (by omega), hS3.inv, hS3.mp⟩, hG3.shrink.keep (fun k hk => fr k (far k (.inl hk.1))), ?_, fun k hk => by rw [← hsz]; exact hk.2, HE.out, by omega, fun k hk => ?_, ?_⟩
  · intro k hk hq
    have e1 := hS.raw.lt k hq
    rcases hP1' k hk.1 with z | z | z | z
    · exact .inl z
    · exact .inr ⟨bw2, bs2, W, G, w0, _, ⟨(fr b (by omega)).trans hA3.here, hA3.words.of_block (fr bw2 (by omega)), hA3.steps.of_block (fr bs2 (by omega)), hA3.part⟩, .inl z⟩
    · exact .inr ⟨bw2, bs2, W, G, w0, _, ⟨(fr b (by omega)).trans hA3.here, hA3.words.of_block (fr bw2 (by omega)), hA3.steps.of_block (fr bs2 (by omega)), hA3.part⟩, .inr z⟩
    · omega
  · rcases hk with r | r
    · rcases hP1' k r.1 with z | z | z | z
      · exact .inl z
      · exact .inr (.inl z)
      · exact .inr (.inr (.inl z))
      · exact .inr (.inr (.inr (by omega)))
    · rcases hP2 k r with z | z | z | z
      · exact .inl z
      · exact .inr (.inl z)
      · exact .inr (.inr (.inl z))
      · exact .inr (.inr (.inr (by omega)))
  · exact ⟨hB3.os, hB3.tape, hB3.output, by rw [← hsz]; exact hB3.size, fun k hk e => (fr k (by omega)).trans (hB3.block k hk e)⟩
end Go.Proofs.YtbagecfgeagacaaGreat
