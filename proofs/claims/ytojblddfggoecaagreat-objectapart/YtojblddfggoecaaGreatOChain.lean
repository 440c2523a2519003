/- Taking fragments for an object. -/
import Derived.Test.YtojblddfggoecaaGreatORaw
namespace Go.Proofs.YtojblddfggoecaaGreat
open Go.RowKit
theorem uncons {xs : List Int} {m : Nat} (h : 1 ≤ m) (hm : m ≤ xs.length) : ∃ x r, xs = x :: r ∧ r.length + 1 = xs.length := by
  cases xs with
  | nil => simp at hm; omega
  | cons x r => exact ⟨x, r, rfl, rfl⟩
theorem inuse_at {ws : Nat → Int} {base N f : Nat} (hf : f < N) (h : ws (base + 8 * N + f) ≠ 0) : InUse ws base N (f : Int) := ⟨by omega, by omega, h⟩
section
variable {w : World} {P : Nat → Prop} {so mb p b W base N G : Nat} {cs : Nat → Int} {T : Int} {xs : List Int} {ws : Nat → Int} {nn : Nat} {D : DataW Unit}
/-- What stands behind i fragments. -/
def Taken (w : World) (P : Nat → Prop) (so mb p b W base N G : Nat) (cs : Nat → Int) (T : Int) (xs : List Int) (ws : Nat → Int) (nn : Nat) (D : DataW Unit) (i : Nat) (c : Nat → Nat) (w' : World) : Prop :=
  ∃ xs' cs' ws', Chn base N ws ws' i c ∧ xs'.length + i = xs.length ∧ Grew cs cs' (30 * i) ∧ RawT w P so mb p b W base N G cs' (T + i) xs' ws' nn D w'
theorem Raw.alloc (h : Raw w P so mb p b W base N G cs T xs ws nn D) (hx : 1 ≤ xs.length) (hT : T ≤ 1000000) (g : Nat) (hg : g < G) :
    Calls Tryz.prog 56 #[.pointer (some ⟨p, 0, none⟩), .int .i64 g] w fun e w' => ∃ f : Nat, f < N ∧ ws (base + 8 * N + f) = 0 ∧ e = .returned (.tuple #[.int .i64 f, .int .i64 0]) ∧ ∃ xs' cs', xs'.length + 1 = xs.length ∧ Grew cs cs' 20 ∧ RawT w P so mb p b W base N G cs' (T + 1) xs' (upd (zap ws (base + 8 * f) 8) (base + 8 * N + f) 1) nn D w' := by
  obtain ⟨x, r, rfl, hr⟩ := uncons (Nat.le_refl 1) hx
  obtain ⟨P0, h1, h2, h3, h4⟩ := h.pl
  refine (palloc_gr h1 (by omega) g hg).mono ?_
  rintro e w' ⟨f, _, hf, h0, rfl, cs', hgr, ht⟩
  exact ⟨f, hf, h0, rfl, r, cs', hr, hgr, h.turn h2 h3 h4 ht⟩
theorem Raw.store (h : Raw w P so mb p b W base N G cs T xs ws nn D) (g f i : Nat) (v : Int) (hg : g < G) (hf : f < N) (hu : ws (base + 8 * N + f) ≠ 0) (hi : i < 8) :
    Calls Tryz.prog 38 #[.pointer (some ⟨p, 0, none⟩), .int .i64 g, .int .i64 f, .int .i64 i, .int .i64 v] w fun e w' => e = .returned (.int .i64 0) ∧ RawT w P so mb p b W base N G (upd cs g (wrap64 (cs g + 1))) T xs (upd ws (base + 8 * f + i) v) nn D w' := by
  obtain ⟨P0, h1, h2, h3, h4⟩ := h.pl
  refine (pstore_ok h1 g f i v hg (inuse_at hf hu) hi).mono ?_
  rintro e w' ⟨rfl, ht⟩
  exact ⟨rfl, h.turn h2 h3 h4 ht⟩
theorem Raw.load (h : Raw w P so mb p b W base N G cs T xs ws nn D) (g f i : Nat) (hg : g < G) (hf : f < N) (hu : ws (base + 8 * N + f) ≠ 0) (hi : i < 8) :
    Calls Tryz.prog 39 #[.pointer (some ⟨p, 0, none⟩), .int .i64 g, .int .i64 f, .int .i64 i] w fun e w' => e = .returned (.tuple #[.int .i64 (ws (base + 8 * f + i)), .int .i64 0]) ∧ RawT w P so mb p b W base N G (upd cs g (wrap64 (cs g + 1))) T xs ws nn D w' := by
  obtain ⟨P0, h1, h2, h3, h4⟩ := h.pl
  refine (pload_ok h1 g f i hg (inuse_at hf hu) hi).mono ?_
  rintro e w' ⟨rfl, ht⟩
  exact ⟨rfl, h.turn h2 h3 h4 ht⟩
theorem Raw.free (h : Raw w P so mb p b W base N G cs T xs ws nn D) (hT : T ≤ 1000000) (g f : Nat) (hg : g < G) (hf : f < N) (hu : ws (base + 8 * N + f) ≠ 0) :
    Calls Tryz.prog 29 #[.pointer (some ⟨p, 0, none⟩), .int .i64 g, .int .i64 f] w fun e w' => e = .returned (.int .i64 0) ∧ ∃ xs' cs', xs'.length = xs.length + 1 ∧ Grew cs cs' 10 ∧ RawT w P so mb p b W base N G cs' (T + 1) xs' (upd ws (base + 8 * N + f) 0) nn D w' := by
  obtain ⟨P0, h1, h2, h3, h4⟩ := h.pl
  refine (pfree_gr h1 (by omega) g f hg (inuse_at hf hu)).mono ?_
  rintro e w' ⟨rfl, cs', hgr, ht⟩
  exact ⟨rfl, _, cs', by simp, hgr, h.turn h2 h3 h4 ht⟩
set_option maxRecDepth 20000 in
set_option maxHeartbeats 1000000 in
theorem chain_ok (h : Raw w P so mb p b W base N G cs T xs ws nn D) (g m : Nat) (hg : g < G) (hm : 1 ≤ m) (hm9 : m ≤ 9) (hx : m ≤ xs.length) (hT : T ≤ 900000) :
    Calls Tryz.prog 35 #[.pointer (some ⟨so, 0, none⟩), .int .i64 g, .int .i64 m] w fun e w' => ∃ c : Nat → Nat, e = .returned (.int .i64 (c 0 : Nat)) ∧ Taken w P so mb p b W base N G cs T xs ws nn D m c w' := by
  have cc := h.cells
  have hA := h.alloc (by omega) (by omega) g hg
  clear h
  go_enter Tryz.func35, Tryz.ntmps35
  go_wp2_with (go_at_call 56; refine hA.mono ?_; rintro e w1 ⟨f, hf, h0, rfl, xs1, cs1, hl1, hg1, hR1⟩)
  have H1 : Hid (Taken w P so mb p b W base N G cs T xs ws nn D 1 (fun _ => f) w1) := ⟨xs1, cs1, _, Chn.first hf h0, hl1, hg1.mono (by omega), hR1⟩
  clear hA hl1 hg1 hR1 h0 hf cc
  go_loopg [7, 9, 21] m (fun kx s7 s9 s21 wr => ∃ (i : Nat) (c : Nat → Nat), s21 = .int .i64 i ∧ s7 = .int .i64 (c 0 : Nat) ∧ i + 1 ≤ m ∧ m - 1 - i ≤ kx ∧ Taken w P so mb p b W base N G cs T xs ws nn D (i + 1) c wr)
  case atStart => exact ⟨0, fun _ => f, rfl, rfl, by omega, by omega, H1.out⟩
  case round =>
    clear H1
    obtain ⟨i, c, rfl, rfl, hi, hk, xs', cs', ws', hC, hl, hgr, P', hR, hB, hW⟩ := hrel
    by_cases hlt : i + 1 < m
    · have hlt' : (i : Int) < (m : Int) - 1 := by omega
      have cc := hR.cells
      have hA := hR.alloc (by omega) (by omega) g hg
      have HC : Hid (Chn base N ws ws' (i + 1) c) := hC
      have HG : Hid (Grew cs cs' (30 * (i + 1)) ∧ xs'.length + (i + 1) = xs.length ∧ Bt P w wr ∧ Wider P P' w) := ⟨hgr, hl, hB, hW⟩
      clear hC hgr hl hB hW hR
      go_wp2_with (first
        | (go_at_call 56; refine hA.mono ?_; rintro e w2 ⟨f2, hf2, h02, rfl, xs2, cs2, hl2, hg2, P2, hR2, hB2, hW2⟩; have cc2 := hR2.cells; have hSt := hR2.store g f2 0 (c 0 : Nat) hg hf2 (by rw [upd_at]; omega) (by omega); have H2 : Hid (f2 < N ∧ ws' (base + 8 * N + f2) = 0 ∧ xs2.length + 1 = xs'.length ∧ Grew cs' cs2 20 ∧ Bt P' wr w2 ∧ Wider P' P2 wr) := ⟨hf2, h02, hl2, hg2, hB2, hW2⟩; clear hl2 hg2 hB2 hW2 h02 hR2 hA)
        | (go_at_call 38; refine hSt.mono ?_; rintro e w3 ⟨rfl, hR3⟩; clear hSt))
      go_roundg (m - 1 - (i + 1))
      case measure => omega
      case rel =>
        obtain ⟨g1, g2, g3, g4⟩ := HG.out
        obtain ⟨k1, k2, k3, k4, k5, k6⟩ := H2.out
        refine ⟨i + 1, consN f2 c, by go_num, rfl, by omega, by omega, xs2, _, _, HC.out.more (by omega) k1 k2, by omega, ((g1.trans k4).tick g).mono (by omega), ?_⟩
        have h5 := RawT.trans g3 g4 (RawT.trans k5 k6 hR3)
        rw [show T + ((i + 1 : Nat) : Int) + 1 = T + ((i + 1 + 1 : Nat) : Int) by omega] at h5
        exact h5
    · have hlt' : ¬ (i : Int) < (m : Int) - 1 := by omega
      obtain rfl : m = i + 1 := by omega
      go_wp2
      go_ret
      exact ⟨c, rfl, xs', cs', ws', hC, hl, hgr, P', hR, hB, hW⟩
end
end Go.Proofs.YtojblddfggoecaaGreat
