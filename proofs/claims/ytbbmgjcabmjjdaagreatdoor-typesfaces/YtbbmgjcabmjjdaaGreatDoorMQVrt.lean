/- The program's own Load: virtual. -/
import Derived.Test.YtbbmgjcabmjjdaaGreatDoorMY33
import Derived.Test.YtbbmgjcabmjjdaaGreatDoorMY31
import Derived.Test.YtbbmgjcabmjjdaaGreatDoorMY20
import Derived.Deep.MidRow
namespace Go.Proofs.YtbbmgjcabmjjdaaGreatDoor
open Go.RowKit Go.Deep

theorem World.size_alloc_le (W : World) (o : Obj) : W.heap.size ≤ (W.alloc o).heap.size := by rw [World.size_alloc]; omega
theorem Vr.form {w W : World} {S : Nat → Prop} {es : List En} {i : Nat} {v : Value} (h : Vr w S es i W v) : ∃ ao cap, v = .slice ao es.length cap := by
  rcases h.shape with ⟨e1, e2⟩ | ⟨g, cap, e, -⟩
  · rw [e2]; exact ⟨none, 0, e1⟩
  · exact ⟨_, cap, e⟩
/-- Made since U. -/
def Got {α : Type} (U : World) (K : Kd α) (W : World) (v : Value) (xs : List α) : Prop := Below U.heap.size U W ∧ Sl K W (fun b => U.heap.size ≤ b ∧ b < W.heap.size) v xs
theorem Got.keep {α : Type} {U : World} {K : Kd α} {W W' : World} {v : Value} {xs : List α} (h : Got U K W v xs) (hb : Below W.heap.size W W') : Got U K W' v xs :=
  ⟨h.1.trans (hb.mono h.1.size), (h.2.keep fun b q => hb.block b q.2).mono fun _ q => ⟨q.1, Nat.lt_of_lt_of_le q.2 hb.size⟩⟩
theorem Got.mk_ {α : Type} {U : World} {K : Kd α} {W W' : World} {v : Value} {xs : List α} (hU : Below U.heap.size U W) (hb : Below W.heap.size W W') (hs : Sl K W' (fun b => W.heap.size ≤ b ∧ b < W'.heap.size) v xs) : Got U K W' v xs :=
  ⟨hU.trans (hb.mono hU.size), hs.mono fun _ q => ⟨Nat.le_trans hU.size q.1, q.2⟩⟩
theorem ne_of_ge {U W : World} {k : Nat} (h : k < U.heap.size) (hb : Below U.heap.size U W) : (¬ k = W.heap.size) ∧ ¬ W.heap.size = k := by
  have := hb.size
  exact ⟨by omega, by omega⟩
/-- A box that is there. -/
def BxH (W : World) (b : Nat) (z : Obj) : Prop := W.heap[b]? = some z ∧ b < W.heap.size
theorem BxH.go {W W' : World} {b : Nat} {z : Obj} (h : BxH W b z) (hb : Below W.heap.size W W') : BxH W' b z := ⟨(hb.block _ h.2).trans h.1, Nat.lt_of_lt_of_le h.2 hb.size⟩
theorem BxH.of {W W' : World} {z : Obj} (hb : Below (W.alloc z).heap.size (W.alloc z) W') : BxH W' W.heap.size z :=
  BxH.go (W := W.alloc z) ⟨heap_alloc_new W z, by rw [World.size_alloc]; omega⟩ hb
theorem bel_alloc {W W' : World} {z : Obj} (hb : Below (W.alloc z).heap.size (W.alloc z) W') : Below W.heap.size W W' :=
  ((Below.refl W.heap.size W).alloc (Nat.le_refl _) z).trans (hb.mono (World.size_alloc_le _ _))
theorem BxH.ofd {W W' : World} {z : Obj} (hb : Below (W.alloc z).drew.heap.size (W.alloc z).drew W') : BxH W' W.heap.size z :=
  BxH.go (W := (W.alloc z).drew) ⟨heap_alloc_new W z, show W.heap.size < (W.alloc z).heap.size by rw [World.size_alloc]; omega⟩ hb
theorem ad1 (W : World) (z : Obj) : Below W.heap.size W (W.alloc z).drew := ((Below.refl _ _).alloc (Nat.le_refl _) _).drew
theorem BxH.five {W : World} {b : Nat} {T : TypeId} {x0 x1 x2 x3 x4 : Value} (h : BxH W b (.cells #[x0, x1, x2, x3, x4] T (0, 0))) : W.cell? ⟨b, 0, none⟩ = some x0 ∧ W.cell? ⟨b, 1, none⟩ = some x1 ∧ W.cell? ⟨b, 2, none⟩ = some x2 ∧ W.cell? ⟨b, 3, none⟩ = some x3 ∧ W.cell? ⟨b, 4, none⟩ = some x4 ∧ W.frozen? ⟨b, 0, none⟩ = false ∧ W.frozen? ⟨b, 1, none⟩ = false ∧ W.frozen? ⟨b, 2, none⟩ = false ∧ W.frozen? ⟨b, 3, none⟩ = false ∧ W.frozen? ⟨b, 4, none⟩ = false := by
  have e := h.1
  exact ⟨bxq_cell e rfl, bxq_cell e rfl, bxq_cell e rfl, bxq_cell e rfl, bxq_cell e rfl, by simp [World.frozen?, e], by simp [World.frozen?, e], by simp [World.frozen?, e], by simp [World.frozen?, e], by simp [World.frozen?, e]⟩
/-- Made since U, apart from a box. -/
def Got3 {α : Type} (U : World) (K : Kd α) (W : World) (v : Value) (xs : List α) (bx : Nat) : Prop := Below U.heap.size U W ∧ Sl K W (fun b => (U.heap.size ≤ b ∧ b < W.heap.size) ∧ b ≠ bx) v xs
theorem Got3.aft {α : Type} {U : World} {K : Kd α} {W W' : World} {v : Value} {xs : List α} {bx : Nat} (hU : Below U.heap.size U W) (hb : Below W.heap.size W W') (hs : Sl K W' (fun b => W.heap.size ≤ b ∧ b < W'.heap.size) v xs) (hx : bx < W.heap.size) : Got3 U K W' v xs bx :=
  ⟨hU.trans (hb.mono hU.size), hs.mono fun b q => ⟨⟨Nat.le_trans hU.size q.1, q.2⟩, by have := q.1; omega⟩⟩
/-- The entry's box is filled. -/
structure EnB (U W : World) (bx : Nat) (x : Md) (k : Int) (j : Nat) (p5 : Option Addr) (c5 : Nat) : Prop where
  bel : Below U.heap.size U W
  box : W.heap[bx]? = some (.cells #[.string x.nm, .slice p5 x.args.length c5, .int .i64 x.ret, .int .i64 k, .int .i64 j] 79 (0, 0))
  args : Sl kIU W (fun b => U.heap.size ≤ b ∧ b < W.heap.size) (.slice p5 x.args.length c5) x.args
theorem EnB.of1 {U W : World} {x : Md} {k : Int} {j : Nat} {p5 : Option Addr} {c5 : Nat} (h : Got U kIU W (.slice p5 x.args.length c5) x.args) : ∃ W' bx, W' = W.alloc (.cells #[.string x.nm, .slice p5 x.args.length c5, .int .i64 x.ret, .int .i64 k, .int .i64 j] 79) ∧ bx = W.heap.size ∧ EnB U W' bx x k j p5 c5 :=
  ⟨_, _, rfl, rfl, h.1.alloc h.1.size _, heap_alloc_new _ _, (h.2.keep fun _ q => Below.heap_alloc _ _ _ q.2).mono fun _ q => ⟨q.1, Nat.lt_of_lt_of_le q.2 (World.size_alloc_le _ _)⟩⟩
set_option maxHeartbeats 1000000 in
theorem EnB.of2 {U W : World} {bx : Nat} {x : Md} {k : Int} {j : Nat} {p5 : Option Addr} {c5 : Nat} (h : Got3 U kIU W (.slice p5 x.args.length c5) x.args bx) (hx : U.heap.size ≤ bx) {x0 x1 x2 x3 x4 : Value} (hb : BxH W bx (.cells #[x0, x1, x2, x3, x4] 79 (0, 0))) : ∃ W' bx', W' = ((((W.setCell ⟨bx, 0, none⟩ (.string x.nm)).setCell ⟨bx, 1, none⟩ (.slice p5 x.args.length c5)).setCell ⟨bx, 2, none⟩ (.int .i64 x.ret)).setCell ⟨bx, 3, none⟩ (.int .i64 k)).setCell ⟨bx, 4, none⟩ (.int .i64 j) ∧ bx' = bx ∧ EnB U W' bx' x k j p5 c5 := by
  have e : ∀ b, b ≠ bx → (((((W.setCell ⟨bx, 0, none⟩ (.string x.nm)).setCell ⟨bx, 1, none⟩ (.slice p5 x.args.length c5)).setCell ⟨bx, 2, none⟩ (.int .i64 x.ret)).setCell ⟨bx, 3, none⟩ (.int .i64 k)).setCell ⟨bx, 4, none⟩ (.int .i64 j)).heap[b]? = W.heap[b]? := fun b hb => by rw [Below.heap_setCell _ _ _ _ hb, Below.heap_setCell _ _ _ _ hb, Below.heap_setCell _ _ _ _ hb, Below.heap_setCell _ _ _ _ hb, Below.heap_setCell _ _ _ _ hb]
  have z : (((((W.setCell ⟨bx, 0, none⟩ (.string x.nm)).setCell ⟨bx, 1, none⟩ (.slice p5 x.args.length c5)).setCell ⟨bx, 2, none⟩ (.int .i64 x.ret)).setCell ⟨bx, 3, none⟩ (.int .i64 k)).setCell ⟨bx, 4, none⟩ (.int .i64 j)).heap.size = W.heap.size := by simp [World.setCell]
  have hbl := hb.2
  refine ⟨_, _, rfl, rfl, h.1.trans ⟨rfl, rfl, rfl, by rw [z]; exact Nat.le_refl _, fun b q => e b (by omega)⟩, ?_, (h.2.keep fun b q => e b q.2).mono fun b q => ⟨q.1.1, by rw [z]; exact q.1.2⟩⟩
  have h0 := hb.1
  simp [World.setCell, Array.getElem?_modify, h0]
theorem virQ_len {vir : List En} {k : Int} {ms : List Md} : ∀ i, vir.length ≤ (virQ vir k ms i).length ∧ (virQ vir k ms i).length ≤ vir.length + i
  | 0 => ⟨Nat.le_refl _, Nat.le_refl _⟩
  | i + 1 => by
    have ih := virQ_len (vir := vir) (k := k) (ms := ms) i
    unfold virQ
    rcases ms[i]? with _ | m
    · exact ⟨ih.1, by show _ ≤ _; simp only; omega⟩
    · simp only []
      split
      · exact ⟨ih.1, by omega⟩
      · rcases OfJ vir m.nm m.args m.ret with _ | a
        · simp only [List.length_append, List.length_singleton]; omega
        · simp only [List.length_set]; omega
theorem infoEz : (Tryz.prog.info? 79).map (·.size) = some 5 := by kernel_rfl
attribute [local go_sem ↓] app_Y
set_option maxRecDepth 20000 in
set_option maxHeartbeats 4000000 in
theorem virtual_ok {w : World} {S : Nat → Prop} {v vs : Value} {p : Pg} {es : List En} {c : Int} (hc : isJ p c = true) (h1 : Sl kCs w S v (trQ p)) (h2 : Sl kEn w S vs es) (hS : ∀ k, S k → k < w.heap.size) (hl : es.length + (clQ p c).mds.length ≤ 1048576) (har : ∀ e ∈ es, e.args.length ≤ 1048576) (hma : ∀ m ∈ (clQ p c).mds, m.args.length ≤ 1048576) (hnm : ∀ m ∈ (clQ p c).mds, m.nm.size ≤ 281474976710656) : Calls Tryz.prog 107 #[v, .int .i64 c, vs] w fun e w' => ∃ v', e = .returned v' ∧ Below w.heap.size w w' ∧ Gro kEnU 79 w.heap.size w' v' (virQ es c (clQ p c).mds (clQ p c).mds.length) := by
  obtain ⟨ms, hms⟩ : ∃ ms, (clQ p c).mds = ms := ⟨_, rfl⟩
  rw [hms] at hl hma hnm ⊢
  have HMS : Hid ((clQ p c).mds = ms) := hms
  clear hms
  have hC := cloE_ok h2 hS (by omega)
  have HS : Hid (∀ k, S k → k < w.heap.size) := hS
  have HI : Hid (∀ (W : World) (u : Value) (xs : List Int), Below w.heap.size w W → Sl kI w S u xs → xs.length ≤ 1048576 → Calls Tryz.prog 128 #[u] W (CloP kI 3 W S xs)) := fun W u xs hb hs hx => cloI_ok (hs.keep fun b q => hb.block b (hS b q)) (fun k q => Nat.lt_of_lt_of_le (hS k q) hb.size) (by omega)
  have HC : Hid (isJ p c = true) := hc
  have H2 : Hid (Sl kEn w S vs es) := h2
  obtain ⟨i0, hi0, hz0, hz1, hz2⟩ := info_parts infoCE
  have HP : Hid (∀ (wr w1 : World) (v : Value) (zs : List En) (x : En) (v1 : Value), Gro kEnU 79 w.heap.size wr v zs → w.heap.size ≤ wr.heap.size → Below wr.heap.size wr w1 → Sl kIU w1 (fun b => wr.heap.size ≤ b ∧ b < w1.heap.size) v1 x.args → zs.length ≤ 1073741824 → ∃ g cap w2, (appY #[56, 56] 56 #[v, .slice (some ⟨w1.heap.size, 0, none⟩) 1 1]).run Tryz.prog (w1.alloc (.cells #[.string x.nm, v1, .int .i64 x.ret, .int .i64 x.cl, .int .i64 x.me] 79)) = .ok (.slice (some ⟨g, 0, none⟩) (zs.length + 1) cap) w2 ∧ Hid (Gro kEnU 79 w.heap.size w2 (.slice (some ⟨g, 0, none⟩) (zs.length + 1) cap) (zs ++ [x])) ∧ Hid (Below w.heap.size wr w2)) := fun wr w1 v zs x v1 hG hb0 hb hs hn => by
    obtain ⟨g, cap, w2, a, b, c, -⟩ := Gro.push hG hb0 Tryz.underlying56 hi0 hz0 hz1 hz2 rfl (by decide) hb (x := x) (cs := [.string x.nm, v1, .int .i64 x.ret, .int .i64 x.cl, .int .i64 x.me]) ⟨v1, rfl, hs⟩ hn
    exact ⟨g, cap, w2, a, b, c⟩
  clear hi0 hz0 hz1 hz2
  have H1 : Hid (Sl kCs w S v (trQ p)) := h1
  have hv := h1
  obtain ⟨aot, capt, rfl, -⟩ := hv
  clear h1 h2 hS hc
  go_enter Tryz.func107, Tryz.ntmps107
  go_wp2_with (go_at_call 127; refine hC.mono ?_; clear hC; intro e w1 hc; obtain ⟨vr, rfl, hV⟩ := Vr.of_clo hc; obtain ⟨ao, cap, rfl⟩ := hV.form; have HV : Hid (Vr w S es 0 w1 (.slice ao es.length cap)) := hV; clear hc hV)
  go_loopg [8, 17] (es.length + 1) (fun kx s8 s17 wr => ∃ i : Nat, s17 = .int .i64 i ∧ i ≤ es.length ∧ es.length - i ≤ kx ∧ Hid (Vr w S es i wr (.slice ao es.length cap)))
  case atStart => exact ⟨0, rfl, by omega, by omega, HV⟩
  case round =>
    clear HV
    obtain ⟨i, rfl, hi, hk, HV⟩ := hrel
    by_cases hlt : i < es.length
    · obtain ⟨x, hx⟩ : ∃ x, es[i]? = some x := ⟨_, List.getElem?_eq_getElem hlt⟩
      have hl2 : (i : Int) < (es.length : Int) := by omega
      obtain ⟨g, cap2, v1, e1, a1, af, hs⟩ := HV.out.cell hx
      injection e1 with e1 e2 e3
      subst e1 e3
      have hcl := HI.out wr v1 x.args HV.out.bel hs (har x (List.mem_of_getElem? hx))
      have HST : Hid (∀ W1 v2, Below wr.heap.size wr W1 → Gro kIU 3 wr.heap.size W1 v2 x.args → W1.frozen? ⟨g, i * 5 + 1, none⟩ = false ∧ W1.cell? ⟨g, i * 5 + 1, none⟩ = some v1 ∧ Hid (Vr w S es (i + 1) (W1.setCell ⟨g, i * 5 + 1, none⟩ v2) (.slice (some ⟨g, 0, none⟩) es.length cap))) := fun W1 v2 hb hG => by
        have hgl : g < wr.heap.size := by
          rcases HV.out.shape with ⟨e, -⟩ | ⟨g', cap', e, q⟩
          · cases e
          · injection e with e1 e2 e3
            injection e1 with e1
            injection e1 with e1
            rw [e1]; exact q.2
        have hbl := hb.block g hgl
        exact ⟨by simp only [World.frozen?, hbl] at af ⊢; exact af, (World.cell?_of_block (w := wr) hbl).trans a1, HV.out.step hx rfl hb hG⟩
      clear hx hs HV
      go_wp2_with (go_at_call 128; refine hcl.mono ?_; clear hcl; intro e W1 hc; obtain ⟨v2, rfl, hb, hG⟩ := hc.ints; obtain ⟨a3, c3, rfl⟩ := hG.slice; obtain ⟨wf, wc, HV⟩ := HST.out W1 _ hb hG; clear hc hb hG HST)
      go_roundg (es.length - (i + 1))
      case measure => omega
      case rel => exact ⟨i + 1, by go_num, by omega, Nat.le_refl _, HV⟩
    · obtain rfl : i = es.length := by omega
      have hl2 : ¬ (es.length : Int) < (es.length : Int) := by omega
      have HG : Hid (Gro kEnU 79 w.heap.size wr (.slice ao es.length cap) es) := HV.out.gro
      have HB : Hid (Below w.heap.size w wr) := HV.out.bel
      obtain ⟨i1, sb, so, f1, f2, f3, f4, g1, g2, g3, g4, e1, hi1, e2, -, ⟨-, -, -, -, -, -, -, t7⟩, HSm⟩ := tq_get (H1.out.keep fun b q => HB.out.block b (HS.out b q)) HC.out
      have hM := HSm.out.2.2.2
      rw [HMS.out] at t7 hM
      subst e1 e2
      have HM : Hid (Sl kMd w S (.slice f4 ms.length g4) ms) := hM.keep fun b q => (HB.out.block b (HS.out b q)).symm
      clear hM HMS
      have hl3 : (i1 : Int) < ((trQ p).length : Int) := by omega
      clear HSm HV hk
      generalize (trQ p).length = N at *
      have HN : Hid (es.length + ms.length ≤ 1048576) := hl
      clear hl
      go_wp2
      clear t7 hl2 hl3
      go_loopg [7, 9, 10, 11, 12, 37] (ms.length + 1) (fun kx s7 s9 s10 s11 s12 s37 w2 => ∃ j : Nat, s37 = .int .i64 j ∧ j ≤ ms.length ∧ ms.length - j ≤ kx ∧ Hid (Gro kEnU 79 w.heap.size w2 s7 (virQ es i1 ms j)) ∧ Hid (Below w.heap.size w w2))
      case atStart => exact ⟨0, rfl, by omega, by omega, HG, HB⟩
      case round =>
        clear HG HB
        obtain ⟨j, rfl, hj, hk, HG, HB⟩ := hrel
        by_cases hlt : j < ms.length
        · obtain ⟨x, hx⟩ : ∃ x, ms[j]? = some x := ⟨_, List.getElem?_eq_getElem hlt⟩
          have hl2 : (j : Int) < (ms.length : Int) := by omega
          obtain ⟨p9, o9, rfl, hS9, cs, hr, hcs⟩ := (HM.out.keep fun b q => HB.out.block b (HS.out b q)).atJ hx
          obtain ⟨v1, v2, v3, v4, rfl, sA, sB, sC, sD⟩ := hr
          have SA : Hid _ := sA
          obtain ⟨p1, c1, rfl, -⟩ := sA
          obtain ⟨p2, c2, rfl, -⟩ := sB
          obtain ⟨p3, c3, rfl, -⟩ := sC
          obtain ⟨p4, c4, rfl, -⟩ := sD
          have a0 := hcs 0 _ rfl
          have a1 := hcs 1 _ rfl
          have a2 := hcs 2 _ rfl
          have a3 := hcs 3 _ rfl
          have a4 := hcs 4 _ rfl
          have a5 := hcs 5 _ rfl
          have a6 := hcs 6 _ rfl
          have a7 := hcs 7 _ rfl
          have a8 := hcs 8 _ rfl
          clear hcs
          rw [show o9 + (j * kMd.k + 0) = o9 + j * 9 by show o9 + (j * 9 + 0) = _; omega] at a0
          rw [show o9 + (j * kMd.k + 1) = o9 + j * 9 + 1 by show o9 + (j * 9 + 1) = _; omega] at a1
          rw [show o9 + (j * kMd.k + 2) = o9 + j * 9 + 2 by show o9 + (j * 9 + 2) = _; omega] at a2
          rw [show o9 + (j * kMd.k + 3) = o9 + j * 9 + 3 by show o9 + (j * 9 + 3) = _; omega] at a3
          rw [show o9 + (j * kMd.k + 4) = o9 + j * 9 + 4 by show o9 + (j * 9 + 4) = _; omega] at a4
          rw [show o9 + (j * kMd.k + 5) = o9 + j * 9 + 5 by show o9 + (j * 9 + 5) = _; omega] at a5
          rw [show o9 + (j * kMd.k + 6) = o9 + j * 9 + 6 by show o9 + (j * 9 + 6) = _; omega] at a6
          rw [show o9 + (j * kMd.k + 7) = o9 + j * 9 + 7 by show o9 + (j * 9 + 7) = _; omega] at a7
          rw [show o9 + (j * kMd.k + 8) = o9 + j * 9 + 8 by show o9 + (j * 9 + 8) = _; omega] at a8
          have HX : Hid (ms[j]? = some x) := hx
          rcases hst : x.stc with _ | _
          · rw [hst] at a1
            have HST0 : Hid (x.stc = false) := hst
            have hlim := hnm x (List.mem_of_getElem? HX.out)
            have hmsl : ms.length ≤ 1048576 := by have := HN.out; omega
            obtain ⟨U, hU⟩ : ∃ U, U = wr.alloc (.cells #[.string x.nm, .bool false, .slice p1 x.args.length c1, .int .i64 x.ret, .int .i64 x.lo, .int .i64 x.st, .slice p2 x.code.length c2, .slice p3 x.tab.length c3, .slice p4 x.maps.length c4] 30) := ⟨_, rfl⟩
            have hbU : U.heap[wr.heap.size]? = some (.cells #[.string x.nm, .bool false, .slice p1 x.args.length c1, .int .i64 x.ret, .int .i64 x.lo, .int .i64 x.st, .slice p2 x.code.length c2, .slice p3 x.tab.length c3, .slice p4 x.maps.length c4] 30 (0, 0)) := by rw [hU]; exact Array.getElem?_push_size
            have bU : Below wr.heap.size wr U := by rw [hU]; exact (Below.refl _ _).alloc (Nat.le_refl _) _
            have HU : Hid (Below w.heap.size w U) := HB.out.trans (bU.mono HB.out.size)
            have hzU : U.heap.size = wr.heap.size + 1 := by rw [hU]; exact Array.size_push _
            have HQ : Hid (∀ w', Below U.heap.size U w' → w'.cell? ⟨wr.heap.size, 0, none⟩ = some (.string x.nm) ∧ w'.cell? ⟨wr.heap.size, 2, none⟩ = some (.slice p1 x.args.length c1) ∧ w'.cell? ⟨wr.heap.size, 3, none⟩ = some (.int .i64 x.ret)) := fun w' hb => by
              have e := (hb.block wr.heap.size (by omega)).trans hbU
              exact ⟨bxq_cell e rfl, bxq_cell e rfl, bxq_cell e rfl⟩
            have HQI : Hid (∀ w', Below U.heap.size U w' → Calls Tryz.prog 128 #[.slice p1 x.args.length c1] w' (CloP kI 3 w' S x.args)) := fun w' hb => HI.out w' _ _ (HU.out.trans (hb.mono HU.out.size)) ((show Sl kI wr S (.slice p1 x.args.length c1) x.args from SA.out).keep fun b q => (HB.out.block b (HS.out b q)).symm) (hma x (List.mem_of_getElem? HX.out))
            have HQS : Hid (∀ w', Below U.heap.size U w' → Calls Tryz.prog 126 #[.string x.nm] w' fun e w'' => e = .returned (.string x.nm) ∧ Below w'.heap.size w' w'') := fun w' _ => clone_any x.nm w' hlim
            have HGU : Hid (∀ w', Below U.heap.size U w' → Gro kEnU 79 w.heap.size w' u7 (virQ es i1 ms j)) := fun w' hb => HG.out.kept (row := none) ⟨hb.os.trans bU.os, hb.tape.trans bU.tape, hb.output.trans bU.output, by have := hb.size; omega, fun k hk _ => (hb.block k (by omega)).trans (bU.block k hk)⟩ (fun b q => by cases q)
            have BD : Hid (Below U.heap.size U U.drew) := (Below.refl _ _).drew
            obtain ⟨z0, z2, z3⟩ := HQ.out U (Below.refl _ _)
            have u0 : U.drew.cell? ⟨wr.heap.size, 0, none⟩ = some (.string x.nm) := (HQ.out _ BD.out).1
            have u2 : U.drew.cell? ⟨wr.heap.size, 2, none⟩ = some (.slice p1 x.args.length c1) := (HQ.out _ BD.out).2.1
            have u3 : U.drew.cell? ⟨wr.heap.size, 3, none⟩ = some (.int .i64 x.ret) := (HQ.out _ BD.out).2.2
            have HZU : Hid (wr.heap.size < U.heap.size) := by show _ < _; omega
            have nU1 : ¬ wr.heap.size = U.heap.size := by omega
            have nU2 : ¬ U.heap.size = wr.heap.size := by omega
            have HBM : Hid (∀ w', Below U.heap.size U w' → w'.heap[wr.heap.size]? = some (.cells #[.string x.nm, .bool false, .slice p1 x.args.length c1, .int .i64 x.ret, .int .i64 x.lo, .int .i64 x.st, .slice p2 x.code.length c2, .slice p3 x.tab.length c3, .slice p4 x.maps.length c4] 30 (0, 0))) := fun w' hb => (hb.block wr.heap.size (by omega)).trans hbU
            have HPl : Hid (∀ w', Below U.heap.size U w' → Calls Tryz.prog 80 #[vs, .agg #[.string x.nm, .slice p1 x.args.length c1, .int .i64 x.ret]] w' fun e w'' => e = .returned (.int .i64 (plJ es ⟨x.nm, x.args, x.ret⟩)) ∧ Below w'.heap.size w' w'') := fun w' hb => by
              have hb2 := HU.out.trans (hb.mono HU.out.size)
              have hz2 := hb2.size
              exact place_ok (s := ⟨x.nm, x.args, x.ret⟩) (H2.out.keep fun b q => hb2.block b (HS.out b q)) (fun k q => Nat.lt_of_lt_of_le (HS.out k q) hz2) (((show Sl kI wr S (.slice p1 x.args.length c1) x.args from SA.out).keep fun b q => (HB.out.block b (HS.out b q)).symm).keep fun b q => hb2.block b (HS.out b q)) (fun k q => Nat.lt_of_lt_of_le (HS.out k q) hz2)
            have HLE : Hid (es.length ≤ (virQ es i1 ms j).length ∧ (virQ es i1 ms j).length ≤ es.length + j) := virQ_len j
            clear hbU bU hzU SA HG hlim hst hx hS9
            go_upto_region 11 with fail
            rw [← hU]
            clear hU a0 a1 a2 a3 a4 a5 a6 a7 a8
            go_cut [11] (fun s11 W => ∃ (bx : Nat) (p5 : Option Addr) (c5 : Nat), s11 = .pointer (some ⟨bx, 0, none⟩) ∧ Hid (EnB U W bx x i1 j p5 c5))
            case first =>
              go_region_held3 (fun w' => w'.cell? ⟨wr.heap.size, 0, none⟩ = some (.string x.nm) ∧ w'.cell? ⟨wr.heap.size, 2, none⟩ = some (.slice p1 x.args.length c1) ∧ w'.cell? ⟨wr.heap.size, 3, none⟩ = some (.int .i64 x.ret)) (go_keep) ((first
                | (go_at_call 126; refine (HQS.out _ (by with_reducible first | exact BD.out | exact BD.out.alloc BD.out.size _ | exact ad1 _ _)).mono ?_; rintro e xa ⟨rfl, hb⟩; (first
                  | (have BN : Hid (Below U.heap.size U xa) := BD.out.trans (hb.mono BD.out.size); (try replace BX : Hid (BxH xa _ _) := BX.out.go hb))
                  | (have BN : Hid (Below U.heap.size U xa) := (BD.out.alloc BD.out.size _).trans (hb.mono (BD.out.alloc BD.out.size _).size); have BX : Hid (BxH xa _ _) := BxH.of hb)
                  | (have BN : Hid (Below U.heap.size U xa) := (ad1 _ _).trans (hb.mono (ad1 _ _).size); have BX : Hid (BxH xa _ _) := BxH.ofd hb)
                  ); replace BD := BN; clear BN; (try (obtain ⟨b0, b1, b2, b3, b4, f0, f1, f2, f3, f4⟩ := BX.out.five)); obtain ⟨k0, k2, k3⟩ := HQ.out xa BD.out; obtain ⟨nxa1, nxa2⟩ := ne_of_ge HZU.out BD.out; clear hb)
                | (go_at_call 128; refine (HQI.out _ (by with_reducible first | exact BD.out | exact BD.out.alloc BD.out.size _ | exact ad1 _ _)).mono ?_; intro e xb hc; obtain ⟨v5, rfl, hb, hG⟩ := hc.ints; obtain ⟨p5, c5, rfl⟩ := hG.slice; clear hc; (first
                  | (have BN : Hid (Below U.heap.size U xb) := BD.out.trans (hb.mono BD.out.size); first | (have HC3 : Hid (Got3 U kIU xb (.slice p5 x.args.length c5) x.args _) := Got3.aft BD.out hb hG.sl BX.out.2; replace BX : Hid (BxH xb _ _) := BX.out.go hb) | have HCg : Hid (Got U kIU xb (.slice p5 x.args.length c5) x.args) := Got.mk_ BD.out hb hG.sl)
                  | (have BN : Hid (Below U.heap.size U xb) := (BD.out.alloc BD.out.size _).trans (hb.mono (BD.out.alloc BD.out.size _).size); have BXA : Hid (U.heap.size ≤ _) := BD.out.size; have HC3 : Hid (Got3 U kIU xb (.slice p5 x.args.length c5) x.args _) := Got3.aft (BD.out.alloc BD.out.size _) hb hG.sl (Nat.lt_of_lt_of_eq (Nat.lt_succ_self _) (World.size_alloc _ _).symm); have BX : Hid (BxH xb _ _) := BxH.of hb)
                  ); replace BD := BN; clear BN; (try (obtain ⟨b0, b1, b2, b3, b4, f0, f1, f2, f3, f4⟩ := BX.out.five)); obtain ⟨k0, k2, k3⟩ := HQ.out xb BD.out; obtain ⟨nxb1, nxb2⟩ := ne_of_ge HZU.out BD.out; clear hb hG)))
              · obtain ⟨W, bx, hW, hbx, he⟩ := EnB.of1 (k := (i1 : Int)) (j := j) HCg.out
                rw [← hW, ← hbx]
                go_wp2_with fail
                go_meet
                exact ⟨bx, p5, c5, rfl, he⟩
              all_goals
                obtain ⟨W, bx, hW, hbx, he⟩ := EnB.of2 (k := (i1 : Int)) (j := j) HC3.out (by first | exact Nat.le_refl _ | exact BXA.out) BX.out
                rw [← hW, ← hbx]
                go_wp2_with fail
                go_meet
                exact ⟨bx, p5, c5, rfl, he⟩
            case rest =>
              obtain ⟨bx, p5, c5, rfl, HE⟩ := hcut
              have hbm := HBM.out wc HE.out.bel
              have m0 : wc.cell? ⟨wr.heap.size, 0, none⟩ = some (.string x.nm) := bxq_cell hbm rfl
              have m1 : wc.cell? ⟨wr.heap.size, 1, none⟩ = some (.bool false) := bxq_cell hbm rfl
              have m2 : wc.cell? ⟨wr.heap.size, 2, none⟩ = some (.slice p1 x.args.length c1) := bxq_cell hbm rfl
              have m3 : wc.cell? ⟨wr.heap.size, 3, none⟩ = some (.int .i64 x.ret) := bxq_cell hbm rfl
              have m4 : wc.cell? ⟨wr.heap.size, 4, none⟩ = some (.int .i64 x.lo) := bxq_cell hbm rfl
              have m5 : wc.cell? ⟨wr.heap.size, 5, none⟩ = some (.int .i64 x.st) := bxq_cell hbm rfl
              have m6 : wc.cell? ⟨wr.heap.size, 6, none⟩ = some (.slice p2 x.code.length c2) := bxq_cell hbm rfl
              have m7 : wc.cell? ⟨wr.heap.size, 7, none⟩ = some (.slice p3 x.tab.length c3) := bxq_cell hbm rfl
              have m8 : wc.cell? ⟨wr.heap.size, 8, none⟩ = some (.slice p4 x.maps.length c4) := bxq_cell hbm rfl
              have hbx := HE.out.box
              have hbxl : bx < wc.heap.size := (Array.getElem?_eq_some_iff.1 hbx).1
              have HCX : Hid (∀ w2, Below wc.heap.size wc w2 → w2.cell? ⟨bx, 0, none⟩ = some (.string x.nm) ∧ w2.cell? ⟨bx, 1, none⟩ = some (.slice p5 x.args.length c5) ∧ w2.cell? ⟨bx, 2, none⟩ = some (.int .i64 x.ret) ∧ w2.cell? ⟨bx, 3, none⟩ = some (.int .i64 i1) ∧ w2.cell? ⟨bx, 4, none⟩ = some (.int .i64 j)) := fun w2 hb => by
                have e := (hb.block bx hbxl).trans hbx
                exact ⟨bxq_cell e rfl, bxq_cell e rfl, bxq_cell e rfl, bxq_cell e rfl, bxq_cell e rfl⟩
              have HSN : Hid (∀ w2, Below wc.heap.size wc w2 → Below U.heap.size U w2 ∧ Sl kIU w2 (fun b => U.heap.size ≤ b ∧ b < w2.heap.size) (.slice p5 x.args.length c5) x.args) := fun w2 hb => ⟨HE.out.bel.trans (hb.mono HE.out.bel.size), (HE.out.args.keep fun b q => hb.block b q.2).mono fun b q => ⟨q.1, Nat.lt_of_lt_of_le q.2 hb.size⟩⟩
              have HBE : Hid (Below U.heap.size U wc) := HE.out.bel
              have HMX : Hid (ms[j]? = some x ∧ x.stc = false) := ⟨HX.out, HST0.out⟩
              clear hbm hbx hbxl z0 z2 z3 u0 u2 u3 nU1 nU2 HE
              rcases hof : OfJ es x.nm x.args x.ret with _ | a
              · have hpl : plJ es ⟨x.nm, x.args, x.ret⟩ = -1 := by unfold plJ; rw [hof]
                rw [hpl] at HPl
                have HST : Hid (virQ es i1 ms (j + 1) = virQ es i1 ms j ++ [ownJ x i1 j]) := by
                  show virQ _ _ _ _ = _
                  rw [virQ, HMX.out.1]
                  simp only [HMX.out.2, hof]
                  rfl
                have HPU : Hid (∀ w2, Below wc.heap.size wc w2 → ∃ g cap w3, (appY #[56, 56] 56 #[u7, .slice (some ⟨w2.heap.size, 0, none⟩) 1 1]).run Tryz.prog (w2.alloc (.cells #[.string x.nm, .slice p5 x.args.length c5, .int .i64 x.ret, .int .i64 i1, .int .i64 j] 79)) = .ok (.slice (some ⟨g, 0, none⟩) ((virQ es i1 ms j).length + 1) cap) w3 ∧ Hid (Gro kEnU 79 w.heap.size w3 (.slice (some ⟨g, 0, none⟩) ((virQ es i1 ms j).length + 1) cap) (virQ es i1 ms (j + 1))) ∧ Hid (Below w.heap.size w w3)) := fun w2 hb => by
                  obtain ⟨q1, q2⟩ := HSN.out w2 hb
                  obtain ⟨g, cap, w3, a, b, c⟩ := HP.out U w2 u7 (virQ es i1 ms j) (ownJ x i1 j) (.slice p5 x.args.length c5) (HGU.out U (Below.refl _ _)) HU.out.size q1 q2 (by have := HLE.out; have := HN.out; omega)
                  exact ⟨g, cap, w3, a, by rw [HST.out]; exact b, HU.out.trans c.out⟩
                clear hpl hof HST
                go_wp2_with (first
                  | (go_at_call 72; refine (ofm_ok _ _ _ _ _ _ _ _ _ _ _ _ _ _ _ _ _ _).mono ?_; rintro e w2 ⟨rfl, hl⟩; have B2 : Hid (Below wc.heap.size wc w2) := hl.bl; clear hl)
                  | (go_at_call 80; refine (HPl.out _ (HBE.out.trans (B2.out.mono HBE.out.size))).mono ?_; rintro e w3 ⟨rfl, hb⟩; have B3 : Hid (Below wc.heap.size wc w3) := B2.out.trans (hb.mono B2.out.size); obtain ⟨d0, d1, d2, d3, d4⟩ := HCX.out w3 B3.out; obtain ⟨g, cap, w4, hrun, HG4, HB4⟩ := HPU.out w3 B3.out; clear hb))
                go_roundg (ms.length - (j + 1))
                case measure => omega
                case rel => exact ⟨j + 1, by go_num, by omega, Nat.le_refl _, HG4, HB4⟩
              · have hpl : plJ es ⟨x.nm, x.args, x.ret⟩ = (a : Int) := by unfold plJ; rw [hof]
                rw [hpl] at HPl
                have hal := of_lt hof
                have HST : Hid (virQ es i1 ms (j + 1) = (virQ es i1 ms j).set a (ownJ x i1 j)) := by
                  show virQ _ _ _ _ = _
                  rw [virQ, HMX.out.1]
                  simp only [HMX.out.2, hof]
                  rfl
                obtain ⟨L, hL⟩ : ∃ L, L = (virQ es i1 ms j).length := ⟨_, rfl⟩
                have haL : a < L := by have := HLE.out; omega
                obtain ⟨g, capg, rfl, hgb, hgU⟩ : ∃ g capg, u7 = .slice (some ⟨g, 0, none⟩) L capg ∧ w.heap.size ≤ g ∧ g < U.heap.size := by
                  have h0 := HGU.out U (Below.refl _ _)
                  rcases h0.shape with e | ⟨g, cap, e, q⟩
                  · obtain ⟨ao', cap', e'⟩ := h0.slice
                    rw [e] at e'
                    injection e' with e1 e2 e3
                    omega
                  · exact ⟨g, cap, by rw [hL]; exact e, q⟩
                have HSE : Hid (∀ w2, Below wc.heap.size wc w2 → w2.there g (a * 5) 5 ∧ Hid (Gro kEnU 79 w.heap.size (w2.setCells g (a * 5) [.string x.nm, .slice p5 x.args.length c5, .int .i64 x.ret, .int .i64 i1, .int .i64 j]) (.slice (some ⟨g, 0, none⟩) L capg) (virQ es i1 ms (j + 1))) ∧ Hid (Below w.heap.size w (w2.setCells g (a * 5) [.string x.nm, .slice p5 x.args.length c5, .int .i64 x.ret, .int .i64 i1, .int .i64 j]))) := fun w2 hb => by
                  obtain ⟨q1, q2⟩ := HSN.out w2 hb
                  have h0 := HGU.out w2 q1
                  rw [hL] at h0 ⊢
                  obtain ⟨r1, r2⟩ := h0.at_ (i := a) (by omega)
                  refine ⟨fun j hj => ?_, ?_, ?_⟩
                  · obtain ⟨u, hu⟩ := r2 j hj
                    exact ⟨by rw [show w2.cell? ⟨g, a * 5 + j, none⟩ = some u from hu]; rfl, r1 _⟩
                  · rw [HST.out]
                    exact h0.set (lo := U.heap.size) (by omega) (x := ownJ x i1 j) ⟨_, rfl, q2⟩ HU.out.size hgU
                  · obtain ⟨s1, s2, s3⟩ := setCellsJ_rest g [.string x.nm, .slice p5 x.args.length c5, .int .i64 x.ret, .int .i64 i1, .int .i64 j] (a * 5) w2
                    exact (HU.out.trans (q1.mono HU.out.size)).trans ⟨s1, s2, s3, by rw [setCellsJ_size]; exact Nat.le_refl _, fun k hk => setCellsJ_else (by omega) _ _ _⟩
                have hal2 : (a : Int) < (L : Int) := by omega
                have HL2 : Hid (L = (virQ es i1 ms j).length) := hL
                clear hpl hof HST hL hal haL hgb hgU
                go_wp2_with (first
                  | (go_at_call 72; refine (ofm_ok _ _ _ _ _ _ _ _ _ _ _ _ _ _ _ _ _ _).mono ?_; rintro e w2 ⟨rfl, hl⟩; have B2 : Hid (Below wc.heap.size wc w2) := hl.bl; clear hl)
                  | (go_at_call 80; refine (HPl.out _ (HBE.out.trans (B2.out.mono HBE.out.size))).mono ?_; rintro e w3 ⟨rfl, hb⟩; have B3 : Hid (Below wc.heap.size wc w3) := B2.out.trans (hb.mono B2.out.size); obtain ⟨d0, d1, d2, d3, d4⟩ := HCX.out w3 B3.out; obtain ⟨hth, HG4, HB4⟩ := HSE.out w3 B3.out; clear hb)
                  | (refine wpList_store_mid rfl 79 _ _ rfl g (a * 5) _ rfl rfl hth infoEz (by simp [Value.oneCell']) ?_; clear hth))
                go_roundg (ms.length - (j + 1))
                case measure => omega
                case rel => exact ⟨j + 1, by go_num, by omega, Nat.le_refl _, HG4, HB4⟩
          · rw [hst] at a1
            have hmsl : ms.length ≤ 1048576 := by have := HN.out; omega
            have HST : Hid (virQ es i1 ms (j + 1) = virQ es i1 ms j) := by show virQ _ _ _ _ = _; rw [virQ, HX.out]; simp [hst]
            have HGa : Hid (∀ o, Gro kEnU 79 w.heap.size (wr.alloc o) u7 (virQ es i1 ms j)) := fun o => HG.out.kept (row := none) (World.grownBy_alloc wr o none) (fun b q => by cases q)
            have HBa : Hid (∀ o, Below w.heap.size w (wr.alloc o)) := fun o => HB.out.alloc HB.out.size o
            clear HG HB hx hst SA
            go_wp2
            go_roundg (ms.length - (j + 1))
            case measure => omega
            case rel => exact ⟨j + 1, by go_num, by omega, Nat.le_refl _, by rw [HST.out]; exact HGa.out _, HBa.out _⟩
        · obtain rfl : j = ms.length := by omega
          have hl2 : ¬ (ms.length : Int) < (ms.length : Int) := by omega
          have HR : Hid _ := HG
          have HR2 : Hid _ := HB
          clear HG HB
          go_wp2
          go_ret
          exact ⟨_, rfl, HR2.out, HR.out⟩
end Go.Proofs.YtbbmgjcabmjjdaaGreatDoor
