/- The table of cells. -/
import Derived.Test.YtbagecfgeagacaaGreatMHRow
import Derived.BigRegion
namespace Go.Proofs.YtbagecfgeagacaaGreat
open Go.RowKit
theorem infoC : (Tryz.prog.info? 73).map (·.size) = some 5 := by kernel_rfl
theorem infoP : (Tryz.prog.info? 99).map (·.size) = some 6 := by kernel_rfl
/-- No such number. -/
theorem tfind_out {w : World} {h L cap : Nat} {ao : Option Addr} (c3 : w.cell? ⟨h, 3, none⟩ = some (.slice ao L cap)) (t : Int) (ht : t < 1 ∨ (L : Int) < t) :
    Calls Tryz.prog 35 #[.pointer (some ⟨h, 3, none⟩), .int .i64 t] w fun e w' => e = .returned (.tuple #[.agg #[.int .i64 0, .int .i64 0, .int .i64 0, .nilIface, .int .i64 0], .bool false]) ∧ Below w.heap.size w w' := by
  have hh : h < w.heap.size := cell_in1 c3
  by_cases h1 : t < 1
  · clear ht
    go_enter Tryz.func35, Tryz.ntmps35
    go_wp2
    exact bodyPost_ret (results_ct rfl _ _ w.heap.size 73 _ (0, 0) _ rfl (box_alloc (heap_alloc_new w _) _) Tryz.underlying73 rfl infoC) rfl ⟨rfl, two_below _ _ _⟩
  · have h2 : (L : Int) < t := by omega
    have h3 : decide (t < 1) = false := by simp; omega
    clear ht h1
    go_enter Tryz.func35, Tryz.ntmps35
    go_wp2
    exact bodyPost_ret (results_ct rfl _ _ w.heap.size 73 _ (0, 0) _ rfl (box_alloc (heap_alloc_new w _) _) Tryz.underlying73 rfl infoC) rfl ⟨rfl, two_below _ _ _⟩
theorem six_cells {w : World} {p o : Nat} {a b c d e f : Value} (h : w.rangeAt p o [a, b, c, d, e, f]) : w.cell? ⟨p, o, none⟩ = some a ∧ w.cell? ⟨p, o + 1, none⟩ = some b ∧ w.cell? ⟨p, o + 2, none⟩ = some c ∧ w.cell? ⟨p, o + 3, none⟩ = some d ∧ w.cell? ⟨p, o + 4, none⟩ = some e ∧ w.cell? ⟨p, o + 5, none⟩ = some f :=
  ⟨h 0 a rfl, h 1 b rfl, h 2 c rfl, h 3 d rfl, h 4 e rfl, h 5 f rfl⟩
theorem tfind_at {w : World} {h L cap p i : Nat} {x y z u : Int} {ty : TypeId} {d : Value} (c3 : w.cell? ⟨h, 3, none⟩ = some (.slice (some ⟨p, 0, none⟩) L cap)) (hr : w.rangeAt p (i * 6) [.int .i64 x, .int .i64 y, .int .i64 z, .iface ty d, .int .i64 u, .bool true]) (hi : i < L) (hL : L ≤ 100000) (t : Int) (ht : t = (i : Int) + 1) :
    Calls Tryz.prog 35 #[.pointer (some ⟨h, 3, none⟩), .int .i64 t] w fun e w' => e = .returned (.tuple #[.agg #[.int .i64 x, .int .i64 y, .int .i64 z, .iface ty d, .int .i64 u], .bool true]) ∧ Below w.heap.size w w' := by
  have hh : h < w.heap.size := cell_in1 c3
  have cc := six_cells hr
  have hp : p < w.heap.size := cell_in1 cc.1
  have h1 : decide (t < 1) = false := by simp; omega
  have h2 : decide ((L : Int) < t) = false := by simp; omega
  have h3 : t - 1 = (i : Int) := by omega
  have h4 : (i : Int) < L := by omega
  clear hr ht
  go_enter Tryz.func35, Tryz.ntmps35
  go_wp2
  go_region
  go_wp2
  exact bodyPost_ret (results_ct rfl _ _ w.heap.size 73 _ (0, 0) _ rfl (box_alloc (heap_alloc_new w _) _) Tryz.underlying73 rfl infoC) rfl ⟨rfl, (two_below _ _ _).drew⟩
theorem tfind_gone {w : World} {h L cap p i : Nat} (c3 : w.cell? ⟨h, 3, none⟩ = some (.slice (some ⟨p, 0, none⟩) L cap)) (hr : w.rangeAt p (i * 6) [.int .i64 0, .int .i64 0, .int .i64 0, .nilIface, .int .i64 0, .bool false]) (hi : i < L) (hL : L ≤ 100000) (t : Int) (ht : t = (i : Int) + 1) :
    Calls Tryz.prog 35 #[.pointer (some ⟨h, 3, none⟩), .int .i64 t] w fun e w' => e = .returned (.tuple #[.agg #[.int .i64 0, .int .i64 0, .int .i64 0, .nilIface, .int .i64 0], .bool false]) ∧ Below w.heap.size w w' := by
  have hh : h < w.heap.size := cell_in1 c3
  have cc := six_cells hr
  have hp : p < w.heap.size := cell_in1 cc.1
  have h1 : decide (t < 1) = false := by simp; omega
  have h2 : decide ((L : Int) < t) = false := by simp; omega
  have h3 : t - 1 = (i : Int) := by omega
  have h4 : (i : Int) < L := by omega
  clear hr ht
  go_enter Tryz.func35, Tryz.ntmps35
  go_wp2
  go_region
  go_wp2
  exact bodyPost_ret (results_ct rfl _ _ w.heap.size 73 _ (0, 0) _ rfl (box_alloc (heap_alloc_new w _) _) Tryz.underlying73 rfl infoC) rfl ⟨rfl, (two_below _ _ _).drew⟩
theorem infoPz : (Tryz.prog.info? 99).map (fun i => (i.zero, i.size, i.bytes)) = some (some (.agg #[.int .i64 0, .int .i64 0, .int .i64 0, .nilIface, .int .i64 0, .bool false]), 6, 56) := by kernel_rfl
def appC (ats : Array TypeId) (ty : TypeId) (args : Array Value) : Sem Value := Builtin.append_ ats ty args
theorem app_C (ats : Array TypeId) (ty : TypeId) (args : Array Value) : Builtin.append_ ats ty args = appC ats ty args := rfl
/-- One more in a row of places. -/
theorem Rs.place {w : World} {B : Nat} {v : Value} {R : List (List Value)} (h : Rs w B 99 6 v R) (hB : B ≤ w.heap.size) (hn : R.length ≤ 100000) (x : List Value) (hx : x.length = 6) (h1 : ∀ u ∈ x, u.oneCell' = true) {W : World} {a : Nat} (hW : W.heap[a]? = some (.cells x.toArray 99 (0, 0))) (hbW : Below w.heap.size w W) :
    ∃ ao cap w', (appC #[62, 62] 62 #[v, .slice (some ⟨a, 0, none⟩) 1 1]).run Tryz.prog W = .ok (.slice ao (R.length + 1) cap) w' ∧ Rs w' B 99 6 (.slice ao (R.length + 1) cap) (R ++ [x]) ∧ w.grownBy w' v.ownBlock ∧ ((Value.slice ao (R.length + 1) cap).ownBlock = v.ownBlock ∨ ∃ j, (Value.slice ao (R.length + 1) cap).ownBlock = some j ∧ w.heap.size ≤ j) := by
  obtain ⟨i0, hi0, hzz⟩ := Option.map_eq_some_iff.1 infoPz
  simp only [Prod.mk.injEq] at hzz
  obtain ⟨hz0, hz1, hz2⟩ := hzz
  obtain ⟨v', w', hrun, hR, hg, hat⟩ := h.app (P := Tryz.prog) (t := 62) (ty := 62) Tryz.underlying62 hi0 hz0 hz1 hz2 rfl (by decide) x hx h1 hB (by unfold maxLen; omega) (by omega) hW hbW
  obtain ⟨ao, cap, e⟩ := hR.form
  rw [List.length_append, List.length_singleton] at e
  subst e
  exact ⟨ao, cap, w', hrun, hR, hg, hat⟩
attribute [local go_sem ↓] app_C
set_option maxRecDepth 20000 in
theorem tadd_new {w : World} {h cs : Nat} {a0 a1 a2 r : Value} {sa : Option Addr} {vc : Value} {R : List (List Value)} (hH : w.heap[h]? = some (.cells #[a0, a1, a2, vc, .slice sa 0 cs, r] 66 (0, 0))) (hR : Rs w 0 99 6 vc R) (hL : R.length ≤ 100000) (x y z u : Int) (ty : TypeId) (d : Value) :
    Calls Tryz.prog 31 #[.pointer (some ⟨h, 3, none⟩), .agg #[.int .i64 x, .int .i64 y, .int .i64 z, .iface ty d, .int .i64 u]] w fun e w' => ∃ v', e = .returned (.int .i64 ((R.length : Int) + 1)) ∧ Rs w' 0 99 6 v' (R ++ [[.int .i64 x, .int .i64 y, .int .i64 z, .iface ty d, .int .i64 u, .bool true]]) ∧
      w'.heap[h]? = some (.cells #[a0, a1, a2, v', .slice sa 0 cs, r] 66 (0, 0)) ∧ Bt (fun k => k = h ∨ vc.ownBlock = some k) w w' ∧ (v'.ownBlock = vc.ownBlock ∨ ∃ j, v'.ownBlock = some j ∧ w.heap.size ≤ j) := by
  have hh : h < w.heap.size := box_lt hH
  obtain ⟨ao, cap, rfl⟩ := hR.form
  have c3 : w.cell? ⟨h, 3, none⟩ = some (.slice ao R.length cap) := by simp [World.cell?, hH]
  have c4 : w.cell? ⟨h, 4, none⟩ = some (.slice sa 0 cs) := by simp [World.cell?, hH]
  obtain ⟨A, hA⟩ : ∃ A : Obj, A = .cells #[.int .i64 x, .int .i64 y, .int .i64 z, .iface ty d, .int .i64 u] 73 := ⟨_, rfl⟩
  obtain ⟨C, hC⟩ : ∃ C : Obj, C = .cells #[.int .i64 x, .int .i64 y, .int .i64 z, .iface ty d, .int .i64 u, .bool true] 99 := ⟨_, rfl⟩
  have hW : ((w.alloc A).alloc C).drew.heap[w.heap.size + 1]? = some (.cells [.int .i64 x, .int .i64 y, .int .i64 z, .iface ty d, .int .i64 u, .bool true].toArray 99 (0, 0)) := by
    have e := heap_alloc_new (w.alloc A) C
    rw [Go.Deep.nblk_alloc, hC] at e
    rw [hC]
    exact e
  have hbW : Below w.heap.size w ((w.alloc A).alloc C).drew := (two_below w A C).drew
  obtain ⟨ao', cap', w', hrun, hR', hg, hat⟩ := hR.place (Nat.zero_le _) hL [.int .i64 x, .int .i64 y, .int .i64 z, .iface ty d, .int .i64 u, .bool true] rfl (by simp [Value.oneCell']) hW hbW
  rw [hA, hC] at hrun
  have hne : ∀ k, (Value.slice ao R.length cap).ownBlock = some k → k ≠ h := fun k hk e => by
    subst e
    obtain ⟨cur, hc⟩ := hR.kind hk
    rw [hH] at hc; simp at hc
  have hH' : w'.heap[h]? = some (.cells #[a0, a1, a2, .slice ao R.length cap, .slice sa 0 cs, r] 66 (0, 0)) := (hg.block h hh (fun e => hne h e.symm rfl)).trans hH
  have f3 := frz hH' 3
  have c3' : w'.cell? ⟨h, 3, none⟩ = some (.slice ao R.length cap) := by simp [World.cell?, hH']
  have HR : Hid (Rs w' 0 99 6 (.slice ao' (R.length + 1) cap') (R ++ [[.int .i64 x, .int .i64 y, .int .i64 z, .iface ty d, .int .i64 u, .bool true]])) := hR'
  have HG : Hid (w.grownBy w' (Value.slice ao R.length cap).ownBlock ∧ w'.heap[h]? = some (.cells #[a0, a1, a2, .slice ao R.length cap, .slice sa 0 cs, r] 66 (0, 0))) := ⟨hg, hH'⟩
  have HA : Hid ((Value.slice ao' (R.length + 1) cap').ownBlock = (Value.slice ao R.length cap).ownBlock ∨ ∃ j, (Value.slice ao' (R.length + 1) cap').ownBlock = some j ∧ w.heap.size ≤ j) := hat
  have HN : Hid (∀ k, (Value.slice ao' (R.length + 1) cap').ownBlock = some k → k ≠ h) := fun k hk e => by
    subst e
    obtain ⟨cur, hc⟩ := hR'.kind hk
    rw [hH'] at hc; simp at hc
  clear hR' hg hat hR hH hH' hW hbW hA hC hne
  have hl : Hid (R.length = R.length) := rfl
  generalize hN : R.length = N at *
  go_enter Tryz.func31, Tryz.ntmps31
  go_wp2
  go_region
  go_wp2
  go_ret
  refine ⟨_, rfl, HR.out.of_block (fun j hj => heap_put _ _ (HN.out j hj)), set_blk HG.out.2 3 _, ⟨HG.out.1.os, HG.out.1.tape, HG.out.1.output, by simpa [World.setCell] using HG.out.1.size, fun k hk e => ?_⟩, HA.out⟩
  exact (heap_put _ _ (fun q => e (.inl q))).trans (HG.out.1.block k hk (fun q => e (.inr q.symm)))
def stC (a x : Value) : Sem Unit := Instr.storeAt 99 a x
theorem st_C (a x : Value) : Instr.storeAt 99 a x = stC a x := rfl
/-- A place is written. -/
theorem Rs.stored {w : World} {B p m cap : Nat} {R : List (List Value)} (h : Rs w B 99 6 (.slice (some ⟨p, 0, none⟩) m cap) R) {i : Nat} (hi : i < R.length) (x : Array Value) (hx : x.size = 6) (h1 : x.all (·.oneCell') = true) :
    ∃ U, (stC (.pointer (some ⟨p, i * 6, none⟩)) (.agg x)).run Tryz.prog w = .ok () U ∧ Rs U B 99 6 (.slice (some ⟨p, 0, none⟩) m cap) (R.set i x.toList) ∧ Bt (fun k => k = p) w U ∧ U.heap.size = w.heap.size := by
  obtain ⟨p', e, hp, _, hf, hc⟩ := h.cells (by omega)
  simp only [Option.some.injEq, Addr.mk.injEq, and_true] at e
  subst e
  obtain ⟨r, hr⟩ : ∃ r, R[i]? = some r := ⟨_, List.getElem?_eq_getElem hi⟩
  have hl := h.len r (List.mem_of_getElem? hr)
  have hs := setCells_rest p x.toList (i * 6) w
  refine ⟨_, run_storeAt_mid w p (i * 6) 99 x (fun j hj => ⟨?_, hf _⟩) (by rw [infoP, hx]) h1, h.set hi (by simpa using hx), ⟨hs.1, hs.2.1, hs.2.2, by rw [setCells_size]; exact Nat.le_refl _, fun k _ hk => setCells_else hk _ _ _⟩, setCells_size _ _ _ _⟩
  obtain ⟨u, hu⟩ : ∃ u, r[j]? = some u := ⟨_, List.getElem?_eq_getElem (by omega)⟩
  rw [hc i r hr j u hu]; rfl
attribute [local go_sem ↓] st_C
set_option maxRecDepth 20000 in
theorem tadd_old {w : World} {h sc p : Nat} {a0 a1 a2 r : Value} {ps m cap : Nat} {R : List (List Value)} {U : List Int} {i : Nat} (hH : w.heap[h]? = some (.cells #[a0, a1, a2, .slice (some ⟨p, 0, none⟩) m cap, .slice (some ⟨ps, 0, none⟩) (U.length + 1) sc, r] 66 (0, 0)))
    (hR : Rs w 0 99 6 (.slice (some ⟨p, 0, none⟩) m cap) R) (hU : Ri w 0 (.slice (some ⟨ps, 0, none⟩) (U.length + 1) sc) (U ++ [(i : Int) + 1])) (hm : m = R.length) (hi : i < R.length) (hL : R.length ≤ 100000) (hUl : U.length ≤ 100000) (x y z u : Int) (ty : TypeId) (d : Value) :
    Calls Tryz.prog 31 #[.pointer (some ⟨h, 3, none⟩), .agg #[.int .i64 x, .int .i64 y, .int .i64 z, .iface ty d, .int .i64 u]] w fun e w' => e = .returned (.int .i64 ((i : Int) + 1)) ∧ Rs w' 0 99 6 (.slice (some ⟨p, 0, none⟩) m cap) (R.set i [.int .i64 x, .int .i64 y, .int .i64 z, .iface ty d, .int .i64 u, .bool true]) ∧
      Ri w' 0 (.slice (some ⟨ps, 0, none⟩) U.length sc) U ∧ w'.heap[h]? = some (.cells #[a0, a1, a2, .slice (some ⟨p, 0, none⟩) m cap, .slice (some ⟨ps, 0, none⟩) U.length sc, r] 66 (0, 0)) ∧ Bt (fun k => k = h ∨ k = p) w w' := by
  have hh : h < w.heap.size := box_lt hH
  have c3 : w.cell? ⟨h, 3, none⟩ = some (.slice (some ⟨p, 0, none⟩) m cap) := by simp [World.cell?, hH]
  have c4 : w.cell? ⟨h, 4, none⟩ = some (.slice (some ⟨ps, 0, none⟩) (U.length + 1) sc) := by simp [World.cell?, hH]
  have f4 := frz hH 4
  obtain ⟨ps', e, hps, hsc, hfs, hcs⟩ := hU.cells (by simp)
  simp only [Option.some.injEq, Addr.mk.injEq, and_true] at e
  subst e
  have cl : w.cell? ⟨ps, U.length, none⟩ = some (.int .i64 ((i : Int) + 1)) := hcs U.length _ (by simp)
  have sc0 : ¬ sc = 0 := by simp at hsc; omega
  have sc1 : U.length ≤ sc := by simp at hsc; omega
  have hps2 := hps.2
  obtain ⟨W1, hW1⟩ : ∃ W1, W1 = (w.setCell ⟨h, 4, none⟩ (.slice (some ⟨ps, 0, none⟩) U.length sc)).alloc (.cells #[.int .i64 x, .int .i64 y, .int .i64 z, .iface ty d, .int .i64 u] 73) := ⟨_, rfl⟩
  have s0 : (w.setCell ⟨h, 4, none⟩ (.slice (some ⟨ps, 0, none⟩) U.length sc)).heap.size = w.heap.size := by simp [World.setCell]
  have k1 : ∀ k, k < w.heap.size → k ≠ h → W1.heap[k]? = w.heap[k]? := fun k hk hn => by rw [hW1, Below.heap_alloc _ _ _ (by omega)]; exact heap_put _ _ hn
  have H1 : W1.heap[h]? = some (.cells #[a0, a1, a2, .slice (some ⟨p, 0, none⟩) m cap, .slice (some ⟨ps, 0, none⟩) U.length sc, r] 66 (0, 0)) := by
    rw [hW1]; exact box_alloc (set_blk hH 4 _) _
  have nep : p ≠ h := fun e => by
    subst e
    obtain ⟨cur, hc⟩ := hR.kind (j := p) rfl
    rw [hH] at hc; simp at hc
  have nes : ps ≠ h := fun e => by
    subst e
    obtain ⟨cur, hc⟩ := hU.kind (j := ps) rfl
    rw [hH] at hc; simp at hc
  have nsp : ps ≠ p := fun e => by
    subst e
    obtain ⟨cur, hc⟩ := hU.kind (j := ps) rfl
    obtain ⟨cur2, hc2⟩ := hR.kind (j := ps) rfl
    rw [hc] at hc2; simp at hc2
  have hpl := (hR.lt (j := p) rfl).2
  have R1 : Rs W1.drew 0 99 6 (.slice (some ⟨p, 0, none⟩) m cap) R := hR.of_block fun j hj => by
    simp only [Value.ownBlock, Option.some.injEq] at hj
    subst hj
    exact k1 p hpl nep
  obtain ⟨W2, hrun, R2, B2, s2⟩ := R1.stored hi #[.int .i64 x, .int .i64 y, .int .i64 z, .iface ty d, .int .i64 u, .bool true] rfl (by simp [Value.oneCell'])
  have HF : Hid (Rs W2 0 99 6 (.slice (some ⟨p, 0, none⟩) m cap) (R.set i [.int .i64 x, .int .i64 y, .int .i64 z, .iface ty d, .int .i64 u, .bool true]) ∧ Ri W2 0 (.slice (some ⟨ps, 0, none⟩) U.length sc) U ∧ W2.heap[h]? = some (.cells #[a0, a1, a2, .slice (some ⟨p, 0, none⟩) m cap, .slice (some ⟨ps, 0, none⟩) U.length sc, r] 66 (0, 0)) ∧ Bt (fun k => k = h ∨ k = p) w W2) := by
    have s1 : W1.heap.size = w.heap.size + 1 := by rw [hW1, Go.Deep.nblk_alloc, s0]
    refine ⟨R2, hU.cut.of_block fun j hj => ?_, ?_, ?_⟩
    · simp only [Value.ownBlock, Option.some.injEq] at hj
      subst hj
      exact (B2.block ps (by show ps < W1.heap.size; omega) nsp).trans (k1 ps hps2 nes)
    · exact (B2.block h (by show h < W1.heap.size; omega) (fun e => nep e.symm)).trans H1
    · refine ⟨B2.os.trans ?_, B2.tape.trans ?_, B2.output.trans ?_, ?_, fun k hk e => (B2.block k (by show k < W1.heap.size; omega) (fun q => e (.inr q))).trans (k1 k hk (fun q => e (.inl q)))⟩
      · rw [hW1]; rfl
      · rw [hW1]; rfl
      · rw [hW1]; rfl
      · rw [s2]; show w.heap.size ≤ W1.heap.size; omega
  have d3 : W1.cell? ⟨h, 3, none⟩ = some (.slice (some ⟨p, 0, none⟩) m cap) := by simp [World.cell?, H1]
  have d3' : W1.drew.cell? ⟨h, 3, none⟩ = some (.slice (some ⟨p, 0, none⟩) m cap) := d3
  have him : (i : Int) < (m : Int) := by omega
  have him2 : i < 100000 := by omega
  clear hR R1 R2 B2 s2 H1 k1 s0 hU hcs hfs hsc hps
  rw [hW1] at hrun d3 d3'
  clear hW1
  generalize hN : U.length = n at *
  have hn0 : ¬ (n + 1 = 0) := by omega
  go_enter Tryz.func31, Tryz.ntmps31
  go_wp2
  go_region
  go_wp2
  go_ret
  exact ⟨rfl, HF.out⟩
end Go.Proofs.YtbagecfgeagacaaGreat
