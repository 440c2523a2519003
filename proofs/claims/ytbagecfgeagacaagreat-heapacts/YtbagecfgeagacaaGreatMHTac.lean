/- The table of cells: one goes; their numbers. -/
import Derived.Test.YtbagecfgeagacaaGreatMHTab
namespace Go.Proofs.YtbagecfgeagacaaGreat
open Go.RowKit
attribute [local go_sem ↓] st_C app_C
theorem infoZ : (Tryz.prog.info? 3).map (fun i => (i.zero, i.size, i.bytes)) = some (some (.int .i64 0), 1, 8) := by kernel_rfl
theorem Ri.more {w : World} {B : Nat} {v : Value} {U : List Int} (h : Ri w B v U) (x : Int) (hB : B ≤ w.heap.size) (hn : U.length ≤ 100000) {W : World} {a : Nat} (hW : W.heap[a]? = some (.cells #[.int .i64 x] 3 (0, 0))) (hbW : Below w.heap.size w W) :
    ∃ ao cap w', (appC #[37, 37] 37 #[v, .slice (some ⟨a, 0, none⟩) 1 1]).run Tryz.prog W = .ok (.slice ao (U.length + 1) cap) w' ∧ Ri w' B (.slice ao (U.length + 1) cap) (U ++ [x]) ∧ w.grownBy w' v.ownBlock ∧ ((Value.slice ao (U.length + 1) cap).ownBlock = v.ownBlock ∨ ∃ j, (Value.slice ao (U.length + 1) cap).ownBlock = some j ∧ w.heap.size ≤ j) := by
  obtain ⟨i0, hi0, hzz⟩ := Option.map_eq_some_iff.1 infoZ
  simp only [Prod.mk.injEq] at hzz
  obtain ⟨hz0, hz1, hz2⟩ := hzz
  exact h.app (P := Tryz.prog) (t := 37) (ty := 37) Tryz.underlying37 hi0 hz0 hz1 hz2 rfl x hB (by unfold maxLen; omega) (by omega) hW hbW
/-- The place i is free again. -/
def Freed (w : World) (h p m cap : Nat) (a0 a1 a2 r : Value) (R : List (List Value)) (U : List Int) (vs : Value) (i : Nat) (w' : World) : Prop :=
  ∃ vs', Rs w' 0 99 6 (.slice (some ⟨p, 0, none⟩) m cap) (R.set i [.int .i64 0, .int .i64 0, .int .i64 0, .nilIface, .int .i64 0, .bool false]) ∧ Ri w' 0 vs' (U ++ [(i : Int) + 1]) ∧
    w'.heap[h]? = some (.cells #[a0, a1, a2, .slice (some ⟨p, 0, none⟩) m cap, vs', r] 66 (0, 0)) ∧ Bt (fun k => k = h ∨ k = p ∨ vs.ownBlock = some k) w w' ∧ (vs'.ownBlock = vs.ownBlock ∨ ∃ j, vs'.ownBlock = some j ∧ w.heap.size ≤ j)
set_option maxRecDepth 20000 in
theorem tremove_ok {w : World} {h p : Nat} {a0 a1 a2 r : Value} {m cap : Nat} {R : List (List Value)} {U : List Int} {vs : Value} {i : Nat} {x y z u : Int} {ty : TypeId} {d : Value} (hH : w.heap[h]? = some (.cells #[a0, a1, a2, .slice (some ⟨p, 0, none⟩) m cap, vs, r] 66 (0, 0)))
    (hR : Rs w 0 99 6 (.slice (some ⟨p, 0, none⟩) m cap) R) (hU : Ri w 0 vs U) (hm : m = R.length) (hi : R[i]? = some [.int .i64 x, .int .i64 y, .int .i64 z, .iface ty d, .int .i64 u, .bool true]) (hL : R.length ≤ 100000) (hUl : U.length ≤ 100000) (t : Int) (ht : t = (i : Int) + 1) :
    Calls Tryz.prog 34 #[.pointer (some ⟨h, 3, none⟩), .int .i64 t] w fun e w' => e = .returned (.tuple #[]) ∧ Freed w h p m cap a0 a1 a2 r R U vs i w' := by
  have hil : i < R.length := (List.getElem?_eq_some_iff.1 hi).1
  have hh : h < w.heap.size := box_lt hH
  have c3 : w.cell? ⟨h, 3, none⟩ = some (.slice (some ⟨p, 0, none⟩) m cap) := by simp [World.cell?, hH]
  obtain ⟨p', e, hp, _, _, hc⟩ := hR.cells (by omega)
  simp only [Option.some.injEq, Addr.mk.injEq, and_true] at e
  subst e
  have hfind := tfind_at c3 (hc i _ hi) (by omega) (by omega) t ht
  obtain ⟨ao, sc, rfl⟩ := hU.form
  have nep : p ≠ h := fun e => by
    subst e
    obtain ⟨cur, hc⟩ := hR.kind (j := p) rfl
    rw [hH] at hc; simp at hc
  have nes : ∀ k, (Value.slice ao U.length sc).ownBlock = some k → k ≠ h ∧ k ≠ p := fun k hk => by
    obtain ⟨cur, hc⟩ := hU.kind hk
    refine ⟨fun e => ?_, fun e => ?_⟩
    · subst e; rw [hH] at hc; simp at hc
    · obtain ⟨cur2, hc2⟩ := hR.kind (j := p) rfl
      rw [e, hc2] at hc; simp at hc
  have key : ∀ w1, Below w.heap.size w w1 → ∃ W2, (stC (.pointer (some ⟨p, i * 6, none⟩)) (.agg #[.int .i64 0, .int .i64 0, .int .i64 0, .nilIface, .int .i64 0, .bool false])).run Tryz.prog (w1.alloc (.cells #[.int .i64 x, .int .i64 y, .int .i64 z, .iface ty d, .int .i64 u] 73)) = .ok () W2 ∧
      (W2.cell? ⟨h, 4, none⟩ = some (.slice ao U.length sc) ∧ h < W2.heap.size) ∧ ∃ ao' sc' W3, (appC #[37, 37] 37 #[.slice ao U.length sc, .slice (some ⟨W2.heap.size, 0, none⟩) 1 1]).run Tryz.prog (W2.alloc (.cells #[.int .i64 t] 3)) = .ok (.slice ao' (U.length + 1) sc') W3 ∧
      (W3.cell? ⟨h, 4, none⟩ = some (.slice ao U.length sc) ∧ W3.frozen? ⟨h, 4, none⟩ = false) ∧ Freed w h p m cap a0 a1 a2 r R U (.slice ao U.length sc) i (W3.setCell ⟨h, 4, none⟩ (.slice ao' (U.length + 1) sc')) := by
    intro w1 hb
    have hb2 := hb.trans (((Below.refl w1.heap.size w1).alloc (Nat.le_refl _) (.cells #[.int .i64 x, .int .i64 y, .int .i64 z, .iface ty d, .int .i64 u] 73)).mono hb.size)
    obtain ⟨W2, hrun, R2, B2, s2⟩ := (hR.below hb2).stored hil #[.int .i64 0, .int .i64 0, .int .i64 0, .nilIface, .int .i64 0, .bool false] rfl (by simp [Value.oneCell'])
    have k2 : ∀ k, k < w.heap.size → k ≠ p → W2.heap[k]? = w.heap[k]? := fun k hk hn => (B2.block k (Nat.lt_of_lt_of_le hk hb2.size) hn).trans (hb2.block k hk)
    have z2 : w.heap.size ≤ W2.heap.size := by rw [s2]; exact hb2.size
    have H2 := (k2 h hh nep.symm).trans hH
    have U2 : Ri W2 0 (.slice ao U.length sc) U := hU.of_block fun k hk => k2 k (hU.lt hk).2 (nes k hk).2
    obtain ⟨ao', sc', W3, hrun3, U3, g3, hat⟩ := U2.more t (Nat.zero_le _) hUl (heap_alloc_new W2 (.cells #[.int .i64 t] 3)) ((Below.refl _ W2).alloc (Nat.le_refl _) _)
    have H3 : W3.heap[h]? = _ := (g3.block h (by omega) (fun e => (nes h e.symm).1 rfl)).trans H2
    have nes3 : ∀ k, (Value.slice ao' (U.length + 1) sc').ownBlock = some k → k ≠ h ∧ k ≠ p := fun k hk => by
      obtain ⟨cur, hc⟩ := U3.kind hk
      refine ⟨fun e => ?_, fun e => ?_⟩
      · subst e; rw [H3] at hc; simp at hc
      · have hp2 : W3.heap[p]? = W2.heap[p]? := g3.block p (Nat.lt_of_lt_of_le hp.2 z2) (fun e => (nes p e.symm).2 rfl)
        obtain ⟨cur2, hc2⟩ := R2.kind (j := p) rfl
        rw [e, hp2, hc2] at hc; simp at hc
    refine ⟨W2, hrun, ⟨by simp [World.cell?, H2], by omega⟩, ao', sc', W3, hrun3, ⟨by simp [World.cell?, H3], frz H3 4⟩, _, R2.of_block fun j hj => ?_, ?_, set_blk H3 4 _, ⟨g3.os.trans (B2.os.trans hb2.os), g3.tape.trans (B2.tape.trans hb2.tape), g3.output.trans (B2.output.trans hb2.output), ?_, fun k hk e => ?_⟩, ?_⟩
    · simp only [Value.ownBlock, Option.some.injEq] at hj
      subst hj
      exact (heap_put _ _ nep).trans (g3.block p (Nat.lt_of_lt_of_le hp.2 z2) (fun e => (nes p e.symm).2 rfl))
    · rw [← ht]; exact U3.of_block fun j hj => heap_put _ _ (nes3 j hj).1
    · have := g3.size; simp [World.setCell]; omega
    · exact (heap_put _ _ (fun q => e (.inl q))).trans ((g3.block k (by omega) (fun q => e (.inr (.inr q.symm)))).trans (k2 k hk (fun q => e (.inr (.inl q)))))
    · rcases hat with q | ⟨j, q1, q2⟩
      · exact .inl q
      · exact .inr ⟨j, q1, by omega⟩
  have Hk : Hid (∀ w1, Below w.heap.size w w1 → ∃ W2, (stC (.pointer (some ⟨p, i * 6, none⟩)) (.agg #[.int .i64 0, .int .i64 0, .int .i64 0, .nilIface, .int .i64 0, .bool false])).run Tryz.prog (w1.alloc (.cells #[.int .i64 x, .int .i64 y, .int .i64 z, .iface ty d, .int .i64 u] 73)) = .ok () W2 ∧
      (W2.cell? ⟨h, 4, none⟩ = some (.slice ao U.length sc) ∧ h < W2.heap.size) ∧ ∃ ao' sc' W3, (appC #[37, 37] 37 #[.slice ao U.length sc, .slice (some ⟨W2.heap.size, 0, none⟩) 1 1]).run Tryz.prog (W2.alloc (.cells #[.int .i64 t] 3)) = .ok (.slice ao' (U.length + 1) sc') W3 ∧
      (W3.cell? ⟨h, 4, none⟩ = some (.slice ao U.length sc) ∧ W3.frozen? ⟨h, 4, none⟩ = false) ∧ Freed w h p m cap a0 a1 a2 r R U (.slice ao U.length sc) i (W3.setCell ⟨h, 4, none⟩ (.slice ao' (U.length + 1) sc'))) := key
  have h3 : t - 1 = (i : Int) := by omega
  have h4 : (i : Int) < m := by omega
  have h5 : i < 100000 := by omega
  have kc : ∀ w1, Below w.heap.size w w1 → w1.cell? ⟨h, 3, none⟩ = some (.slice (some ⟨p, 0, none⟩) m cap) ∧ h < w1.heap.size := fun w1 hb => ⟨(cell_of1 (hb.block h hh)).trans c3, Nat.lt_of_lt_of_le hh hb.size⟩
  clear key hR hU hc hp hH c3 hi ht
  go_enter Tryz.func34, Tryz.ntmps34
  go_wp2_with (go_at_call 35; refine hfind.mono ?_; rintro e w1 ⟨rfl, hb⟩; obtain ⟨W2, r2, c2, ao', sc', W3, r3, c3, hF⟩ := Hk.out w1 hb; have k1 := kc w1 hb; have HF : Hid (Freed w h p m cap a0 a1 a2 r R U (.slice ao U.length sc) i (W3.setCell ⟨h, 4, none⟩ (.slice ao' (U.length + 1) sc'))) := hF; clear hF hfind kc)
  go_end0
  exact ⟨rfl, HF.out⟩
end Go.Proofs.YtbagecfgeagacaaGreat
