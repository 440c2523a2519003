/- A store of objects: row, Free. -/
import Derived.Test.YtojblddfggoecaaGreatOFind
import Derived.Test.YtojblddfggoecaaGreatSApp
namespace Go.Proofs.YtojblddfggoecaaGreat
open Go.RowKit
theorem Mine.of_block {w w' : World} {B : Nat} {v : Value} {n : Nat} {f : Nat → Int} (h : Mine w B v n f) (e : ∀ k, v.ownBlock = some k → w'.heap[k]? = w.heap[k]?) : Mine w' B v n f := by
  refine ⟨h.1, ?_⟩
  rcases h.2 with r | ⟨g, cap, cur, rfl, h1, h2, h3⟩
  · exact .inl r
  · exact .inr ⟨g, cap, cur, rfl, h1, (e g rfl).trans h2, h3⟩
theorem Mine.lt {w : World} {B : Nat} {v : Value} {n : Nat} {f : Nat → Int} (h : Mine w B v n f) {k : Nat} (hk : v.ownBlock = some k) : B ≤ k ∧ k < w.heap.size := World.ownsRow.lt h k hk
theorem Mine.one (w : World) (B : Nat) (x : Int) (hB : B ≤ w.heap.size) : Mine (w.alloc (.cells #[.int .i64 x] 3)) B (.slice (some ⟨w.heap.size, 0, none⟩) 1 1) 1 (fun _ => x) :=
  ⟨rfl, .inr ⟨w.heap.size, 1, #[.int .i64 x], rfl, hB, heap_alloc_new w _, Nat.le_refl _, by decide, rfl, rfl⟩⟩
section
variable {w : World} {P : Nat → Prop} {so mb p b W base N G : Nat} {cs : Nat → Int} {T : Int} {xs : List Int} {ws : Nat → Int} {nn : Nat} {D : DataW Unit} {O : List Ob}
theorem Raw.keep {w' : World} (h : Raw w P so mb p b W base N G cs T xs ws nn D) (e : ∀ k, P k → w'.heap[k]? = w.heap[k]?) (hs : w.heap.size ≤ w'.heap.size) : Raw w' P so mb p b W base N G cs T xs ws nn D := by
  obtain ⟨P0, h1, h2, h3, h4⟩ := h.pl
  exact ⟨⟨P0, h1.keep (fun j hj => e j (h2 j hj)) hs, h2, h3, h4⟩, (e so h.own.1).trans h.here, map_of_block h.map (e mb h.own.2), h.own, fun k hk => Nat.lt_of_lt_of_le (h.lt k hk) hs⟩
/-- A row of the call's own beside the store. -/
structure Bes (w0 w : World) (P0 P : Nat → Prop) (so mb p b W base N G : Nat) (cs : Nat → Int) (T : Int) (xs : List Int) (ws : Nat → Int) (nn : Nat) (D : DataW Unit) (v : Value) (m : Nat) (F : Nat → Int) : Prop where
  raw : Raw w P so mb p b W base N G cs T xs ws nn D
  row : Mine w w0.heap.size v m F
  off : ∀ k, v.ownBlock = some k → ¬ P k
  bt : Bt P0 w0 w
  wider : Wider P0 P w0
theorem Bes.turn {w0 w' : World} {P0 : Nat → Prop} {cs' : Nat → Int} {T' : Int} {xs' : List Int} {ws' : Nat → Int} {v : Value} {m : Nat} {F : Nat → Int} (h : Bes w0 w P0 P so mb p b W base N G cs T xs ws nn D v m F) (ht : RawT w P so mb p b W base N G cs' T' xs' ws' nn D w') :
    ∃ P', Bes w0 w' P0 P' so mb p b W base N G cs' T' xs' ws' nn D v m F := by
  obtain ⟨P', h1, h2, h3⟩ := ht
  exact ⟨P', h1, h.row.of_block fun k hk => h2.block k (h.row.lt hk).2 (h.off k hk), fun k hk r => (h3 k r).elim (h.off k hk) (fun q => by have := (h.row.lt hk).2; omega), h.bt.wide h2 h.wider, h.wider.trans h3 h.bt.size⟩
/-- What row leaves. -/
def RowPost (w : World) (P : Nat → Prop) (so mb p b W base N G : Nat) (cs : Nat → Int) (T : Int) (xs : List Int) (ws : Nat → Int) (nn : Nat) (D : DataW Unit) (m : Nat) (F : Nat → Int) (e : Ending) (w' : World) : Prop :=
  ∃ v cs' P', e = .returned v ∧ Grew cs cs' 10 ∧ Bes w w' P P' so mb p b W base N G cs' T xs ws nn D v m F
set_option maxRecDepth 20000 in
set_option maxHeartbeats 1000000 in
theorem row_ok (h : Sto w P so mb p b W base N G cs T xs ws nn D O) {o : Ob} (ho : o ∈ O) (g : Nat) (hg : g < G) :
    Calls Tryz.prog 27 #[.pointer (some ⟨so, 0, none⟩), .int .i64 g, .int .i64 o.ref, .int .i64 (frg o.n : Nat)] w (RowPost w P so mb p b W base N G cs T xs ws nn D (frg o.n) (fun k => (o.c k : Nat))) := by
  have hs := h.inv.size o ho
  have hc0 := (h.wf ho).2.2
  have hf : ∀ u, Calls Tryz.prog 49 #[.int .i64 o.ref] u fun e w' => e = .returned (.int .i64 (o.c 0 : Nat)) ∧ w' = u := fun u => firstOf_ok (o.c 0) (by omega) u
  have Hl : Hid (∀ k, k + 1 < frg o.n → ws (base + 8 * o.c k + 0) = (o.c (k + 1) : Nat)) := fun k hk => h.inv.link o ho k hk
  have Hu : Hid (∀ k, k < frg o.n → o.c k < N ∧ ws (base + 8 * N + o.c k) ≠ 0) := fun k hk => h.inv.used o ho k hk
  have HR : Hid (Raw w P so mb p b W base N G cs T xs ws nn D) := h.raw
  have h9 := frg_nine hs
  have h1 := frg_pos o.n
  generalize o.ref = ref at hf ⊢
  generalize frg o.n = M at Hl Hu h9 h1 ⊢
  clear h
  go_enter Tryz.func27, Tryz.ntmps27
  go_wp2_with (go_at_call 49; refine (hf _).mono ?_; rintro e w9 ⟨rfl, hw9⟩; replace hw9 := hw9.symm; subst hw9)
  have HB0 : Hid (Bes w (w.alloc (.cells #[.int .i64 (o.c 0 : Nat)] 3)) P P so mb p b W base N G cs T xs ws nn D (.slice (some ⟨w.heap.size, 0, none⟩) 1 1) 1 (fun k => (o.c k : Nat))) :=
    ⟨HR.out.below ((Below.refl _ _).alloc (Nat.le_refl _) _), (Mine.one w w.heap.size _ (Nat.le_refl _)).congr fun i hi => by rw [show i = 0 by omega], fun k hk r => by simp only [Value.ownBlock, Option.some.injEq] at hk; subst hk; have := HR.out.lt _ r; omega, Bt.of_below ((Below.refl _ _).alloc (Nat.le_refl _) _), Wider.refl _ _⟩
  clear hf
  go_loopg [9, 10, 11, 12, 19] M (fun kx s9 s10 s11 s12 s19 wr => ∃ (j : Nat) (cs' : Nat → Int) (P' : Nat → Prop), s19 = .int .i64 j ∧ s9 = .int .i64 (o.c j : Nat) ∧ j + 1 ≤ M ∧ M - 1 - j ≤ kx ∧ Grew cs cs' j ∧ Bes w wr P P' so mb p b W base N G cs' T xs ws nn D s10 (j + 1) (fun k => (o.c k : Nat)))
  case atStart => exact ⟨0, cs, P, rfl, rfl, by omega, by omega, Grew.refl _ _, HB0.out⟩
  case round =>
    clear HB0
    obtain ⟨j, cs', P', rfl, rfl, hj, hk, hgr, hBs⟩ := hrel
    by_cases hlt : j + 1 < M
    · have hlt' : (j : Int) < (M : Int) - 1 := by omega
      have cc := hBs.raw.cells
      have hL := hBs.raw.load g (o.c j) 0 hg (Hu.out j (by omega)).1 (Hu.out j (by omega)).2 (by omega)
      rw [Hl.out j hlt] at hL
      have HG : Hid (Grew cs cs' j) := hgr
      clear hgr
      go_wp2_with (first
        | (at_builtin; refine wpList_app _ _ hrun rfl rfl rfl rfl rfl ?_; clear hrun)
        | (go_at_call 39; refine hL.mono ?_; rintro e w2 ⟨rfl, hR2⟩; obtain ⟨P2, hB2⟩ := hBs.turn hR2; obtain ⟨q, cp, w3, hrun, hM3, hg3, hat⟩ := app1 hB2.row ((o.c (j + 1) : Nat) : Int) hB2.bt.size (by omega); clear hR2))
      go_roundg (M - 1 - (j + 1))
      case measure => omega
      case rel =>
        have hnb : ∀ k, u10.ownBlock = some k → ¬ P2 k := hB2.off
        have ek : ∀ k, P2 k → w3.heap[k]? = w2.heap[k]? := fun k hk => hg3.block k (hB2.raw.lt k hk) (fun e => hnb k e.symm hk)
        refine ⟨j + 1, _, P2, by go_num, rfl, by omega, by omega, HG.out.tick g, hB2.raw.keep ek hg3.size, ?_, ?_, ?_, hB2.wider⟩
        · refine hM3.congr fun i hi => ?_
          unfold cat
          by_cases e : i < j + 1
          · rw [if_pos e]
          · rw [if_neg e, show i = j + 1 by omega]
        · intro k hk r
          simp only [Value.ownBlock, Option.some.injEq] at hk
          subst hk
          rcases hat with e | e
          · exact hnb _ e r
          · have := hB2.raw.lt _ r; omega
        · have hb := hB2.bt
          exact ⟨hg3.os.trans hb.os, hg3.tape.trans hb.tape, hg3.output.trans hb.output, Nat.le_trans hb.size hg3.size, fun k hk hp => (hg3.block k (Nat.lt_of_lt_of_le hk hb.size) (fun e => by have := (hB2.row.lt e.symm).1; omega)).trans (hb.block k hk hp)⟩
    · have hlt' : ¬ (j : Int) < (M : Int) - 1 := by omega
      obtain rfl : M = j + 1 := by omega
      go_wp2
      go_ret
      exact ⟨_, cs', P', rfl, hgr.mono (by omega), hBs⟩
end
end Go.Proofs.YtojblddfggoecaaGreat
