/- A table of monitors: the waiters' row: Add, Take. -/
import Derived.Test.YtdkbdmlodngneaaMNTake
import Derived.Deep.Upon
namespace Go.Proofs.Ytdkbdmlodngneaa
open Go.RowKit

def appV (ats : Array TypeId) (ty : TypeId) (args : Array Value) : Sem Value := Builtin.append_ ats ty args
theorem app_V (ats : Array TypeId) (ty : TypeId) (args : Array Value) : Builtin.append_ ats ty args = appV ats ty args := rfl
section
variable {B : Nat} {w w' : World} {s bs mo mb : Nat} {wv : Value} {M : Mt} {c : Nat}
/-- The waiters' row has turned, and is put back. -/
theorem MnC.items (h : MnC B w s bs mo mb wv M c) {w1 : World} {v : Value} {W : List (Int × Int)} {c' : Nat} (hg : w.grownBy w1 wv.ownBlock) (hR : Rs w1 B 53 2 v (W.map encV)) (hv : v.ownBlock = wv.ownBlock ∨ ∃ j, v.ownBlock = some j ∧ w.heap.size ≤ j) (hl : W.length ≤ c') (h1 : c ≤ c') (h2 : c' ≤ 1000000) :
    MnC B (w1.setCell ⟨s, 2, none⟩ v) s bs mo mb v { M with wt := W } c' ∧ Below B w (w1.setCell ⟨s, 2, none⟩ v) := by
  obtain ⟨⟨a1, a2, a3⟩, ⟨b1, b2⟩, c1⟩ := h.apart
  have hlt := h.lt
  have h' := h.mono h1 h2
  have e : ∀ k, k < w.heap.size → (∀ j, wv.ownBlock = some j → j ≠ k) → w1.heap[k]? = w.heap[k]? := fun k hk q => hg.block k hk (fun e => q k e.symm rfl)
  have es := e s hlt.1 fun j hj => (c1 j hj).1
  have hvs : ∀ j, v.ownBlock = some j → j ≠ s := fun j hj => by
    rcases hv with q | ⟨j2, q, ql⟩
    · exact (c1 j (q ▸ hj)).1
    · rw [q] at hj; injection hj with hj; omega
  refine ⟨⟨h.hB, ?_, ?_, h'.ho.of_block ((heap_put _ _ (fun q => a2 q.symm)).trans (e mo hlt.2.2.1 fun j hj => (c1 j hj).2.2.1)), h'.hb.of_block ((heap_put _ _ (fun q => a3 q.symm)).trans (e mb hlt.2.2.2 fun j hj => (c1 j hj).2.2.2)), h.hne, hR.of_block fun j hj => heap_put _ _ (hvs j hj), h.hN, h2, hl⟩, ?_⟩
  · rw [set_blk (es.trans h.hs) 2 v]; rfl
  · obtain ⟨cs, q1, q2⟩ := h.hst
    exact ⟨cs, ((heap_put _ _ (fun q => a1 q.symm)).trans (e bs hlt.2.1 fun j hj => (c1 j hj).2.1)).trans q1, q2⟩
  · refine below_set ⟨hg.os, hg.tape, hg.output, by have := hg.size; have := h.Bw; omega, fun k hk => e k (by have := h.Bw; omega) fun j hj => by have := (h.hw.lt hj).1; omega⟩ h.hB.1
attribute [local go_sem ↓] app_V
set_option maxRecDepth 20000 in
theorem nadd_ok (h : MnC B w s bs mo mb wv M c) (x : Int × Int) {a : Nat} (ha : w.heap[a]? = some (.cells #[.int .i64 x.1, .int .i64 x.2] 53 (0, 0))) (hc : c < 1000000) :
    Calls Try.prog 18 #[.pointer (some ⟨s, 2, none⟩), .slice (some ⟨a, 0, none⟩) 1 1] w fun e w' => e = .returned (.tuple #[]) ∧ ∃ v, MnC B w' s bs mo mb v { M with wt := M.wt ++ [x] } (c + 1) ∧ Below B w w' := by
  obtain ⟨i0, hi0, hz0, hz1, hz2⟩ := info_parts infoVz
  have hwl := h.wl
  obtain ⟨v, w1, hrun, hR, hg, hv⟩ := h.hw.app (P := Try.prog) (ty := 42) Try.underlying42 hi0 hz0 hz1 hz2 rfl (by decide) (encV x) rfl (fun u hu => by simp [encV] at hu; rcases hu with rfl | rfl <;> rfl) h.Bw (by rw [List.length_map]; unfold maxLen; omega) (by rw [List.length_map]; omega) ha (Below.refl _ w)
  have hm : M.wt.map encV ++ [encV x] = (M.wt ++ [x]).map encV := by simp
  rw [hm] at hR
  obtain ⟨ao, cp, rfl⟩ := hR.form
  have HR : Hid (MnC B (w1.setCell ⟨s, 2, none⟩ (.slice ao ((M.wt ++ [x]).map encV).length cp)) s bs mo mb (.slice ao ((M.wt ++ [x]).map encV).length cp) { M with wt := M.wt ++ [x] } (c + 1) ∧ Below B w (w1.setCell ⟨s, 2, none⟩ (.slice ao ((M.wt ++ [x]).map encV).length cp))) := h.items hg hR hv (by simp; omega) (Nat.le_succ c) (by omega)
  obtain ⟨-, -, k2, -⟩ := h.cells
  have hs1 : w1.heap[s]? = w.heap[s]? := hg.block s h.lt.1 (fun e => (h.apart.2.2 s e.symm).1 rfl)
  have k3 : w1.cell? ⟨s, 2, none⟩ = some wv := by rw [cell_of1 (w := w) hs1]; exact k2
  have kf : w1.frozen? ⟨s, 2, none⟩ = false := frz (hs1.trans h.hs) 2
  have hrun : (appV #[42, 42] 42 #[wv, .slice (some ⟨a, 0, none⟩) 1 1]).run Try.prog w = .ok (.slice ao ((M.wt ++ [x]).map encV).length cp) w1 := hrun
  clear h hR hg hv hm hs1 ha
  generalize ((M.wt ++ [x]).map encV).length = L at *
  go_enter Try.func18, Try.ntmps18
  go_wp2
  go_end0
  exact ⟨rfl, _, HR.out⟩
end
end Go.Proofs.Ytdkbdmlodngneaa
