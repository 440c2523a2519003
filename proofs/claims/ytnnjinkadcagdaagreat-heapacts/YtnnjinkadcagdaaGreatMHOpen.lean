/- A slice of acts, as an argument is read: nil, or six numbers behind each other for each act. -/
import Derived.Test.YtnnjinkadcagdaaGreatMAFrame
namespace Go.Proofs.YtnnjinkadcagdaaGreat
open Go.ChangeShapes Go.WideShapes Go.ChangeAt Go.RowKit Go.Deep

theorem cells31 : Tryz.prog.cellsOf 35 = 6 := by kernel_rfl
theorem cells3 : Tryz.prog.cellsOf 3 = 1 := by kernel_rfl

theorem block_lt {w : World} {a : Addr} {v : Value} (h : w.cell? a = some v) : a.block < w.heap.size := by
  apply Nat.lt_of_not_le
  intro hn
  have e : w.heap[a.block]? = none := Array.getElem?_eq_none hn
  simp only [World.cell?, e] at h
  cases h

theorem open_steps {H : Type} {enc : TypeId × Value → H} {W : World} {ao : Option Addr} {len cap : Nat} {d : DataW H} {ps : List MemPlace} (h : DataW.Trod enc Tryz.prog W 0 (fun _ => true) true 22 (.slice ao len cap) d ps) :
    len ≤ maxLen ∧ (len = 0 ∨ ∃ (B o : Nat) (F : Nat → Nat → Int), ao = some ⟨B, o, none⟩ ∧ B < W.heap.size ∧ ∀ i j, i < len → j < 6 → W.cell? ⟨B, o + i * 6 + j, none⟩ = some (.int .i64 (F i j)) ∧ (Lit.int .i64 (F i j)).wf = true) := by
  obtain ⟨n, hn⟩ := h
  rcases open_slice Tryz.underlying22 hn with ⟨hc, _⟩ | ⟨a, len', cap', m, k, D, Pl, hc, _, hl, hm, hmm, _, hx⟩
  · simp [Value.cells] at hc
    exact ⟨by rw [hc.2.1]; exact Nat.zero_le _, Or.inl hc.2.1⟩
  · simp [Value.cells] at hc
    obtain ⟨rfl, rfl, rfl⟩ := hc
    simp only [if_true] at hmm
    subst hmm
    refine ⟨Nat.le_trans hl hm, ?_⟩
    rcases Nat.eq_zero_or_pos len with h0 | hpos
    · exact Or.inl h0
    right
    have each : ∀ i, i < m → ∃ f : Nat → Int, ∀ j, j < 6 → W.cell? (a.add (i * 6 + j)) = some (.int .i64 (f j)) ∧ (Lit.int .i64 (f j)).wf = true := by
      intro i hi
      obtain ⟨cs', h1, h2⟩ := hx i hi
      rw [cells31] at h1
      obtain ⟨_, hlen, hcell⟩ := World.cells?_some h1
      obtain ⟨xs, k', _, _, _, hxl, hf⟩ := DataW.trod_struct Tryz.underlying35 h2
      have hxl6 : xs.length = 6 := hxl
      have one : ∀ j, j < 6 → ∃ z : Int, W.cell? (a.add (i * 6 + j)) = some (.int .i64 z) ∧ (Lit.int .i64 z).wf = true := by
        intro j hj
        have hc := hcell j hj
        rw [add_add] at hc
        have hg : ∀ f : Field, f.type = 3 → f.offset = j → DataW.trod enc Tryz.prog W 0 (fun _ => true) true k' f.type ((cs'.drop f.offset).take (Tryz.prog.cellsOf f.type)) = xs[j]? → ∃ z : Int, W.cell? (a.add (i * 6 + j)) = some (.int .i64 z) ∧ (Lit.int .i64 z).wf = true := by
          intro f e1 e2 e3
          rw [e1, e2, cells3, List.getElem?_eq_getElem (show j < xs.length by omega)] at e3
          have hd : (cs'.drop j).take 1 = [cs'[j]'(by omega)] := by
            rw [List.drop_eq_getElem_cons (by omega)]; rfl
          rw [hd] at e3
          obtain ⟨z, hz, _, hwf⟩ := DataW.trod_int Tryz.underlying3 e3
          refine ⟨z, ?_, hwf⟩
          rw [hc, List.getElem?_eq_getElem (by omega)]
          simpa using hz
        match j, hj with
        | 0, _ => exact hg _ rfl rfl (hf 0 _ rfl)
        | 1, _ => exact hg _ rfl rfl (hf 1 _ rfl)
        | 2, _ => exact hg _ rfl rfl (hf 2 _ rfl)
        | 3, _ => exact hg _ rfl rfl (hf 3 _ rfl)
        | 4, _ => exact hg _ rfl rfl (hf 4 _ rfl)
        | 5, _ => exact hg _ rfl rfl (hf 5 _ rfl)
      obtain ⟨f, hf'⟩ := choose_lt one
      exact ⟨f, hf'⟩
    obtain ⟨F, hF⟩ := choose_lt each
    obtain ⟨B, o, spot⟩ := a
    have f0 := (hF 0 (by omega) 0 (by omega)).1
    have hspot : spot = none := by simpa [Addr.add] using World.cell?_spot f0
    subst hspot
    have hB := block_lt f0
    refine ⟨B, o, F, rfl, by simpa [Addr.add] using hB, fun i j hi hj => ?_⟩
    obtain ⟨h1, h2⟩ := hF i (by omega) j hj
    rw [add_plain, ← Nat.add_assoc] at h1
    exact ⟨h1, h2⟩
end Go.Proofs.YtnnjinkadcagdaaGreat
