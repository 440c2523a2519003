/- A slice of ints and a slice of steps, as arguments are read. -/
import Derived.Test.YtibnipockmnmhaaGreatMAFrame
import Derived.Test.YtibnipockmnmhaaGreatMS5
import Derived.SizedLaws
namespace Go.Proofs.YtibnipockmnmhaaGreat
open Go.ChangeShapes Go.WideShapes Go.ChangeAt Go.RowKit Go.Deep

theorem cells3 : Tryz.prog.cellsOf 3 = 1 := by kernel_rfl
theorem bytes3 : Tryz.prog.bytesOf 3 = 8 := by kernel_rfl

theorem block_lt {w : World} {a : Addr} {v : Value} (h : w.cell? a = some v) : a.block < w.heap.size := by
  apply Nat.lt_of_not_le
  intro hn
  have e : w.heap[a.block]? = none := Array.getElem?_eq_none hn
  simp only [World.cell?, e] at h
  cases h

theorem open_ints {H : Type} {enc : TypeId × Value → H} {W : World} {ao : Option Addr} {len cap : Nat} {d : DataW H} {ps : List MemPlace} (h : DataW.Trod enc Tryz.prog W 0 (fun _ => true) true 39 (.slice ao len cap) d ps) :
    (∃ f, Ints W (.slice ao len cap) len f) ∧ (len = 0 ∨ ∃ elems spare : List (DataW H), d = .slice elems spare ∧ elems.length = len) := by
  obtain ⟨n, hn⟩ := h
  rcases open_slice1 Tryz.underlying39 cells3 hn with ⟨hc, _⟩ | ⟨a, len', cap', m, k, V, D, Pl, hc, _, hl, hm, hmm, hx, hV⟩
  · simp [Value.cells] at hc
    exact ⟨⟨fun _ => 0, ao, cap, rfl, Or.inl hc.2.1⟩, Or.inl hc.2.1⟩
  · simp [Value.cells] at hc
    obtain ⟨rfl, rfl, rfl⟩ := hc
    simp only [if_true] at hmm
    subst hmm
    refine ⟨?_, Or.inr ⟨_, _, (Prod.mk.inj hx).1, by simp⟩⟩
    rcases Nat.eq_zero_or_pos len with h0 | hpos
    · exact ⟨fun _ => 0, _, _, rfl, Or.inl h0⟩
    have each : ∀ i, i < m → ∃ z : Int, W.cell? (a.add i) = some (.int .i64 z) := by
      intro i hi
      obtain ⟨h1, h2⟩ := hV i hi
      obtain ⟨z, hz, _⟩ := DataW.trod_int Tryz.underlying3 h2
      refine ⟨z, ?_⟩
      rw [h1]
      simpa using hz
    obtain ⟨f, hf⟩ := choose_lt each
    obtain ⟨B, o, spot⟩ := a
    have f0 := hf 0 (by omega)
    have hspot : spot = none := by simpa [Addr.add] using World.cell?_spot f0
    subst hspot
    have hB := block_lt f0
    refine ⟨f, _, _, rfl, Or.inr ⟨B, o, rfl, by simpa [Addr.add] using hB, fun i hi => ?_⟩⟩
    have := hf i (by omega)
    rw [add_plain] at this
    exact this

theorem sized_ints {H : Type} {ts : List TypeId} {ds : List (DataW H)} {j len : Nat} {d : DataW H} (hsz : (DataW.weightsEach Tryz.prog ts ds).all (· ≤ reachBytes) = true) (ht : ts[j]? = some 39) (hd : ds[j]? = some d)
    (h : len = 0 ∨ ∃ elems spare : List (DataW H), d = .slice elems spare ∧ elems.length = len) : len ≤ 17592186043904 := by
  rcases h with rfl | ⟨elems, spare, rfl, rfl⟩
  · exact Nat.zero_le _
  · have := sized_slice hsz ht hd Tryz.underlying39
    rw [bytes3] at this
    simp only [reachBytes] at this
    omega

end Go.Proofs.YtibnipockmnmhaaGreat
