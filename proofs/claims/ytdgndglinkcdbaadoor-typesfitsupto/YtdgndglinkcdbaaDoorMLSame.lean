/- The law's own comparisons, where both sides tell the same. -/
import Derived.Test.YtdgndglinkcdbaaDoorMLMem
import Derived.Deep.LoopGhost
namespace Go.Proofs.YtdgndglinkcdbaaDoor
open Go.RowKit

theorem Sl.at_ {α : Type} {K : Kd α} {w : World} {S : Nat → Prop} {ao : Option Addr} {n cap : Nat} {xs : List α} (h : Sl K w S (.slice ao n cap) xs) {i : Nat} {c : α} (hc : xs[i]? = some c) :
    ∃ b o, ao = some ⟨b, o, none⟩ ∧ ∃ cs, K.R w S c cs ∧ ∀ j u, cs[j]? = some u → w.cell? ⟨b, o + (i * K.k + j), none⟩ = some u := by
  obtain ⟨ao2, cp, e, _, hh⟩ := h
  injection e with e _ _
  rcases hh with q | ⟨b, o, q1, q2, q3, q4⟩
  · rw [q] at hc; simp at hc
  · obtain ⟨cs, r1, r2⟩ := q4 i c hc
    exact ⟨b, o, e.trans q1, cs, r1, r2⟩

set_option maxHeartbeats 2000000 in
set_option maxRecDepth 20000 in
theorem SameInts_eq {Sa Sb : Nat → Prop} {va vb : Value} {xs : List Int} {w : World} (hA : Sl kI w Sa va xs) (hB : Sl kI w Sb vb xs) :
    Calls Tryd.prog 36 #[va, vb] w fun e w' => e = .returned (.bool true) ∧ ∃ m, w' = w.drewN m := by
  have hA2 := hA
  have hB2 := hB
  obtain ⟨aa, ca, rfl, hmx, -⟩ := hA2
  obtain ⟨ab, cb, rfl, -, -⟩ := hB2
  have HC : Hid (∀ i c, xs[i]? = some c → (∃ b o, aa = some ⟨b, o, none⟩ ∧ ∃ cs, kI.R w Sa c cs ∧ ∀ j u, cs[j]? = some u → w.cell? ⟨b, o + (i * 1 + j), none⟩ = some u) ∧ (∃ b o, ab = some ⟨b, o, none⟩ ∧ ∃ cs, kI.R w Sb c cs ∧ ∀ j u, cs[j]? = some u → w.cell? ⟨b, o + (i * 1 + j), none⟩ = some u)) := fun i c hc => ⟨hA.at_ hc, hB.at_ hc⟩
  clear hA hB
  unfold maxLen at hmx
  go_enter Tryd.func36, Tryd.ntmps36
  go_wp2
  go_loopg [5] (xs.length + 1) (fun kx s5 wr => ∃ i : Nat, s5 = .int .i64 i ∧ i ≤ xs.length ∧ xs.length - i ≤ kx ∧ Hid (∃ m, wr = w.drewN m))
  case atStart => exact ⟨0, rfl, by omega, by omega, 0, rfl⟩
  case round =>
    obtain ⟨i, rfl, hi, hk, HL⟩ := hrel
    by_cases hlt : i < xs.length
    · obtain ⟨c, hc⟩ : ∃ c, xs[i]? = some c := ⟨_, List.getElem?_eq_getElem hlt⟩
      obtain ⟨⟨ap, ao, rfl, cs1, r1, ha⟩, ⟨bp, bo, rfl, cs2, r2, hb⟩⟩ := HC.out i c hc
      obtain ⟨m, rfl⟩ := HL.out
      clear HL
      obtain rfl := r1
      obtain rfl := r2
      have a0 : w.cell? ⟨ap, ao + i, none⟩ = some (.int .i64 c) := by have := ha 0 _ rfl; rw [show ao + (i * 1 + 0) = ao + i by omega] at this; exact this
      have b0 : w.cell? ⟨bp, bo + i, none⟩ = some (.int .i64 c) := by have := hb 0 _ rfl; rw [show bo + (i * 1 + 0) = bo + i by omega] at this; exact this
      have hl2 : (i : Int) < (xs.length : Int) := by omega
      clear HC ha hb hc
      go_wp2_with (fail)
      go_quiet (fail)
      go_wp2
      go_roundg (xs.length - (i + 1))
      case measure => omega
      case rel => exact ⟨i + 1, by go_num, by omega, by omega, _, rfl⟩
    · have hn : i = xs.length := by omega
      subst hn
      have hl : ¬ ((xs.length : Nat) : Int) < ((xs.length : Nat) : Int) := by omega
      clear HC
      go_wp2
      go_ret
      exact ⟨rfl, HL.out⟩

end Go.Proofs.YtdgndglinkcdbaaDoor
