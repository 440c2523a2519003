/- What the law looks up at its end: steps as counted, words as they must be: true wherever the law's own rows hold what the arena's hold. -/
import Derived.Test.YtlngjgjhmhpipaaASwaps
namespace Go.Proofs.Ytlngjgjhmhpipaa
open Go.RowKit

theorem steps_at {w : World} {b bw bs W G : Nat} {ws cs : Nat → Int} (h : Ar w b bw bs W G ws cs) (x : Int) (g : Nat) (hx : x = g) (hg : g < G) :
    Calls Try.prog 13 #[.pointer (some ⟨b, 0, none⟩), .int .i64 x] w fun e w' => e = .returned (.int .i64 (cs g)) ∧ w' = w := by
  subst hx; exact steps_in h g hg

set_option maxHeartbeats 1000000 in
theorem holds_any {w : World} {b bw bs W G p q : Nat} {ws cs : Nat → Int} (h : Ar w b bw bs W G ws cs) (hp : w.rowIs p 3 W (fun i => .int .i64 (ws i))) (hq : w.rowIs q 3 G (fun i => .int .i64 (cs i)))
    (p1 : p ≠ bw) (p2 : p ≠ bs) (hG : 1 ≤ G) (hG' : G ≤ 12) (hW' : W ≤ 65536) :
    Calls Try.prog 11 #[.pointer (some ⟨b, 0, none⟩), .slice (some ⟨p, 0, none⟩) W W, .slice (some ⟨q, 0, none⟩) G G] w fun e w' => e = .returned (.bool true) ∧ But bw bs w w' := by
  go_enter Try.func11, Try.ntmps11
  go_wp2
  go_loop [7] (fun i => ∃ k : Nat, k ≤ G + 2 ∧ i = .int .i64 ((k : Int) - 1)) (fun i => G + 2 - (intOf i + 1).toNat)
  case atStart => exact ⟨0, by omega, rfl⟩
  case round =>
    obtain ⟨k, hk, rfl⟩ := hrel
    by_cases hlt : k < G + 2
    · by_cases h0 : k = 0
      · subst h0
        have hs := steps_out h (-1) (by omega)
        go_wp2_with (go_at_call 13; refine hs.mono ?_; rintro e w1 ⟨rfl, rfl⟩)
        go_round
        case rel => exact ⟨1, by omega, rfl⟩
        case measure => simp [intOf]
      · obtain ⟨g, rfl⟩ : ∃ g, k = g + 1 := ⟨k - 1, by omega⟩
        have e0 : ((g + 1 : Nat) : Int) - 1 = (g : Int) := by omega
        rw [e0]
        clear h0 e0
        by_cases hg : g < G
        · have hc := hq.cell hg
          go_wp2_with (go_at_call 13; refine (steps_at h _ g (by omega) hg).mono ?_; rintro e w1 ⟨rfl, rfl⟩)
          go_round
          case rel => exact ⟨g + 2, by omega, by go_num⟩
          case measure => simp [intOf]; omega
        · have hs := steps_out h g (by omega)
          have hn : decide ((g : Int) < (G : Int)) = false := by simp; omega
          go_wp2_with (go_at_call 13; refine hs.mono ?_; rintro e w1 ⟨rfl, rfl⟩)
          go_round
          case rel => exact ⟨g + 2, by omega, by go_num⟩
          case measure => simp [intOf]; omega
    · have e1 : k = G + 2 := by omega
      subst e1
      clear hlt hk
      go_wp2
      go_loopw [9] (fun i wr => ∃ (k : Nat) (cs' : Nat → Int), k ≤ W ∧ i = .int .i64 k ∧ Ar wr b bw bs W G ws cs' ∧ But bw bs w wr) (fun i _ => W - (intOf i).toNat)
      case atStart => exact ⟨0, cs, by omega, rfl, h, But.refl _ _ _⟩
      case round =>
        obtain ⟨a, cs', ha, rfl, hA, hB⟩ := hrel
        by_cases hlt : a < W
        · go_wp2_with (first | (go_at_call 8; refine (load_at hA _ _ 0 a (ws a) (by omega) (by omega) rfl (by omega) hlt).mono ?_; rintro e w2 ⟨rfl, ⟨cs2, hA2⟩, hB2⟩; have hc := (hp.of_block ((hB.trans hB2).block p hp.lt p1 p2)).cell hlt) | (go_at_call 6; refine (num_any _ _).mono ?_; rintro e w3 ⟨rfl, rfl⟩))
          go_roundw
          case rel => exact ⟨a + 1, cs2, by omega, by go_num, hA2, hB.trans hB2⟩
          case measure => simp [intOf]; omega
        · obtain rfl : a = W := by omega
          go_wp2_with (go_at_call 14; refine (words_any hA).mono ?_; rintro e w3 ⟨rfl, rfl⟩)
          go_ret
          exact ⟨rfl, hB⟩
end Go.Proofs.Ytlngjgjhmhpipaa
