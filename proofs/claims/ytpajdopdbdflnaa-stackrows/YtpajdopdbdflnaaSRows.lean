/- What was pushed last is popped first: the walk of StackRows. -/
import Derived.Test.YtpajdopdbdflnaaSInts
namespace Go.Proofs.Ytpajdopdbdflnaa
open Go.RowKit

/-- What StackRows has pushed when i rounds are over. -/
def stk (k : Int) : Nat → List Int
  | 0 => []
  | i + 1 => (((7 * (i : Int)).tmod k) + 1) :: stk k i
theorem stk_mem {k : Int} {i : Nat} {x : Int} (h : x ∈ stk k i) : ∃ j, j < i ∧ x = (7 * (j : Int)).tmod k + 1 := by
  induction i with
  | zero => simp [stk] at h
  | succ i ih =>
    rcases List.mem_cons.1 h with e | e
    · exact ⟨i, by omega, e⟩
    · obtain ⟨j, hj, e⟩ := ih e
      exact ⟨j, by omega, e⟩
theorem sevens : ∀ r : Fin 16, ∀ i : Fin 16, ∀ j : Fin 16, j < i → i ≤ r → ((r : Nat) + 1) % 7 ≠ 0 → (7 * (i : Nat)) % ((r : Nat) + 1) ≠ (7 * (j : Nat)) % ((r : Nat) + 1) := by decide +kernel
theorem tmod_nat (i r : Nat) : (7 * (i : Int)).tmod (1 + (r : Int)) = (((7 * i) % (r + 1) : Nat) : Int) := by
  rw [Int.tmod_eq_emod_of_nonneg (by omega)]
  have : (1 + (r : Int)) = ((r + 1 : Nat) : Int) := by omega
  rw [this]; norm_cast
theorem may_row {r i : Nat} (hr : r < 16) (hi : i ≤ r) (h7 : (r + 1) % 7 ≠ 0) : May (r + 1) (fun _ => .idle) (stk (1 + (r : Int)) i) ((7 * (i : Int)).tmod (1 + (r : Int))) := by
  have hlt := Nat.mod_lt (7 * i) (show 0 < r + 1 by omega)
  refine ⟨by rw [tmod_nat]; omega, by rw [tmod_nat]; omega, link_idle _ (by rw [tmod_nat]; omega), fun hm => ?_⟩
  obtain ⟨j, hj, e⟩ := stk_mem hm
  rw [tmod_nat, tmod_nat] at e
  have e' : 7 * i % (r + 1) = 7 * j % (r + 1) := by omega
  exact sevens ⟨r, hr⟩ ⟨i, by omega⟩ ⟨j, by omega⟩ hj hi h7 e'

set_option maxRecDepth 20000 in
set_option maxHeartbeats 4000000 in
theorem rows_seven (many : Int) (vp : Value) (w : World) (r : Nat) (hr : bits BinOp.and .i64 many 15 = (r : Int)) (hr16 : r < 16) (h7 : (r + 1) % 7 = 0) :
    Calls Try.prog 6 #[.int .i64 many, vp] w fun e w' => e = .returned (.bool true) ∧ Below w.heap.size w w' := by
  have d7 : (((1 + (r : Int)).tmod 7) != 0) = false := by
    rw [Int.tmod_eq_emod_of_nonneg (by omega)]
    have : (1 + (r : Int)) % 7 = 0 := by omega
    simp [this]
  have d8 : (((1 + (r : Int)).tmod 7) == 0) = true := by
    rw [Int.tmod_eq_emod_of_nonneg (by omega)]
    have : (1 + (r : Int)) % 7 = 0 := by omega
    simp [this]
  have d9 : ((1 + (r : Int)) % 7 == 0) = true := by
    have : (1 + (r : Int)) % 7 = 0 := by omega
    simp [this]
  have d6 : ((1 + (r : Int)) % 7 != 0) = false := by
    have : (1 + (r : Int)) % 7 = 0 := by omega
    simp [this]
  go_enter Try.func6, Try.ntmps6
  go_wp2_with (first
    | (go_at_call 13; refine (awake_any _).mono ?_; rintro e w0 ⟨rfl, hb0⟩)
    | (go_at_call 8; refine (begun_ok 4 5 (r + 1) _ _ _ _ rfl rfl (by omega) (by omega) (by omega) (by omega) (by omega) (by omega)).mono ?_; rintro e w1 ⟨s, b, P, rfl, hG1, hb1', hP1'⟩; have hb1 := hb0.trans (hb1'.mono hb0.size); have hP1 := fun j hj => Nat.le_trans hb0.size (hP1' j hj)))
  go_loopw [9] (fun v9 wr => ∃ (i : Nat) (P' : Nat → Prop) (cs : Nat → Int) (T : Int) (xs : List Int), i ≤ r + 1 ∧ v9 = .int .i64 i ∧ Good wr P' s b 4 (r + 1) cs (fun _ => .idle) T xs ∧ T ≤ i ∧ Below w.heap.size w wr ∧ (∀ j, P' j → w.heap.size ≤ j)) (fun v9 _ => r + 1 - (intOf v9).toNat)
  case atStart => exact ⟨0, P, _, 0, [], by omega, rfl, hG1, by omega, hb1, hP1⟩
  case round =>
    obtain ⟨i, P', cs, T, xs, hi, rfl, hG, hT, hb, hP⟩ := hrel
    clear hG1 hb1 hP1 hb1' hP1' hb0
    by_cases hlt : i < r + 1
    · have hag : bits BinOp.and .i64 (i : Int) 3 = ((i % 4 : Nat) : Int) := by rw [mask3]; omega
      have hi4 : i % 4 < 4 := Nat.mod_lt _ (by omega)
      by_cases hm : May (r + 1) (fun _ => .idle) xs ((7 * (i : Int)).tmod (1 + (r : Int)))
      · have hal := alone_push hG (by omega) _ _ (i % 4) rfl hi4 rfl hm
        clear hm
        go_wp2_with (go_at_call 18; refine hal.mono ?_; rintro e w2 ⟨i2, rfl, P2, cs2, T2, hG2, hB2, hW2, hT2⟩)
        go_roundw
        case rel => exact ⟨i + 1, P2, cs2, T2, _, by omega, by go_num, hG2, by omega, Bt.under hb hb.size hP hB2, hW2.from_ hP hb.size⟩
        case measure => simp [intOf]; omega
      · have hal := alone_value hG (by omega) _ _ (i % 4) rfl hi4 rfl hm
        clear hm
        go_wp2_with (go_at_call 18; refine hal.mono ?_; rintro e w2 ⟨rfl, P2, cs2, T2, hG2, hB2, hW2, hT2⟩)
        go_roundw
        case rel => exact ⟨i + 1, P2, cs2, T2, _, by omega, by go_num, hG2, by omega, Bt.under hb hb.size hP hB2, hW2.from_ hP hb.size⟩
        case measure => simp [intOf]; omega
    · go_wp2
      go_ret
      exact ⟨rfl, hb⟩
set_option maxRecDepth 20000 in
set_option maxHeartbeats 4000000 in
theorem rows_main (many : Int) (ao : Option Addr) (n cp : Nat) (f : Nat → Int) (w : World) (r : Nat) (hr : bits BinOp.and .i64 many 15 = (r : Int)) (hr16 : r < 16) (h7 : (r + 1) % 7 ≠ 0)
    (hp : n = 0 ∨ ∃ B o : Nat, ao = some ⟨B, o, none⟩ ∧ B < w.heap.size ∧ ∀ i, i < n → w.cell? ⟨B, o + i, none⟩ = some (.int .i64 (f i))) :
    Calls Try.prog 6 #[.int .i64 many, .slice ao n cp] w fun e w' => e = .returned (.bool true) ∧ Below w.heap.size w w' := by
  have d7 : (((1 + (r : Int)).tmod 7) != 0) = true := by
    rw [Int.tmod_eq_emod_of_nonneg (by omega)]
    have : ¬ (1 + (r : Int)) % 7 = 0 := by omega
    simp [this]
  have d8 : (((1 + (r : Int)).tmod 7) == 0) = false := by
    rw [Int.tmod_eq_emod_of_nonneg (by omega)]
    have : ¬ (1 + (r : Int)) % 7 = 0 := by omega
    simp [this]
  have d9 : ((1 + (r : Int)) % 7 == 0) = false := by
    have : ¬ (1 + (r : Int)) % 7 = 0 := by omega
    simp [this]
  have d6 : ((1 + (r : Int)) % 7 != 0) = true := by
    have : ¬ (1 + (r : Int)) % 7 = 0 := by omega
    simp [this]
  have Hp : Hid (n = 0 ∨ ∃ B o : Nat, ao = some ⟨B, o, none⟩ ∧ B < w.heap.size ∧ ∀ i, i < n → w.cell? ⟨B, o + i, none⟩ = some (.int .i64 (f i))) := hp
  clear hp
  go_enter Try.func6, Try.ntmps6
  go_wp2_with (first
    | (go_at_call 13; refine (awake_any _).mono ?_; rintro e w0 ⟨rfl, hb0⟩)
    | (go_at_call 8; refine (begun_ok 4 5 (r + 1) _ _ _ _ rfl rfl (by omega) (by omega) (by omega) (by omega) (by omega) (by omega)).mono ?_; rintro e w1 ⟨s, b, P, rfl, hG1, hb1', hP1'⟩; have hb1 := hb0.trans (hb1'.mono hb0.size); have hP1 := fun j hj => Nat.le_trans hb0.size (hP1' j hj)))
  go_loopw [9] (fun v9 wr => ∃ (i : Nat) (P' : Nat → Prop) (cs : Nat → Int) (T : Int), i ≤ r + 1 ∧ v9 = .int .i64 i ∧ Good wr P' s b 4 (r + 1) cs (fun _ => .idle) T (stk (1 + (r : Int)) i) ∧ T ≤ i ∧ Below w.heap.size w wr ∧ (∀ j, P' j → w.heap.size ≤ j)) (fun v9 _ => r + 1 - (intOf v9).toNat)
  case atStart => exact ⟨0, P, _, 0, by omega, rfl, hG1, by omega, hb1, hP1⟩
  case round =>
    obtain ⟨i, P', cs, T, hi, rfl, hG, hT, hb, hP⟩ := hrel
    clear hG1 hb1 hP1 hb1' hP1' hb0
    by_cases hlt : i < r + 1
    · have hag : bits BinOp.and .i64 (i : Int) 3 = ((i % 4 : Nat) : Int) := by rw [mask3]; omega
      have hi4 : i % 4 < 4 := Nat.mod_lt _ (by omega)
      have hal := alone_push hG (by omega) _ _ (i % 4) rfl hi4 rfl (may_row hr16 (by omega) h7)
      go_wp2_with (go_at_call 18; refine hal.mono ?_; rintro e w2 ⟨i2, rfl, P2, cs2, T2, hG2, hB2, hW2, hT2⟩)
      go_roundw
      case rel => exact ⟨i + 1, P2, cs2, T2, by omega, by go_num, hG2, by omega, Bt.under hb hb.size hP hB2, hW2.from_ hP hb.size⟩
      case measure => simp [intOf]; omega
    · have Hi : Hid (i = r + 1) := (show i = r + 1 by omega)
      go_wp2
      clear hi hlt
      go_loopw [14] (fun v14 wr => ∃ (i : Nat) (P' : Nat → Prop) (cs : Nat → Int) (T : Int), i ≤ r + 1 ∧ v14 = .int .i64 ((i : Int) - 1) ∧ Good wr P' s b 4 (r + 1) cs (fun _ => .idle) T (stk (1 + (r : Int)) i) ∧ T + i ≤ 40 ∧ Below w.heap.size w wr ∧ (∀ j, P' j → w.heap.size ≤ j)) (fun v14 _ => (intOf v14 + 1).toNat)
      case atStart => exact ⟨r + 1, P', cs, T, by omega, by go_num, Hi.out ▸ hG, by have := Hi.out; omega, hb, hP⟩
      case round =>
        clear hG hb hP hT
        obtain ⟨i', P', cs, T, hi, rfl, hG, hT, hb, hP⟩ := hrel
        by_cases h0 : i' = 0
        · subst h0
          have hbe := g_begin_agent hG 4 1 0 (by omega)
          have hit := g_its hG (by omega)
          go_wp2_with (first
            | (go_at_call 20; refine hbe.mono ?_; rintro e w4 ⟨rfl, rfl⟩)
            | (go_at_call 11; refine hit.mono ?_; rintro e w5 ⟨ao5, c5, rfl, hb5, _⟩)
            | (go_at_call 17; refine (num_any _ _).mono ?_; rintro e w6 ⟨rfl, rfl⟩))
          go_ret
          exact ⟨rfl, hb.trans (hb5.mono hb.size)⟩
        · obtain ⟨j, rfl⟩ : ∃ j, i' = j + 1 := ⟨i' - 1, by omega⟩
          have e0 : ((j + 1 : Nat) : Int) - 1 = (j : Int) := by omega
          rw [e0]
          clear h0 e0
          have hne : (((7 * (j : Int)).tmod (1 + (r : Int)) + 1 - 1) != (7 * (j : Int)).tmod (1 + (r : Int))) = false := by simp
          have key : ∀ (x : Int) (q : Nat), x = q → q < 4 → ∀ u, u = wr → Calls Try.prog 18 #[.pointer (some ⟨s, 0, none⟩), .int .i64 x, .int .i64 1, .int .i64 0] u fun e w' => ∃ i2, e = .returned (.tuple #[.int .i64 ((7 * (j : Int)).tmod (1 + (r : Int)) + 1 - 1), .bool true, .int .i64 i2, .bool true]) ∧ Left wr P' s b 4 (r + 1) (fun _ => .idle) T (stk (1 + (r : Int)) j) w' := by
            rintro x q hx hq u rfl
            refine (alone_pop hG (by omega) x 0 q hx hq rfl).mono ?_
            rintro e w' ⟨i2, ⟨q4, _⟩ | ⟨x4, r4, q4, rfl, hL⟩⟩
            · cases q4
            · obtain ⟨rfl, rfl⟩ := List.cons.inj q4
              exact ⟨i2, rfl, hL⟩
          have Key : Hid _ := key
          clear key
          by_cases hn : j < n
          · obtain ⟨B, o, rfl, hB, hc⟩ := Hp.out.resolve_left (by omega)
            have hcj : wr.cell? ⟨B, o + j, none⟩ = some (.int .i64 (f j)) := (World.cell?_of_block (a := ⟨B, o + j, none⟩) (hb.block B hB)).trans (hc j hn)
            obtain ⟨q, hq, hq4⟩ := masked3 (f j)
            clear hc
            go_wp2_with (go_at_call 18; refine (Key.out _ q rfl hq4 _ rfl).mono ?_; rintro e w2 ⟨i2, rfl, P2, cs2, T2, hG2, hB2, hW2, hT2⟩)
            go_roundw
            case rel => exact ⟨j, P2, cs2, T2, by omega, by go_num, hG2, by omega, Bt.under hb hb.size hP hB2, hW2.from_ hP hb.size⟩
            case measure => simp [intOf]
          · go_wp2_with (go_at_call 18; refine (Key.out _ 0 rfl (by omega) _ rfl).mono ?_; rintro e w2 ⟨i2, rfl, P2, cs2, T2, hG2, hB2, hW2, hT2⟩)
            go_roundw
            case rel => exact ⟨j, P2, cs2, T2, by omega, by go_num, hG2, by omega, Bt.under hb hb.size hP hB2, hW2.from_ hP hb.size⟩
            case measure => simp [intOf]
theorem rows_walk (many : Int) (vp : Value) (n : Nat) (f : Nat → Int) (w : World) (hp : Ints w vp n f) :
    Calls Try.prog 6 #[.int .i64 many, vp] w fun e w' => e = .returned (.bool true) ∧ Below w.heap.size w w' := by
  obtain ⟨r, hr, hr16⟩ := masked15 many
  by_cases h7 : (r + 1) % 7 = 0
  · exact rows_seven many vp w r hr hr16 h7
  · obtain ⟨ao, cp, rfl, hp⟩ := hp
    exact rows_main many ao n cp f w r hr hr16 h7 hp
end Go.Proofs.Ytpajdopdbdflnaa
