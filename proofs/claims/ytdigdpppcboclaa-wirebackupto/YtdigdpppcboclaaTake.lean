/- Reading a number: what wire's reader and the document's own answer, whatever the bytes and the place; that neither turns the world. -/
import Derived.Test.YtdigdpppcboclaaLeaf
namespace Go.Proofs.Ytdigdpppcboclaa
open Go.RowKit

theorem ret3 {a b c a' b' c' : Int} (h1 : a = a') (h2 : b = b') (h3 : c = c') : Ending.returned (.tuple #[.int .i64 a, .int .i64 b, .int .i64 c]) = .returned (.tuple #[.int .i64 a', .int .i64 b', .int .i64 c']) := by rw [h1, h2, h3]

/-- The bytes from place a on. -/
def from_ (s : ByteArray) (a : Nat) : List UInt8 := s.data.toList.drop a

theorem from_cons (s : ByteArray) (a : Nat) (h : a < s.size) : from_ s a = s[a] :: from_ s (a + 1) := by
  unfold from_
  rw [List.drop_eq_getElem_cons (by simpa using h)]
  rfl
theorem from_nil (s : ByteArray) (a : Nat) (h : s.size ≤ a) : from_ s a = [] := by
  unfold from_
  exact List.drop_of_length_le (by simpa using h)

/-- What is answered for what a reader found from place a on. -/
def nmOf (R : Nat × Nat × Int) : Int := zag R.1
def tlOf (a : Nat) (R : Nat × Nat × Int) : Int := if R.2.2 = 0 then (a : Int) + R.2.1 else 0
def cdOf (R : Nat × Nat × Int) : Int := R.2.2

theorem zag0 : zag 0 = 0 := rfl
theorem end_bad {s : ByteArray} {a k z : Nat} {R : Nat × Nat × Int} (h : rd (from_ s (a + k)) k z = R) (hlt : a + k < s.size) (hb : bad (s[a + k]).toNat k = true) : R = (0, 0, 201) := by
  rw [from_cons _ _ hlt, rd_bad hb] at h; exact h.symm
theorem end_cut {s : ByteArray} {a k z : Nat} {R : Nat × Nat × Int} (h : rd (from_ s (a + k)) k z = R) (hlt : ¬ a + k < s.size) : R = (0, 0, 200) := by
  rw [from_nil _ _ (by omega), rd_nil] at h; exact h.symm
theorem end_last {s : ByteArray} {a k z : Nat} {R : Nat × Nat × Int} (h : rd (from_ s (a + k)) k z = R) (hlt : a + k < s.size) (hb : bad (s[a + k]).toNat k = false) (hc : (s[a + k]).toNat < 128) : R = (z + (s[a + k]).toNat * 128 ^ k, k + 1, 0) := by
  rw [from_cons _ _ hlt, rd_last hb hc] at h; exact h.symm
theorem end_on {s : ByteArray} {a k z : Nat} {R : Nat × Nat × Int} (h : rd (from_ s (a + k)) k z = R) (hlt : a + k < s.size) (hb : bad (s[a + k]).toNat k = false) (hc : 128 ≤ (s[a + k]).toNat) : rd (from_ s (a + (k + 1))) (k + 1) (z + ((s[a + k]).toNat - 128) * 128 ^ k) = R := by
  rw [from_cons _ _ hlt, rd_on hb hc] at h; exact h

theorem word_eq {c k z : Nat} (hc : c < 256) (hk : k ≤ 4) (hz : z < 128 ^ k) (hb : bad c k = false) :
    bits BinOp.or IntKind.u32 (z : Int) (bits BinOp.andNot IntKind.u8 (c : Int) 128 % 4294967296 * 2 ^ (k * 7) % 4294967296) = ((z + c % 128 * 128 ^ k : Nat) : Int) ∧ z + c % 128 * 128 ^ k < 4294967296 := by
  have e0 : bits BinOp.andNot IntKind.u8 (c : Int) 128 = ((c % 128 : Nat) : Int) := by
    have := u8_andNot_nat c 128 hc (by omega)
    rw [show (255 - 128 : Nat) = 127 from rfl, nat_mask7] at this
    exact this
  have hb4 := (of_bad_false hb).2
  have key : ∀ K : Nat, 128 ^ k = K → (2 : Int) ^ (k * 7) = (K : Int) → K = 2 ^ (k * 7) → c % 128 * K < 4294967296 → z < K → c % 128 * K + K ≤ 4294967296 →
      bits BinOp.or IntKind.u32 (z : Int) (((c % 128 : Nat) : Int) % 4294967296 * 2 ^ (k * 7) % 4294967296) = ((z + c % 128 * K : Nat) : Int) ∧ z + c % 128 * K < 4294967296 := by
    intro K _ h2 h3 h4 h5 h6
    have e1 : ((c % 128 : Nat) : Int) % 4294967296 * 2 ^ (k * 7) % 4294967296 = ((c % 128 * K : Nat) : Int) := by
      have e2 : ((c % 128 : Nat) : Int) % 4294967296 = ((c % 128 : Nat) : Int) := by omega
      rw [h2, e2, ← Int.natCast_mul, Int.emod_eq_of_lt (by omega) (by omega)]
    rw [e1, u32_or_nat _ _ (by omega) h4, Nat.or_comm, nat_join (k * 7) _ _ (by rw [← h3]; exact Nat.mul_mod_left _ _) (by rw [← h3]; exact h5)]
    exact ⟨by rw [Nat.add_comm], by omega⟩
  rw [e0]
  rcases pow_le_4 hk with e | e | e | e | e <;> subst e
  · exact key 1 rfl rfl rfl (by omega) (by simpa using hz) (by omega)
  · exact key 128 rfl rfl rfl (by omega) hz (by omega)
  · exact key 16384 rfl rfl rfl (by omega) hz (by omega)
  · exact key 2097152 rfl rfl rfl (by omega) hz (by omega)
  · have := hb4 rfl
    exact key 268435456 rfl rfl rfl (by omega) hz (by omega)

theorem step_lt {c k z : Nat} (hz : z < 128 ^ k) : z + c % 128 * 128 ^ k < 128 ^ (k + 1) := by
  have h1 : (c % 128 + 1) * 128 ^ k ≤ 128 * 128 ^ k := Nat.mul_le_mul_right _ (by omega)
  rw [Nat.add_mul, Nat.one_mul] at h1
  rw [Nat.pow_succ, Nat.mul_comm (128 ^ k)]
  omega

theorem unfold_of (x : Int) (z : Nat) (w : World) (hx : x = (z : Int)) (h : z < 4294967296) :
    Calls Try.prog 25 #[.int .u32 x] w fun e w' => e = .returned (.int .i32 (zag z)) ∧ w' = w := by
  rw [hx]; exact unfold_any z w h

set_option maxHeartbeats 1000000 in
set_option maxRecDepth 20000 in
theorem take_R (R : Nat × Nat × Int) (s : ByteArray) (a : Nat) (w : World) (hs : s.size ≤ maxLen) (ha : a ≤ s.size) (HR0 : Hid (rd (from_ s a) 0 0 = R)) :
    Calls Try.prog 17 #[.string s, .int .i64 a] w fun e w' => e = .returned (.tuple #[.int .i64 (nmOf R), .int .i64 (tlOf a R), .int .i64 (cdOf R)]) ∧ w' = w := by
  unfold maxLen at hs
  go_enter Try.func17, Try.ntmps17
  go_wp2
  go_loop [7, 8] (fun x i => ∃ k z : Nat, k ≤ 4 ∧ a + k ≤ s.size ∧ i = .int .i64 k ∧ x = .int .u32 z ∧ z < 128 ^ k ∧ Hid (rd (from_ s (a + k)) k z = R)) (fun _ i => 5 - (intOf i).toNat)
  case atStart => exact ⟨0, 0, by omega, by omega, rfl, rfl, by decide, HR0⟩
  case round =>
    obtain ⟨k, z, hk, hak, rfl, rfl, hz, HR⟩ := hrel
    have hz28 : z < 268435456 := by
      rcases pow_le_4 hk with e | e | e | e | e <;> subst e <;> simp only [Nat.reducePow] at hz <;> omega
    have HZ : Hid (z < 128 ^ k) := hz
    clear hz
    by_cases hlt : a + k < s.size
    · by_cases hb : bad (s[a + k]).toNat k = true
      · go_wp2_with (first | (go_at_call 24; refine (misfits_any _ _ _ hk).mono ?_; rintro e w' ⟨rfl, rfl⟩))
        go_ret3
        have e := end_bad HR.out hlt hb
        subst e
        exact ⟨rfl, rfl⟩
      · have hb' : bad (s[a + k]).toNat k = false := by simpa using hb
        clear hb
        have hW := word_eq (UInt8.toNat_lt (s[a + k])) hk HZ.out hb'
        have HW : Hid _ := hW.1
        have hWl := hW.2
        clear hW
        by_cases hc : (s[a + k]).toNat < 128
        · have hr := zag_range hWl
          have HL : Hid _ := hWl
          clear hWl
          go_wp2_with (first | (go_at_call 24; refine (misfits_any _ _ _ hk).mono ?_; rintro e w' ⟨rfl, rfl⟩) | (go_at_call 25; refine (unfold_of _ _ _ HW.out HL.out).mono ?_; rintro e w' ⟨rfl, rfl⟩))
          go_ret3
          have e := end_last HR.out hlt hb' hc
          subst e
          refine ⟨ret3 ?_ ?_ rfl, rfl⟩
          · show _ = zag _
            rw [Nat.mod_eq_of_lt hc]
          · show _ = (if (0 : Int) = 0 then ((a : Int) + ((k + 1 : Nat) : Int)) else 0)
            rw [if_pos rfl]; omega
        · have hk3 : k ≤ 3 := by
            rcases Nat.lt_or_ge k 4 with e | e
            · omega
            · have := (of_bad_false hb').2 (by omega); omega
          have H2 := end_on HR.out hlt hb' (by omega)
          have H3 : Hid _ := H2
          clear H2
          have HS : Hid _ := step_lt (c := (s[a + k]).toNat) HZ.out
          have HC : Hid ((s[a + k]).toNat % 128 = (s[a + k]).toNat - 128) := by
            have := UInt8.toNat_lt (s[a + k]); show _ = _; omega
          have HL : Hid _ := hWl
          clear hWl
          go_wp2_with (first | (go_at_call 24; refine (misfits_any _ _ _ hk).mono ?_; rintro e w' ⟨rfl, rfl⟩))
          go_round
          case rel => exact ⟨k + 1, _, by omega, by omega, by go_num, by rw [HW.out], HS.out, by rw [HC.out]; exact H3⟩
          case measure => simp [intOf]; omega
    · go_wp2
      go_ret3
      have e := end_cut HR.out hlt
      subst e
      exact ⟨rfl, rfl⟩
end Go.Proofs.Ytdigdpppcboclaa
