/- The document's own Get, Put, GetText, PutText: what each answers, whatever it is asked. -/
import Derived.Test.YtajghalljkphiaaGreatMWText
namespace Go.Proofs.YtajghalljkphiaaGreat
open Go.RowKit

set_option maxHeartbeats 400000 in
theorem ref_no (s : ByteArray) (a : Int) (w : World) (h : a < 0 ∨ (s.size : Int) < a) :
    Calls Tryz.prog 39 #[.string s, .int .i64 a] w fun e w' => e = .returned (.tuple #[.int .i64 0, .int .i64 0, .int .i64 200]) ∧ w' = w := by
  rcases h with h | h
  · go_enter Tryz.func39, Tryz.ntmps39
    go_wp2
    go_ret3
    exact ⟨rfl, rfl⟩
  · have h' : 0 ≤ a := by omega
    go_enter Tryz.func39, Tryz.ntmps39
    go_wp2
    go_ret3
    exact ⟨rfl, rfl⟩

theorem pw_le {k P : Nat} (hk : k ≤ 4) (h : P = 128 ^ k) : 1 ≤ P ∧ P ≤ 268435456 := by
  rcases pow_le_4 hk with e | e | e | e | e <;> subst e <;> simp only [Nat.reducePow] at h <;> omega

theorem mid {c : Nat} {P : Int} (h0 : 0 ≤ P) (h : P ≤ 268435456) : 0 ≤ (c : Int) % 128 * P ∧ (c : Int) % 128 * P ≤ 34091302912 := by
  constructor
  · exact Int.mul_nonneg (by omega) h0
  · have h1 : (c : Int) % 128 * P ≤ 127 * P := Int.mul_le_mul_of_nonneg_right (by omega) h0
    omega

theorem Z_nat {c zn k : Nat} {z P : Int} (hz : z = (zn : Int)) (hP : P = ((128 ^ k : Nat) : Int)) : z + (c : Int) % 128 * P = ((zn + c % 128 * 128 ^ k : Nat) : Int) := by
  rw [hz, hP, Int.natCast_add, Int.natCast_mul]; rfl

theorem Z_lt {c zn k : Nat} {z P : Int} (hk : k ≤ 4) (hz : z = (zn : Int)) (hP : P = ((128 ^ k : Nat) : Int)) (hl : z < P) (hc : c < 256) (hb : bad c k = false) : z + (c : Int) % 128 * P < 4294967296 := by
  have := (word_eq (z := zn) hc hk (by omega) hb).2
  rw [Z_nat hz hP]
  omega

theorem Z_ge {c zn k : Nat} {z P : Int} (hk : k = 4) (hz : z = (zn : Int)) (hP : P = ((128 ^ k : Nat) : Int)) (h1 : 15 < c) (h2 : c < 128) : 4294967296 ≤ z + (c : Int) % 128 * P := by
  rw [Z_nat hz hP]
  subst hk
  have h3 : 16 * 268435456 ≤ c % 128 * 268435456 := Nat.mul_le_mul_right _ (by omega)
  have h4 : (128 : Nat) ^ 4 = 268435456 := rfl
  rw [h4]
  omega

theorem pow_le_int {k : Nat} {P : Int} (hk : k ≤ 4) (h : P = ((128 ^ k : Nat) : Int)) : 1 ≤ P ∧ P ≤ 268435456 := by
  have := pw_le hk rfl
  omega

theorem z_step {c : Nat} {z P : Int} (h : z < P) (hP : 1 ≤ P) : z + (c : Int) % 128 * P < P * 128 := by
  have h1 : (c : Int) % 128 * P ≤ 127 * P := Int.mul_le_mul_of_nonneg_right (by omega) (by omega)
  omega

theorem zag_odd {n : Nat} {Z : Int} (h : Z = (n : Int)) (hp : Z % 2 = 1) : -(Z / 2) - 1 = zag n := by
  subst h; unfold zag; rw [if_neg (by omega)]; omega
theorem zag_even {n : Nat} {Z : Int} (h : Z = (n : Int)) (hp : ¬ Z % 2 = 1) : Z / 2 = zag n := by
  subst h; unfold zag; rw [if_pos (by omega)]; omega

theorem tl_eq {a k : Nat} (n : Nat) : (a : Int) + (k : Int) + 1 = tlOf a (n, k + 1, 0) := by
  unfold tlOf; simp only [if_pos]; omega

set_option maxHeartbeats 2000000 in
set_option maxRecDepth 20000 in
theorem ref_R (R : Nat × Nat × Int) (s : ByteArray) (a : Nat) (w : World) (hs : s.size ≤ maxLen) (ha : a ≤ s.size) (HR0 : Hid (rd (from_ s a) 0 0 = R)) :
    Calls Tryz.prog 39 #[.string s, .int .i64 a] w fun e w' => e = .returned (.tuple #[.int .i64 (nmOf R), .int .i64 (tlOf a R), .int .i64 (cdOf R)]) ∧ w' = w := by
  unfold maxLen at hs
  have d1 : decide ((a : Int) < 0) = false := by simp
  have d2 : decide ((s.size : Int) < (a : Int)) = false := by simp; omega
  have d3 : decide (s.size < a) = false := by simp; omega
  go_enter Tryz.func39, Tryz.ntmps39
  go_wp2
  go_loop [7, 8, 9] (fun x p i => ∃ (k zn : Nat) (z P : Int), k ≤ 4 ∧ a + k ≤ s.size ∧ i = .int .i64 k ∧ x = .int .i64 z ∧ p = .int .i64 P ∧ z < P ∧ Hid (z = (zn : Int)) ∧ Hid (P = ((128 ^ k : Nat) : Int)) ∧ Hid (rd (from_ s (a + k)) k zn = R)) (fun _ _ i => 5 - (intOf i).toNat)
  case atStart => exact ⟨0, 0, 0, 1, by omega, by omega, rfl, rfl, rfl, by omega, rfl, rfl, HR0⟩
  case round =>
    obtain ⟨k, zn, z, P, hk, hak, rfl, rfl, rfl, hz, HZ, HP, HR⟩ := hrel
    obtain ⟨hP1, hP2⟩ := pow_le_int hk HP.out
    have hz0 : 0 ≤ z := by have := HZ.out; omega
    have h5 : ((k : Int) == 5) = false := by simp; omega
    by_cases hlt : a + k < s.size
    · have hc256 := UInt8.toNat_lt (s[a + k])
      obtain ⟨m1, m2⟩ := mid (c := (s[a + k]).toNat) (P := P) (by omega) hP2
      by_cases hb : bad (s[a + k]).toNat k = true
      · have e := end_bad HR.out hlt hb
        subst e
        have HB : Hid _ := hb
        clear hb
        by_cases h0 : 0 < k ∧ (s[a + k]).toNat = 0
        · obtain ⟨hk0, hc0⟩ := h0
          have h1 : ((s[a + k]).toNat : Int) < 1 := by omega
          have h2 : z + ((s[a + k]).toNat : Int) % 128 * P < 4294967296 := by rw [hc0]; simp; omega
          clear hc0
          go_wp2
          go_ret3
          exact ⟨rfl, rfl⟩
        · have HB2 : k = 4 ∧ 15 < (s[a + k]).toNat := by
            have hx := HB.out
            unfold bad at hx
            simp at hx
            omega
          obtain ⟨hk4, hc15⟩ := HB2
          have HK : Hid (k = 4) := hk4
          have hk4' : ((k : Int) == 4) = true := by simp; omega
          have hc0 : (((s[a + k]).toNat : Int) == 0) = false := by simp; omega
          clear h0 hk4
          by_cases hc : 128 ≤ (s[a + k]).toNat
          · by_cases h2 : z + ((s[a + k]).toNat : Int) % 128 * P < 4294967296
            · go_wp2
              go_ret3
              exact ⟨rfl, rfl⟩
            · go_wp2
              go_ret3
              exact ⟨rfl, rfl⟩
          · have h2 := Z_ge (c := (s[a + k]).toNat) HK.out HZ.out HP.out hc15 (by omega)
            go_wp2
            go_ret3
            exact ⟨rfl, rfl⟩
      · have hb' : bad (s[a + k]).toNat k = false := by simpa using hb
        have HB : Hid _ := hb'
        have h2 := Z_lt hk HZ.out HP.out hz hc256 hb'
        have h0 : ¬ (0 < k ∧ (s[a + k]).toNat = 0) := fun h => (of_bad_false hb').1 h.1 h.2
        have h4 : k = 4 → (s[a + k]).toNat < 128 := fun h => by have := (of_bad_false hb').2 h; omega
        clear hb hb'
        have HV : Hid _ := Z_nat (c := (s[a + k]).toNat) HZ.out HP.out
        by_cases hc : (s[a + k]).toNat < 128
        · have HQ : Hid _ := end_last HR.out hlt HB.out hc
          by_cases c0 : (s[a + k]).toNat = 0
          · have hk0 : ¬ 0 < k := fun h => h0 ⟨h, c0⟩
            have h1 : ((s[a + k]).toNat : Int) < 1 := by omega
            have hz1 : z < 1 := by
              have := HP.out
              have e : k = 0 := by omega
              subst e
              simp at this
              omega
            have HC : Hid ((s[a + k]).toNat = 0) := c0
            clear c0 h0 h4
            go_wp2
            go_ret3
            have e := HQ.out
            subst e
            refine ⟨ret3 ?_ (tl_eq _) rfl, rfl⟩
            show _ = zag _
            have e1 := HZ.out
            have e2 : zn = 0 := by omega
            rw [HC.out, e2]
            show z / 2 = zag (0 + 0 * 128 ^ k)
            rw [Nat.zero_mul]
            show z / 2 = 0
            omega
          · have hc0 : (((s[a + k]).toNat : Int) == 0) = false := by simp; omega
            clear c0 h0
            by_cases k4 : k = 4
            · have hk4 : ((k : Int) == 4) = true := by simp; omega
              clear k4 h4
              by_cases hp : (z + ((s[a + k]).toNat : Int) % 128 * P) % 2 = 1
              · have hp' : ((z + ((s[a + k]).toNat : Int) % 128 * P) % 2 == 1) = true := by simp [hp]
                have HH : Hid _ := hp
                clear hp
                go_wp2
                go_ret3
                have e := HQ.out
                subst e
                refine ⟨ret3 ?_ (tl_eq _) rfl, rfl⟩
                show _ = zag _
                rw [zag_odd HV.out HH.out, Nat.mod_eq_of_lt hc]
              · have hp' : ((z + ((s[a + k]).toNat : Int) % 128 * P) % 2 == 1) = false := by simp [hp]
                have HH : Hid _ := hp
                clear hp
                go_wp2
                go_ret3
                have e := HQ.out
                subst e
                refine ⟨ret3 ?_ (tl_eq _) rfl, rfl⟩
                show _ = zag _
                rw [zag_even HV.out HH.out, Nat.mod_eq_of_lt hc]
            · have hk4 : ((k : Int) == 4) = false := by simp; omega
              clear k4 h4
              by_cases hp : (z + ((s[a + k]).toNat : Int) % 128 * P) % 2 = 1
              · have hp' : ((z + ((s[a + k]).toNat : Int) % 128 * P) % 2 == 1) = true := by simp [hp]
                have HH : Hid _ := hp
                clear hp
                go_wp2
                go_ret3
                have e := HQ.out
                subst e
                refine ⟨ret3 ?_ (tl_eq _) rfl, rfl⟩
                show _ = zag _
                rw [zag_odd HV.out HH.out, Nat.mod_eq_of_lt hc]
              · have hp' : ((z + ((s[a + k]).toNat : Int) % 128 * P) % 2 == 1) = false := by simp [hp]
                have HH : Hid _ := hp
                clear hp
                go_wp2
                go_ret3
                have e := HQ.out
                subst e
                refine ⟨ret3 ?_ (tl_eq _) rfl, rfl⟩
                show _ = zag _
                rw [zag_even HV.out HH.out, Nat.mod_eq_of_lt hc]
        · have hk3 : k ≤ 3 := by
            rcases Nat.lt_or_ge k 4 with e | e
            · omega
            · have := h4 (by omega); omega
          have hc0 : (((s[a + k]).toNat : Int) == 0) = false := by simp; omega
          have hk4 : ((k : Int) == 4) = false := by simp; omega
          have HQ : Hid _ := end_on HR.out hlt HB.out (by omega)
          have HM : Hid ((s[a + k]).toNat % 128 = (s[a + k]).toNat - 128) := by show _ = _; omega
          clear h0 h4
          go_wp2
          go_round
          case rel => exact ⟨k + 1, zn + ((s[a + k]).toNat - 128) * 128 ^ k, _, _, by omega, by omega, by go_num, rfl, rfl, z_step hz hP1, by rw [HM.out] at HV; exact HV, by rw [Nat.pow_succ, Int.natCast_mul, HP.out]; rfl, HQ⟩
          case measure => simp [intOf]; omega
    · go_wp2
      go_ret3
      have e := end_cut HR.out hlt
      subst e
      exact ⟨rfl, rfl⟩

/-- The document's Get. -/
theorem ref_any (s : ByteArray) (a : Int) (w : World) (hs : s.size ≤ maxLen) :
    Calls Tryz.prog 39 #[.string s, .int .i64 a] w fun e w' => e = .returned (.tuple #[.int .i64 (gN s a), .int .i64 (gT s a), .int .i64 (gC s a)]) ∧ w' = w := by
  by_cases h : a < 0 ∨ (s.size : Int) < a
  · obtain ⟨e1, e2, e3⟩ := g_no h
    rw [e1, e2, e3]
    exact ref_no s a w h
  · obtain ⟨n, rfl⟩ : ∃ n : Nat, a = n := ⟨a.toNat, by omega⟩
    obtain ⟨e1, e2, e3⟩ := g_yes (s := s) (a := n) (by omega)
    rw [e1, e2, e3]
    exact ref_R _ s n w hs (by omega) rfl

set_option maxHeartbeats 400000 in
theorem number_no (x : Int) (w : World) (h : x < -2147483648 ∨ 2147483647 < x) :
    Calls Tryz.prog 54 #[.int .i64 x] w fun e w' => e = .returned (.bool false) ∧ w' = w := by
  rcases h with h | h
  · go_enter Tryz.func54, Tryz.ntmps54
    go_wp2
    go_ret
    exact ⟨rfl, rfl⟩
  · have h' : -2147483648 ≤ x := by omega
    have h2 : decide (x ≤ 2147483647) = false := by simp; omega
    go_enter Tryz.func54, Tryz.ntmps54
    go_wp2
    go_ret
    exact ⟨rfl, rfl⟩

set_option maxHeartbeats 400000 in
theorem number_yes (x : Int) (w : World) (h : -2147483648 ≤ x) (h' : x ≤ 2147483647) :
    Calls Tryz.prog 54 #[.int .i64 x] w fun e w' => e = .returned (.bool true) ∧ w' = w := by
  go_enter Tryz.func54, Tryz.ntmps54
  go_wp2
  go_ret
  exact ⟨rfl, rfl⟩

set_option maxHeartbeats 400000 in
theorem refput_no (x : Int) (w : World) (h : x < -2147483648 ∨ 2147483647 < x) :
    Calls Tryz.prog 55 #[.int .i64 x] w fun e w' => e = .returned (.string ⟨#[]⟩) ∧ Below w.heap.size w w' := by
  go_enter Tryz.func55, Tryz.ntmps55
  go_wp2_with (go_at_call 54; refine (number_no _ _ h).mono ?_; rintro e w' ⟨rfl, rfl⟩)
  go_ret
  exact ⟨rfl, Below.refl _ _⟩

theorem prt_int {z : Nat} : ((z : Int) % 128 + 128) = ((prt z).toNat : Int) := by rw [prt_nat]; omega

theorem zig_pos {x : Int} (h : 0 ≤ x) : Value.int .i64 (2 * x) = Value.int .i64 (zig x : Nat) := by
  have : (zig x : Int) = 2 * x := by unfold zig; rw [if_pos h]; omega
  rw [this]
theorem zig_neg {x : Int} (h : x < 0) : Value.int .i64 (-2 * x - 1) = Value.int .i64 (zig x : Nat) := by
  have : (zig x : Int) = -2 * x - 1 := by unfold zig; rw [if_neg (by omega)]; omega
  rw [this]

set_option maxHeartbeats 1000000 in
set_option maxRecDepth 20000 in
theorem refput_yes (x : Int) (w : World) (h : -2147483648 ≤ x) (h' : x ≤ 2147483647) :
    Calls Tryz.prog 55 #[.int .i64 x] w fun e w' => e = .returned (.string ⟨(parts (zig x)).toArray⟩) ∧ Below w.heap.size w w' := by
  obtain ⟨i0, hi, hz0, hz1, hz2⟩ := info_parts info5
  have hz4 := zig_lt h h'
  by_cases hx : 0 ≤ x
  all_goals
    go_enter Tryz.func55, Tryz.ntmps55
    go_wp2_with (go_at_call 54; refine (number_yes _ _ h h').mono ?_; rintro e w1 ⟨rfl, hw⟩; rw [hw]; clear hw)
    go_loopw [3, 4] (fun y v wr => ∃ (acc : List UInt8) (z : Nat), y = .int .i64 z ∧ z < 4294967296 ∧ Gath w (zig x) acc z v wr) (fun y _ _ => (intOf y).toNat)
    case atStart => exact ⟨[], zig x, by first | exact zig_pos hx | exact zig_neg hx | exact zig_neg (by omega), hz4, rfl, World.ownsRow_nil _ _ _ _, Below.refl _ _⟩
    case round =>
      obtain ⟨acc, z, rfl, hz, HG⟩ := hrel
      have hlen := HG.len hz4
      by_cases hc : 128 ≤ z
      · go_wp2_with (at_builtin; refine wpList_append_lies _ rfl _ _ 77 rfl w.heap.size 5 i0 (.int .u8 0) 1 1 Tryz.underlying77 hi hz0 hz1 hz2 rfl (by decide) _ acc.length _ rfl (HG.2.1.alloc _) ⟨wr.heap.size, 0, none⟩ 1 1 [.int .u8 _] rfl rfl (news1 _ _) (one1 _) (by decide) (by unfold maxLen; omega) (by omega) (by have := HG.2.2.size; simp; omega) _ rfl ?_; intro g cap w1 hown hgrow hat hlt)
        rw [prt_int] at hown
        go_roundw
        case rel => exact ⟨acc ++ [prt z], z / 128, by go_num, by omega, HG.step hc hown hgrow⟩
        case measure => simp [intOf]; omega
      · go_wp2_with (at_builtin; refine wpList_append_lies _ rfl _ _ 77 rfl w.heap.size 5 i0 (.int .u8 0) 1 1 Tryz.underlying77 hi hz0 hz1 hz2 rfl (by decide) _ acc.length _ rfl (HG.2.1.alloc _) ⟨wr.heap.size, 0, none⟩ 1 1 [.int .u8 _] rfl rfl (news1 _ _) (one1 _) (by decide) (by unfold maxLen; omega) (by omega) (by have := HG.2.2.size; simp; omega) _ rfl ?_; intro g cap w1 hown hgrow hat hlt; have hl := HG.last hc (by rw [lst_nat (by omega)]) hown hgrow; have hcv := hl.1; have HB : Hid _ := hl.2; clear hl)
        go_ret
        exact ⟨rfl, HB.out⟩

/-- The document's Put. -/
theorem refput_any (x : Int) (w : World) : Calls Tryz.prog 55 #[.int .i64 x] w fun e w' => e = .returned (.string (putB x)) ∧ Below w.heap.size w w' := by
  cases h : inR x
  · rw [putB_no h]; exact refput_no x w (inR_not h)
  · rw [putB_yes h]; obtain ⟨h1, h2⟩ := inR_iff.1 h; exact refput_yes x w h1 h2


theorem refget_g {w0 : World} (s : ByteArray) (a : Int) (w : World) (hs : s.size ≤ maxLen) (hg : Gr w0 w) :
    Calls Tryz.prog 39 #[.string s, .int .i64 a] w fun e w' => e = .returned (.tuple #[.int .i64 (gN s a), .int .i64 (gT s a), .int .i64 (gC s a)]) ∧ Gr w0 w' :=
  (ref_any s a w hs).mono fun _ _ h => ⟨h.1, by rw [h.2]; exact hg⟩
theorem refput_g {w0 : World} (x : Int) (w : World) (hg : Gr w0 w) :
    Calls Tryz.prog 55 #[.int .i64 x] w fun e w' => e = .returned (.string (putB x)) ∧ Gr w0 w' :=
  (refput_any x w).mono fun _ _ h => ⟨h.1, hg.on h.2⟩
set_option maxHeartbeats 1000000 in
set_option maxRecDepth 20000 in
/-- The document's GetText. -/
theorem reftext_any {w0 : World} (s : ByteArray) (a most : Int) (w : World) (hs : s.size ≤ maxLen) (hg : Gr w0 w) :
    Calls Tryz.prog 65 #[.string s, .int .i64 a, .int .i64 most] w fun e w' => e = .returned (.tuple #[.string (tS s a most), .int .i64 (tT s a most), .int .i64 (tC s a most)]) ∧ Gr w0 w' := by
  have hs' := hs
  unfold maxLen at hs'
  by_cases h : gC s a = 0
  · obtain ⟨_, _, b1, b2, b3, b4⟩ := g_ok h
    have H : Hid _ := h
    have hc : (gC s a != 0) = false := by simp [h]
    by_cases h1 : gN s a < 0 ∨ most < gN s a
    · obtain ⟨e1, e2, e3⟩ := t_long h h1
      rw [e1, e2, e3]
      clear h e1 e2 e3
      rcases h1 with h1 | h1
      · go_enter Tryz.func65, Tryz.ntmps65
        go_wp2_with (go_at_call 39; refine (refget_g _ _ _ hs hg).mono ?_; clear hg; rintro e w1 ⟨rfl, hg⟩)
        go_ret3
        exact ⟨rfl, hg⟩
      · by_cases h2 : gN s a < 0
        · go_enter Tryz.func65, Tryz.ntmps65
          go_wp2_with (go_at_call 39; refine (refget_g _ _ _ hs hg).mono ?_; clear hg; rintro e w1 ⟨rfl, hg⟩)
          go_ret3
          exact ⟨rfl, hg⟩
        · go_enter Tryz.func65, Tryz.ntmps65
          go_wp2_with (go_at_call 39; refine (refget_g _ _ _ hs hg).mono ?_; clear hg; rintro e w1 ⟨rfl, hg⟩)
          go_ret3
          exact ⟨rfl, hg⟩
    · have p1 : 0 ≤ gN s a := by omega
      have p2 : gN s a ≤ most := by omega
      by_cases h2 : (s.size : Int) - gT s a < gN s a
      · obtain ⟨e1, e2, e3⟩ := t_cut h h1 h2
        rw [e1, e2, e3]
        clear h h1 e1 e2 e3
        go_enter Tryz.func65, Tryz.ntmps65
        go_wp2_with (go_at_call 39; refine (refget_g _ _ _ hs hg).mono ?_; clear hg; rintro e w1 ⟨rfl, hg⟩)
        go_ret3
        exact ⟨rfl, hg⟩
      · obtain ⟨e1, e2, e3⟩ := t_ok h h1 h2
        rw [e1, e2, e3]
        have p3 : gN s a ≤ (s.size : Int) - gT s a := by omega
        clear h h1 h2 e1 e2 e3
        go_enter Tryz.func65, Tryz.ntmps65
        go_wp2_with (go_at_call 39; refine (refget_g _ _ _ hs hg).mono ?_; clear hg; rintro e w1 ⟨rfl, hg⟩)
        go_ret3
        exact ⟨ret_txt rfl rfl rfl, hg⟩
  · obtain ⟨e1, e2, e3⟩ := t_err (most := most) h
    have hc : (gC s a != 0) = true := by simp [h]
    rw [e1, e2, e3]
    clear h e1 e2 e3
    go_enter Tryz.func65, Tryz.ntmps65
    go_wp2_with (go_at_call 39; refine (refget_g _ _ _ hs hg).mono ?_; clear hg; rintro e w1 ⟨rfl, hg⟩)
    go_ret3
    exact ⟨rfl, hg⟩

set_option maxHeartbeats 400000 in
theorem refputtext_any {w0 : World} (s : ByteArray) (w : World) (hs : s.size ≤ maxLen) (hg : Gr w0 w) :
    Calls Tryz.prog 75 #[.string s] w fun e w' => e = .returned (.string (txtB s)) ∧ Gr w0 w' := by
  have hadd := fun W => run_string_add_sum (P := Tryz.prog) W (putB s.size) s (put_sum s hs)
  go_enter Tryz.func75, Tryz.ntmps75
  go_wp2_with (go_at_call 55; refine (refput_g _ _ hg).mono ?_; clear hg; rintro e w1 ⟨rfl, hg⟩)
  go_ret
  exact ⟨rfl, hg⟩
end Go.Proofs.YtajghalljkphiaaGreat
