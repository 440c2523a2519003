/- The walk of the law SchedTurns: whatever it is called with it returns true, and of what was there nothing turns. -/
import Derived.Test.YtlbemkmhkjllpaaDead
namespace Go.Proofs.Ytlbemkmhkjllpaa
open Go.RowKit Go.Conc

/-- How many of the first n numbers leave the rest j by K. -/
def cnt (K j : Nat) : Nat → Nat
  | 0 => 0
  | n + 1 => cnt K j n + if n % K = j then 1 else 0
theorem cnt_part (K j R : Nat) : ∀ i, i ≤ K → cnt K j (K * R + i) = cnt K j (K * R) + if j < i then 1 else 0 := by
  intro i
  induction i with
  | zero => intro _; simp
  | succ i ih =>
    intro hi
    have h1 : (K * R + i) % K = i := by rw [Nat.mul_add_mod, Nat.mod_eq_of_lt (by omega)]
    show cnt K j (K * R + i) + (if (K * R + i) % K = j then 1 else 0) = _
    rw [ih (by omega), h1]
    by_cases h : i = j
    · subst h; simp
    · by_cases h2 : j < i
      · simp [h, h2, show j < i + 1 by omega]
      · simp [h, h2, show ¬ j < i + 1 by omega]
theorem cnt_full (K j : Nat) (hj : j < K) : ∀ R, cnt K j (K * R) = R := by
  intro R
  induction R with
  | zero => simp [cnt]
  | succ R ih => rw [Nat.mul_succ, cnt_part K j R K (Nat.le_refl _), ih]; simp [hj]
theorem cnt_le (K j : Nat) : ∀ n, cnt K j n ≤ n := by
  intro n
  induction n with
  | zero => simp [cnt]
  | succ n ih => show cnt K j n + _ ≤ n + 1; split <;> omega

theorem plc_shift (K c k : Nat) (hK : 1 ≤ K) : plc K ((k : Int) - ((K * c : Nat) : Int)) = k % K := by
  have h := plc_int K ((k : Int) - ((K * c : Nat) : Int)) hK
  rw [show (k : Int) - ((K * c : Nat) : Int) = (k : Int) + (K : Int) * (-(c : Int)) by rw [Int.mul_neg, Int.natCast_mul]; rfl, Int.add_mul_emod_self_left] at h
  have h2 : ((k : Int) % (K : Int)) = ((k % K : Nat) : Int) := rfl
  rw [show (k : Int) - ((K * c : Nat) : Int) = (k : Int) + (K : Int) * (-(c : Int)) by rw [Int.mul_neg, Int.natCast_mul]; rfl]
  omega

/-- Behind n picks of agents by turns: the agent B is blocked. -/
structure Turn (K B : Nat) (cs : Nat → Int) (n : Nat) : Prop where
  st : ∀ j, cs (j * 2) = if j = B then 1 else 0
  pk : ∀ j, cs (j * 2 + 1) = if j = B then 0 else (cnt K j n : Int)
theorem Turn.ready {K B : Nat} {cs : Nat → Int} {n : Nat} (h : Turn K B cs n) (hg : n % K ≠ B) : Turn K B (upd cs (n % K * 2 + 1) ((cnt K (n % K) n + 1 : Nat) : Int)) (n + 1) := by
  refine ⟨fun j => by rw [upd_odd]; exact h.st j, fun j => ?_⟩
  by_cases e : j = n % K
  · subst e; rw [upd_at, if_neg hg]; simp [cnt]
  · rw [upd_else _ _ (by omega), h.pk j]; simp [cnt, show ¬ n % K = j from fun q => e q.symm]
theorem Turn.skip {K B : Nat} {cs : Nat → Int} {n : Nat} (h : Turn K B cs n) (hg : n % K = B) : Turn K B cs (n + 1) := by
  refine ⟨h.st, fun j => ?_⟩
  rw [h.pk j]
  by_cases e : j = B
  · simp [e]
  · simp [cnt, e, show ¬ n % K = j by omega]
theorem Turn.pos {K B : Nat} {cs : Nat → Int} {n : Nat} (h : Turn K B cs n) (i : Nat) : 0 ≤ cs (i * 2 + 1) := by rw [h.pk]; split <;> omega
theorem Turn.total {K B R : Nat} {cs : Nat → Int} (h : Turn K B cs (K * R)) : ∀ i, i ≤ K → total cs i + (if B < i then (R : Int) else 0) = ((i * R : Nat) : Int) := by
  intro i
  induction i with
  | zero => intro _; simp [Go.Proofs.Ytlbemkmhkjllpaa.total]
  | succ i ih =>
    intro hi
    have h1 := ih (by omega)
    have h2 := h.pk i
    rw [cnt_full K i (by omega)] at h2
    have h3 : (i + 1) * R = i * R + R := Nat.succ_mul i R
    show Go.Proofs.Ytlbemkmhkjllpaa.total cs i + cs (i * 2 + 1) + _ = _
    rw [h3, h2]
    by_cases e : i = B
    · subst e; simp at h1 ⊢; omega
    · by_cases e2 : B < i
      · simp [e, e2, show B < i + 1 by omega] at h1 ⊢; omega
      · simp [e, e2, show ¬ B < i + 1 by omega] at h1 ⊢; omega
theorem turn_start (K B : Nat) : Turn K B (upd (fun _ => 0) (B * 2) 1) 0 := by
  refine ⟨fun j => ?_, fun j => ?_⟩
  · by_cases e : j = B
    · subst e; rw [upd_at]; simp
    · rw [upd_else _ _ (by omega)]; simp [e]
  · rw [upd_even]; simp [cnt]

theorem turn_block (m : Nat) (z : Int) (hm : m < 8) : ∃ B : Nat, wrap64 ((IntKind.u64.wrap z).tmod (2 + (m : Int))) = B ∧ B < m + 2 := by
  have h0 : 0 ≤ IntKind.u64.wrap z := by rw [IntKind.wrap_u64]; omega
  generalize IntKind.u64.wrap z = q at h0 ⊢
  rw [Int.tmod_eq_emod_of_nonneg h0]
  have h1 := Int.emod_nonneg q (show (2 + (m : Int)) ≠ 0 by omega)
  have h2 := Int.emod_lt_of_pos q (show 0 < (2 + (m : Int)) by omega)
  exact ⟨(q % (2 + (m : Int))).toNat, by rw [IntWalk.wrap64_in _ (by omega)]; omega, by omega⟩

theorem new_at (x : Int) (G N M : Nat) (v1 v2 : Value) (f g : Nat → Int) (w0 w : World) (hx : x = G) (hG : 1 ≤ G) (hG' : G ≤ 12) (hN : N ≤ 35184372088832) (hM : M ≤ 35184372088832) (hw : Below w0.heap.size w0 w) (h1 : Ints w v1 N f) (h2 : Ints w v2 M g) :
    Calls Try.prog 8 #[.int .i64 x, v1, v2] w fun e w' => ∃ b ba bp bi, e = .returned (.tuple #[.pointer (some ⟨b, 0, none⟩), .int .i64 0]) ∧ Run w0 w' b ba bp bi G N M (fun _ => 0) (fun i => plc G (f i)) 0 g 0 ∧ Below w.heap.size w w' ∧ w.heap.size ≤ b ∧ w.heap.size ≤ ba := by
  subst hx; exact new_run G N M v1 v2 f g w0 w hG hG' hN hM hw h1 h2

set_option maxHeartbeats 2000000 in
set_option maxRecDepth 20000 in
theorem turns_walk (x y z : Int) (w : World) :
    Calls Try.prog 4 #[.int .i64 x, .int .i64 y, .int .i64 z] w fun e w' => e = .returned (.bool true) ∧ Below w.heap.size w w' := by
  obtain ⟨m, hm, hm8⟩ : ∃ m : Nat, bits BinOp.and .i64 x 7 = (m : Int) ∧ m < 8 := ⟨(x % 8).toNat, by rw [mask7]; omega, by omega⟩
  obtain ⟨r, hr, hr16⟩ : ∃ r : Nat, bits BinOp.and .i64 y 15 = (r : Int) ∧ r < 16 := ⟨(y % 16).toNat, by rw [mask15]; omega, by omega⟩
  obtain ⟨L, hL⟩ : ∃ L : Nat, L = (m + 2) * (r + 1) := ⟨_, rfl⟩
  obtain ⟨Hf, hHf⟩ : ∃ L : Nat, L = (m + 2) * ((r + 1) / 2) := ⟨_, rfl⟩
  have hL1 : L ≤ 144 := by rw [hL]; exact Nat.mul_le_mul (show m + 2 ≤ 9 by omega) (show r + 1 ≤ 16 by omega)
  have hHf1 : Hf ≤ 144 := by rw [hHf]; exact Nat.mul_le_mul (show m + 2 ≤ 9 by omega) (show (r + 1) / 2 ≤ 16 by omega)
  have hL2 : 0 < L := by rw [hL]; exact Nat.mul_pos (by omega) (by omega)
  have eL : wrap64 ((2 + (m : Int)) * (1 + (r : Int))) = L := by
    have : (2 + (m : Int)) * (1 + (r : Int)) = L := by rw [hL, Int.natCast_mul]; congr 1 <;> omega
    rw [this, IntWalk.wrap64_in _ (by omega)]
  have eH : wrap64 ((2 + (m : Int)) * ((1 + (r : Int)) / 2)) = Hf := by
    have : (2 + (m : Int)) * ((1 + (r : Int)) / 2) = Hf := by rw [hHf, Int.natCast_mul]; congr 1 <;> omega
    rw [this, IntWalk.wrap64_in _ (by omega)]
  have HL : Hid _ := hL
  have HH : Hid _ := hHf
  clear hL hHf
  go_enter Try.func4, Try.ntmps4
  go_wp2_with (go_at_call 10; refine (awake_any _).mono ?_; rintro e w1 ⟨rfl, b1⟩)
  go_loopw [9, 10] (fun s i wr => ∃ k : Nat, k ≤ L ∧ i = .int .i64 k ∧ Own wr w.heap.size s k (fun i => (i : Int) - Hf) ∧ Below w.heap.size w wr) (fun _ i _ => L - (intOf i).toNat)
  case atStart => exact ⟨0, by omega, rfl, Own.nil _ _ _, b1⟩
  case round =>
    obtain ⟨k, hk, rfl, hO, hW⟩ := hrel
    have hB1 := hW.size
    by_cases hlt : k < L
    · go_wp2_with (at_builtin; obtain ⟨v', w', hrun, hO', hB', hg'⟩ := app (hO.below ((Below.refl _ _).alloc (Nat.le_refl _) _)) (ints1 wr ((k : Int) - Hf)) (by simp; omega) (by omega); refine wpList_app _ _ hrun rfl rfl rfl rfl rfl ?_; clear hrun)
      go_roundw
      case rel =>
        refine ⟨k + 1, by omega, by go_num, hO'.congr fun i hi => ?_, (hW.alloc hW.size _).trans hB'⟩
        unfold cat
        by_cases h : i < k
        · simp [h]
        · rw [if_neg h, show i = k by omega]
      case measure => simp [intOf]; omega
    · obtain rfl : k = L := by omega
      obtain ⟨p, cap, rfl, hp⟩ := hO.shape (by omega)
      have H1 : Hid (2 + (m : Int) = ((m + 2 : Nat) : Int)) := by show _ = _; omega
      have H2 : Hid (1 ≤ m + 2 ∧ m + 2 ≤ 12 ∧ k ≤ 35184372088832) := by show _ ∧ _; omega
      obtain ⟨B, eB, hB⟩ := turn_block m z hm8
      clear hlt hk hp
      go_wp2_with (first
        | (go_at_call 8; refine (new_at _ (m + 2) k 0 _ _ (fun i => (i : Int) - Hf) (fun _ => 0) w _ H1.out H2.out.1 H2.out.2.1 H2.out.2.2 (by decide) hW hO.ints ⟨none, 0, rfl, Or.inl rfl⟩).mono ?_; rintro e w10 ⟨b, ba, bp, bi, rfl, hR, _, _, _⟩)
        | (go_at_call 15; refine (set_at hR B _ _ rfl hB (by decide) (by decide)).mono ?_; rintro e w11 ⟨rfl, hR1⟩))
      obtain ⟨sc, hE⟩ : ∃ sc : Nat → Nat, sc = fun i : Nat => plc (m + 2) ((i : Int) - (Hf : Int)) := ⟨_, rfl⟩
      rw [← hE] at hR1
      have hsc : ∀ n : Nat, sc n = n % (m + 2) := by
        clear eB
        intro n
        rw [hE, HH.out]; exact plc_shift _ _ _ (by omega)
      clear hE
      clear hO hR hW hB1 HH eH hHf1 b1 eB H1 H2
      go_loopw [15] (fun i wz => ∃ (n : Nat) (cs : Nat → Int), n ≤ k ∧ i = .int .i64 n ∧ Run w wz b ba bp bi (m + 2) k 0 cs sc n (fun _ => 0) 0 ∧ Turn (m + 2) B cs n) (fun i _ => k - (intOf i).toNat)
      case atStart => exact ⟨0, _, by omega, rfl, hR1, turn_start _ _⟩
      case round =>
        obtain ⟨n, cs, hn, rfl, hR, hT⟩ := hrel
        clear hR1
        have HT : Hid _ := hT
        by_cases hlt : n < k
        · have hg : n % (m + 2) < m + 2 := Nat.mod_lt _ (by omega)
          have hst := hT.st (n % (m + 2))
          have hpk := hT.pk (n % (m + 2))
          have hcl := cnt_le (m + 2) (n % (m + 2)) n
          by_cases hb : n % (m + 2) = B
          · rw [if_pos hb] at hst
            have hp := skip_at hR (by omega) (by omega) (n % (m + 2)) (hsc n) hg (by rw [hst]; decide)
            have hT2 := hT.skip hb
            have HT2 : Hid _ := hT2
            have hb0 : ((-1 : Int) == (B : Int)) = false := by simp
            clear hT hT2 hst hpk hcl hg hb hsc HT
            as_aux_lemma =>
              go_wp2_with (go_at_call 12; refine hp.mono ?_; rintro e w13 ⟨rfl, hR3⟩)
              go_roundw
              case rel => exact ⟨n + 1, _, by omega, by go_num, hR3, HT2.out⟩
              case measure => simp [intOf]; omega
          · rw [if_neg hb] at hst hpk
            have hp := pick_at hR (by omega) (by omega) (n % (m + 2)) (cnt (m + 2) (n % (m + 2)) n) (hsc n) hg (by omega) hst hpk (by omega)
            have hT2 := hT.ready hb
            have HT2 : Hid _ := hT2
            generalize upd cs (n % (m + 2) * 2 + 1) _ = ds at hp HT2
            clear hT hT2 hst hpk hcl hsc HT
            generalize n % (m + 2) = g at hp hg hb
            have hb1 : ((g : Int) == (B : Int)) = false := by simp; omega
            have hb2 : decide ((2 + (m : Int)) ≤ (g : Int)) = false := by simp; omega
            clear hb
            as_aux_lemma =>
              go_wp2_with (go_at_call 12; refine hp.mono ?_; rintro e w13 ⟨rfl, hR3⟩)
              go_roundw
              case rel => exact ⟨n + 1, _, by omega, by go_num, hR3, HT2.out⟩
              case measure => simp [intOf]; omega
        · obtain rfl : n = k := by omega
          clear hlt hn hT hsc
          have hn := pick_none hR.sc rfl
          go_wp2_with (go_at_call 12; refine hn.mono ?_; rintro e w14 ⟨rfl, hA4, hB4⟩)
          have hR4 := hR.call hA4 hB4
          have hT := HT.out
          rw [HL.out] at hT
          clear hn hA4 hB4 hR HT
          go_loopw [20] (fun i wz => ∃ j : Nat, j ≤ m + 2 ∧ i = .int .i64 j ∧ w14 = wz) (fun i _ => m + 2 - (intOf i).toNat)
          case atStart => exact ⟨0, by omega, rfl, rfl⟩
          case round =>
            obtain ⟨j, hj, rfl, rfl⟩ := hrel
            by_cases hlt : j < m + 2
            · have hpk := picks_at hR4 j j rfl hlt
              have hv := hT.pk j
              rw [cnt_full _ _ hlt] at hv
              by_cases hb : j = B
              · rw [if_pos hb] at hv
                rw [hv] at hpk
                subst hb
                clear hv hT
                as_aux_lemma =>
                  go_wp2_with (go_at_call 20; refine hpk.mono ?_; rintro e w15 ⟨rfl, rfl⟩)
                  go_roundw
                  case rel => exact ⟨j + 1, by omega, by go_num, trivial⟩
                  case measure => simp [intOf]; omega
              · rw [if_neg hb, show ((r + 1 : Nat) : Int) = 1 + (r : Int) by omega] at hv
                rw [hv] at hpk
                have hb1 : ((j : Int) == (B : Int)) = false := by simp; omega
                clear hv hT hb
                as_aux_lemma =>
                  go_wp2_with (go_at_call 20; refine hpk.mono ?_; rintro e w15 ⟨rfl, rfl⟩)
                  go_roundw
                  case rel => exact ⟨j + 1, by omega, by go_num, trivial⟩
                  case measure => simp [intOf]; omega
            · have ht := hT.total (m + 2) (Nat.le_refl _)
              rw [if_pos hB, ← HL.out] at ht
              have hsk := skips_at hR4 (by omega) (by omega) hT.pos (r + 1) ht
              rw [show ((r + 1 : Nat) : Int) = 1 + (r : Int) by omega] at hsk
              clear hT ht
              as_aux_lemma =>
                go_wp2_with (first
                  | (go_at_call 9; refine (num_any _ _).mono ?_; rintro e wn ⟨rfl, rfl⟩)
                  | (go_at_call 17; refine (at_any hR7.sc).mono ?_; rintro e w16 ⟨rfl, rfl⟩)
                  | (go_at_call 16; refine hsk.mono ?_; rintro e w17 ⟨rfl, hR7⟩))
                go_ret
                exact ⟨rfl, hR7.bel⟩
end Go.Proofs.Ytlbemkmhkjllpaa
