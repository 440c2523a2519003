/- The walk of CollectRings. -/
import Derived.Test.YtibnipockmnmhaaGreatMC7
import Derived.Test.YtibnipockmnmhaaGreatMS5
namespace Go.Proofs.YtibnipockmnmhaaGreat
open Go.RowKit
theorem at_modc (k : Nat) (z : Int) (h1 : 1 ≤ k) (h2 : k ≤ 100000) : ∃ a : Nat, wrap64 ((IntKind.u64.wrap z).tmod (k : Int)) = a ∧ a < k := by
  have h0 : 0 ≤ IntKind.u64.wrap z := by rw [IntKind.wrap_u64]; omega
  generalize IntKind.u64.wrap z = q at h0 ⊢
  have hp : 0 < (k : Int) := by omega
  have a1 := Int.emod_nonneg q (b := (k : Int)) (by omega)
  have a2 := Int.emod_lt_of_pos q hp
  refine ⟨(q % (k : Int)).toNat, ?_, by omega⟩
  rw [Int.tmod_eq_emod_of_nonneg h0]
  generalize q % (k : Int) = r at a1 a2 ⊢
  rw [show wrap64 r = r from by unfold wrap64; omega]
  omega
section
variable {B : Nat} {w0 w w' : World} {hb : Nat}
/-- Between two rings. -/
def RgO (B : Nat) (w0 : World) (hb i held : Nat) (w : World) : Prop := ∃ n P, RgC B w0 hb n held P (5000 * i) w ∧ n ≤ 8 * i ∧ ((i = 0 ∧ n = 0 ∧ held = 0 ∧ P = []) ∨ (1 ≤ i ∧ 1 ≤ held ∧ held ≤ n ∧ held ≤ 8 ∧ P = [1]))
theorem rg_zero {n k j c : Nat} {P : List Int} (h : RgI B w0 hb n k P (j + 1) c w) (hn : n = 0) (hk : k = 0) (hP : P = []) (hc : c ≤ 100000) (l f : Int) (hl : l = ((n + j : Nat) : Int) + 1) (hf : f = (n : Int) + 1) : Calls Tryz.prog 15 #[.pointer (some ⟨hb, 0, none⟩), .int .i64 0, .int .i64 l, .int .i64 0, .int .i64 f] w fun e w' => e = .returned (.int .i64 0) ∧ RgC B w0 hb (n + (j + 1)) (j + 1) (P ++ seg n (j + 1)) (c + 2) w' := by
  subst hn hk hP hl hf
  rw [List.nil_append, show 0 + (j + 1) = j + 1 by omega]
  exact rg_close0 h hc
theorem rg_later {n k j c : Nat} {P : List Int} (h : RgI B w0 hb n k P (j + 1) c w) (hk : k ≤ n) (hc : c ≤ 100000) (l f : Int) (hl : l = ((n + j : Nat) : Int) + 1) (hf : f = (n : Int) + 1) : Calls Tryz.prog 15 #[.pointer (some ⟨hb, 0, none⟩), .int .i64 0, .int .i64 l, .int .i64 0, .int .i64 f] w fun e w' => e = .returned (.int .i64 0) ∧ RgC B w0 hb (n + (j + 1)) k (P ++ seg n (j + 1)) (c + 2) w' := by
  subst hl hf
  exact rg_close h hk hc
theorem RgC.most {n k c c' : Nat} {P : List Int} (h : RgC B w0 hb n k P c w) (hc : c ≤ c') : RgC B w0 hb n k P c' w := by
  obtain ⟨X, Z, h1, h2, h3⟩ := h
  exact ⟨X, Z, h1, h2, by omega⟩
theorem RgC.bel {n k c : Nat} {P : List Int} (h : RgC B w0 hb n k P c w) : Below B w0 w := let ⟨_, _, H, _⟩ := h; H.hv.bel
theorem RgI.bel {n k j c : Nat} {P : List Int} (h : RgI B w0 hb n k P j c w) : Below B w0 w := let ⟨_, _, H, _⟩ := h; H.hv.bel
theorem RgO.bel {i held : Nat} (h : RgO B w0 hb i held w) : Below B w0 w := let ⟨_, _, H, _⟩ := h; H.bel
theorem RgO.cycles {i held : Nat} (h : RgO B w0 hb i held w) (hi : i ≤ 6) : RgS B w0 hb held 0 w := by
  obtain ⟨n, P, ⟨X, Z, H, hg, hm⟩, hn, hc⟩ := h
  refine ⟨X, Z, H, hg.b (by rcases hc with q | q; exact .inl ⟨q.2.2.1, q.2.2.2⟩; exact .inr ⟨q.2.1, q.2.2.2.2⟩) (by omega) (by omega) (by omega), fun x hx => ?_, fun q => absurd rfl q, hg.cy, by omega⟩
  obtain ⟨j, rfl⟩ : ∃ j : Nat, x = (j : Int) + 1 := ⟨(x - 1).toNat, by unfold rgK at hx; omega⟩
  obtain ⟨a, ha⟩ := hg.cell j (by unfold rgK at hx; omega)
  unfold rfs
  rw [celOf_at, ha]
  simp
theorem RgC.chain {n k c : Nat} {P : List Int} (h : RgC B w0 hb n k P c w) : RgI B w0 hb n k P 0 c w := by
  obtain ⟨X, Z, H, hg, hm⟩ := h
  exact ⟨X, Z, H, by simpa [seg] using hg, fun x h1 h2 => by omega, hm⟩
end
set_option maxRecDepth 20000 in
set_option maxHeartbeats 4000000 in
theorem rings_walk (v : Value) (N : Nat) (f : Nat → Int) (w : World) (hv : Ints w v N f) : Calls Tryz.prog 5 #[v] w fun e w' => e = .returned (.bool true) ∧ Below w.heap.size w w' := by
  obtain ⟨ao, cap, rfl, hv0⟩ := hv
  have H0 : Hid (N = 0 ∨ ∃ B o : Nat, ao = some ⟨B, o, none⟩ ∧ B < w.heap.size ∧ ∀ i, i < N → w.cell? ⟨B, o + i, none⟩ = some (.int .i64 (f i))) := hv0
  clear hv0
  have hA := awake12 w
  go_enter Tryz.func5, Tryz.ntmps5
  go_wp2_with (first
    | (go_at_call 13; refine hA.mono ?_; rintro e w1 ⟨rfl, hb1⟩; clear hA; have hN := cnew_of 16384 1 16384 1 w1 rfl rfl (by omega) (by omega))
    | (go_at_call 9; refine hN.mono ?_; rintro e w2 ⟨hb, Z2, rfl, H2⟩; have HS : Hid (RgO w1.heap.size w1 hb 0 0 w2) := ⟨0, [], ⟨_, Z2, H2, ⟨rfl, rfl, rfl, by show ¬ (0 : Int) < 0; omega, rfl, rfl, fun i hi => by omega, rfl, fun x hx => by omega, rfl, rfl⟩, Nat.le_refl _⟩, by omega, .inl ⟨rfl, rfl, rfl, rfl⟩⟩; clear hN H2))
  go_loopg [5, 6] 7 (fun kx s5 s6 wr => ∃ i held : Nat, s5 = .int .i64 held ∧ s6 = .int .i64 i ∧ i ≤ 6 ∧ 6 - i ≤ kx ∧ Hid (RgO w1.heap.size w1 hb i held wr))
  case atStart => exact ⟨0, 0, rfl, rfl, by omega, by omega, HS.out⟩
  case round =>
    clear HS
    obtain ⟨i, held, rfl, rfl, hi, hkx, HI⟩ := hrel
    by_cases hiN : i < N ∧ i < 6
    · have g1 : (i : Int) < (N : Int) := by omega
      have g2 : (i : Int) < 6 := by omega
      obtain ⟨n, P, hC, hn, hcs⟩ := HI.out
      have hbel : Below w.heap.size w wr := hb1.trans (hC.bel.mono hb1.size)
      obtain ⟨Bp, op, rfl, hBp, hcp⟩ := H0.out.resolve_left (by omega)
      have cpi : wr.cell? ⟨Bp, op + i, none⟩ = some (.int .i64 (f i)) := (World.cell?_of_block (a := ⟨Bp, op + i, none⟩) (hbel.block Bp hBp)).trans (hcp i (by omega))
      have hBpw : Bp < wr.heap.size := Nat.lt_of_lt_of_le hBp hbel.size
      have HI0 : Hid (RgI w1.heap.size w1 hb n held P 0 (5000 * i) wr) := hC.chain
      have HP : Hid (P.length ≤ 1 ∧ held ≤ n) := by rcases hcs with ⟨_, q1, q2, q3⟩ | ⟨_, _, q2, _, q3⟩; exact ⟨by rw [q3]; simp, by omega⟩; exact ⟨by rw [q3]; simp, q2⟩
      have HCS : Hid (n ≤ 8 * i ∧ ((i = 0 ∧ n = 0 ∧ held = 0 ∧ P = []) ∨ (1 ≤ i ∧ 1 ≤ held ∧ held ≤ n ∧ held ≤ 8 ∧ P = [1]))) := ⟨hn, hcs⟩
      obtain ⟨a, ha, la⟩ := at_modc 8 (f i) (by omega) (by omega)
      have ha' : wrap64 ((IntKind.u64.wrap (f i)).tmod 8) = (a : Int) := ha
      obtain ⟨kk, hkk⟩ : ∃ kk : Nat, kk = a + 1 := ⟨_, rfl⟩
      have hka : (1 : Int) + (a : Int) = (kk : Int) := by omega
      have hk8 : 1 ≤ kk ∧ kk ≤ 8 := by omega
      clear hC hcs hn hcp hbel HI ha hkk la
      go_wp2_with fail
      clear ha' hka cpi
      go_loopg [8, 9, 10] 10 (fun kx s8 s9 s10 wx => ∃ (j : Nat) (x8 x9 : Int), s8 = .int .i64 x8 ∧ s9 = .int .i64 x9 ∧ s10 = .int .i64 j ∧ j ≤ kk ∧ kk - j ≤ kx ∧ Hid ((1 ≤ j → x8 = (n : Int) + 1 ∧ x9 = ((n + (j - 1) : Nat) : Int) + 1) ∧ RgI w1.heap.size w1 hb n held P j (5000 * i + 502 * j) wx))
      case atStart => exact ⟨0, 0, 0, rfl, rfl, rfl, by omega, by omega, ⟨fun h => by omega, HI0.out⟩⟩
      case round =>
        clear HI0
        obtain ⟨j, x8, x9, rfl, rfl, rfl, hj, hkj, HJ⟩ := hrel
        by_cases hjk : j < kk
        · have g3 : (j : Int) < (kk : Int) := by omega
          have hMk := rg_make HJ.out.2 (by have := HCS.out.1; omega) HP.out.2 HP.out.1 (by omega) (by omega)
          obtain ⟨r, hr⟩ : ∃ r : Int, r = ((n + j : Nat) : Int) + 1 := ⟨_, rfl⟩
          have HR : Hid (r = ((n + j : Nat) : Int) + 1) := hr
          rw [← hr] at hMk
          clear hr
          cases j with
          | zero =>
            have g4 : (((0 : Nat) : Int) == 0) = true := by rfl
            clear HJ
            go_wp2_with (first
              | (go_at_call 14; refine hMk.mono ?_; rintro e w3 ⟨rfl, hK⟩; have HK : Hid (RgI w1.heap.size w1 hb n held P 1 (5000 * i + 502 * 1) w3) := (by obtain ⟨X, Z, H, hg, hch, hm⟩ := rg_first hK; exact ⟨X, Z, H, hg, hch, by omega⟩); clear hMk hK)
              | (go_at_call 10; refine (num_any _ _).mono ?_; rintro e w9 ⟨rfl, hw9⟩; replace hw9 := hw9.symm; subst hw9))
            go_roundg (kk - 1)
            case measure => omega
            case rel => exact ⟨1, r, r, rfl, rfl, rfl, by omega, by omega, ⟨fun _ => ⟨by rw [HR.out]; omega, by rw [HR.out]⟩, HK.out⟩⟩
          | succ j =>
            have g4 : (((j + 1 : Nat) : Int) == 0) = false := by simp; omega
            have HX : Hid (∀ w3, RgK w1.heap.size w1 hb n held P (j + 1) (5000 * i + 502 * (j + 1) + 500) w3 → Calls Tryz.prog 15 #[.pointer (some ⟨hb, 0, none⟩), .int .i64 0, .int .i64 x9, .int .i64 0, .int .i64 r] w3 fun e w' => e = .returned (.int .i64 0) ∧ RgI w1.heap.size w1 hb n held P (j + 2) (5000 * i + 502 * (j + 2)) w') := fun w3 hK => by
              have := rg_link hK HP.out.2 (by omega)
              have e9 : x9 = ((n + j : Nat) : Int) + 1 := (HJ.out.1 (by omega)).2
              rw [e9, HR.out]
              exact this.mono fun e w' q => ⟨q.1, by obtain ⟨X, Z, H, hg, hch, hm⟩ := q.2; exact ⟨X, Z, H, hg, hch, by omega⟩⟩
            have HE : Hid (x8 = (n : Int) + 1) := (HJ.out.1 (by omega)).1
            clear HJ
            go_wp2_with (first
              | (go_at_call 14; refine hMk.mono ?_; rintro e w3 ⟨rfl, hK⟩; have hPt := HX.out w3 hK; clear hMk hK HX)
              | (go_at_call 15; refine hPt.mono ?_; rintro e w4 ⟨rfl, hK⟩; have HK : Hid (RgI w1.heap.size w1 hb n held P (j + 2) (5000 * i + 502 * (j + 2)) w4) := hK; clear hPt hK)
              | (go_at_call 10; refine (num_any _ _).mono ?_; rintro e w9 ⟨rfl, hw9⟩; replace hw9 := hw9.symm; subst hw9))
            go_roundg (kk - (j + 2))
            case measure => omega
            case rel => exact ⟨j + 2, x8, r, rfl, rfl, by go_num, by omega, by omega, ⟨fun _ => ⟨HE.out, by rw [HR.out]; rfl⟩, HK.out⟩⟩
        · have g3 : ¬ (j : Int) < (kk : Int) := by omega
          obtain rfl : j = kk := by omega
          obtain ⟨e8, e9⟩ := HJ.out.1 hk8.1
          have E9 : Hid (x9 = ((n + (j - 1) : Nat) : Int) + 1 ∧ x8 = (n : Int) + 1) := ⟨e9, e8⟩
          clear e8 e9
          by_cases hi0 : i = 0
          · have g5 : ((i : Int) == 0) = true := by simp; omega
            have hq := HCS.out.2.resolve_right (by omega)
            have hPt := rg_zero (j := j - 1) (by rw [show j - 1 + 1 = j by omega]; exact HJ.out.2) hq.2.1 hq.2.2.1 hq.2.2.2 (by omega) x9 x8 E9.out.1 E9.out.2
            rw [show j - 1 + 1 = j by omega] at hPt
            have HQ : Hid (n = 0 ∧ P = []) := ⟨hq.2.1, hq.2.2.2⟩
            clear HJ hq E9
            obtain ⟨kk, hkk⟩ : ∃ kk, kk = j := ⟨_, rfl⟩
            subst hkk
            go_wp2_with (go_at_call 15; refine hPt.mono ?_; rintro e w5 ⟨rfl, hC5⟩; have HC : Hid (RgC w1.heap.size w1 hb (n + kk) kk (P ++ seg n (kk - 0)) (5000 * (i + 1)) w5) := hC5.most (by omega); clear hPt hC5)
            go_wp2_with fail
            go_loopg [14] 10 (fun kx s14 wx => ∃ t : Nat, s14 = .int .i64 t ∧ t ≤ (kk - 1) ∧ (kk - 1) - t ≤ kx ∧ Hid (RgC w1.heap.size w1 hb (n + kk) kk (P ++ seg n (kk - t)) (5000 * (i + 1)) wx))
            case atStart => exact ⟨0, rfl, by omega, by omega, HC.out⟩
            case round =>
              clear HC
              obtain ⟨t, rfl, ht, hkt, HT⟩ := hrel
              by_cases htl : t < (kk - 1)
              · have g3 : (t : Int) < (kk : Int) - 1 := by omega
                have hPp := rg_pop (j := kk - (t + 1)) (by rw [show kk - (t + 1) + 1 = kk - t by omega]; exact HT.out)
                clear HT
                go_wp2_with (go_at_call 16; refine hPp.mono ?_; rintro e w6 ⟨⟨x6, y6, rfl⟩, hT6⟩; have HT6 : Hid (RgC w1.heap.size w1 hb (n + kk) kk (P ++ seg n (kk - (t + 1))) (5000 * (i + 1)) w6) := hT6; clear hPp hT6)
                go_roundg ((kk - 1) - (t + 1))
                case measure => omega
                case rel => exact ⟨t + 1, by go_num, by omega, by omega, HT6.out⟩
              · have g3 : ¬ (t : Int) < (kk : Int) - 1 := by omega
                have hte : t = kk - 1 := by omega
                have HO : Hid (RgO w1.heap.size w1 hb (i + 1) kk _) := ⟨n + kk, [1], by have := HT.out; rw [HQ.out.1, HQ.out.2, hte, show kk - (kk - 1) = 1 by omega] at this; rw [HQ.out.1]; exact this, by have := HCS.out.1; omega, .inr ⟨by omega, by omega, by omega, by omega, rfl⟩⟩
                clear HT
                go_wp2
                go_roundg (6 - (i + 1))
                case measure => omega
                case rel => exact ⟨i + 1, kk, rfl, by go_num, by omega, by omega, HO.out⟩

          · have g5 : ((i : Int) == 0) = false := by simp; omega
            have hq := HCS.out.2.resolve_left (by omega)
            have hPt := rg_later (j := j - 1) (by rw [show j - 1 + 1 = j by omega]; exact HJ.out.2) hq.2.2.1 (by omega) x9 x8 E9.out.1 E9.out.2
            rw [show j - 1 + 1 = j by omega] at hPt
            have HQ : Hid (1 ≤ held ∧ held ≤ n ∧ held ≤ 8 ∧ P = [1]) := ⟨hq.2.1, hq.2.2.1, hq.2.2.2.1, hq.2.2.2.2⟩
            clear HJ hq E9
            obtain ⟨kk, hkk⟩ : ∃ kk, kk = j := ⟨_, rfl⟩
            subst hkk
            go_wp2_with (go_at_call 15; refine hPt.mono ?_; rintro e w5 ⟨rfl, hC5⟩; have HC : Hid (RgC w1.heap.size w1 hb (n + kk) held (P ++ seg n (kk - 0)) (5000 * (i + 1)) w5) := hC5.most (by omega); clear hPt hC5)
            go_wp2_with fail
            go_loopg [14] 10 (fun kx s14 wx => ∃ t : Nat, s14 = .int .i64 t ∧ t ≤ kk ∧ kk - t ≤ kx ∧ Hid (RgC w1.heap.size w1 hb (n + kk) held (P ++ seg n (kk - t)) (5000 * (i + 1)) wx))
            case atStart => exact ⟨0, rfl, by omega, by omega, HC.out⟩
            case round =>
              clear HC
              obtain ⟨t, rfl, ht, hkt, HT⟩ := hrel
              by_cases htl : t < kk
              · have g3 : (t : Int) < (kk : Int) := by omega
                have hPp := rg_pop (j := kk - (t + 1)) (by rw [show kk - (t + 1) + 1 = kk - t by omega]; exact HT.out)
                clear HT
                go_wp2_with (go_at_call 16; refine hPp.mono ?_; rintro e w6 ⟨⟨x6, y6, rfl⟩, hT6⟩; have HT6 : Hid (RgC w1.heap.size w1 hb (n + kk) held (P ++ seg n (kk - (t + 1))) (5000 * (i + 1)) w6) := hT6; clear hPp hT6)
                go_roundg (kk - (t + 1))
                case measure => omega
                case rel => exact ⟨t + 1, by go_num, by omega, by omega, HT6.out⟩
              · have g3 : ¬ (t : Int) < (kk : Int) := by omega
                have hte : t = kk := by omega
                have HO : Hid (RgO w1.heap.size w1 hb (i + 1) held _) := ⟨n + kk, [1], by have := HT.out; rw [hte, Nat.sub_self, HQ.out.2.2.2] at this; exact this, by have := HCS.out.1; omega, .inr ⟨by omega, HQ.out.1, by have := HQ.out.2.1; omega, HQ.out.2.2.1, rfl⟩⟩
                clear HT
                go_wp2
                go_roundg (6 - (i + 1))
                case measure => omega
                case rel => exact ⟨i + 1, held, rfl, by go_num, by omega, by omega, HO.out⟩

    · have hcase : ¬ i < N ∨ (i < N ∧ i = 6) := by omega
      have HS0 : Hid (RgS w1.heap.size w1 hb held 0 wr) := HI.out.cycles hi
      clear HI H0 hiN
      rcases hcase with hx | ⟨hx, hx2⟩
      all_goals
        go_wp2_with fail
        go_loopg [15] 3 (fun kx s15 wx => ∃ t : Nat, s15 = .int .i64 t ∧ t ≤ 2 ∧ 2 - t ≤ kx ∧ Hid (RgS w1.heap.size w1 hb held t wx))
        case atStart => exact ⟨0, rfl, by omega, by omega, HS0.out⟩
        case round =>
          clear HS0
          obtain ⟨t, rfl, ht, hkt, HT⟩ := hrel
          by_cases htl : t < 2
          · have g3 : (t : Int) < 2 := by omega
            have hBg := rg_begin HT.out (by omega)
            clear HT
            go_wp2_with (go_at_call 18; refine hBg.mono ?_; rintro e w5 ⟨rfl, r, hr, hT5⟩; have HT5 : Hid (RgT w1.heap.size w1 hb held t r w5) := hT5; clear hBg hT5)
            go_loopg [16] 210 (fun kx s16 wy => ∃ (jj rr : Nat), s16 = .int .i64 jj ∧ jj + rr ≤ 200 ∧ rr ≤ kx ∧ Hid (RgT w1.heap.size w1 hb held t rr wy))
            case atStart => exact ⟨0, r, rfl, by omega, by omega, HT5.out⟩
            case round =>
              clear HT5
              obtain ⟨jj, rr, rfl, hjr, hkr, HR⟩ := hrel
              have hTn := rg_turn HR.out (by omega)
              clear HR
              have hd : decide ((8000 : Int) < (jj : Int)) = false := by simp; omega
              go_wp2_with fail
              refine hTn.mono ?_
              rintro e w6 (⟨rfl, r', hr', hT6⟩ | ⟨rfl, hO6⟩)
              · have HT6 : Hid (RgT w1.heap.size w1 hb held t r' w6) := hT6
                clear hT6 hTn
                go_wp2
                go_roundg (r')
                case measure => omega
                case rel => exact ⟨jj + 1, r', by go_num, by omega, by omega, HT6.out⟩
              · have HO6 : Hid (RgS w1.heap.size w1 hb held (t + 1) w6) := hO6
                clear hO6 hTn
                go_wp2
                go_roundg (2 - (t + 1))
                case measure => omega
                case rel => exact ⟨t + 1, by go_num, by omega, by omega, HO6.out⟩
          · have g3 : ¬ (t : Int) < 2 := by omega
            obtain rfl : t = 2 := by omega
            have hRf := rg_refs HT.out
            clear HT
            have HX : Hid (∀ w7, RgS w1.heap.size w1 hb held 2 w7 → Below w.heap.size w w7 ∧ Calls Tryz.prog 23 #[.pointer (some ⟨hb, 0, none⟩)] w7 fun e w' => e = .returned (.int .i64 2) ∧ w' = w7) := fun w7 h7 => ⟨hb1.trans (h7.bel.mono hb1.size), rg_cycles h7⟩
            go_wp2_with (first
              | (go_at_call 10; refine (num_any _ _).mono ?_; rintro e w9 ⟨rfl, hw9⟩; replace hw9 := hw9.symm; subst hw9)
              | (go_at_call 21; refine hRf.mono ?_; rintro e w7 ⟨⟨ao7, cap7, rfl⟩, hO7⟩; obtain ⟨hb7, hCy⟩ := HX.out w7 hO7; clear hRf hO7 HX)
              | (go_at_call 23; refine hCy.mono ?_; rintro e w9 ⟨rfl, hw9⟩; replace hw9 := hw9.symm; subst hw9; clear hCy))
            go_ret
            exact ⟨rfl, hb7⟩
end Go.Proofs.YtibnipockmnmhaaGreat
