/- The walk of the law ArenaSteps: whatever it is called with it returns true, and of what was there nothing turns. -/
import Derived.Test.YtlngjgjhmhpipaaANow
import Derived.Deep.DeepCutAuto
namespace Go.Proofs.Ytlngjgjhmhpipaa
open Go.RowKit

set_option maxRecDepth 20000 in
theorem bad_words (x y : Int) (v : Value) (w : World) (hx : ¬ (1 ≤ x ∧ x ≤ 65536)) :
    Calls Try.prog 3 #[.int .i64 x, .int .i64 y, v] w fun e w' => e = .returned (.bool true) ∧ Below w.heap.size w w' := by
  have hn := new_no_words x y w hx
  by_cases h1 : x < 1
  · clear hx
    go_enter Try.func3, Try.ntmps3
    go_wp2_with (first | (go_at_call 5; refine hn.mono ?_; rintro e w1 ⟨rfl, rfl⟩) | (go_at_call 6; refine (num_any _ _).mono ?_; rintro e w2 ⟨rfl, rfl⟩) | (go_at_call 7; refine (awake_any _).mono ?_; rintro e w3 ⟨rfl, hb⟩))
    go_ret
    exact ⟨rfl, hb⟩
  · have h2 : 65536 < x := by omega
    have h3 : 1 ≤ x := by omega
    clear hx h1
    go_enter Try.func3, Try.ntmps3
    go_wp2_with (first | (go_at_call 5; refine hn.mono ?_; rintro e w1 ⟨rfl, rfl⟩) | (go_at_call 6; refine (num_any _ _).mono ?_; rintro e w2 ⟨rfl, rfl⟩) | (go_at_call 7; refine (awake_any _).mono ?_; rintro e w3 ⟨rfl, hb⟩))
    go_ret
    exact ⟨rfl, hb⟩
set_option maxRecDepth 20000 in
theorem bad_agents (x y : Int) (v : Value) (w : World) (hx : 1 ≤ x ∧ x ≤ 65536) (hy : ¬ (1 ≤ y ∧ y ≤ 12)) :
    Calls Try.prog 3 #[.int .i64 x, .int .i64 y, v] w fun e w' => e = .returned (.bool true) ∧ Below w.heap.size w w' := by
  have hn := new_no_agents x y w hx hy
  obtain ⟨x1, x2⟩ := hx
  by_cases h1 : y < 1
  · clear hy
    go_enter Try.func3, Try.ntmps3
    go_wp2_with (first | (go_at_call 5; refine hn.mono ?_; rintro e w1 ⟨rfl, rfl⟩) | (go_at_call 6; refine (num_any _ _).mono ?_; rintro e w2 ⟨rfl, rfl⟩) | (go_at_call 7; refine (awake_any _).mono ?_; rintro e w3 ⟨rfl, hb⟩))
    go_ret
    exact ⟨rfl, hb⟩
  · have h2 : 12 < y := by omega
    have h3 : 1 ≤ y := by omega
    clear hy h1
    go_enter Try.func3, Try.ntmps3
    go_wp2_with (first | (go_at_call 5; refine hn.mono ?_; rintro e w1 ⟨rfl, rfl⟩) | (go_at_call 6; refine (num_any _ _).mono ?_; rintro e w2 ⟨rfl, rfl⟩) | (go_at_call 7; refine (awake_any _).mono ?_; rintro e w3 ⟨rfl, hb⟩))
    go_ret
    exact ⟨rfl, hb⟩
set_option maxRecDepth 20000 in
theorem big_words (W G : Nat) (v : Value) (w : World) (hW : 2000 < W) (hW' : W ≤ 65536) (hG : 1 ≤ G) (hG' : G ≤ 12) :
    Calls Try.prog 3 #[.int .i64 W, .int .i64 G, v] w fun e w' => e = .returned (.bool true) ∧ Below w.heap.size w w' := by
  go_enter Try.func3, Try.ntmps3
  go_wp2_with (first | (go_at_call 5; refine (new_ok W G _ (by omega) hW' hG hG').mono ?_; rintro e w1 ⟨b, bw, bs, rfl, hA, hb1, l0, l1, l2⟩) | (go_at_call 7; refine (awake_any _).mono ?_; rintro e w3 ⟨rfl, hb⟩))
  go_ret
  exact ⟨rfl, hb1.trans (hb.mono hb1.size)⟩

theorem even_start {w w1 u : World} {b bw bs p q W G : Nat} (hA : Ar w1 b bw bs W G (fun _ => 0) (fun _ => 0)) (hb : Below w.heap.size w w1) (l1 : w.heap.size ≤ bw) (l2 : w.heap.size ≤ bs) (hu : Below w1.heap.size w1 u)
    (hp : u.rowIs p 3 W (fun _ => .int .i64 0)) (hq : u.rowIs q 3 G (fun _ => .int .i64 0)) (h1 : w1.heap.size ≤ p) (h2 : w1.heap.size ≤ q) (hpq : p ≠ q) :
    Even w.heap.size w u b bw bs p q W G (fun _ => 0) (fun _ => 0) := by
  have a1 := hA.words.lt
  have a2 := hA.steps.lt
  have a3 := hb.size
  have a4 := hu.size
  exact ⟨⟨by omega, by omega, by omega, by omega, hpq, l1, l2, by omega, by omega⟩, hA.below hu, hp, hq, hb.trans (hu.mono hb.size), by omega⟩

/-- What a call is refused with, where it is refused. -/
def Bad (W G : Nat) (c A T : Int) : Prop := (c = 302 ∧ ¬ (0 ≤ A ∧ A < G)) ∨ (c = 301 ∧ ∃ g : Nat, A = g ∧ g < G ∧ ¬ (0 ≤ T ∧ T < W))
theorem Bad.ne {W G : Nat} {c A T : Int} (h : Bad W G c A T) : (c != 0) = true ∧ (c == 0) = false := by
  rcases h with ⟨rfl, _⟩ | ⟨rfl, _⟩ <;> exact ⟨rfl, rfl⟩
theorem load_bad {w : World} {b bw bs W G : Nat} {ws cs : Nat → Int} (h : Ar w b bw bs W G ws cs) {c A T : Int} (hb : Bad W G c A T) :
    Calls Try.prog 8 #[.pointer (some ⟨b, 0, none⟩), .int .i64 A, .int .i64 T] w fun e w' => e = .returned (.tuple #[.int .i64 0, .int .i64 c]) ∧ Ar w' b bw bs W G ws cs ∧ But bw bs w w' := by
  rcases hb with ⟨rfl, hg⟩ | ⟨rfl, g, rfl, hg, ha⟩
  · exact load_agent h _ _ hg
  · exact load_place h _ _ hg ha
theorem store_bad {w : World} {b bw bs W G : Nat} {ws cs : Nat → Int} (h : Ar w b bw bs W G ws cs) {c A T : Int} (v : Int) (hb : Bad W G c A T) :
    Calls Try.prog 9 #[.pointer (some ⟨b, 0, none⟩), .int .i64 A, .int .i64 T, .int .i64 v] w fun e w' => e = .returned (.int .i64 c) ∧ Ar w' b bw bs W G ws cs ∧ But bw bs w w' := by
  rcases hb with ⟨rfl, hg⟩ | ⟨rfl, g, rfl, hg, ha⟩
  · exact store_agent h _ _ v hg
  · exact store_place h _ _ v hg ha
theorem swap_bad {w : World} {b bw bs W G : Nat} {ws cs : Nat → Int} (h : Ar w b bw bs W G ws cs) {c A T : Int} (old v : Int) (hb : Bad W G c A T) :
    Calls Try.prog 10 #[.pointer (some ⟨b, 0, none⟩), .int .i64 A, .int .i64 T, .int .i64 old, .int .i64 v] w fun e w' => e = .returned (.tuple #[.bool false, .int .i64 c]) ∧ Ar w' b bw bs W G ws cs ∧ But bw bs w w' := by
  rcases hb with ⟨rfl, hg⟩ | ⟨rfl, g, rfl, hg, ha⟩
  · exact swap_agent h _ _ old v hg
  · exact swap_place h _ _ old v hg ha

/-- What the law takes the call's answer to be: done, or refused. -/
def Fate (W G : Nat) (c A T : Int) (cs cq : Nat → Int) : Prop :=
  (c = 0 ∧ ∃ g a : Nat, A = g ∧ T = a ∧ g < G ∧ a < W ∧ cq = upd cs g (wrap64 (cs g + 1))) ∨ (Bad W G c A T ∧ cq = cs)

set_option maxHeartbeats 20000000 in
set_option maxRecDepth 20000 in
theorem main_walk (W G : Nat) (ao : Option Addr) (len cap : Nat) (w : World) (hW : 1 ≤ W) (hW' : W ≤ 2000) (hG : 1 ≤ G) (hG' : G ≤ 12) (hlen : len ≤ maxLen)
    (hs : len = 0 ∨ ∃ (B o : Nat) (F : Nat → Nat → Int), ao = some ⟨B, o, none⟩ ∧ B < w.heap.size ∧ ∀ i j, i < len → j < 5 → w.cell? ⟨B, o + i * 5 + j, none⟩ = some (.int .i64 (F i j))) :
    Calls Try.prog 3 #[.int .i64 W, .int .i64 G, .slice ao len cap] w fun e w' => e = .returned (.bool true) ∧ Below w.heap.size w w' := by
  unfold maxLen at hlen
  have hmk := run_make_row' (P := Try.prog) 29 3 (.int .i64 0) 8 Try.underlying29 info3 rfl .i64 .i64 W (by omega) (by omega)
  have hml := run_make_row' (P := Try.prog) 29 3 (.int .i64 0) 8 Try.underlying29 info3 rfl .i64 .i64 G (by omega) (by omega)
  go_enter Try.func3, Try.ntmps3
  go_upto_region 6 with (go_at_call 5; refine (new_ok W G _ hW (by omega) hG hG').mono ?_; rintro e w1 ⟨b, bw, bs, rfl, hA, hb1, l0, l1, l2⟩)
  go_cut [9, 10] (fun v9 v10 wx => ∃ p q, v9 = .slice (some ⟨p, 0, none⟩) W W ∧ v10 = .slice (some ⟨q, 0, none⟩) G G ∧ Even w.heap.size w wx b bw bs p q W G (fun _ => 0) (fun _ => 0))
  case first =>
    go_region
    · as_aux_lemma =>
        go_wp2_with fail
        go_meet
        obtain ⟨r1, r2⟩ := two_rows w1 W G
        exact ⟨_, _, rfl, rfl, even_start hA hb1 l1 l2 (two_below w1 _ _).drew r1.drew r2.drew (by omega) (by omega) (by omega)⟩
    · as_aux_lemma =>
        go_wp2_with fail
        go_meet
        obtain ⟨r1, r2⟩ := two_rows w1 G W
        exact ⟨_, _, rfl, rfl, even_start hA hb1 l1 l2 (two_below w1 _ _).drew r2.drew r1.drew (by omega) (by omega) (by omega)⟩
  case rest =>
    obtain ⟨p, q, rfl, rfl, hE⟩ := hcut
    clear hmk hml hA hb1 l0 l1 l2
    go_wp2_with fail
    go_loopg [11] 300 (fun r i wr => ∃ (k : Nat) (ws cs : Nat → Int), r = 300 - k ∧ k ≤ len ∧ k ≤ 300 ∧ i = .int .i64 k ∧ Even w.heap.size w wr b bw bs p q W G ws cs)
    case atStart => exact ⟨0, _, _, rfl, by omega, by omega, rfl, hE⟩
    case round =>
      obtain ⟨k, ws, cs, rfl, hk1, hk2, rfl, hE⟩ := hrel
      by_cases hgo : k < len ∧ k < 300
      · obtain ⟨g1, g2⟩ := hgo
        rcases hs with h0 | ⟨B, o, F, rfl, hB, hF⟩
        · omega
        have cel : ∀ j, j < 5 → wr.cell? ⟨B, o + k * 5 + j, none⟩ = some (.int .i64 (F k j)) := fun j hj => (hE.bel.cell hB).trans (hF k j g1 hj)
        obtain ⟨K, hK⟩ : ∃ K, F k 0 = K := ⟨_, rfl⟩
        obtain ⟨A, hA⟩ : ∃ A, F k 1 = A := ⟨_, rfl⟩
        obtain ⟨T, hT⟩ : ∃ T, F k 2 = T := ⟨_, rfl⟩
        obtain ⟨O, hO⟩ : ∃ O, F k 3 = O := ⟨_, rfl⟩
        obtain ⟨N, hN⟩ : ∃ N, F k 4 = N := ⟨_, rfl⟩
        have d0 := cel 0 (by omega)
        have d1 := cel 1 (by omega)
        have d2 := cel 2 (by omega)
        have d3 := cel 3 (by omega)
        have d4 := cel 4 (by omega)
        rw [hK] at d0
        rw [hA] at d1
        rw [hT] at d2
        rw [hO] at d3
        rw [hN] at d4
        rw [Nat.add_zero] at d0
        clear cel hF hK hA hT hO hN
        have hN0 := hE.look K A T O N
        have e0 := hN0.f0
        have e1 := hN0.f1
        have e2 := hN0.f2
        obtain ⟨BA, hBA⟩ : ∃ BA : Bool, BA = (decide (A < 0) || decide ((G : Int) ≤ A)) := ⟨_, rfl⟩
        have HBA : Hid _ := hBA
        clear hBA
        go_upto_region 12 with fail
        go_cut [75] (fun s75 wx => s75 = .bool BA ∧ wr.alloc (.cells #[.int .i64 K, .int .i64 A, .int .i64 T, .int .i64 O, .int .i64 N] 31) = wx)
        case first =>
          by_cases hA0 : A < 0
          · as_aux_lemma =>
              go_wp2_with fail
              go_meet
              exact ⟨by rw [HBA.out]; simp [hA0], rfl⟩
          · by_cases hA1 : (G : Int) ≤ A
            · as_aux_lemma =>
                go_wp2_with fail
                go_meet
                exact ⟨by rw [HBA.out]; simp [hA1], rfl⟩
            · have hA2 : decide ((G : Int) ≤ A) = false := by simp [hA1]
              as_aux_lemma =>
                go_wp2_with fail
                go_meet
                exact ⟨by rw [HBA.out]; simp [hA0, hA1], rfl⟩
        case rest =>
        obtain ⟨rfl, rfl⟩ := hcut
        go_upto_if 75 with fail
        go_cut [13] (fun s13 wx => ∃ (c : Int) (cq : Nat → Int), s13 = .int .i64 c ∧ Now w.heap.size w wx b bw bs p q W G wr.heap.size ws cs ws cq K A T O N ∧ Fate W G c A T cs cq)
        case first =>
          cases hb : BA with
          | true =>
            have hbad : ¬ (0 ≤ A ∧ A < G) := by
              have := HBA.out; rw [hb] at this; simp at this; omega
            as_aux_lemma =>
              go_wp2_with fail
              go_meet
              exact ⟨302, cs, rfl, hN0, Or.inr ⟨Or.inl ⟨rfl, hbad⟩, rfl⟩⟩
          | false =>
            have hgood : 0 ≤ A ∧ A < G := by
              have := HBA.out; rw [hb] at this; simp at this; omega
            clear HBA
            obtain ⟨g, rfl⟩ := Int.eq_ofNat_of_zero_le hgood.1
            have hg : g < G := by omega
            clear hgood
            have cg := hN0.qw.cell hg
            have fg := hN0.qw.frozen g
            by_cases hT0 : T < 0
            · as_aux_lemma =>
                go_wp2_with fail
                go_meet
                exact ⟨301, cs, rfl, hN0, Or.inr ⟨Or.inr ⟨rfl, g, rfl, hg, by omega⟩, rfl⟩⟩
            · by_cases hT1 : (W : Int) ≤ T
              · as_aux_lemma =>
                  go_wp2_with fail
                  go_meet
                  exact ⟨301, cs, rfl, hN0, Or.inr ⟨Or.inr ⟨rfl, g, rfl, hg, by omega⟩, rfl⟩⟩
              · obtain ⟨a, rfl⟩ := Int.eq_ofNat_of_zero_le (show 0 ≤ T by omega)
                have hT2 : decide ((W : Int) ≤ (a : Int)) = false := by simp; omega
                as_aux_lemma =>
                  go_wp2_with fail
                  go_meet
                  exact ⟨0, _, rfl, hN0.count g _, Or.inl ⟨rfl, g, a, rfl, rfl, hg, by omega, rfl⟩⟩
        case rest =>
        obtain ⟨c, cq, rfl, hN1, hF⟩ := hcut
        clear HBA e0 e1 e2 d0 d1 d2 d3 d4 hN0
        have e0 := hN1.f0
        have e1 := hN1.f1
        have e2 := hN1.f2
        have e3 := hN1.f3
        have e4 := hN1.f4
        rcases hF with ⟨rfl, g, a, rfl, rfl, hg, ha, rfl⟩ | ⟨hbad, rfl⟩
        · by_cases hK0 : K = 0
          · subst hK0
            as_aux_lemma =>
              go_wp2_with (first | (go_at_call 8; refine (load_ok hN1.ar g a hg ha).mono ?_; rintro e w5 ⟨rfl, hA5, hB5⟩; have hN5 := hN1.call hA5 hB5; have f2 := hN5.f2; have f3 := hN5.f3; have f4 := hN5.f4; have cp := hN5.pw.cell ha; have fp := hN5.pw.frozen a) | (go_at_call 6; refine (num_any _ _).mono ?_; rintro e w6 ⟨rfl, rfl⟩))
              go_roundg (300 - (k + 1))
              case rel => exact ⟨k + 1, _, _, rfl, by omega, by omega, by go_num, hN5.even⟩
              case measure => omega
          · have hK0' : (K == 0) = false := by simp [hK0]
            by_cases hK1 : K = 1
            · subst hK1
              as_aux_lemma =>
                go_wp2_with (first | (go_at_call 9; refine (store_ok hN1.ar g a _ hg ha).mono ?_; rintro e w5 ⟨rfl, hA5, hB5⟩; have hN5 := hN1.call hA5 hB5; have f2 := hN5.f2; have f3 := hN5.f3; have f4 := hN5.f4; have cp := hN5.pw.cell ha; have fp := hN5.pw.frozen a) | (go_at_call 6; refine (num_any _ _).mono ?_; rintro e w6 ⟨rfl, rfl⟩))
                go_roundg (300 - (k + 1))
                case rel => exact ⟨k + 1, _, _, rfl, by omega, by omega, by go_num, (hN5.word a N).even⟩
                case measure => omega
            · have hK1' : (K == 1) = false := by simp [hK1]
              by_cases hO : ws a = O
              · have hy : (ws a != O) = false := by simp [hO]
                have hz : (ws a == O) = true := by simp [hO]
                clear hO
                as_aux_lemma =>
                  go_wp2_with (first | (go_at_call 10; refine (swap_yes hN1.ar g a _ _ hg ha hy).mono ?_; rintro e w5 ⟨rfl, hA5, hB5⟩; have hN5 := hN1.call hA5 hB5; have f2 := hN5.f2; have f3 := hN5.f3; have f4 := hN5.f4; have cp := hN5.pw.cell ha; have fp := hN5.pw.frozen a) | (go_at_call 6; refine (num_any _ _).mono ?_; rintro e w6 ⟨rfl, rfl⟩))
                  go_quiet (fail)
                  go_wp2_with (go_at_call 6; refine (num_any _ _).mono ?_; rintro e w6 ⟨rfl, rfl⟩)
                  go_roundg (300 - (k + 1))
                  case rel => exact ⟨k + 1, _, _, rfl, by omega, by omega, by go_num, ((hN5.drewN _).word a N).even⟩
                  case measure => omega
              · have hy : (ws a != O) = true := by simp [hO]
                have hz : (ws a == O) = false := by simp [hO]
                clear hO
                as_aux_lemma =>
                  go_wp2_with (first | (go_at_call 10; refine (swap_no hN1.ar g a _ _ hg ha hy).mono ?_; rintro e w5 ⟨rfl, hA5, hB5⟩; have hN5 := hN1.call hA5 hB5; have f2 := hN5.f2; have f3 := hN5.f3; have f4 := hN5.f4; have cp := hN5.pw.cell ha; have fp := hN5.pw.frozen a) | (go_at_call 6; refine (num_any _ _).mono ?_; rintro e w6 ⟨rfl, rfl⟩))
                  go_quiet (fail)
                  go_wp2_with (go_at_call 6; refine (num_any _ _).mono ?_; rintro e w6 ⟨rfl, rfl⟩)
                  go_roundg (300 - (k + 1))
                  case rel => exact ⟨k + 1, _, _, rfl, by omega, by omega, by go_num, (hN5.drewN _).even⟩
                  case measure => omega
        · obtain ⟨n1, n2⟩ := hbad.ne
          by_cases hK0 : K = 0
          · subst hK0
            as_aux_lemma =>
              go_wp2_with (first | (go_at_call 8; refine (load_bad hN1.ar hbad).mono ?_; rintro e w5 ⟨rfl, hA5, hB5⟩; have hN5 := hN1.call hA5 hB5; have f2 := hN5.f2; have f3 := hN5.f3; have f4 := hN5.f4) | (go_at_call 6; refine (num_any _ _).mono ?_; rintro e w6 ⟨rfl, rfl⟩))
              go_roundg (300 - (k + 1))
              case rel => exact ⟨k + 1, _, _, rfl, by omega, by omega, by go_num, hN5.even⟩
              case measure => omega
          · have hK0' : (K == 0) = false := by simp [hK0]
            by_cases hK1 : K = 1
            · subst hK1
              as_aux_lemma =>
                go_wp2_with (first | (go_at_call 9; refine (store_bad hN1.ar _ hbad).mono ?_; rintro e w5 ⟨rfl, hA5, hB5⟩; have hN5 := hN1.call hA5 hB5; have f2 := hN5.f2; have f3 := hN5.f3; have f4 := hN5.f4) | (go_at_call 6; refine (num_any _ _).mono ?_; rintro e w6 ⟨rfl, rfl⟩))
                go_roundg (300 - (k + 1))
                case rel => exact ⟨k + 1, _, _, rfl, by omega, by omega, by go_num, hN5.even⟩
                case measure => omega
            · have hK1' : (K == 1) = false := by simp [hK1]
              as_aux_lemma =>
                go_wp2_with (first | (go_at_call 10; refine (swap_bad hN1.ar _ _ hbad).mono ?_; rintro e w5 ⟨rfl, hA5, hB5⟩; have hN5 := hN1.call hA5 hB5; have f2 := hN5.f2; have f3 := hN5.f3; have f4 := hN5.f4) | (go_at_call 6; refine (num_any _ _).mono ?_; rintro e w6 ⟨rfl, rfl⟩))
                go_quiet (fail)
                go_wp2_with (go_at_call 6; refine (num_any _ _).mono ?_; rintro e w6 ⟨rfl, rfl⟩)
                go_roundg (300 - (k + 1))
                case rel => exact ⟨k + 1, _, _, rfl, by omega, by omega, by go_num, (hN5.drewN _).even⟩
                case measure => omega
      · by_cases hl : k < len
        · have h3 : k = 300 := by omega
          subst h3
          clear hgo
          as_aux_lemma =>
            go_wp2_with (first | (go_at_call 6; refine (num_any _ _).mono ?_; rintro e w6 ⟨rfl, rfl⟩) | (go_at_call 11; refine (holds_any hE.ar hE.pw hE.qw hE.ap.p1 hE.ap.p2 hG hG' (by omega)).mono ?_; rintro e w5 ⟨rfl, hB5⟩) | (go_at_call 7; refine (awake_any _).mono ?_; rintro e w7 ⟨rfl, hb7⟩))
            go_ret
            have hb6 := But.under hE.bel hE.big hE.ap.b1 hE.ap.b2 hB5
            exact ⟨rfl, hb6.trans (hb7.mono hb6.size)⟩
        · clear hgo
          as_aux_lemma =>
            go_wp2_with (first | (go_at_call 6; refine (num_any _ _).mono ?_; rintro e w6 ⟨rfl, rfl⟩) | (go_at_call 11; refine (holds_any hE.ar hE.pw hE.qw hE.ap.p1 hE.ap.p2 hG hG' (by omega)).mono ?_; rintro e w5 ⟨rfl, hB5⟩) | (go_at_call 7; refine (awake_any _).mono ?_; rintro e w7 ⟨rfl, hb7⟩))
            go_ret
            have hb6 := But.under hE.bel hE.big hE.ap.b1 hE.ap.b2 hB5
            exact ⟨rfl, hb6.trans (hb7.mono hb6.size)⟩
end Go.Proofs.Ytlngjgjhmhpipaa
