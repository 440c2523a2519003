/- The walk of CollectEnds. -/
import Derived.Test.YtibnipockmnmhaaGreatMXAlive
import Derived.Test.YtibnipockmnmhaaGreatMXMoves
import Derived.Test.YtibnipockmnmhaaGreatMXRing
namespace Go.Proofs.YtibnipockmnmhaaGreat
open Go.RowKit
attribute [local go_sem ↓] app_C
theorem cinfo3 : (Tryz.prog.info? 3).map (fun i => (i.zero, i.size, i.bytes)) = some (some (.int .i64 0), 1, 8) := by kernel_rfl
section
variable {B : Nat} {w0 w w' : World} {hb : Nat} {u v : Value} {n keep c g gl r : Nat} {L : Nat → Nat} {D : Nat → Int} {lv : Nat → Bool}
theorem CvC.en0 {Z : Cx} (H : CvC B w0 w hb (cm0 16384 2) Z) : EnS B w0 hb 0 0 0 (fun _ => 0) 0 (.slice none 0 0) (.slice none 0 0) w :=
  ⟨_, Z, H.sd.less (fun k hk => by simp [ownB2, Value.ownBlock] at hk), Ri.nil _ _, Ri.nil _ _, fun k hk => by simp [Value.ownBlock] at hk, ⟨rfl, rfl, rfl, by show ¬ (0 : Int) < 0; omega, by show allB 2 (fun _ => true) = true; decide, rfl, fun x hx => by omega, rfl, rfl, fun x hx => by omega, rfl, rfl, fun x hx => by omega⟩, Nat.le_refl _⟩
theorem EnS.most {a b c' : Nat} (h : EnS B w0 hb n a b L c u v w) (hc : c ≤ c') : EnS B w0 hb n a b L c' u v w := by
  obtain ⟨X, Z, H, h1, h2, h3, h4, h5⟩ := h
  exact ⟨X, Z, H, h1, h2, h3, h4, by omega⟩
theorem EnS.sizes {a b : Nat} (h : EnS B w0 hb n a b L c u v w) : ∀ x, x < n → 1 ≤ L x ∧ L x ≤ 40 := by
  obtain ⟨X, Z, H, h1, h2, h3, h4, h5⟩ := h
  exact h4.big
theorem EnP.most {c' : Nat} {P : List Int} {Dr : Nat → Int} (h : EnP B w0 hb n L D Dr P c u v g w) (hc : c ≤ c') : EnP B w0 hb n L D Dr P c' u v g w := by
  obtain ⟨X, Z, h, hg⟩ := h
  exact ⟨X, Z, ⟨h.sd, h.r9, h.r10, h.row, h.dis, Nat.le_trans h.few hc, h.small⟩, hg⟩
theorem EnP.same {P : List Int} {D1 D2 : Nat → Int} (h : EnP B w0 hb n L D1 D2 P c u v g w) (e : ∀ x, D1 x = D x) (e2 : ∀ x, D2 x = D x) : EnP B w0 hb n L D D P c u v g w := by
  obtain rfl : D1 = D := funext e
  obtain rfl : D2 = D1 := funext e2
  exact h
theorem EnP.bel {P : List Int} {Dr : Nat → Int} (h : EnP B w0 hb n L D Dr P c u v g w) : Below B w0 w := let ⟨_, _, h, _⟩ := h; h.bel
theorem EnC.bel (h : EnC B w0 hb n keep L D c u v g gl lv r w) : Below B w0 w := let ⟨_, _, _, h, _⟩ := h; h.bel
theorem EnE.bel (h : EnE B w0 hb n keep L D c u v g gl lv w) : Below B w0 w := let ⟨_, _, _, h, _⟩ := h; h.bel
theorem EnE.most {c' : Nat} (h : EnE B w0 hb n keep L D c u v g gl lv w) (hc : c ≤ c') : EnE B w0 hb n keep L D c' u v g gl lv w := by
  obtain ⟨X, Z, Xb, h, hg, hl, h1, h2, h3, h4, h5⟩ := h
  exact ⟨X, Z, Xb, ⟨h.sd, h.r9, h.r10, h.row, h.dis, Nat.le_trans h.few hc, h.small⟩, hg, hl, h1, h2, h3, h4, h5⟩
theorem EnE.below (h : EnE B w0 hb n keep L D c u v g gl lv w) (q : Below w.heap.size w w') : EnE B w0 hb n keep L D c u v g gl lv w' := by
  obtain ⟨X, Z, Xb, h, hg, hl, h1⟩ := h
  exact ⟨X, Z, Xb, h.below q, hg, hl.of_block (q.block gl hl.lt), h1⟩
theorem EnC.pos (h : EnC B w0 hb n keep L D c u v g gl lv r w) : 1 ≤ r := by
  obtain ⟨X, Z, Xb, h, hg, hl, hq, _⟩ := h
  exact qz_pos hq
/-- What the rows hold. -/
theorem EnP.cells {P : List Int} {Dr : Nat → Int} {a1 a2 : Option Addr} {c1 c2 : Nat} (h : EnP B w0 hb n L D Dr P c (.slice a1 n c1) (.slice a2 n c2) g w) (hn : 0 < n) : ∃ p q, a1 = some ⟨p, 0, none⟩ ∧ a2 = some ⟨q, 0, none⟩ ∧ (p < w.heap.size ∧ q < w.heap.size ∧ g < w.heap.size) ∧ ∀ x, x < n → w.cell? ⟨p, x, none⟩ = some (.int .i64 ((x : Int) + 1)) ∧ w.cell? ⟨q, x, none⟩ = some (.int .i64 (L x : Nat)) ∧ w.cell? ⟨g, x, none⟩ = some (.int .i64 (Dr x)) :=
  let ⟨_, _, h, _⟩ := h; h.cells hn
theorem EnE.cells {a1 a2 : Option Addr} {c1 c2 : Nat} (h : EnE B w0 hb n keep L D c (.slice a1 n c1) (.slice a2 n c2) g gl lv w) (hn : 0 < n) : ∃ p q, a1 = some ⟨p, 0, none⟩ ∧ a2 = some ⟨q, 0, none⟩ ∧ (p < w.heap.size ∧ q < w.heap.size ∧ g < w.heap.size ∧ gl < w.heap.size) ∧ ∀ x, x < n → w.cell? ⟨p, x, none⟩ = some (.int .i64 ((x : Int) + 1)) ∧ w.cell? ⟨q, x, none⟩ = some (.int .i64 (L x : Nat)) ∧ w.cell? ⟨g, x, none⟩ = some (.int .i64 (D x)) ∧ w.cell? ⟨gl, x, none⟩ = some (.bool (lv x)) := by
  obtain ⟨X, Z, Xb, h, hg, hl, _⟩ := h
  obtain ⟨p, q, e1, e2, ⟨k1, k2, k3⟩, hc⟩ := h.cells hn
  exact ⟨p, q, e1, e2, ⟨k1, k2, k3, hl.lt⟩, fun x hx => ⟨(hc x hx).1, (hc x hx).2.1, (hc x hx).2.2, hl.cell hx⟩⟩
/-- A link, from the row to its cell. -/
theorem en_put {Dr : Nat → Int} {P : List Int} {j : Nat} (h : EnP B w0 hb n L D D P c u v g w) (hj : j < n) (hc : c ≤ 100000) (x : Int) (hx : 0 ≤ x ∧ x ≤ n) (hDr : ∀ y, Dr y = if y = j then x else D y) : ∀ w1, Below (w.setCell ⟨g, j, none⟩ (.int .i64 x)).heap.size (w.setCell ⟨g, j, none⟩ (.int .i64 x)) w1 → Calls Tryz.prog 15 #[.pointer (some ⟨hb, 0, none⟩), .int .i64 0, .int .i64 ((j : Int) + 1), .int .i64 ((L j : Int) - 1), .int .i64 x] w1 fun e w' => e = .returned (.int .i64 0) ∧ EnP B w0 hb n L Dr Dr P (c + 2) u v g w' := fun w1 b1 => by
  obtain ⟨X, Z, h, hg⟩ := h
  have h2 := (h.put j x hx).below b1
  refine (en_link h2 hg hj hc _ _ x rfl rfl).mono ?_
  rintro e w' ⟨q1, q2⟩
  exact ⟨q1, q2.same (fun y => (hDr y).symm) (fun y => (hDr y).symm)⟩
end
set_option maxRecDepth 20000 in
set_option maxHeartbeats 8000000 in
theorem ends_walk (vs : Value) (N : Nat) (f : Nat → Int) (vl : Value) (M : Nat) (fl : Nat → Int) (drops : Int) (w : World) (hv : Ints w vs N f) (hvl : Ints w vl M fl) : Calls Tryz.prog 4 #[vs, vl, .int .i64 drops] w fun e w' => e = .returned (.bool true) ∧ Below w.heap.size w w' := by
  obtain ⟨ao, cap, rfl, hv0⟩ := hv
  obtain ⟨aq, caq, rfl, hv1⟩ := hvl
  have H0 : Hid (N = 0 ∨ ∃ B o : Nat, ao = some ⟨B, o, none⟩ ∧ B < w.heap.size ∧ ∀ i, i < N → w.cell? ⟨B, o + i, none⟩ = some (.int .i64 (f i))) := hv0
  have H1 : Hid (M = 0 ∨ ∃ B o : Nat, aq = some ⟨B, o, none⟩ ∧ B < w.heap.size ∧ ∀ i, i < M → w.cell? ⟨B, o + i, none⟩ = some (.int .i64 (fl i))) := hv1
  clear hv0 hv1
  have hA := awake12 w
  go_enter Tryz.func4, Tryz.ntmps4
  go_wp2_with (first
    | (go_at_call 13; refine hA.mono ?_; rintro e w1 ⟨rfl, hb1⟩; clear hA; have hN := cnew_of 16384 2 16384 2 w1 rfl rfl (by omega) (by omega))
    | (go_at_call 9; refine hN.mono ?_; rintro e w2 ⟨hb, Z2, rfl, H2⟩; have HS : Hid (EnS w1.heap.size w1 hb 0 0 0 (fun _ => 0) 0 (.slice none 0 0) (.slice none 0 0) w2) := H2.en0; clear hN H2))
  go_loopg [9, 10, 11, 12] 21 (fun kx s9 s10 s11 s12 wr => ∃ (n : Nat) (L : Nat → Nat) (a9 a10 : Option Addr) (c9 c10 : Nat), s9 = .slice a9 n c9 ∧ s10 = .slice a10 n c10 ∧ s11 = .int .i64 (sumL L n : Nat) ∧ s12 = .int .i64 n ∧ n ≤ 20 ∧ 20 - n ≤ kx ∧ Hid (EnS w1.heap.size w1 hb n n n L (500 * n) (.slice a9 n c9) (.slice a10 n c10) wr))
  case atStart => exact ⟨0, fun _ => 0, none, none, 0, 0, rfl, rfl, rfl, rfl, by omega, by omega, HS.out⟩
  case round =>
    clear HS
    obtain ⟨n, L, a9, a10, c9, c10, rfl, rfl, rfl, rfl, hn, hkx, HI⟩ := hrel
    have hsl : sumL L n ≤ 40 * n := sumL_le n (fun x hx => (HI.out.sizes x hx).2)
    by_cases hiN : n < N ∧ n < 20
    · have g1 : (n : Int) < (N : Int) := by omega
      have g2 : (n : Int) < 20 := by omega
      have hbel : Below w.heap.size w wr := hb1.trans (HI.out.bel.mono hb1.size)
      obtain ⟨Bp, op, rfl, hBp, hcp⟩ := H0.out.resolve_left (by omega)
      have cpi : wr.cell? ⟨Bp, op + n, none⟩ = some (.int .i64 (f n)) := (World.cell?_of_block (a := ⟨Bp, op + n, none⟩) (hbel.block Bp hBp)).trans (hcp n (by omega))
      have hBpw : Bp < wr.heap.size := Nat.lt_of_lt_of_le hBp hbel.size
      obtain ⟨a, ha, la⟩ := at_modc 40 (f n) (by omega) (by omega)
      have ha' : wrap64 ((IntKind.u64.wrap (f n)).tmod 40) = (a : Int) := ha
      obtain ⟨k, hkk⟩ : ∃ k : Nat, k = a + 1 := ⟨_, rfl⟩
      have hka : (1 : Int) + (a : Int) = (k : Int) := by omega
      have hk40 : 1 ≤ k ∧ k ≤ 40 := by omega
      have HX : Hid (∀ u, Below wr.heap.size wr u → Calls Tryz.prog 14 #[.pointer (some ⟨hb, 0, none⟩), .int .i64 0, .int .i64 (kd2 n), .int .i64 n, .int .i64 k] u fun e w' => e = .returned (.tuple #[.int .i64 ((n : Int) + 1), .int .i64 0]) ∧ EnS w1.heap.size w1 hb (n + 1) n n (setN L n k) (500 * n + 500) (.slice a9 n c9) (.slice a10 n c10) w') := fun u bu => en_make (HI.out.below bu) (by omega) (by omega) k hk40
      have HSu : Hid (((sumL L n : Nat) : Int) + (k : Int) = ((sumL (setN L n k) (n + 1) : Nat) : Int)) := (by rw [sumL, show setN L n k n = k from if_pos rfl, sumL_congr (L := setN L n k) (L' := L) n (fun y hy => if_neg (by omega))]; rfl : _ = _)
      clear hcp hbel HI ha hkk la
      go_upto_region 10 with fail
      clear ha' hka cpi
      rcases (show n % 2 = 0 ∨ n % 2 = 1 by omega) with hpar | hpar
      · have hk2 : kd2 n = 1 := if_pos hpar
        have hbt : bits BinOp.and .i64 (n : Int) 1 = 0 := by rw [mask1]; omega
        rw [hk2] at HX
        clear hk2 hpar
        go_wp2_with (first
          | (go_at_call 14; refine (HX.out _ ((Below.refl _ _).alloc (Nat.le_refl _) _)).mono ?_; rintro e w3 ⟨rfl, hK⟩; obtain ⟨a4, c4, w4, hrun, hS4⟩ := en_app9 hK (by omega); obtain ⟨a5, c5, w5, hrun2, hS5⟩ := en_app10 hS4 (by omega) k (if_pos rfl); have HS5 : Hid (EnS w1.heap.size w1 hb (n + 1) (n + 1) (n + 1) (setN L n k) (500 * n + 500) (.slice a4 (n + 1) c4) (.slice a5 (n + 1) c5) w5) := hS5; clear HX hK hS4 hS5)
          | (go_at_call 10; refine (num_any _ _).mono ?_; rintro e w9 ⟨rfl, hw9⟩; replace hw9 := hw9.symm; subst hw9))
        go_roundg (20 - (n + 1))
        case measure => omega
        case rel => exact ⟨n + 1, setN L n k, a4, a5, c4, c5, rfl, rfl, by rw [← HSu.out], by go_num, by omega, by omega, HS5.out.most (by omega)⟩
      · have hk2 : kd2 n = 3 := if_neg (by omega)
        have hbt : bits BinOp.and .i64 (n : Int) 1 = 1 := by rw [mask1]; omega
        rw [hk2] at HX
        clear hk2 hpar
        go_wp2_with (first
          | (go_at_call 14; refine (HX.out _ ((Below.refl _ _).alloc (Nat.le_refl _) _)).mono ?_; rintro e w3 ⟨rfl, hK⟩; obtain ⟨a4, c4, w4, hrun, hS4⟩ := en_app9 hK (by omega); obtain ⟨a5, c5, w5, hrun2, hS5⟩ := en_app10 hS4 (by omega) k (if_pos rfl); have HS5 : Hid (EnS w1.heap.size w1 hb (n + 1) (n + 1) (n + 1) (setN L n k) (500 * n + 500) (.slice a4 (n + 1) c4) (.slice a5 (n + 1) c5) w5) := hS5; clear HX hK hS4 hS5)
          | (go_at_call 10; refine (num_any _ _).mono ?_; rintro e w9 ⟨rfl, hw9⟩; replace hw9 := hw9.symm; subst hw9))
        go_roundg (20 - (n + 1))
        case measure => omega
        case rel => exact ⟨n + 1, setN L n k, a4, a5, c4, c5, rfl, rfl, by rw [← HSu.out], by go_num, by omega, by omega, HS5.out.most (by omega)⟩
    · obtain ⟨sm, hsm⟩ : ∃ sm, sm = sumL L n := ⟨_, rfl⟩
      have HSm : Hid (sm = sumL L n ∧ ∀ x, x < n → 1 ≤ L x ∧ L x ≤ 40) := ⟨hsm, HI.out.sizes⟩
      rw [← hsm] at hsl
      rw [← hsm]
      clear hsm
      have hmk := run_make_row' (P := Tryz.prog) 39 3 (.int .i64 0) 8 Tryz.underlying39 cinfo3 rfl .i64 .i64 n (by omega) (by omega)
      have HP0 : Hid (EnP w1.heap.size w1 hb n L (fun _ => 0) (fun _ => 0) (seg 0 n) (500 * n) (.slice a9 n c9) (.slice a10 n c10) wr.heap.size (wr.alloc (.cells (madeCells #[.int .i64 0] n) 3))) := HI.out.row
      clear HI
      go_upto_region 7 with fail
      go_cut [45] (fun s45 wx => s45 = .bool false ∧ wr = wx)
      case first =>
        by_cases hl : n < N
        · have h2 : ¬ (n : Int) < 20 := by omega
          have h1 : (n : Int) < (N : Int) := by omega
          go_wp2_with fail
          go_meet
          exact ⟨rfl, rfl⟩
        · have h1 : ¬ (n : Int) < (N : Int) := by omega
          go_wp2_with fail
          go_meet
          exact ⟨rfl, rfl⟩
      case rest =>
      obtain ⟨rfl, rfl⟩ := hcut
      go_wp2_with fail
      clear hmk hiN
      obtain ⟨g, hgg⟩ : ∃ g, g = wr.heap.size := ⟨_, rfl⟩
      rw [← hgg] at HP0
      rw [← hgg]
      clear hgg
      go_loopg [17] 22 (fun kx s17 wx => ∃ (j : Nat) (D : Nat → Int), s17 = .int .i64 j ∧ j ≤ n ∧ n - j ≤ kx ∧ Hid (EnP w1.heap.size w1 hb n L D D (seg 0 n) (10000 + 2 * j) (.slice a9 n c9) (.slice a10 n c10) g wx ∧ ∀ x, j ≤ x → D x = 0))
      case atStart => exact ⟨0, fun _ => 0, rfl, by omega, by omega, HP0.out.most (by omega), fun _ _ => rfl⟩
      case round =>
        clear HP0
        obtain ⟨j, D, rfl, hj, hkj, HJ⟩ := hrel
        by_cases hjn : j < n
        · have g1 : (j : Int) < (n : Int) := by omega
          by_cases hjM : j < M
          · have g2 : (j : Int) < (M : Int) := by omega
            obtain ⟨p, q, rfl, rfl, ⟨lp, lq, lg⟩, hc⟩ := HJ.out.1.cells (by omega)
            have hbel : Below w.heap.size w wr := hb1.trans (HJ.out.1.bel.mono hb1.size)
            obtain ⟨Bq, oq, rfl, hBq, hcq⟩ := H1.out.resolve_left (by omega)
            have cqi : wr.cell? ⟨Bq, oq + j, none⟩ = some (.int .i64 (fl j)) := (World.cell?_of_block (a := ⟨Bq, oq + j, none⟩) (hbel.block Bq hBq)).trans (hcq j (by omega))
            have hBqw : Bq < wr.heap.size := Nat.lt_of_lt_of_le hBq hbel.size
            obtain ⟨y, hy, ly⟩ := at_modc n (fl j) (by omega) (by omega)
            have hnz : ((n : Int) == 0) = false := by simp; omega
            have cy := (hc y ly).1
            have g3 : (y : Int) < (n : Int) := by omega
            have cj := (hc j hjn).2.2
            have g4 : (0 : Int) ≤ (y : Int) := by omega
            have g5 : (0 : Int) ≤ (j : Int) := by omega
            have fzg : wr.frozen? ⟨g, j, none⟩ = false := let ⟨_, _, h, _⟩ := HJ.out.1; h.row.frozen j
            obtain ⟨Lj, hLj⟩ : ∃ Lj, Lj = L j := ⟨_, rfl⟩
            have hL40 := HSm.out.2 j hjn
            rw [← hLj] at hL40
            have hwj : IntKind.i64.wrap ((Lj : Int) - 1) = (Lj : Int) - 1 := by rw [IntKind.wrap_i64]; omega
            have HX : Hid (∀ wz, Below (wr.setCell ⟨g, j, none⟩ (.int .i64 ((y : Int) + 1))).heap.size (wr.setCell ⟨g, j, none⟩ (.int .i64 ((y : Int) + 1))) wz → Calls Tryz.prog 15 #[.pointer (some ⟨hb, 0, none⟩), .int .i64 0, .int .i64 ((j : Int) + 1), .int .i64 ((Lj : Int) - 1), .int .i64 ((y : Int) + 1)] wz fun e w' => e = .returned (.int .i64 0) ∧ (EnP w1.heap.size w1 hb n L (fun x => if x = j then (y : Int) + 1 else D x) (fun x => if x = j then (y : Int) + 1 else D x) (seg 0 n) (10000 + 2 * j + 2) (.slice (some ⟨p, 0, none⟩) n c9) (.slice (some ⟨q, 0, none⟩) n c10) g w') ∧ w'.cell? ⟨p, j, none⟩ = some (.int .i64 ((j : Int) + 1)) ∧ w'.cell? ⟨q, j, none⟩ = some (.int .i64 Lj) ∧ w'.cell? ⟨g, j, none⟩ = some (.int .i64 ((y : Int) + 1))) := fun u bu => by
              rw [hLj]
              refine (en_put HJ.out.1 hjn (by omega) ((y : Int) + 1) (by omega) (fun _ => rfl) u bu).mono ?_
              rintro e w' ⟨q1, q2⟩
              obtain ⟨p', q', e1, e2, _, hc2⟩ := q2.cells (by omega)
              simp only [Option.some.injEq, Addr.mk.injEq, and_true] at e1 e2
              subst e1 e2
              have := hc2 j hjn
              rw [if_pos rfl] at this
              exact ⟨q1, q2, this⟩
            have HY : Hid (((wr.setCell ⟨g, j, none⟩ (.int .i64 ((y : Int) + 1))).cell? ⟨p, j, none⟩ = some (.int .i64 ((j : Int) + 1)) ∧ (wr.setCell ⟨g, j, none⟩ (.int .i64 ((y : Int) + 1))).cell? ⟨q, j, none⟩ = some (.int .i64 Lj) ∧ (wr.setCell ⟨g, j, none⟩ (.int .i64 ((y : Int) + 1))).cell? ⟨g, j, none⟩ = some (.int .i64 ((y : Int) + 1))) ∧ p < (wr.setCell ⟨g, j, none⟩ (.int .i64 ((y : Int) + 1))).heap.size ∧ q < (wr.setCell ⟨g, j, none⟩ (.int .i64 ((y : Int) + 1))).heap.size ∧ g < (wr.setCell ⟨g, j, none⟩ (.int .i64 ((y : Int) + 1))).heap.size) := by
              obtain ⟨X, Z, h, hg⟩ := HJ.out.1
              have h2 := h.put j ((y : Int) + 1) (by omega)
              obtain ⟨p', q', e1, e2, k1, hc2⟩ := h2.cells (by omega)
              simp only [Option.some.injEq, Addr.mk.injEq, and_true] at e1 e2
              subst e1 e2
              have := hc2 j hjn
              rw [if_pos rfl, ← hLj] at this
              exact ⟨this, k1⟩
            have HD : Hid (∀ x, j + 1 ≤ x → (if x = j then (y : Int) + 1 else D x) = 0) := fun x hx => by rw [if_neg (by omega)]; exact HJ.out.2 x (by omega)
            clear hc hbel hcq HJ hLj
            go_upto_region 22 with fail
            obtain ⟨⟨y1, y2, y3⟩, y4, y5, y6⟩ := HY.out
            generalize hW : wr.setCell ⟨g, j, none⟩ (.int .i64 ((y : Int) + 1)) = W9 at *
            clear HY hW hy cqi cy cj
            go_region_held3 (fun w' => w'.cell? ⟨p, j, none⟩ = some (.int .i64 ((j : Int) + 1)) ∧ w'.cell? ⟨q, j, none⟩ = some (.int .i64 Lj) ∧ w'.cell? ⟨g, j, none⟩ = some (.int .i64 ((y : Int) + 1))) (go_keep) ((go_at_call 15; refine (HX.out _ (by first | exact (Below.refl _ _).drew.drew | exact (Below.refl _ _).drew)).mono ?_; rintro e w3 ⟨rfl, hP, k3, k4, k5⟩; have HP : Hid (EnP w1.heap.size w1 hb n L (fun x => if x = j then (y : Int) + 1 else D x) (fun x => if x = j then (y : Int) + 1 else D x) (seg 0 n) (10000 + 2 * j + 2) (.slice (some ⟨p, 0, none⟩) n c9) (.slice (some ⟨q, 0, none⟩) n c10) g w3) := hP; clear HX hP))
            go_wp2
            go_roundg (n - (j + 1))
            case measure => omega
            case rel => exact ⟨j + 1, _, by go_num, by omega, by omega, HP.out, HD.out⟩
          · have g2 : ¬ (j : Int) < (M : Int) := by omega
            have HJ2 : Hid (EnP w1.heap.size w1 hb n L D D (seg 0 n) (10000 + 2 * (j + 1)) (.slice a9 n c9) (.slice a10 n c10) g wr ∧ ∀ x, j + 1 ≤ x → D x = 0) := ⟨HJ.out.1.most (by omega), fun x hx => HJ.out.2 x (by omega)⟩
            clear HJ
            go_wp2
            go_roundg (n - (j + 1))
            case measure => omega
            case rel => exact ⟨j + 1, D, by go_num, by omega, by omega, HJ2.out⟩
        · have g1 : ¬ (j : Int) < (n : Int) := by omega
          have HE : Hid (EnP w1.heap.size w1 hb n L D D (seg 0 n) 20000 (.slice a9 n c9) (.slice a10 n c10) g wr) := HJ.out.1.most (by omega)
          clear HJ
          obtain ⟨keep, hkn, hkeep⟩ : ∃ keep : Nat, keep ≤ n ∧ (1 ≤ n → wrap64 ((IntKind.u64.wrap drops).tmod ((n : Int) + 1)) = (keep : Int)) ∧ (n = 0 → keep = 0) := by
            obtain ⟨a, ha, la⟩ := at_modc (n + 1) drops (by omega) (by omega)
            refine ⟨a, by omega, fun _ => ?_, fun h => by omega⟩
            rw [← ha]; rfl
          have HK : Hid ((1 ≤ n → wrap64 ((IntKind.u64.wrap drops).tmod ((n : Int) + 1)) = (keep : Int)) ∧ (n = 0 → keep = 0)) := hkeep
          clear hkeep
          go_upto_if 130 with fail
          go_cut [18] (fun s18 wx => s18 = .int .i64 keep ∧ wr = wx)
          case first =>
            by_cases hl : 1 ≤ n
            · have h1 : (0 : Int) < (n : Int) := by omega
              have hkk := HK.out.1 hl
              have hnz : ((n : Int) + 1 == 0) = false := by simp; omega
              clear HK
              go_wp2_with fail
              go_meet
              exact ⟨rfl, rfl⟩
            · have h1 : ¬ (0 : Int) < (n : Int) := by omega
              have hn0 : n = 0 := by omega
              have hk0 : keep = 0 := HK.out.2 hn0
              have HZ : Hid (n = keep) := (by omega : n = keep)
              clear HK hk0 hn0
              go_wp2_with fail
              go_meet
              exact ⟨by rw [HZ.out], rfl⟩
          case rest =>
          obtain ⟨rfl, rfl⟩ := hcut
          clear HK
          go_wp2_with fail
          go_loopg [19] 22 (fun kx s19 wx => ∃ t : Nat, s19 = .int .i64 t ∧ keep ≤ t ∧ t ≤ n ∧ t - keep ≤ kx ∧ Hid (EnP w1.heap.size w1 hb n L D D (seg 0 t) 20000 (.slice a9 n c9) (.slice a10 n c10) g wx))
          case atStart => exact ⟨n, rfl, hkn, by omega, by omega, HE.out⟩
          case round =>
            clear HE
            obtain ⟨t, rfl, htk, htn, hkt, HT⟩ := hrel
            by_cases htl : keep < t
            · have g3 : (keep : Int) < (t : Int) := by omega
              have hPp := en_pop (j := t - 1) (by rw [show t - 1 + 1 = t by omega]; exact HT.out)
              clear HT
              go_wp2_with (go_at_call 16; refine hPp.mono ?_; rintro e w6 ⟨⟨x6, y6, rfl⟩, hT6⟩; have HT6 : Hid (EnP w1.heap.size w1 hb n L D D (seg 0 (t - 1)) 20000 (.slice a9 n c9) (.slice a10 n c10) g w6) := hT6; clear hPp hT6)
              go_roundg (t - 1 - keep)
              case measure => omega
              case rel => exact ⟨t - 1, by rw [show ((t - 1 : Nat) : Int) = (t : Int) - 1 by omega], by omega, by omega, by omega, HT6.out⟩
            · have g3 : ¬ (keep : Int) < (t : Int) := by omega
              have hte : t = keep := by omega
              rw [hte] at HT
              obtain ⟨hsmall, hlg⟩ : (∀ x, x < n → 0 ≤ D x ∧ D x ≤ n) ∧ g < wr.heap.size := let ⟨_, _, h, _⟩ := HT.out; ⟨h.small, h.row.lt⟩
              have hAl := alive_ok wr n keep hn hkn a9 c9 g D hsmall (by
                rcases Nat.eq_zero_or_pos n with q | q
                · exact .inl q
                · obtain ⟨p, q', e1, _, k1, hc⟩ := HT.out.cells q
                  exact .inr ⟨p, e1, k1.1, fun x hx => (hc x hx).1⟩) hlg (fun x hx => by
                obtain ⟨p, q', e1, _, k1, hc⟩ := HT.out.cells (by omega)
                exact (hc x hx).2.2)
              have HXA : Hid (∀ lv u, AlS wr wr.heap.size n lv u → Alv n keep keep D lv 0 → Calls Tryz.prog 18 #[.pointer (some ⟨hb, 0, none⟩)] u fun e w' => e = .returned (.int .i64 0) ∧ ∃ r, r ≤ sumL L n + 2 * n + 4 ∧ r ≤ 900 ∧ EnC w1.heap.size w1 hb n keep L D (20000 + 500 * 900) (.slice a9 n c9) (.slice a10 n c10) g wr.heap.size lv r w') := fun lv u hu hal => en_begin (HT.out.live hu) hkn hn hal (by omega)
              have HD0 : Hid (∀ x, x < n → 0 ≤ D x ∧ D x ≤ n) := hsmall
              clear HT hsmall hlg hte
              obtain ⟨gl, hgl⟩ : ∃ gl, gl = wr.heap.size := ⟨_, rfl⟩
              have HGl : Hid (gl = wr.heap.size) := hgl
              clear hgl
              go_wp2_with (first
                | (go_at_call 17; refine hAl.mono ?_; rintro e w5 ⟨lv, rfl, hS5, hal⟩; have hBg := HXA.out lv w5 hS5 hal; rw [← HGl.out] at hBg; rw [← HGl.out]; have HAl : Hid (Alv n keep keep D lv 0) := hal; clear hAl hS5 hal HXA)
                | (go_at_call 18; refine hBg.mono ?_; rintro e w6 ⟨rfl, r, hr1, hr2, hC6⟩; have HC6 : Hid (EnC w1.heap.size w1 hb n keep L D (20000 + 500 * 900) (.slice a9 n c9) (.slice a10 n c10) g gl lv r w6) := hC6; rw [← HSm.out.1] at hr1; clear hBg hC6))
              have hcnt : cntB n lv ≤ n := cntB_le lv n
              obtain ⟨many, hmany⟩ : ∃ many, many = cntB n lv := ⟨_, rfl⟩
              have HMy : Hid (many = cntB n lv) := hmany
              rw [← hmany] at hcnt
              rw [← hmany]
              clear hmany
              go_loopg [24, 25] 902 (fun kx s24 s25 wx => ∃ (kk rr : Nat) (b : Bool), s24 = .int .i64 kk ∧ s25 = .bool b ∧ kk + rr ≤ sm + 2 * n + 4 ∧ rr ≤ kx ∧ Hid ((b = true ∧ EnC w1.heap.size w1 hb n keep L D (20000 + 500 * 900) (.slice a9 n c9) (.slice a10 n c10) g gl lv rr wx) ∨ (b = false ∧ EnE w1.heap.size w1 hb n keep L D 500000 (.slice a9 n c9) (.slice a10 n c10) g gl lv wx)))
              case atStart => exact ⟨0, r, true, rfl, rfl, by omega, by omega, .inl ⟨rfl, HC6.out⟩⟩
              case round =>
                clear HC6
                obtain ⟨kk, rr, b, rfl, rfl, hkr, hkx2, HR⟩ := hrel
                cases b with
                | true =>
                  have hC : EnC w1.heap.size w1 hb n keep L D (20000 + 500 * 900) (.slice a9 n c9) (.slice a10 n c10) g gl lv rr wr := by
                    rcases HR.out with q | q
                    · exact q.2
                    · exact absurd q.1 (by decide)
                  have hrr := hC.pos
                  have hSt := en_step hC (by omega)
                  have hd : decide ((64 : Int) + 24 * (n : Int) + 8 * (sm : Int) + 8 * (n : Int) < (kk : Int) + 1) = false := by simp; omega
                  have HN : Hid (∀ b' u, EnA w1.heap.size w1 hb n keep L D (20000 + 500 * 900) (.slice a9 n c9) (.slice a10 n c10) g gl lv rr 2 b' u → (b' = true ∧ ∃ r', r' < rr ∧ EnC w1.heap.size w1 hb n keep L D (20000 + 500 * 900) (.slice a9 n c9) (.slice a10 n c10) g gl lv r' u) ∨ (b' = false ∧ EnE w1.heap.size w1 hb n keep L D 500000 (.slice a9 n c9) (.slice a10 n c10) g gl lv u)) := fun b' u h => (en_next h hkn HAl.out HD0.out).imp id (fun q => ⟨q.1, q.2.most (by omega)⟩)
                  clear HR hC
                  go_wp2_with (first
                    | (go_at_call 19; refine hSt.mono ?_; rintro e w10 ⟨b', rfl, hA10⟩; have hAn := en_ans hA10 (by omega) 0 rfl; clear hSt hA10)
                    | (go_at_call_of 20 (Value.int .i64 0); refine hAn.mono ?_; rintro e w11 ⟨rfl, hA11⟩; have hAm := en_ans hA11 (by omega) 1 rfl; clear hAn hA11)
                    | (go_at_call 20; refine hAm.mono ?_; rintro e w12 ⟨rfl, hA12⟩; have HA12 := HN.out b' w12 hA12; have HA13 : Hid ((b' = true ∧ ∃ r', r' < rr ∧ EnC w1.heap.size w1 hb n keep L D (20000 + 500 * 900) (.slice a9 n c9) (.slice a10 n c10) g gl lv r' w12) ∨ (b' = false ∧ EnE w1.heap.size w1 hb n keep L D 500000 (.slice a9 n c9) (.slice a10 n c10) g gl lv w12)) := HA12; clear hAm hA12 HA12 HN)
                    | (go_at_call 10; refine (num_any _ _).mono ?_; rintro e w9 ⟨rfl, hw9⟩; replace hw9 := hw9.symm; subst hw9))
                  go_roundg (rr - 1)
                  case measure => omega
                  case rel =>
                    rcases HA13.out with ⟨e1, r', h1, h2⟩ | ⟨e1, h2⟩
                    · refine ⟨kk + 1, r', b', by go_num, rfl, by omega, by omega, .inl ⟨e1, h2⟩⟩
                    · refine ⟨kk + 1, 0, b', by go_num, rfl, by omega, by omega, .inr ⟨e1, h2⟩⟩
                | false =>
                  have HE : Hid (EnE w1.heap.size w1 hb n keep L D 500000 (.slice a9 n c9) (.slice a10 n c10) g gl lv wr) := by
                    rcases HR.out with q | q
                    · exact absurd q.1 (by decide)
                    · exact q.2
                  clear HR
                  have hRf := en_refs HE.out (by omega)
                  rw [← HMy.out] at hRf
                  clear HE
                  have hbb : ((many : Int) != (many : Int)) = false := by simp
                  go_wp2_with (first
                    | (go_at_call 21; refine hRf.mono ?_; rintro e w10 ⟨⟨a10', c10', rfl⟩, hE10⟩; have HE10 : Hid (EnE w1.heap.size w1 hb n keep L D 500000 (.slice a9 n c9) (.slice a10 n c10) g gl lv w10) := hE10; clear hRf hE10)
                    | (go_at_call 10; refine (num_any _ _).mono ?_; rintro e w9 ⟨rfl, hw9⟩; replace hw9 := hw9.symm; subst hw9))
                  go_loopg [29] 22 (fun kx s29 wx => ∃ x : Nat, s29 = .int .i64 x ∧ x ≤ n ∧ n - x ≤ kx ∧ Hid (EnE w1.heap.size w1 hb n keep L D (500000 + x) (.slice a9 n c9) (.slice a10 n c10) g gl lv wx))
                  case atStart => exact ⟨0, rfl, by omega, by omega, HE10.out⟩
                  case round =>
                    clear HE10
                    obtain ⟨x, rfl, hxn, hkx3, HX⟩ := hrel
                    by_cases hx : x < n
                    · have g4 : (x : Int) < (n : Int) := by omega
                      obtain ⟨p, q, rfl, rfl, ⟨lp, lq, lg, lgl⟩, hc⟩ := HX.out.cells (by omega)
                      obtain ⟨c1, c2, c3, c4⟩ := hc x hx
                      clear hc
                      cases hlx : lv x with
                      | false =>
                        rw [hlx] at c4
                        have HX2 : Hid (EnE w1.heap.size w1 hb n keep L D (500000 + (x + 1)) (.slice (some ⟨p, 0, none⟩) n c9) (.slice (some ⟨q, 0, none⟩) n c10) g gl lv wr) := HX.out.most (by omega)
                        clear HX hlx
                        go_wp2
                        go_roundg (n - (x + 1))
                        case measure => omega
                        case rel => exact ⟨x + 1, by go_num, by omega, by omega, HX2.out⟩
                      | true =>
                        rw [hlx] at c4
                        obtain ⟨Lx, hLx⟩ : ∃ Lx, Lx = L x := ⟨_, rfl⟩
                        have hL40 := HSm.out.2 x hx
                        rw [← hLx] at hL40 c2
                        have hwj : IntKind.i64.wrap ((Lx : Int) - 1) = (Lx : Int) - 1 := by rw [IntKind.wrap_i64]; omega
                        obtain ⟨Dx, hDx⟩ : ∃ Dx, Dx = D x := ⟨_, rfl⟩
                        have hbb2 : (Dx != Dx) = false := by simp
                        rw [← hDx] at c3
                        have HXL : Hid (∀ u, Below wr.heap.size wr u → Calls Tryz.prog 22 #[.pointer (some ⟨hb, 0, none⟩), .int .i64 1, .int .i64 ((x : Int) + 1), .int .i64 ((Lx : Int) - 1)] u fun e w' => e = .returned (.tuple #[.int .i64 Dx, .int .i64 0]) ∧ EnE w1.heap.size w1 hb n keep L D (500000 + x + 1) (.slice (some ⟨p, 0, none⟩) n c9) (.slice (some ⟨q, 0, none⟩) n c10) g gl lv w' ∧ (w'.cell? ⟨p, x, none⟩ = some (.int .i64 ((x : Int) + 1)) ∧ w'.cell? ⟨q, x, none⟩ = some (.int .i64 Lx)) ∧ w'.cell? ⟨g, x, none⟩ = some (.int .i64 Dx) ∧ g < w'.heap.size) := fun u bu => by
                          rw [hLx, hDx]
                          refine (en_load (HX.out.below bu) hx hlx (by omega) _ _ rfl rfl).mono ?_
                          rintro e w' ⟨q1, q2⟩
                          obtain ⟨p', q', e1, e2, k1, hc2⟩ := q2.cells (by omega)
                          simp only [Option.some.injEq, Addr.mk.injEq, and_true] at e1 e2
                          subst e1 e2
                          have := hc2 x hx
                          exact ⟨q1, q2, ⟨this.1, this.2.1⟩, this.2.2.1, k1.2.2.1⟩
                        clear HX hlx hLx hDx
                        go_upto_region 50 with fail
                        go_region_held3 (fun w' => w'.cell? ⟨p, x, none⟩ = some (.int .i64 ((x : Int) + 1)) ∧ w'.cell? ⟨q, x, none⟩ = some (.int .i64 Lx)) (go_keep) ((go_at_call 22; refine (HXL.out _ (by first | exact (Below.refl _ _).drew.drew | exact (Below.refl _ _).drew)).mono ?_; rintro e w3 ⟨rfl, hE3, ⟨k3, k4⟩, k5, k6⟩; have HE3 : Hid (EnE w1.heap.size w1 hb n keep L D (500000 + x + 1) (.slice (some ⟨p, 0, none⟩) n c9) (.slice (some ⟨q, 0, none⟩) n c10) g gl lv w3) := hE3; clear HXL hE3))
                        go_wp2_with (go_at_call 10; refine (num_any _ _).mono ?_; rintro e w9 ⟨rfl, hw9⟩; replace hw9 := hw9.symm; subst hw9)
                        go_roundg (n - (x + 1))
                        case measure => omega
                        case rel => exact ⟨x + 1, by go_num, by omega, by omega, HE3.out⟩
                    · have g4 : ¬ (x : Int) < (n : Int) := by omega
                      have hCy := en_cycles HX.out
                      have hPh := en_phase HX.out
                      have HB : Hid (Below w.heap.size w _) := hb1.trans (HX.out.bel.mono hb1.size)
                      clear HX
                      go_wp2_with (first
                        | (go_at_call 23; refine hCy.mono ?_; rintro e w9 ⟨rfl, hw9⟩; replace hw9 := hw9.symm; subst hw9; clear hCy)
                        | (go_at_call 24; refine hPh.mono ?_; rintro e w9 ⟨rfl, hw9⟩; replace hw9 := hw9.symm; subst hw9; clear hPh))
                      go_ret
                      exact ⟨rfl, HB.out⟩
end Go.Proofs.YtibnipockmnmhaaGreat
