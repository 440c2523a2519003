/- The walk of ObjectActs. -/
import Derived.Test.YtojblddfggoecaaGreatOAct
namespace Go.Proofs.YtojblddfggoecaaGreat
open Go.RowKit
/-- One act, whatever it is. -/
theorem act8_any {B : Nat} {w0 w : World} {so p b W N m y : Nat} (h : Edge8 B w0 w so p b W N m y) (hm : m ≤ 5000) (K A q I n : Int) (hw : (Lit.int .i64 q).wf = true) :
    Calls Tryz.prog 6 #[.pointer (some ⟨y, 0, none⟩), .agg #[.int .i64 K, .int .i64 A, .int .i64 q, .int .i64 I, .int .i64 n]] w (ActPost8 B w0 so p b W N (m + 1) y) := by
  obtain ⟨P, cs, ws, O, vr, vo, L, h1, h2⟩ := h
  by_cases k0 : K < 2
  · exact act8_make h1 h2 hm K A q I n hw k0
  by_cases k1 : K < 6
  · exact act8_word h1 h2 hm K A q I n hw ⟨by omega, k1⟩
  by_cases k2 : K = 6
  · exact act8_free h1 h2 hm K A q I n hw k2
  exact act8_size h1 h2 hm K A q I n hw (by omega)
theorem edge8_start {w w1 : World} {P : Nat → Prop} {so p b W N : Nat} (h : Ev w.heap.size w w1 P so p b W N 0 (fun _ => 0) (fun _ => 0) []) :
    Edge8 w.heap.size w (w1.alloc (.cells #[.pointer (some ⟨so, 0, none⟩), .pointer (some ⟨p, 0, none⟩), .pointer (some ⟨b, 0, none⟩), .int .i64 N, .slice none 0 0, .slice none 0 0] 32)) so p b W N 0 w1.heap.size :=
  ⟨P, _, _, [], _, _, [], ⟨h.below ((Below.refl _ _).alloc (Nat.le_refl _) _), heap_alloc_new w1 _, Rw.nil _ _ _, Rw.nil _ _ _, fun x hx => by simp at hx, List.Pairwise.nil, ⟨fun r => by have := h.lt _ r; omega, h.size⟩, fun k hk => by simp [Value.ownBlock] at hk, fun k hk => by simp [Value.ownBlock] at hk⟩, rfl, fun x hx => by simp at hx⟩
theorem masked63k (n : Int) : ∃ k : Nat, 1 + bits BinOp.and .i64 n 63 = (k : Int) ∧ 1 ≤ k ∧ k ≤ 64 := by
  obtain ⟨r, hr, h4⟩ := masked63 n
  exact ⟨1 + r, by rw [hr]; omega, by omega, by omega⟩
set_option maxRecDepth 20000 in
set_option maxHeartbeats 8000000 in
theorem acts8_walk (count : Int) (ao : Option Addr) (len cap : Nat) (w : World) (_hlen : len ≤ maxLen)
    (hs : len = 0 ∨ ∃ (B o : Nat) (F : Nat → Nat → Int), ao = some ⟨B, o, none⟩ ∧ B < w.heap.size ∧ ∀ i j, i < len → j < 5 → w.cell? ⟨B, o + i * 5 + j, none⟩ = some (.int .i64 (F i j)) ∧ (Lit.int .i64 (F i j)).wf = true) :
    Calls Tryz.prog 3 #[.int .i64 count, .slice ao len cap] w fun e w' => e = .returned (.bool true) ∧ Below w.heap.size w w' := by
  obtain ⟨N, hN, N1, N64⟩ := masked63k count
  unfold maxLen at _hlen
  have Hs : Hid (len = 0 ∨ ∃ (B o : Nat) (F : Nat → Nat → Int), ao = some ⟨B, o, none⟩ ∧ B < w.heap.size ∧ ∀ i j, i < len → j < 5 → w.cell? ⟨B, o + i * 5 + j, none⟩ = some (.int .i64 (F i j)) ∧ (Lit.int .i64 (F i j)).wf = true) := hs
  clear hs
  have hbg := begun8_ok N w N1 (by omega)
  go_enter Tryz.func3, Tryz.ntmps3
  go_wp2_with (go_at_call 5; refine hbg.mono ?_; rintro e w1 ⟨so, p, b, P1, rfl, E1⟩; clear hbg)
  have hE0 := edge8_start E1
  clear E1 hN
  generalize 14 * N + 64 = W at hE0
  generalize World.alloc _ _ = U at hE0 ⊢
  generalize w1.heap.size = y at hE0 ⊢
  go_loopg [11, 12, 13] 301 (fun kx s11 s12 s13 wr => ∃ t : Nat, s11 = .int .i64 t ∧ t ≤ 300 ∧ 300 - t ≤ kx ∧ Edge8 w.heap.size w wr so p b W N t y)
  case atStart => exact ⟨0, rfl, by omega, by omega, hE0⟩
  case round =>
  clear hE0
  obtain ⟨t, rfl, ht, hkx, hE⟩ := hrel
  obtain ⟨gb, hgb⟩ : ∃ gb : Bool, gb = decide (t < len ∧ t < 300) := ⟨_, rfl⟩
  have Hgb : Hid (gb = decide (t < len ∧ t < 300)) := hgb
  clear hgb
  go_upto_region 7 with fail
  go_cut [41] from 34 to 41 (fun s41 wx => s41 = .bool gb ∧ wx = wr)
  case first =>
    by_cases t1 : t < len
    · have t1' : (t : Int) < (len : Int) := by omega
      by_cases t2 : t < 300
      · have t2' : (t : Int) < 300 := by omega
        as_aux_lemma =>
          go_wp2_with fail
          go_meet
          exact ⟨by rw [Hgb.out, decide_eq_true ⟨t1, t2⟩], rfl⟩
      · have t2' : decide ((t : Int) < 300) = false := by simp; omega
        as_aux_lemma =>
          go_wp2_with fail
          go_meet
          exact ⟨by rw [Hgb.out, decide_eq_false (by omega)], rfl⟩
    · have t1' : decide ((t : Int) < (len : Int)) = false := by simp; omega
      as_aux_lemma =>
        go_wp2_with fail
        go_meet
        exact ⟨by rw [Hgb.out, decide_eq_false (by omega)], rfl⟩
  case rest =>
  obtain ⟨rfl, rfl⟩ := hcut
  cases hgg : gb with
  | true =>
    have hgo : t < len ∧ t < 300 := by
      have := Hgb.out; rw [hgg] at this; simpa using this
    obtain ⟨Bs, o, F, rfl, hB, hF⟩ := Hs.out.resolve_left (by omega)
    have hbel : Below w.heap.size w wc := by obtain ⟨_, _, _, _, _, _, _, hP, _⟩ := hE; exact hP.ev.bel
    have cel : ∀ j, j < 5 → wc.cell? ⟨Bs, o + t * 5 + j, none⟩ = some (.int .i64 (F t j)) := fun j hj => (hbel.cell hB).trans (hF t j hgo.1 hj).1
    have hwf := (hF t 2 hgo.1 (by omega)).2
    obtain ⟨K, hK⟩ : ∃ K, F t 0 = K := ⟨_, rfl⟩
    obtain ⟨A, hA⟩ : ∃ A, F t 1 = A := ⟨_, rfl⟩
    obtain ⟨q, hq⟩ : ∃ q, F t 2 = q := ⟨_, rfl⟩
    obtain ⟨I, hI⟩ : ∃ I, F t 3 = I := ⟨_, rfl⟩
    obtain ⟨n, hn⟩ : ∃ n, F t 4 = n := ⟨_, rfl⟩
    have d0 := cel 0 (by omega)
    have d1 := cel 1 (by omega)
    have d2 := cel 2 (by omega)
    have d3 := cel 3 (by omega)
    have d4 := cel 4 (by omega)
    rw [hK] at d0
    rw [hA] at d1
    rw [hq] at d2 hwf
    rw [hI] at d3
    rw [hn] at d4
    rw [Nat.add_zero] at d0
    have hact := act8_any hE (by omega) K A q I n hwf
    have hlt : (t : Int) < (len : Int) := by omega
    clear cel hF hK hA hq hI hn hE hbel hwf Hs
    as_aux_lemma =>
      go_wp2_with (first
        | (go_at_call 6; refine hact.mono ?_; rintro e w2 ⟨rfl, P2, cs2, ws2, O2, vr2, vo2, L2, hP2, hA2⟩; have cc2 := hP2.cells; have hRf := v_refs hP2.ev; have HA : Hid (Agr8 ws2 O2 L2) := hA2; have HP2 : Hid (Play8 w.heap.size w w2 P2 so p b W N (t + 1) cs2 ws2 O2 y vr2 vo2 (rowR L2) L2) := hP2; clear hact hA2 hP2 d0 d1 d2 d3 d4)
        | (go_at_call 7; refine hRf.mono ?_; rintro e w3 ⟨v3, F3, rfl, hM3, hR3, hb3⟩; obtain ⟨ao3, c3, rfl⟩ := hM3.form; have HM3 : Hid (Mine w3 w2.heap.size (.slice ao3 O2.length c3) O2.length F3 ∧ Rising O2 F3 ∧ Below w2.heap.size w2 w3) := ⟨hM3, hR3, hb3⟩; clear hM3 hR3 hb3 hRf cc2))
      have hlen : L2.length = O2.length := by have := HA.out.1; rw [this, List.length_map]
      have hle : O2.length ≤ 1000 := by
        have h1 := tot_len O2
        have h2 := HP2.out.ev.fit
        obtain ⟨_, _, e⟩ := HP2.out.ev.inv
        omega
      obtain ⟨aor, cr, evr⟩ := HP2.out.refs.form
      rw [rowR_len, hlen] at evr
      subst evr
      have HL : Hid (L2.length = O2.length) := hlen
      clear hlen
      generalize hn3 : O2.length = n3 at *
      have HN3 : Hid (O2.length = n3) := hn3
      clear hn3
      go_loopg [13] (n3 + 1) (fun kx s13 wx => ∃ j : Nat, s13 = .int .i64 j ∧ j ≤ n3 ∧ n3 - j ≤ kx ∧ Below w3.heap.size w3 wx)
      case atStart => exact ⟨0, rfl, by omega, by omega, Below.refl _ _⟩
      case round =>
      obtain ⟨j, rfl, hj, hk2, hbx⟩ := hrel
      have hPx := (HP2.out.below HM3.out.2.2).below hbx
      have hMx := HM3.out.1.below hbx
      have cx := hPx.cells
      by_cases hjl : j < n3
      · have hjl' : (j : Int) < (n3 : Int) := by omega
        obtain ⟨g3, rfl, hc3⟩ := hMx.cellAt (by omega)
        have cj := hc3 j hjl
        obtain ⟨R, hR⟩ := fnd_any (F3 j) L2
        have hRn : ¬ R < 0 := fun r => by
          obtain ⟨o, ho, e⟩ := HM3.out.2.1.2 j (by rw [HN3.out]; exact hjl)
          rw [HA.out.1] at ho
          obtain ⟨x, hx, rfl⟩ := List.mem_map.1 ho
          exact (hR.miss r).2 x hx e
        obtain ⟨i, x, hx, _, rfl⟩ := hR.got hRn
        have hat := fun k => at8_ok (hPx.below (below_drewN _ k _)) (by rw [HL.out]; exact hle) (F3 j) i hR
        have hi0 : decide ((i : Int) < 0) = false := by simp
        clear hR hRn hx hMx
        cases j with
        | zero =>
          clear hc3
          go_wp2
          go_quiet ((go_at_call 8; exact Calls.quiet_of_same (hat _)))
          go_wp2
          go_roundg (n3 - 1)
          case measure => omega
          case rel => exact ⟨1, by go_num, by omega, by omega, hbx.trans ((below_drewN _ nq _).mono (Nat.le_refl _))⟩
        | succ j =>
          have cj0 := hc3 j (by omega)
          have hri := HM3.out.2.1.1 j (by rw [HN3.out]; omega)
          have hri2 : decide (F3 (j + 1) ≤ F3 j) = false := by simp; omega
          have hj0 : (0 : Int) < ((j + 1 : Nat) : Int) := by omega
          clear hc3
          go_wp2
          go_quiet ((go_at_call 8; exact Calls.quiet_of_same (hat _)))
          go_wp2
          go_roundg (n3 - (j + 2))
          case measure => omega
          case rel => exact ⟨j + 2, by go_num, by omega, by omega, hbx.trans ((below_drewN _ nq _).mono (Nat.le_refl _))⟩
      · have hjl' : ¬ (j : Int) < (n3 : Int) := by omega
        have hsp := spoil_ok ao3 n3 c3 F3 (fun g => ao3 = some ⟨g, 0, none⟩ ∧ w2.heap.size ≤ g) _ (hMx.row.imp id (fun ⟨g, e1, e2, e3⟩ => ⟨g, e1, ⟨e1, e2⟩, e3⟩)) hle
        have hb2x : Below w2.heap.size w2 _ := HM3.out.2.2.trans (hbx.mono HM3.out.2.2.size)
        clear hMx hPx
        go_wp2_with (go_at_call 9; refine hsp.mono ?_; rintro e w5 ⟨rfl, hB5⟩)
        go_roundg (300 - (t + 1))
        case measure => omega
        case rel => exact ⟨t + 1, by go_num, by omega, by omega, P2, cs2, ws2, O2, _, vo2, L2, HP2.out.below (Bt.under hb2x hb2x.size (fun g r => r.2) hB5), HA.out⟩
  | false =>
    obtain ⟨P, cs, ws, O, vr, vo, L, hP, hA⟩ := hE
    have hlen : L.length = O.length := by have := hA.1; rw [this, List.length_map]
    have hle : O.length ≤ 1000 := by
      have h1 := tot_len O
      have h2 := hP.ev.fit
      obtain ⟨_, _, e⟩ := hP.ev.inv
      omega
    obtain ⟨aor, cr, evr⟩ := hP.refs.form
    rw [rowR_len, hlen] at evr
    subst evr
    have HL : Hid (L.length = O.length) := hlen
    have HA : Hid (Agr8 ws O L) := hA
    have cc := hP.cells
    clear hlen Hs Hgb hgg hA
    generalize hn3 : O.length = M at *
    have HM : Hid (O.length = M) := hn3
    clear hn3
    as_aux_lemma =>
      go_wp2
      have HP : Hid (Play8 w.heap.size w wc P so p b W N t cs ws O y (.slice aor M cr) vo (rowR L) L) := hP
      clear hP cc
      go_loopg [14, 15] (M + 1) (fun kx s14 s15 wx => ∃ z : Nat, s14 = .int .i64 z ∧ z ≤ M ∧ M - z ≤ kx ∧ ∃ P m cs ws', Play8 w.heap.size w wx P so p b W N m cs ws' (O.drop z) y (.slice aor M cr) vo (rowR L) L ∧ m ≤ 400 + z)
      case atStart => exact ⟨0, rfl, by omega, by omega, P, t, cs, ws, HP.out, by omega⟩
      case round =>
      clear HP
      obtain ⟨z, rfl, hz, hk2, P7, m7, cs7, ws7, hP7, hm7⟩ := hrel
      have c7 := hP7.cells
      by_cases hzl : z < M
      · have hzl' : (z : Int) < (M : Int) := by omega
        have hzL : z < L.length := by have := HL.out; have := HM.out; omega
        have hx : L[z]? = some L[z] := List.getElem?_eq_getElem hzL
        obtain ⟨g, rfl, _, _, _, hc⟩ := hP7.refs.cells (by rw [rowR_len]; omega)
        have ci := hc z _ (by unfold rowR; rw [List.getElem?_map, hx]; rfl)
        have hO := HA.out.get hx
        generalize L[z] = x at *
        have hdr : (O.drop z)[0]? = some x.o := by rw [List.getElem?_drop]; exact hO
        have hFr := x_free hP7.ev (by omega) hdr 0 (by omega)
        have HD : Hid ((O.drop z).eraseIdx 0 = O.drop (z + 1)) := by
          have hl : z < O.length := by have := HM.out; omega
          rw [List.drop_eq_getElem_cons hl]; rfl
        clear hc hx hO hdr
        go_wp2_with (first
          | (go_at_call 10; refine hFr.mono ?_; clear hFr; rintro e u8 ⟨rfl, cs8, hT8⟩; obtain ⟨P8, hP8, _⟩ := hP7.turn hT8; clear hT8)
          | (go_at_call 11; refine (num_any _ _).mono ?_; rintro e w9 ⟨rfl, hw9⟩; replace hw9 := hw9.symm; subst hw9))
        go_roundg (M - (z + 1))
        case measure => omega
        case rel =>
          rw [HD.out] at hP8
          exact ⟨z + 1, by go_num, by omega, by omega, P8, _, cs8, _, hP8, by omega⟩
      · have hzl' : ¬ (z : Int) < (M : Int) := by omega
        have hnil : O.drop z = [] := List.drop_eq_nil_of_le (by have := HM.out; omega)
        rw [hnil] at hP7
        have E7 := hP7.ev
        have hU := v_used E7
        clear hnil
        go_wp2_with (first
          | (go_at_call 12; refine hU.mono ?_; clear hU; rintro e u8 ⟨ao8, k8, rfl, hb8⟩; have E8 := E7.below hb8; have haw := awake8 u8)
          | (go_at_call 13; refine haw.mono ?_; rintro e u9 ⟨rfl, hb9⟩))
        go_ret
        exact ⟨rfl, E8.bel.trans (hb9.mono E8.size)⟩
end Go.Proofs.YtojblddfggoecaaGreat
