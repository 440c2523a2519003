/- A row of ints; lending and spoiling. -/
import Derived.Test.YtnnjinkadcagdaaGreatMF3
import Derived.Test.YtnnjinkadcagdaaGreatMK5
import Derived.Test.YtnnjinkadcagdaaGreatMHActf
namespace Go.Proofs.YtnnjinkadcagdaaGreat
open Go.RowKit

/-- A row of ints of the law's own. -/
def Row (w : World) (g n : Nat) (f : Nat → Int) : Prop := ∃ cur : Array Value, w.heap[g]? = some (.cells cur 3 (0, 0)) ∧ ∀ i, i < n → cur[i]? = some (.int .i64 (f i))
theorem Row.cell {w : World} {g n : Nat} {f : Nat → Int} (h : Row w g n f) {i : Nat} (hi : i < n) : w.cell? ⟨g, i, none⟩ = some (.int .i64 (f i)) := by
  obtain ⟨cur, h1, h2⟩ := h
  simp [World.cell?, h1, h2 i hi]
theorem Row.frozen {w : World} {g n : Nat} {f : Nat → Int} (h : Row w g n f) (i : Nat) : w.frozen? ⟨g, i, none⟩ = false := by
  obtain ⟨cur, h1, h2⟩ := h
  simp [World.frozen?, h1]
theorem Row.lt {w : World} {g n : Nat} {f : Nat → Int} (h : Row w g n f) : g < w.heap.size := by
  obtain ⟨cur, h1, h2⟩ := h
  exact box_lt h1
theorem Row.of_block {w w' : World} {g n : Nat} {f : Nat → Int} (h : Row w g n f) (e : w'.heap[g]? = w.heap[g]?) : Row w' g n f := by
  obtain ⟨cur, h1, h2⟩ := h
  exact ⟨cur, e.trans h1, h2⟩
theorem Row.alloc {w : World} {g n : Nat} {f : Nat → Int} (h : Row w g n f) (o : Obj) : Row (w.alloc o) g n f := h.of_block (Below.heap_alloc _ _ _ h.lt)
theorem Row.set {w : World} {g n : Nat} {f : Nat → Int} (h : Row w g n f) (i : Nat) (v : Int) : Row (w.setCell ⟨g, i, none⟩ (.int .i64 v)) g n (upd f i v) := by
  obtain ⟨cur, h1, h2⟩ := h
  refine ⟨_, set_blk h1 i _, fun j hj => ?_⟩
  have := h2 j hj
  unfold upd
  by_cases e : j = i
  · subst e
    have hlt := (Array.getElem?_eq_some_iff.1 this).1
    simp [hlt]
  · rw [if_neg e, Array.getElem?_setIfInBounds_ne (fun q => e q.symm)]; exact this
theorem spoil_ok (ao : Option Addr) (n c : Nat) (f : Nat → Int) (Q : Nat → Prop) (w : World) (hv : n = 0 ∨ ∃ g, ao = some ⟨g, 0, none⟩ ∧ Q g ∧ Row w g n f) (hn : n ≤ 1000) :
    Calls Tryz.prog 15 #[.slice ao n c] w fun e w' => e = .returned (.tuple #[]) ∧ Bt Q w w' := by
  have Hv : Hid (n = 0 ∨ ∃ g, ao = some ⟨g, 0, none⟩ ∧ Q g ∧ Row w g n f) := hv
  clear hv
  go_enter Tryz.func15, Tryz.ntmps15
  go_wp2
  go_loopw [2] (fun i wr => ∃ k : Nat, k ≤ n ∧ i = .int .i64 k ∧ Hid (n = 0 ∨ ∃ (g : Nat) (h : Nat → Int), ao = some ⟨g, 0, none⟩ ∧ Q g ∧ Row wr g n h) ∧ Bt Q w wr) (fun i _ => n - (intOf i).toNat)
  case atStart => exact ⟨0, by omega, rfl, Hv.out.imp id (fun ⟨g, q1, q2, q3⟩ => ⟨g, f, q1, q2, q3⟩), Bt.refl _ _⟩
  case round =>
    clear Hv
    obtain ⟨k, hk, rfl, Hv, hB⟩ := hrel
    by_cases hlt : k < n
    · obtain ⟨g, h, rfl, hQ, hr⟩ := Hv.out.resolve_left (by omega)
      have c0 := hr.cell hlt
      have f0 := hr.frozen k
      have Hr : Hid (Row wr g n h) := hr
      clear hr
      go_wp2
      go_roundw
      case rel => exact ⟨k + 1, by omega, by go_num, .inr ⟨g, _, rfl, hQ, Row.set Hr.out k _⟩, hB.set g k _ (.inl hQ)⟩
      case measure => simp [intOf]; omega
    · have hlt' : ¬ (k : Int) < (n : Int) := by omega
      go_wp2
      go_end0
      exact ⟨rfl, hB⟩
theorem Mine.row {w : World} {B : Nat} {ao : Option Addr} {n c : Nat} {f : Nat → Int} (h : Mine w B (.slice ao n c) n f) : n = 0 ∨ ∃ g, ao = some ⟨g, 0, none⟩ ∧ B ≤ g ∧ Row w g n f := by
  rcases Nat.eq_zero_or_pos n with e | e
  · exact .inl e
  · obtain ⟨g, cap, e1, e2, _, _, cur, h1, _, _, h2⟩ := h.shape e
    cases e1
    exact .inr ⟨g, rfl, e2, cur, h1, h2⟩
end Go.Proofs.YtnnjinkadcagdaaGreat
/- The walk of HeapActs. -/
namespace Go.Proofs.YtnnjinkadcagdaaGreat
open Go.RowKit
/-- One act, whatever it is. -/
theorem act9_any {B : Nat} {w0 w : World} {h W G m y : Nat} (H : Edge9 B w0 w h W G m y) (hm : m ≤ 3000) (K A q C I V : Int) :
    Calls Tryz.prog 10 #[.pointer (some ⟨y, 0, none⟩), .agg #[.int .i64 K, .int .i64 A, .int .i64 q, .int .i64 C, .int .i64 I, .int .i64 V]] w (ActPost9 B w0 h W G (m + 1) y) := by
  obtain ⟨P, c, S, F, va, L, h1, h2⟩ := H
  by_cases k0 : K < 3
  · exact act9_make h1 h2 hm K A q C I V k0
  by_cases k1 : K < 7
  · exact act9_word h1 h2 hm K A q C I V ⟨by omega, k1⟩
  by_cases k2 : K = 7
  · exact act9_free h1 h2 hm K A q C I V k2
  exact act9_cell h1 h2 hm K A q C I V (by omega)
theorem edge9_start {w w1 : World} {P : Nat → Prop} {h W G : Nat} (H : Hv w.heap.size w w1 P h W G 0 (fun _ => 0) [] (fun _ _ => 0)) :
    Edge9 w.heap.size w (w1.alloc (.cells #[.pointer (some ⟨h, 0, none⟩), .int .i64 W, .int .i64 G, .slice none 0 0] 32)) h W G 0 w1.heap.size :=
  ⟨P, _, [], _, _, [], ⟨H.below ((Below.refl _ _).alloc (Nat.le_refl _) _), heap_alloc_new w1 _, Rs.nil _ _ _ _, fun x hx => by simp at hx, List.Pairwise.nil, ⟨fun r => by have := H.lt _ r; omega, H.size⟩, fun k hk => by simp [Value.ownBlock] at hk⟩, fun x hx => by simp at hx, List.Pairwise.nil, fun i cl hi => by simp at hi, rfl, rfl⟩
theorem Ri.row {w : World} {B : Nat} {ao : Option Addr} {n c : Nat} {U : List Int} (h : Ri w B (.slice ao n c) U) (hn : U.length = n) : n = 0 ∨ ∃ g, ao = some ⟨g, 0, none⟩ ∧ B ≤ g ∧ Row w g n (fun i => (U[i]?).getD 0) := by
  rcases h.2 with ⟨_, h0⟩ | ⟨g, cap', cur, q, h1, h2, h3, h4, h5, h6⟩
  · exact .inl (by omega)
  · simp only [Value.slice.injEq] at q
    obtain ⟨rfl, rfl, rfl⟩ := q
    refine .inr ⟨g, rfl, h1, cur, h2, fun i hi => ?_⟩
    have hu : U[i]? = some U[i] := List.getElem?_eq_getElem hi
    have hf : (U.map fun u => Value.int .i64 u)[i]? = some (.int .i64 U[i]) := by rw [List.getElem?_map, hu]; rfl
    rw [← h6, List.getElem?_take, if_pos (by omega)] at hf
    show cur[i]? = some (.int .i64 ((U[i]?).getD 0))
    rw [hu]
    simpa using hf
/-- Where New refuses, or the heap is a large one. -/
def LwPost (w : World) (e : Ending) (w' : World) : Prop := e = .returned (.bool true) ∧ Below w.heap.size w w'
theorem after9 {B : Nat} {w0 w : World} {P : Nat → Prop} {h W G m : Nat} {c : Int → Int} {S : List (Option Cel)} {F : Nat → Nat → Int} {y : Nat} {va : Value} {L : List Lc} (H : Play9 B w0 w P h W G m c S F y va L) (hA : Agr9 S F L) (hW : W ≤ 20000) (hm : m ≤ 3000) :
    ∃ ro su : Int, decide (ro < su) = false ∧ (Calls Tryz.prog 11 #[.pointer (some ⟨h, 0, none⟩)] w fun e w' => e = .returned (.int .i64 ro) ∧ w' = w) ∧ (Calls Tryz.prog 12 #[.pointer (some ⟨y, 0, none⟩)] w fun e w' => e = .returned (.int .i64 su) ∧ w' = w) ∧ Calls Tryz.prog 13 #[.pointer (some ⟨h, 0, none⟩)] w (RfPost w S) ∧ Hid (L.length = (nums 0 S).length) := by
  have h1 := H.hv.facts
  have h2 := hA.sum
  have h3 : roomW W = (W + 3) / 4 := rfl
  refine ⟨_, _, ?_, z_room H.hv, sure9_ok H (hA.few H) (by omega) (by omega), z_refs H.hv (by omega), ?_⟩
  · simp; omega
  · show L.length = (nums 0 S).length
    rw [nums_len]; exact hA.cnt
set_option maxRecDepth 20000 in
set_option maxHeartbeats 4000000 in
theorem acts9_no1 (words agents : Int) (v : Value) (w : World) (h1 : words < 512) : Calls Tryz.prog 3 #[.int .i64 words, .int .i64 agents, v] w (LwPost w) := by
  have hN := hnew_no words agents w (by omega)
  go_enter Tryz.func3, Tryz.ntmps3
  go_wp2_with (first
    | (go_at_call 7; refine hN.mono ?_; rintro e w1 ⟨rfl, hb1⟩; clear hN)
    | (go_at_call 8; refine (num_any _ _).mono ?_; rintro e w9 ⟨rfl, hw9⟩; replace hw9 := hw9.symm; subst hw9)
    | (go_at_call 9; refine (awake9 w1).mono ?_; rintro e w2 ⟨rfl, hb2⟩))
  go_ret
  exact ⟨rfl, hb1.trans (hb2.mono hb1.size)⟩
set_option maxRecDepth 20000 in
set_option maxHeartbeats 4000000 in
theorem acts9_no2 (words agents : Int) (v : Value) (w : World) (h1 : 512 ≤ words) (h2 : 65536 < words) : Calls Tryz.prog 3 #[.int .i64 words, .int .i64 agents, v] w (LwPost w) := by
  have hN := hnew_no words agents w (by omega)
  have e1 : decide (words < 512) = false := by simp; omega
  clear h1
  go_enter Tryz.func3, Tryz.ntmps3
  go_wp2_with (first
    | (go_at_call 7; refine hN.mono ?_; rintro e w1 ⟨rfl, hb1⟩; clear hN)
    | (go_at_call 8; refine (num_any _ _).mono ?_; rintro e w9 ⟨rfl, hw9⟩; replace hw9 := hw9.symm; subst hw9)
    | (go_at_call 9; refine (awake9 w1).mono ?_; rintro e w2 ⟨rfl, hb2⟩))
  go_ret
  exact ⟨rfl, hb1.trans (hb2.mono hb1.size)⟩
set_option maxRecDepth 20000 in
set_option maxHeartbeats 4000000 in
theorem acts9_no3 (words agents : Int) (v : Value) (w : World) (h1 : 512 ≤ words) (h2 : words ≤ 65536) (h3 : agents < 1) : Calls Tryz.prog 3 #[.int .i64 words, .int .i64 agents, v] w (LwPost w) := by
  have hN := hnew_no words agents w (by omega)
  have e1 : decide (words < 512) = false := by simp; omega
  have e2 : decide (65536 < words) = false := by simp; omega
  clear h1 h2
  go_enter Tryz.func3, Tryz.ntmps3
  go_wp2_with (first
    | (go_at_call 7; refine hN.mono ?_; rintro e w1 ⟨rfl, hb1⟩; clear hN)
    | (go_at_call 8; refine (num_any _ _).mono ?_; rintro e w9 ⟨rfl, hw9⟩; replace hw9 := hw9.symm; subst hw9)
    | (go_at_call 9; refine (awake9 w1).mono ?_; rintro e w2 ⟨rfl, hb2⟩))
  go_ret
  exact ⟨rfl, hb1.trans (hb2.mono hb1.size)⟩
set_option maxRecDepth 20000 in
set_option maxHeartbeats 4000000 in
theorem acts9_no4 (words agents : Int) (v : Value) (w : World) (h1 : 512 ≤ words) (h2 : words ≤ 65536) (h3 : 1 ≤ agents) (h4 : 12 < agents) : Calls Tryz.prog 3 #[.int .i64 words, .int .i64 agents, v] w (LwPost w) := by
  have hN := hnew_no words agents w (by omega)
  have e1 : decide (words < 512) = false := by simp; omega
  have e2 : decide (65536 < words) = false := by simp; omega
  have e3 : decide (agents < 1) = false := by simp; omega
  clear h1 h2 h3
  go_enter Tryz.func3, Tryz.ntmps3
  go_wp2_with (first
    | (go_at_call 7; refine hN.mono ?_; rintro e w1 ⟨rfl, hb1⟩; clear hN)
    | (go_at_call 8; refine (num_any _ _).mono ?_; rintro e w9 ⟨rfl, hw9⟩; replace hw9 := hw9.symm; subst hw9)
    | (go_at_call 9; refine (awake9 w1).mono ?_; rintro e w2 ⟨rfl, hb2⟩))
  go_ret
  exact ⟨rfl, hb1.trans (hb2.mono hb1.size)⟩
set_option maxRecDepth 20000 in
set_option maxHeartbeats 4000000 in
theorem acts9_large (W G : Nat) (v : Value) (w : World) (hW : 20000 < W ∧ W ≤ 65536) (hG : 1 ≤ G ∧ G ≤ 12) : Calls Tryz.prog 3 #[.int .i64 W, .int .i64 G, v] w (LwPost w) := by
  have hN := hnew_any W G w (by omega) hG
  have d1 : decide ((W : Int) < 512) = false := by simp; omega
  have d2 : decide (65536 < (W : Int)) = false := by simp; omega
  have d3 : decide ((G : Int) < 1) = false := by simp; omega
  have d4 : decide (12 < (G : Int)) = false := by simp; omega
  have d5 : (20000 : Int) < (W : Int) := by omega
  clear hW hG
  go_enter Tryz.func3, Tryz.ntmps3
  go_wp2_with (first
    | (go_at_call 7; refine hN.mono ?_; rintro e w1 ⟨h, rfl, hb1⟩; clear hN)
    | (go_at_call 8; refine (num_any _ _).mono ?_; rintro e w9 ⟨rfl, hw9⟩; replace hw9 := hw9.symm; subst hw9)
    | (go_at_call 9; refine (awake9 w1).mono ?_; rintro e w2 ⟨rfl, hb2⟩))
  go_ret
  exact ⟨rfl, hb1.trans (hb2.mono hb1.size)⟩
set_option maxRecDepth 20000 in
set_option maxHeartbeats 8000000 in
theorem acts9_ok (W G : Nat) (ao : Option Addr) (len cap : Nat) (w : World) (hW : 512 ≤ W ∧ W ≤ 20000) (hG : 1 ≤ G ∧ G ≤ 12) (_hlen : len ≤ maxLen)
    (hs : len = 0 ∨ ∃ (B o : Nat) (F : Nat → Nat → Int), ao = some ⟨B, o, none⟩ ∧ B < w.heap.size ∧ ∀ i j, i < len → j < 6 → w.cell? ⟨B, o + i * 6 + j, none⟩ = some (.int .i64 (F i j)) ∧ (Lit.int .i64 (F i j)).wf = true) :
    Calls Tryz.prog 3 #[.int .i64 W, .int .i64 G, .slice ao len cap] w (LwPost w) := by
  unfold maxLen at _hlen
  have Hs : Hid (len = 0 ∨ ∃ (B o : Nat) (F : Nat → Nat → Int), ao = some ⟨B, o, none⟩ ∧ B < w.heap.size ∧ ∀ i j, i < len → j < 6 → w.cell? ⟨B, o + i * 6 + j, none⟩ = some (.int .i64 (F i j)) ∧ (Lit.int .i64 (F i j)).wf = true) := hs
  have hN := z_new W G W G w rfl rfl hW hG
  have d1 : decide ((W : Int) < 512) = false := by simp; omega
  have d2 : decide (65536 < (W : Int)) = false := by simp; omega
  have d3 : decide ((G : Int) < 1) = false := by simp; omega
  have d4 : decide (12 < (G : Int)) = false := by simp; omega
  have d5 : decide (20000 < (W : Int)) = false := by simp; omega
  have HW : Hid (W ≤ 20000) := hW.2
  clear hs hW hG
  go_enter Tryz.func3, Tryz.ntmps3
  go_wp2_with (go_at_call 7; refine hN.mono ?_; rintro e w1 ⟨h, P1, rfl, E1⟩; clear hN)
  have hE0 := edge9_start E1
  clear E1 d1 d2 d3 d4 d5
  generalize World.alloc _ _ = U at hE0 ⊢
  generalize w1.heap.size = y at hE0 ⊢
  go_loopg [10, 11, 12] 251 (fun kx s10 s11 s12 wr => ∃ t : Nat, s10 = .int .i64 t ∧ t ≤ 250 ∧ 250 - t ≤ kx ∧ Edge9 w.heap.size w wr h W G t y)
  case atStart => exact ⟨0, rfl, by omega, by omega, hE0⟩
  case round =>
  clear hE0
  obtain ⟨t, rfl, ht, hkx, hE⟩ := hrel
  obtain ⟨gb, hgb⟩ : ∃ gb : Bool, gb = decide (t < len ∧ t < 250) := ⟨_, rfl⟩
  have Hgb : Hid (gb = decide (t < len ∧ t < 250)) := hgb
  clear hgb
  go_upto_region 8 with fail
  go_cut [54] from 47 to 54 (fun s54 wx => s54 = .bool gb ∧ wx = wr)
  case first =>
    by_cases t1 : t < len
    · have t1' : (t : Int) < (len : Int) := by omega
      by_cases t2 : t < 250
      · have t2' : (t : Int) < 250 := by omega
        as_aux_lemma =>
          go_wp2_with fail
          go_meet
          exact ⟨by rw [Hgb.out, decide_eq_true ⟨t1, t2⟩], rfl⟩
      · have t2' : decide ((t : Int) < 250) = false := by simp; omega
        as_aux_lemma =>
          go_wp2_with fail
          go_meet
          exact ⟨by rw [Hgb.out, decide_eq_false (by omega)], rfl⟩
    · have t1' : decide ((t : Int) < (len : Int)) = false := by simp; omega
      as_aux_lemma =>
        go_wp2_with fail
        go_meet
        exact ⟨by rw [Hgb.out, decide_eq_false (by omega)], rfl⟩
  case rest =>
  obtain ⟨rfl, rfl⟩ := hcut
  cases hgg : gb with
  | true =>
    have hgo : t < len ∧ t < 250 := by
      have := Hgb.out; rw [hgg] at this; simpa using this
    obtain ⟨Bs, o, F, rfl, hB, hF⟩ := Hs.out.resolve_left (by omega)
    have hbel : Below w.heap.size w wc := by obtain ⟨_, _, _, _, _, _, hP, _⟩ := hE; exact hP.hv.bel
    have cel : ∀ j, j < 6 → wc.cell? ⟨Bs, o + t * 6 + j, none⟩ = some (.int .i64 (F t j)) := fun j hj => (hbel.cell hB).trans (hF t j hgo.1 hj).1
    obtain ⟨K, hK⟩ : ∃ K, F t 0 = K := ⟨_, rfl⟩
    obtain ⟨A, hA⟩ : ∃ A, F t 1 = A := ⟨_, rfl⟩
    obtain ⟨q, hq⟩ : ∃ q, F t 2 = q := ⟨_, rfl⟩
    obtain ⟨C, hC⟩ : ∃ C, F t 3 = C := ⟨_, rfl⟩
    obtain ⟨I, hI⟩ : ∃ I, F t 4 = I := ⟨_, rfl⟩
    obtain ⟨V, hV⟩ : ∃ V, F t 5 = V := ⟨_, rfl⟩
    have d0 := cel 0 (by omega)
    have d1 := cel 1 (by omega)
    have d2 := cel 2 (by omega)
    have d3 := cel 3 (by omega)
    have d4 := cel 4 (by omega)
    have d5 := cel 5 (by omega)
    rw [hK] at d0
    rw [hA] at d1
    rw [hq] at d2
    rw [hC] at d3
    rw [hI] at d4
    rw [hV] at d5
    rw [Nat.add_zero] at d0
    have hact := act9_any hE (by omega) K A q C I V
    have hlt : (t : Int) < (len : Int) := by omega
    clear cel hF hK hA hq hC hI hV hE hbel Hs
    as_aux_lemma =>
      go_wp2_with (first
        | (go_at_call 10; refine hact.mono ?_; rintro e w2 ⟨rfl, P2, c2, S2, F2, va2, L2, hP2, hA2⟩; have cc2 := hP2.cells; obtain ⟨ro, su, hle, hRm, hSu, hRf, HL2⟩ := after9 hP2 hA2 HW.out (by omega); have HA : Hid (Agr9 S2 F2 L2) := hA2; have HP2 : Hid (Play9 w.heap.size w w2 P2 h W G (t + 1) c2 S2 F2 y va2 L2) := hP2; clear hact hA2 hP2 d0 d1 d2 d3 d4 d5)
        | (go_at_call 11; refine hRm.mono ?_; rintro e w9 ⟨rfl, hw9⟩; replace hw9 := hw9.symm; subst hw9)
        | (go_at_call 12; refine hSu.mono ?_; rintro e w9 ⟨rfl, hw9⟩; replace hw9 := hw9.symm; subst hw9)
        | (go_at_call 13; refine hRf.mono ?_; rintro e w3 ⟨v3, rfl, hM3, hb3⟩; obtain ⟨ao3, c3, rfl⟩ := hM3.form; obtain ⟨aor, cr, rfl, _⟩ := HP2.out.form; have hPx := (HP2.out.below hb3).cells; rw [HL2.out] at hPx; generalize hU3 : nums 0 S2 = U3 at *; have HM3 : Hid (Ri w3 w2.heap.size (.slice ao3 U3.length c3) U3 ∧ Below w2.heap.size w2 w3 ∧ nums 0 S2 = U3) := ⟨hM3, hb3, hU3⟩; clear hM3 hb3 hRf cc2 hRm hSu hU3))
      clear hPx
      have hle3 : U3.length ≤ 1000 := by rw [← HL2.out]; exact HA.out.few HP2.out
      generalize hn3 : U3.length = n3 at *
      have HN3 : Hid (U3.length = n3) := hn3
      clear hn3
      go_loopg [12] (n3 + 1) (fun kx s12 wx => ∃ j : Nat, s12 = .int .i64 j ∧ j ≤ n3 ∧ n3 - j ≤ kx ∧ Below w3.heap.size w3 wx)
      case atStart => exact ⟨0, rfl, by omega, by omega, Below.refl _ _⟩
      case round =>
      obtain ⟨j, rfl, hj, hk2, hbx⟩ := hrel
      have hPx := (HP2.out.below HM3.out.2.1).below hbx
      have hMx := HM3.out.1.below hbx
      have cx := hPx.cells
      by_cases hjl : j < n3
      · have hjl' : (j : Int) < (n3 : Int) := by omega
        obtain ⟨g3, rfl, _, _, _, hc3⟩ := hMx.cells (by rw [HN3.out]; omega)
        have hju : U3[j]? = some (U3[j]'(by rw [HN3.out]; exact hjl)) := List.getElem?_eq_getElem _
        obtain ⟨u, hu⟩ : ∃ u, u = U3[j]'(by rw [HN3.out]; exact hjl) := ⟨_, rfl⟩
        rw [← hu] at hju
        have cj := hc3 j _ hju
        obtain ⟨R, hR⟩ := fnd9_any u L2
        have hRn : ¬ R < 0 := fun r => by
          have hmem := List.mem_of_getElem? hju
          rw [← HM3.out.2.2] at hmem
          obtain ⟨i, cl, e1, e2⟩ := nums_mem 0 S2 u hmem
          obtain ⟨x, hx, ex⟩ := HA.out.all i cl e2
          exact (hR.miss r).2 x hx (by omega)
        obtain ⟨i, x, hx, _, rfl⟩ := hR.got hRn
        have hat := fun k => at9_ok (hPx.below (below_drewN _ k _)) (by rw [HL2.out]; exact hle3) u i hR
        have hi0 : decide ((i : Int) < 0) = false := by simp
        clear hR hRn hx hMx hu
        cases j with
        | zero =>
          clear hc3 hju
          go_wp2
          go_quiet ((go_at_call 14; exact Calls.quiet_of_same (hat _)))
          go_wp2
          go_roundg (n3 - 1)
          case measure => omega
          case rel => exact ⟨1, by go_num, by omega, by omega, hbx.trans ((below_drewN _ nq _).mono (Nat.le_refl _))⟩
        | succ j =>
          have hjv : U3[j]? = some (U3[j]'(by rw [HN3.out]; omega)) := List.getElem?_eq_getElem _
          obtain ⟨u0, hu0⟩ : ∃ u0, u0 = U3[j]'(by rw [HN3.out]; omega) := ⟨_, rfl⟩
          rw [← hu0] at hjv
          have cj0 := hc3 j _ hjv
          have hri : u0 < u := by
            have hp := nums_rise 0 S2
            rw [HM3.out.2.2] at hp
            obtain ⟨q1, e1⟩ := List.getElem?_eq_some_iff.1 hjv
            obtain ⟨q2, e2⟩ := List.getElem?_eq_some_iff.1 hju
            rw [← e1, ← e2]
            exact List.pairwise_iff_getElem.1 hp j (j + 1) q1 q2 (by omega)
          have hri2 : decide (u ≤ u0) = false := by simp; omega
          have hj0 : (0 : Int) < ((j + 1 : Nat) : Int) := by omega
          clear hc3 hju hjv hu0 hri
          go_wp2
          go_quiet ((go_at_call 14; exact Calls.quiet_of_same (hat _)))
          go_wp2
          go_roundg (n3 - (j + 2))
          case measure => omega
          case rel => exact ⟨j + 2, by go_num, by omega, by omega, hbx.trans ((below_drewN _ nq _).mono (Nat.le_refl _))⟩
      · have hjl' : ¬ (j : Int) < (n3 : Int) := by omega
        have hsp := spoil_ok ao3 n3 c3 _ (fun g => ao3 = some ⟨g, 0, none⟩ ∧ w2.heap.size ≤ g) _ ((hMx.row HN3.out).imp id (fun ⟨g, e1, e2, e3⟩ => ⟨g, e1, ⟨e1, e2⟩, e3⟩)) hle3
        have hb2x : Below w2.heap.size w2 _ := HM3.out.2.1.trans (hbx.mono HM3.out.2.1.size)
        clear hMx hPx
        go_wp2_with (go_at_call 15; refine hsp.mono ?_; rintro e w5 ⟨rfl, hB5⟩)
        go_roundg (250 - (t + 1))
        case measure => omega
        case rel => exact ⟨t + 1, by go_num, by omega, by omega, P2, c2, S2, F2, _, L2, HP2.out.below (Bt.under hb2x hb2x.size (fun g r => r.2) hB5), HA.out⟩
  | false =>
    obtain ⟨P, c, S, F, va, L, hP, hA⟩ := hE
    have hbel := hP.hv.bel
    have haw := awake9 wc
    have hsz := hP.hv.size
    clear hP hA Hs Hgb hgg
    as_aux_lemma =>
      go_wp2_with (first
        | (go_at_call 8; refine (num_any _ _).mono ?_; rintro e w9 ⟨rfl, hw9⟩; replace hw9 := hw9.symm; subst hw9)
        | (go_at_call 9; refine haw.mono ?_; rintro e u9 ⟨rfl, hb9⟩))
      go_ret
      exact ⟨rfl, hbel.trans (hb9.mono hsz)⟩
theorem acts9_walk (words agents : Int) (ao : Option Addr) (len cap : Nat) (w : World) (_hlen : len ≤ maxLen)
    (hs : len = 0 ∨ ∃ (B o : Nat) (F : Nat → Nat → Int), ao = some ⟨B, o, none⟩ ∧ B < w.heap.size ∧ ∀ i j, i < len → j < 6 → w.cell? ⟨B, o + i * 6 + j, none⟩ = some (.int .i64 (F i j)) ∧ (Lit.int .i64 (F i j)).wf = true) :
    Calls Tryz.prog 3 #[.int .i64 words, .int .i64 agents, .slice ao len cap] w fun e w' => e = .returned (.bool true) ∧ Below w.heap.size w w' := by
  show Calls Tryz.prog 3 #[.int .i64 words, .int .i64 agents, .slice ao len cap] w (LwPost w)
  by_cases a1 : words < 512
  · exact acts9_no1 words agents _ w a1
  by_cases a2 : 65536 < words
  · exact acts9_no2 words agents _ w (by omega) a2
  by_cases a3 : agents < 1
  · exact acts9_no3 words agents _ w (by omega) (by omega) a3
  by_cases a4 : 12 < agents
  · exact acts9_no4 words agents _ w (by omega) (by omega) (by omega) a4
  obtain ⟨W, rfl⟩ := Int.eq_ofNat_of_zero_le (show 0 ≤ words by omega)
  obtain ⟨G, rfl⟩ := Int.eq_ofNat_of_zero_le (show 0 ≤ agents by omega)
  by_cases a5 : 20000 < W
  · exact acts9_large W G _ w (by omega) (by omega)
  · exact acts9_ok W G ao len cap w (by omega) (by omega) _hlen hs
end Go.Proofs.YtnnjinkadcagdaaGreat
