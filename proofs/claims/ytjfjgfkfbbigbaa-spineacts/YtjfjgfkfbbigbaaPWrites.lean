/- The walk of SpineWrites. -/
import Derived.Test.YtjfjgfkfbbigbaaPRoom
namespace Go.Proofs.Ytjfjgfkfbbigbaa
open Go.RowKit
/-- The space has an array A of n words. -/
def Hs (q : St) (A n : Int) : Prop := (A, n) ∈ q.xs.map (fun z => (z.id, z.n))
theorem Hs.ary {q : St} {A n : Int} (h : Hs q A n) : ∃ x ∈ q.xs, x.id = A ∧ x.n = n := by
  obtain ⟨x, hx, e⟩ := List.mem_map.1 h
  simp only [Prod.mk.injEq] at e
  exact ⟨x, hx, e.1, e.2⟩
/-- What a step may make of a space, whether a cycle is under way or not. -/
structure SteppedAny (q q' : St) : Prop where
  shape : q'.xs.map (fun z => (z.id, z.n)) = q.xs.map (fun z => (z.id, z.n))
  given : q'.given = q.given
  on : q'.c.on = true → q.c.on = true ∧ rank q' < rank q
theorem Hs.step {q q' : St} {A n : Int} (h : Hs q A n) (k : SteppedAny q q') : Hs q' A n := by unfold Hs; rw [k.shape]; exact h
section
variable {B : Nat} {w0 w : World} {P : Nat → Prop} {s b W : Nat} {q : St} {V : Int → Int → Int}
theorem h_set (h : Env B w0 w P s b W q V) {A n : Int} (hh : Hs q A n) (g i y : Int) (hg : 0 ≤ g ∧ g < 3) (hi : 0 ≤ i ∧ i < n) :
    Calls Try.prog 16 #[.pointer (some ⟨s, 0, none⟩), .int .i64 g, .int .i64 A, .int .i64 i, .int .i64 y] w fun e w' => e = .returned (.int .i64 0) ∧ EnvT B w0 w P s b W q (updV V A i y) w' := by
  obtain ⟨x, hx, rfl, rfl⟩ := hh.ary
  exact e_set h hx g i y hg hi
theorem h_get (h : Env B w0 w P s b W q V) {A n : Int} (hh : Hs q A n) (g i : Int) (hg : 0 ≤ g ∧ g < 3) (hi : 0 ≤ i ∧ i < n) :
    Calls Try.prog 13 #[.pointer (some ⟨s, 0, none⟩), .int .i64 g, .int .i64 A, .int .i64 i] w fun e w' => e = .returned (.tuple #[.int .i64 (V A i), .int .i64 0]) ∧ EnvT B w0 w P s b W q V w' := by
  obtain ⟨x, hx, rfl, rfl⟩ := hh.ary
  exact e_get h hx g i hg hi
theorem h_step (h : Env B w0 w P s b W q V) (g : Int) (hg : 0 ≤ g ∧ g < 3) (hgi : q.given ≤ 1000000000) :
    Calls Try.prog 19 #[.pointer (some ⟨s, 0, none⟩), .int .i64 g] w fun e w' => ∃ (q' : St) (m : Bool), e = .returned (.tuple #[.bool m, .int .i64 0]) ∧ Hid (m = q'.c.on) ∧ SteppedAny q q' ∧ EnvT B w0 w P s b W q' V w' := by
  cases hon : q.c.on with
  | true =>
    refine (e_step h hon g hg hgi).mono ?_
    rintro e w' ⟨q', rfl, hst, hT⟩
    exact ⟨q', _, rfl, (rfl : _ = _), ⟨hst.shape, hst.given, fun r => ⟨hon, (hst.on r).2.2⟩⟩, hT⟩
  | false =>
    refine (e_step_off h g hg hon).mono ?_
    rintro e w' ⟨rfl, rfl⟩
    exact ⟨q, false, rfl, (hon.symm : _ = _), ⟨rfl, rfl, fun r => by rw [hon] at r; simp at r⟩, P, h, Bt.refl _ _, Wider.refl _ _⟩
theorem row_turn {w' : World} {P' : Nat → Prop} {g n : Nat} {t : TypeId} {F : Nat → Value} (hr : w.rowIs g t n F) (hn : ¬ P g) (hB : Bt P w w') (hW : Wider P P' w) : w'.rowIs g t n F ∧ ¬ P' g :=
  ⟨hr.of_block (hB.block g hr.lt hn), fun r => (hW g r).elim hn (fun h => by have := hr.lt; omega)⟩
end
theorem at_word (k : Nat) (z : Int) (h1 : 1 ≤ k) (h2 : k ≤ 64) : ∃ a : Nat, wrap64 ((IntKind.u64.wrap z).tmod (k : Int)) = a ∧ a < k := by
  have h0 : 0 ≤ IntKind.u64.wrap z := by rw [IntKind.wrap_u64]; omega
  generalize IntKind.u64.wrap z = q at h0 ⊢
  rw [Int.tmod_eq_emod_of_nonneg h0]
  have h1 := Int.emod_nonneg q (show (k : Int) ≠ 0 by omega)
  have h2 := Int.emod_lt_of_pos q (show 0 < (k : Int) by omega)
  exact ⟨(q % (k : Int)).toNat, by rw [IntWalk.wrap64_in _ (by omega)]; omega, by omega⟩
section
theorem Sp.other {w : World} {P : Nat → Prop} {s b bw bs W G : Nat} {v : Value} {q : St} {f c : Int → Int} (h : Sp w P s b bw bs W G v q f c) {g : Nat} (hg : ¬ P g) (i : Nat) (x : Value) : Sp (w.setCell ⟨g, i, none⟩ x) P s b bw bs W G v q f c := by
  obtain ⟨o1, o2, o3, o4, o5⟩ := h.own
  have ne : ∀ k, P k → k ≠ g := fun k hk r => hg (r ▸ hk)
  refine ⟨?_, ⟨?_, h.ar.words.setOther (a := ⟨g, i, none⟩) (ne _ o3) _, h.ar.steps.setOther (a := ⟨g, i, none⟩) (ne _ o4) _, h.ar.part⟩, ?_, h.own⟩
  · rw [Below.heap_setCell _ _ _ _ (ne _ o1)]; exact h.here
  · rw [Below.heap_setCell _ _ _ _ (ne _ o2)]; exact h.ar.here
  · exact h.row.of_block fun k hk => Below.heap_setCell _ _ _ _ (ne _ (o5 k hk))
theorem Env.other {B : Nat} {w0 w : World} {P : Nat → Prop} {s b W : Nat} {q : St} {V : Int → Int → Int} (h : Env B w0 w P s b W q V) {g : Nat} (hg : ¬ P g) (hB : B ≤ g) (i : Nat) (x : Value) : Env B w0 (w.setCell ⟨g, i, none⟩ x) P s b W q V := by
  obtain ⟨c, hc, hW, bw, bs, v, f, hS, hI⟩ := h.gd
  refine ⟨⟨c, hc, hW, bw, bs, v, f, hS.other hg i x, hI⟩, h.own, fun k hk => by simpa [World.setCell] using h.lt k hk, h.bel.setCell hB _, by simpa [World.setCell] using h.size⟩
end
/-- What both arrays hold is what the row says, and its negation. -/
def Agr (q : St) (V : Int → Int → Int) (A B : Int) (k : Nat) (F : Nat → Int) : Prop := Hs q A k ∧ Hs q B k ∧ A ≠ B ∧ (∀ j : Nat, j < k → V A j = F j ∧ V B j = -F j ∧ 0 ≤ F j ∧ F j ≤ 200) ∧ q.given ≤ 2
theorem Agr.step {q q' : St} {V : Int → Int → Int} {A B : Int} {k : Nat} {F : Nat → Int} (h : Agr q V A B k F) (hs : SteppedAny q q') : Agr q' V A B k F := ⟨h.1.step hs, h.2.1.step hs, h.2.2.1, h.2.2.2.1, by rw [hs.given]; exact h.2.2.2.2⟩
theorem Agr.set {q : St} {V : Int → Int → Int} {A B : Int} {k : Nat} {F : Nat → Int} (h : Agr q V A B k F) {a : Nat} {v : Int} (hv : 0 ≤ v ∧ v ≤ 200) : Agr q (updV (updV V A a v) B a (-v)) A B k (upd F a v) := by
  refine ⟨h.1, h.2.1, h.2.2.1, fun j hj => ?_, h.2.2.2.2⟩
  have h0 := h.2.2.2.1 j hj
  have hne := h.2.2.1
  unfold updV upd
  by_cases e : j = a
  · subst e
    simp [hne, hv]
  · have e' : ¬ (j : Int) = (a : Int) := by omega
    simp only [e', and_false, if_false, e]
    exact h0
set_option maxRecDepth 20000 in
set_option maxHeartbeats 4000000 in
theorem writes_walk (size : Int) (v : Value) (N : Nat) (f : Nat → Int) (w : World) (hv : Ints w v N f) : Calls Try.prog 5 #[.int .i64 size, v] w fun e w' => e = .returned (.bool true) ∧ Below w.heap.size w w' := by
  obtain ⟨a, ha, ha2⟩ := masked63 size
  obtain ⟨k, hk⟩ : ∃ k : Nat, k = 1 + a := ⟨_, rfl⟩
  have hk1 : 1 ≤ k ∧ k ≤ 64 := by omega
  have hke : (1 : Int) + (a : Int) = (k : Int) := by omega
  have hmk := run_make_row' (P := Try.prog) 36 3 (.int .i64 0) 8 Try.underlying36 info3 rfl .i64 .i64 k (by omega) (by omega)
  clear hk ha2
  obtain ⟨ao, cap, rfl, hv0⟩ := hv
  have H0 : Hid (N = 0 ∨ ∃ B o : Nat, ao = some ⟨B, o, none⟩ ∧ B < w.heap.size ∧ ∀ i, i < N → w.cell? ⟨B, o + i, none⟩ = some (.int .i64 (f i))) := hv0
  clear hv0
  go_enter Try.func5, Try.ntmps5
  go_wp2_with (first
    | (go_at_call 14; refine (awake_any w).mono ?_; rintro e w1 ⟨rfl, hb1⟩)
    | (go_at_call 7; refine (begun_ok 3 1000 w1 (by omega) (by omega)).mono ?_; rintro e w2 ⟨s, b, P, rfl, hG, hb2, hP⟩; obtain ⟨P2, E2⟩ := Env.first hG hb2 hP hb1 hb1.size; clear hG hP)
    | (go_at_call 15; refine (l_make E3 1 k (by omega) (by omega) (by rw [R3.out.2.1, R3.out.2.2.1]; omega) (by rw [R3.out.2.2.2.1]; omega)).mono ?_; rintro e w4 ⟨y, q4, V4, rfl, _, _, HQ4, P4, E4, _, _⟩)
    | (go_at_call 15; refine (l_make E2 0 k (by omega) (by omega) (by show (k : Int) + 4 ≤ 1000 / 2 - 0; omega) (by show (0 : Int) < 1000000000; omega)).mono ?_; rintro e w3 ⟨x, q3, V3, rfl, _, _, HQ3, P3, E3, _, _⟩; have R3 : Hid (q3.xs = [x] ∧ q3.half = 500 ∧ q3.taken = k + 4 ∧ q3.given = 1 ∧ q3.c.on = false ∧ x.id = 1 ∧ x.n = k ∧ ∀ i, V3 1 i = 0) := (by obtain ⟨rfl, rfl, rfl⟩ := HQ3.out; exact ⟨rfl, by kernel_rfl, by show (0 : Int) + ((k : Int) + 4) = _; omega, rfl, rfl, rfl, rfl, fun i => rfl⟩); clear HQ3)
    | (go_at_call 18; refine (l_begin (E4.below ((Below.refl _ _).alloc (Nat.le_refl _) (.cells (madeCells #[.int .i64 0] k) 3))) (by have r := HQ4.out.2.1; rw [r]; exact R3.out.2.2.2.2.1)).mono ?_; rintro e w5 ⟨q5, rfl, _, HQ5, P5, E5, hB5, hW5⟩))
  have R5 : Hid (Agr q5 V4 x.id y.id k (fun _ => 0) ∧ (q5.c.on = true → rank q5 ≤ 133)) := by
    obtain ⟨n1, n2, n3, n4, n5, n6, n7, n8⟩ := R3.out
    obtain ⟨f4, hI4, _⟩ := E4.inv
    have hrk := rank_begun hI4
    have e5 := HQ5.out
    rw [e5]
    obtain ⟨e1, e2, e3⟩ := HQ4.out
    rw [e2] at hrk ⊢
    have hxs : (made q3 k).xs = [x, ⟨q3.given + 1, topOf q3, k⟩] := by simp [made, n1]
    rw [hxs] at hrk
    simp only [sumG, wt] at hrk
    refine ⟨⟨?_, ?_, ?_, fun j _ => ?_, ?_⟩, fun _ => by omega⟩
    · show (x.id, (k : Int)) ∈ (made q3 k).xs.map _
      rw [hxs]; simp [n7]
    · show (y.id, (k : Int)) ∈ (made q3 k).xs.map _
      rw [hxs, e1]; simp
    · rw [e1, n6]; show (1 : Int) ≠ q3.given + 1; omega
    · rw [e3, e1, n6, n4]
      simp [n8]
    · show (made q3 k).given ≤ 2
      show q3.given + 1 ≤ 2; omega
  have hrow5 := row_turn (World.rowIs_made w4 (.int .i64 0) k 3) (fun r => by have := E4.lt _ r; omega) hB5 hW5
  have hgB : w.heap.size ≤ w4.heap.size := E4.size
  have E5' : Hid (Env w.heap.size w w5 P5 s b (3 + 1000 : Int).toNat q5 V4) := E5
  have HR5 : Hid (w5.rowIs w4.heap.size 3 k (fun _ => .int .i64 0) ∧ ¬ P5 w4.heap.size) := hrow5
  clear E2 E3 E4 E5 hrow5 hB5 hW5 HQ4 HQ5 R3 hb1 hb2 hmk
  generalize w4.heap.size = gz at *
  go_loopg [15, 16, 17, 18] 201 (fun kx s15 s16 s17 s18 wr => ∃ i : Nat, s15 = .int .i64 i ∧ i ≤ 200 ∧ i ≤ N ∧ 200 - i ≤ kx ∧ ∃ P q V F, Env w.heap.size w wr P s b (3 + 1000 : Int).toNat q V ∧ wr.rowIs gz 3 k (fun j => .int .i64 (F j)) ∧ ¬ P gz ∧ Hid (Agr q V x.id y.id k F ∧ (q.c.on = true → rank q ≤ 133)))
  case atStart => exact ⟨0, rfl, by omega, by omega, by omega, P5, q5, V4, fun _ => 0, E5'.out, HR5.out.1, HR5.out.2, R5.out⟩
  case round =>
    clear E5' HR5 R5
    obtain ⟨i, rfl, hi1, hi2, hkx, P, q, V, F, E, hrow, hnP, HA⟩ := hrel
    by_cases hlt : i < N ∧ i < 200
    · obtain ⟨Bs, o, rfl, hBs, hcell⟩ := H0.out.resolve_left (by omega)
      have cz : wr.cell? ⟨Bs, o + i, none⟩ = some (.int .i64 (f i)) := (World.cell?_of_block (a := ⟨Bs, o + i, none⟩) (E.bel.block Bs hBs)).trans (hcell i hlt.1)
      obtain ⟨t, ht, htk⟩ := at_word k (f i) hk1.1 hk1.2
      generalize f i = z at *
      clear hcell
      have hl1 : (i : Int) < (N : Int) := by omega
      have hl2 : (i : Int) < 200 := by omega
      by_cases h3 : i % 3 = 0
      · have t3 : ((i : Int) % 3 == 0) = true := by simp; omega
        go_wp2_with (first
          | (go_at_call 19; refine (h_step E 2 (by omega) (by have := HA.out.1.2.2.2.2; omega)).mono ?_; rintro e u1 ⟨q1, m1, rfl, _, hst, P1, E1, hB1, hW1⟩; have hr1 := row_turn hrow hnP hB1 hW1; have HA1 : Hid (Agr q1 V x.id y.id k F ∧ (q1.c.on = true → rank q1 ≤ 133)) := ⟨HA.out.1.step hst, fun r => by have r1 := hst.on r; have r2 := HA.out.2 r1.1; omega⟩; have c1 := hr1.1.cell htk; have f1 := hr1.1.frozen t)
          | (go_at_call 16; refine (h_set E3 HA1.out.1.2.1 _ t _ (by omega) (by omega)).mono ?_; rintro e u4 ⟨rfl, P4, E4, hB4, hW4⟩; have hr4 := row_turn hr3.1 hr3.2 hB4 hW4)
          | (go_at_call 16; refine (h_set (E1.other hr1.2 hgB t (.int .i64 ((i : Int) + 1))) HA1.out.1.1 _ t _ (by omega) (by omega)).mono ?_; rintro e u3 ⟨rfl, P3, E3, hB3, hW3⟩; have hr3 := row_turn (hr1.1.set t (.int .i64 ((i : Int) + 1))) hr1.2 hB3 hW3)
          | (go_at_call 12; refine (num_any _ _).mono ?_; rintro e w9 ⟨rfl, hw9⟩; replace hw9 := hw9.symm; subst hw9))
        go_roundg (200 - (i + 1))
        case measure => omega
        case rel =>
          refine ⟨i + 1, by go_num, by omega, by omega, by omega, P4, q1, _, upd F t ((i : Int) + 1), E4, hr4.1.congr fun j _ => ?_, hr4.2, ⟨?_, HA1.out.2⟩⟩
          · unfold upd; split <;> rfl
          · have := HA1.out.1.set (a := t) (v := (i : Int) + 1) (by omega)
            rw [show -((i : Int) + 1) = -(i : Int) - 1 by omega] at this
            exact this
      · have t3 : ((i : Int) % 3 == 0) = false := by simp; omega
        have E1 := E
        have hr1 : wr.rowIs gz 3 k (fun j => .int .i64 (F j)) ∧ ¬ P gz := ⟨hrow, hnP⟩
        have HA1 := HA
        have c1 := hrow.cell htk
        have f1 := hrow.frozen t
        go_wp2_with (first
          | (go_at_call 16; refine (h_set E3 HA1.out.1.2.1 _ t _ (by omega) (by omega)).mono ?_; rintro e u4 ⟨rfl, P4, E4, hB4, hW4⟩; have hr4 := row_turn hr3.1 hr3.2 hB4 hW4)
          | (go_at_call 16; refine (h_set (E1.other hr1.2 hgB t (.int .i64 ((i : Int) + 1))) HA1.out.1.1 _ t _ (by omega) (by omega)).mono ?_; rintro e u3 ⟨rfl, P3, E3, hB3, hW3⟩; have hr3 := row_turn (hr1.1.set t (.int .i64 ((i : Int) + 1))) hr1.2 hB3 hW3)
          | (go_at_call 12; refine (num_any _ _).mono ?_; rintro e w9 ⟨rfl, hw9⟩; replace hw9 := hw9.symm; subst hw9))
        go_roundg (200 - (i + 1))
        case measure => omega
        case rel =>
          refine ⟨i + 1, by go_num, by omega, by omega, by omega, P4, q, _, upd F t ((i : Int) + 1), E4, hr4.1.congr fun j _ => ?_, hr4.2, ⟨?_, HA1.out.2⟩⟩
          · unfold upd; split <;> rfl
          · have := HA1.out.1.set (a := t) (v := (i : Int) + 1) (by omega)
            rw [show -((i : Int) + 1) = -(i : Int) - 1 by omega] at this
            exact this
    · have hl : ¬ (i : Int) < (N : Int) ∨ ((i : Int) < (N : Int) ∧ ¬ (i : Int) < 200) := by omega
      have E' : Hid (Env w.heap.size w wr P s b (3 + 1000 : Int).toNat q V ∧ wr.rowIs gz 3 k (fun j => .int .i64 (F j)) ∧ ¬ P gz) := ⟨E, hrow, hnP⟩
      clear E hrow hnP hlt
      rcases hl with hl | ⟨hl1, hl2⟩
      all_goals
        go_wp2
        go_loopg [19, 20, 21] 300 (fun kx s19 s20 s21 wx => ∃ j : Nat, s19 = .int .i64 j ∧ j ≤ 140 ∧ 140 - j ≤ kx ∧ ∃ P q, Env w.heap.size w wx P s b (3 + 1000 : Int).toNat q V ∧ wx.rowIs gz 3 k (fun j => .int .i64 (F j)) ∧ ¬ P gz ∧ Hid (Agr q V x.id y.id k F ∧ (q.c.on = true → rank q + j ≤ 134)))
        case atStart => exact ⟨0, rfl, by omega, by omega, P, q, E'.out.1, E'.out.2.1, E'.out.2.2, HA.out.1, fun r => by have := HA.out.2 r; omega⟩
        case round =>
          clear E' HA
          obtain ⟨j, rfl, hj, hjk, P, q, E, hrow, hnP, HA⟩ := hrel
          have hj2 : (j : Int) < 2000 := by omega
          go_wp2_with (first
            | (go_at_call 19; refine (h_step E 0 (by omega) (by have := HA.out.1.2.2.2.2; omega)).mono ?_; rintro e u1 ⟨q1, m1, rfl, HM, hst, P1, E1, hB1, hW1⟩; have hr1 := row_turn hrow hnP hB1 hW1; have HA1 : Hid (Agr q1 V x.id y.id k F ∧ (q1.c.on = true → rank q1 + (j + 1 : Nat) ≤ 134)) := ⟨HA.out.1.step hst, fun r => by have r1 := hst.on r; have r2 := HA.out.2 r1.1; omega⟩; clear hst hB1 hW1 E hrow hnP HA)
            | (go_at_call 12; refine (num_any _ _).mono ?_; rintro e w9 ⟨rfl, hw9⟩; replace hw9 := hw9.symm; subst hw9))
          · have hm : (!m1) = true := by assumption
            have hoff : q1.c.on = false := by rw [← HM.out]; simpa using hm
            have hm' : m1 = false := by simpa using hm
            subst hm'
            clear hm HM
            have E' : Hid (Env w.heap.size w u1 P1 s b (3 + 1000 : Int).toNat q1 V ∧ u1.rowIs gz 3 k (fun j => .int .i64 (F j)) ∧ ¬ P1 gz) := ⟨E1, hr1⟩
            have HO : Hid (q1.c.on = false) := hoff
            clear E1 hr1 hoff
            go_loopg [22, 23, 24, 25, 26] 65 (fun kx s22 s23 s24 s25 s26 wz => ∃ i : Nat, s22 = .int .i64 i ∧ i ≤ k ∧ k - i ≤ kx ∧ ∃ P, Env w.heap.size w wz P s b (3 + 1000 : Int).toNat q1 V ∧ wz.rowIs gz 3 k (fun j => .int .i64 (F j)) ∧ ¬ P gz)
            case atStart => exact ⟨0, rfl, by omega, by omega, P1, E'.out.1, E'.out.2.1, E'.out.2.2⟩
            case round =>
              clear E'
              obtain ⟨n, rfl, hn1, hn2, P3, E3, hrow3, hnP3⟩ := hrel
              by_cases hnk : n < k
              · obtain ⟨v1, v2, v3, v4⟩ := HA1.out.1.2.2.2.1 n hnk
                have hl3 : (n : Int) < (k : Int) := by omega
                go_wp2_with (first
                  | (go_at_call 13; refine (h_get E4 HA1.out.1.2.1 1 n (by omega) (by omega)).mono ?_; rintro e u5 ⟨rfl, P5, E5, hB5, hW5⟩; have hr5 := row_turn hr4.1 hr4.2 hB5 hW5; have c5 := hr5.1.cell hnk; rw [v2])
                  | (go_at_call 13; refine (h_get E3 HA1.out.1.1 0 n (by omega) (by omega)).mono ?_; rintro e u4 ⟨rfl, P4, E4, hB4, hW4⟩; have hr4 := row_turn hrow3 hnP3 hB4 hW4; rw [v1])
                  | (go_at_call 12; refine (num_any _ _).mono ?_; rintro e w9 ⟨rfl, hw9⟩; replace hw9 := hw9.symm; subst hw9))
                go_roundg (k - (n + 1))
                case measure => omega
                case rel => exact ⟨n + 1, by go_num, by omega, by omega, P5, E5, hr5.1, hr5.2⟩
              · have hl3 : ¬ (n : Int) < (k : Int) := by omega
                go_wp2_with (first
                  | (go_at_call 18; refine (l_begin E3 HO.out).mono ?_; rintro e u6 ⟨q6, rfl, _, _, P6, E6, _, _⟩)
                  | (go_at_call 12; refine (num_any _ _).mono ?_; rintro e w9 ⟨rfl, hw9⟩; replace hw9 := hw9.symm; subst hw9))
                go_ret
                exact ⟨rfl, E6.bel⟩
          · have hm : (!m1) = false := by assumption
            have hon : q1.c.on = true := by rw [← HM.out]; simpa using hm
            have hm' : m1 = true := by simpa using hm
            subst hm'
            have hrk : 1 ≤ rank q1 ∧ rank q1 + (j + 1 : Nat) ≤ 134 := ⟨by obtain ⟨ff, hI, _⟩ := E1.inv; exact hI.rank1, HA1.out.2 hon⟩
            clear hm
            go_roundg (140 - (j + 1))
            case measure => omega
            case rel => exact ⟨j + 1, by go_num, by omega, by omega, P1, q1, E1, hr1.1, hr1.2, HA1.out⟩
end Go.Proofs.Ytjfjgfkfbbigbaa
