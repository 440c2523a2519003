/- The document's own reader: its state (alive at a place, or the first fault), what a call leaves; fault, num, ranged. -/
import Derived.Test.YtajghalljkphiaaGreatMLName
import Derived.Test.YtajghalljkphiaaGreatMWRef
import Derived.Deep.DeepCutAuto
import Derived.Deep.LoopGhost
namespace Go.Proofs.YtajghalljkphiaaGreat
open Go.RowKit

/-- Alive at a place, or the first fault. -/
abbrev Stt := Except (Nat × Int) Nat
def Qb (w : World) (rh : Nat) (s : ByteArray) (t : Stt) : Prop := match t with
  | .ok a => w.heap[rh]? = some (.cells #[.string s, .int .i64 a, .int .i64 0, .int .i64 0] 46 (0, 0)) ∧ a ≤ s.size
  | .error (q, c) => c ≠ 0 ∧ ∃ a : Nat, w.heap[rh]? = some (.cells #[.string s, .int .i64 a, .int .i64 c, .int .i64 q] 46 (0, 0))
/-- What a reader makes of a state: the next one, and what was read if it was. -/
def stp {α : Type} (p : Prs α) (s : ByteArray) (t : Stt) : Stt × Option α := match t with
  | .error e => (.error e, none)
  | .ok a => match p s a with
    | .ok (x, b) => (.ok b, some x)
    | .error e => (.error e, none)
theorem stp_dead {α : Type} (p : Prs α) (s : ByteArray) (e : Nat × Int) : stp p s (.error e) = (.error e, none) := rfl
theorem stp_ok {α : Type} {p : Prs α} {s : ByteArray} {a : Nat} {x : α} {b : Nat} (h : p s a = .ok (x, b)) : stp p s (.ok a) = (.ok b, some x) := by simp only [stp, h]
theorem stp_err {α : Type} {p : Prs α} {s : ByteArray} {a : Nat} {e : Nat × Int} (h : p s a = .error e) : stp p s (.ok a) = (.error e, none) := by simp only [stp, h]
/-- What a call that reads leaves: something of its kind, what was read where it was. -/
def QP {α : Type} (p : Prs α) (V : α → Value → World → Prop) (s : ByteArray) (rh : Nat) (w : World) (t : Stt) (e : Ending) (w' : World) : Prop :=
  Bx rh w w' ∧ ∃ x v, e = .returned v ∧ V x v w' ∧ Qb w' rh s (stp p s t).1 ∧ ∀ y, (stp p s t).2 = some y → x = y
theorem Qb.box {w : World} {rh : Nat} {s : ByteArray} {t : Stt} (h : Qb w rh s t) : ∃ (a : Nat) (c q : Int), w.heap[rh]? = some (.cells #[.string s, .int .i64 a, .int .i64 c, .int .i64 q] 46 (0, 0)) := by
  cases t with
  | ok a => exact ⟨a, 0, 0, h.1⟩
  | error e => obtain ⟨q, c⟩ := e; obtain ⟨_, a, h2⟩ := h; exact ⟨a, c, q, h2⟩
theorem Qb.lt {w : World} {rh : Nat} {s : ByteArray} {t : Stt} (h : Qb w rh s t) : rh < w.heap.size := by
  obtain ⟨a, c, q, h2⟩ := h.box; exact (Array.getElem?_eq_some_iff.1 h2).1
theorem Qb.keep {w w' : World} {rh : Nat} {s : ByteArray} {t : Stt} (h : Qb w rh s t) (e : w'.heap[rh]? = w.heap[rh]?) : Qb w' rh s t := by
  cases t with
  | ok a => exact ⟨e.trans h.1, h.2⟩
  | error q => obtain ⟨q, c⟩ := q; obtain ⟨h1, a, h2⟩ := h; exact ⟨h1, a, e.trans h2⟩
theorem Qb.below {w w' : World} {rh : Nat} {s : ByteArray} {t : Stt} (h : Qb w rh s t) (k : Below w.heap.size w w') : Qb w' rh s t := h.keep (k.block _ h.lt)
section
variable {w : World} {rh : Nat} {s : ByteArray} {a : Nat} {c q : Int}
theorem qcell (h : w.heap[rh]? = some (.cells #[.string s, .int .i64 a, .int .i64 c, .int .i64 q] 46 (0, 0))) : w.cell? ⟨rh, 0, none⟩ = some (.string s) ∧ w.cell? ⟨rh, 1, none⟩ = some (.int .i64 a) ∧ w.cell? ⟨rh, 2, none⟩ = some (.int .i64 c) ∧ w.cell? ⟨rh, 3, none⟩ = some (.int .i64 q) ∧ (∀ j, w.frozen? ⟨rh, j, none⟩ = false) ∧ rh < w.heap.size :=
  ⟨by simp [World.cell?, h], by simp [World.cell?, h], by simp [World.cell?, h], by simp [World.cell?, h], fun j => by simp [World.frozen?, h], (Array.getElem?_eq_some_iff.1 h).1⟩
set_option maxRecDepth 20000 in
theorem fault_ok (h : w.heap[rh]? = some (.cells #[.string s, .int .i64 a, .int .i64 0, .int .i64 q] 46 (0, 0))) (code : Int) (at_ : Int) : Calls Tryz.prog 20 #[.pointer (some ⟨rh, 0, none⟩), .int .i64 code, .int .i64 at_] w fun e w' => e = .returned (.tuple #[]) ∧ Bx rh w w' ∧ w'.heap[rh]? = some (.cells #[.string s, .int .i64 a, .int .i64 code, .int .i64 at_] 46 (0, 0)) := by
  obtain ⟨c0, c1, c2, c3, fr, hl⟩ := qcell h
  have f2 := fr 2
  have f3 := fr 3
  have HH : Hid (w.heap[rh]? = some (.cells #[.string s, .int .i64 a, .int .i64 0, .int .i64 q] 46 (0, 0))) := h
  clear h fr
  go_enter Tryz.func20, Tryz.ntmps20
  go_wp2
  go_end0
  exact ⟨rfl, ((Bx.refl rh w).set 2 _).set 3 _, hset (hset HH.out _) _⟩
end
theorem gC_codes (s : ByteArray) (a : Int) : gC s a = 0 ∨ gC s a = 200 ∨ gC s a = 201 := by
  unfold gC
  split
  · exact .inr (.inl rfl)
  · have key : ∀ (l : List UInt8) (i z : Nat), (rd l i z).2.2 = 0 ∨ (rd l i z).2.2 = 200 ∨ (rd l i z).2.2 = 201 := by
      intro l
      induction l with
      | nil => intro i z; exact .inr (.inl rfl)
      | cons c l ih =>
        intro i z
        rw [rd]
        split
        · exact .inr (.inr rfl)
        · split
          · exact .inl rfl
          · exact ih _ _
    exact key _ _ _
theorem ofW_200 : ofW 200 = 1401 := rfl
theorem ofW_201 : ofW 201 = 1402 := rfl
theorem ofW_202 : ofW 202 = 1403 := rfl

set_option maxHeartbeats 1000000 in
set_option maxRecDepth 20000 in
theorem qnum_dead {w : World} {rh : Nat} {s : ByteArray} {q : Nat} {c : Int} (H : Qb w rh s (.error (q, c))) : Calls Tryz.prog 17 #[.pointer (some ⟨rh, 0, none⟩)] w fun e w' => e = .returned (.int .i64 0) ∧ w' = w := by
  obtain ⟨hc, a, h⟩ := H
  obtain ⟨c0, c1, c2, c3, fr, hl⟩ := qcell h
  have hc2 : (c != 0) = true := by simp [hc]
  clear h fr hc
  go_enter Tryz.func17, Tryz.ntmps17
  go_wp2
  go_ret
  exact ⟨rfl, rfl⟩
set_option maxHeartbeats 1000000 in
set_option maxRecDepth 20000 in
theorem qnum_ok {w : World} {rh : Nat} {s : ByteArray} {a : Nat} (H : Qb w rh s (.ok a)) (hs : s.size ≤ maxLen) : Calls Tryz.prog 17 #[.pointer (some ⟨rh, 0, none⟩)] w (QP pNum vI s rh w (.ok a)) := by
  obtain ⟨h, ha⟩ := H
  obtain ⟨c0, c1, c2, c3, fr, hl⟩ := qcell h
  have f1 := fr 1
  have HH : Hid (∀ n, (w.drewN n).heap[rh]? = some (.cells #[.string s, .int .i64 a, .int .i64 0, .int .i64 0] 46 (0, 0))) := fun _ => h
  have HF : Hid (∀ n code, Calls Tryz.prog 20 #[.pointer (some ⟨rh, 0, none⟩), .int .i64 code, .int .i64 a] (w.drewN n) fun e w' => e = .returned (.tuple #[]) ∧ Bx rh (w.drewN n) w' ∧ w'.heap[rh]? = some (.cells #[.string s, .int .i64 a, .int .i64 code, .int .i64 a] 46 (0, 0))) := fun n code => fault_ok (HH.out n) code a
  have HD : Hid (∀ n, Bx rh w (w.drewN n)) := fun n => Bx.of_below (below_drewN w n _)
  clear h fr
  rcases gC_codes s a with g | g | g
  · have e1 : (gC s a == 200) = false := by rw [g]; rfl
    have e2 : (gC s a != 0) = false := by rw [g]; rfl
    obtain ⟨n0, b1, b2, _⟩ := num_back ha g
    have HT : Hid (gT s a = ((gT s a).toNat : Int)) := by show _ = _; rw [b1]; rfl
    have HL : Hid ((gT s a).toNat ≤ s.size) := by show _ ≤ _; rw [b1, Int.toNat_natCast]; exact b2
    have HP : Hid (pNum s a = .ok (gN s a, (gT s a).toNat)) := pNum_ok g
    clear g b1 b2 HF
    go_enter Tryz.func17, Tryz.ntmps17
    go_wp2
    go_quiet ((go_at_call 39; exact Calls.quiet_of_same (ref_any _ _ _ hs)))
    go_wp2
    go_ret
    refine ⟨(HD.out _).set 1 _, _, _, rfl, rfl, ?_, ?_⟩
    · rw [stp_ok HP.out]
      refine ⟨?_, HL.out⟩
      rw [HT.out]
      exact hset (HH.out _) _
    · rw [stp_ok HP.out]; intro y hy; exact Option.some.inj hy
  · have e1 : (gC s a == 200) = true := by rw [g]; rfl
    have HP : Hid (pNum s a = .error (a, 1401)) := by show _ = _; rw [pNum_no (by rw [g]; decide), g]; rfl
    clear g
    go_enter Tryz.func17, Tryz.ntmps17
    go_wp2
    go_quiet ((go_at_call 39; exact Calls.quiet_of_same (ref_any _ _ _ hs)))
    go_wp2_with (go_at_call 20; refine (HF.out _ _).mono ?_; rintro e w2 ⟨rfl, hb, hx⟩; have HX : Hid (Bx rh w w2) := (HD.out _).trans hb; clear HF hb)
    go_ret
    refine ⟨HX.out, _, _, rfl, rfl, ?_, ?_⟩
    · rw [stp_err HP.out]; exact ⟨by decide, a, hx⟩
    · rw [stp_err HP.out]; intro y hy; cases hy
  · have e1 : (gC s a == 200) = false := by rw [g]; rfl
    have e2 : (gC s a != 0) = true := by rw [g]; rfl
    have HP : Hid (pNum s a = .error (a, 1402)) := by show _ = _; rw [pNum_no (by rw [g]; decide), g]; rfl
    clear g
    go_enter Tryz.func17, Tryz.ntmps17
    go_wp2
    go_quiet ((go_at_call 39; exact Calls.quiet_of_same (ref_any _ _ _ hs)))
    go_wp2_with (go_at_call 20; refine (HF.out _ _).mono ?_; rintro e w2 ⟨rfl, hb, hx⟩; have HX : Hid (Bx rh w w2) := (HD.out _).trans hb; clear HF hb)
    go_ret
    refine ⟨HX.out, _, _, rfl, rfl, ?_, ?_⟩
    · rw [stp_err HP.out]; exact ⟨by decide, a, hx⟩
    · rw [stp_err HP.out]; intro y hy; cases hy
theorem qnum_any {w : World} {rh : Nat} {s : ByteArray} {t : Stt} (H : Qb w rh s t) (hs : s.size ≤ maxLen) : Calls Tryz.prog 17 #[.pointer (some ⟨rh, 0, none⟩)] w (QP pNum vI s rh w t) := by
  cases t with
  | ok a => exact qnum_ok H hs
  | error e =>
    obtain ⟨q, c⟩ := e
    refine (qnum_dead H).mono ?_
    rintro e w' ⟨rfl, rfl⟩
    exact ⟨Bx.refl _ _, 0, _, rfl, rfl, H, fun y hy => by cases hy⟩
end Go.Proofs.YtajghalljkphiaaGreat
/- The document's own reader: ranged, Name, name. -/
namespace Go.Proofs.YtajghalljkphiaaGreat
open Go.RowKit

set_option maxHeartbeats 2000000 in
set_option maxRecDepth 20000 in
theorem qup_any {w : World} {rh : Nat} {s : ByteArray} {t : Stt} (most ab : Int) (hab : ab ≠ 0) (H : Qb w rh s t) (hs : s.size ≤ maxLen) : Calls Tryz.prog 18 #[.pointer (some ⟨rh, 0, none⟩), .int .i64 most, .int .i64 ab] w (QP (pUp most ab) vI s rh w t) := by
  have hN := qnum_any H hs
  obtain ⟨a, c, q, h⟩ := H.box
  obtain ⟨-, z1, -, -, -, -⟩ := qcell h
  cases t with
  | error e =>
    obtain ⟨q2, c2⟩ := e
    have hc2 : (c2 == 0) = false := by rw [beq_eq_false_iff_ne]; exact H.1
    have hc3 : (c2 != 0) = true := by rw [bne_iff_ne]; exact H.1
    clear h H
    go_enter Tryz.func18, Tryz.ntmps18
    go_wp2_with (go_at_call 17; refine hN.mono ?_; rintro e w1 ⟨hb, x, v, rfl, rfl, hQ, -⟩; have HB : Hid (Bx rh w w1) := hb; have HQ : Hid (Qb w1 rh s (.error (q2, c2))) := hQ; obtain ⟨-, a1, h1⟩ := hQ; obtain ⟨-, -, y2, -, -, -⟩ := qcell h1; clear hN hb h1)
    go_ret
    exact ⟨HB.out, 0, _, rfl, rfl, HQ.out, fun y hy => by cases hy⟩
  | ok a0 =>
    obtain ⟨h0, ha⟩ := H
    obtain ⟨-, zz, -, -, -, -⟩ := qcell h0
    obtain rfl : a = a0 := by rw [z1] at zz; injection zz with zz; injection zz with _ zz; omega
    clear h zz h0
    rcases hp : pNum s a with ⟨q2, c2⟩ | ⟨x, b⟩
    · have HE : Hid (pUp most ab s a = .error (q2, c2)) := by show _ = _; unfold pUp; rw [hp, bnd_err]
      unfold QP at hN
      rw [stp_err hp] at hN
      clear hp
      go_enter Tryz.func18, Tryz.ntmps18
      go_wp2_with (go_at_call 17; refine hN.mono ?_; rintro e w1 ⟨hb, x, v, rfl, rfl, hQ, -⟩; have HB : Hid (Bx rh w w1) := hb; have HQ : Hid (Qb w1 rh s (.error (q2, c2))) := hQ; obtain ⟨hc, a1, h1⟩ := hQ; have hc2 : (c2 == 0) = false := (by rw [beq_eq_false_iff_ne]; exact hc); have hc3 : (c2 != 0) = true := (by rw [bne_iff_ne]; exact hc); obtain ⟨-, -, y2, -, -, -⟩ := qcell h1; clear hN hb h1 hc)
      go_ret
      refine ⟨HB.out, 0, _, rfl, rfl, ?_, ?_⟩
      · rw [stp_err HE.out]; exact HQ.out
      · rw [stp_err HE.out]; intro y hy; cases hy
    · unfold QP at hN
      rw [stp_ok hp] at hN
      by_cases h1 : x < 0
      · have HE : Hid (pUp most ab s a = .error (a, 1402)) := by show _ = _; unfold pUp; rw [hp, bnd_ok, if_pos h1]
        have d1 : decide (x < 0) = true := decide_eq_true h1
        clear hp h1
        go_enter Tryz.func18, Tryz.ntmps18
        go_wp2_with (first
          | (go_at_call 17; refine hN.mono ?_; rintro e w1 ⟨hb, x2, v, rfl, rfl, hQ, hx⟩; obtain rfl := hx x rfl; have HB : Hid (Bx rh w w1) := hb; obtain ⟨g1, -⟩ := hQ; have hF := fault_ok g1 1402 a; obtain ⟨-, -, y2, -, -, -⟩ := qcell g1; clear hN hb hx g1)
          | (go_at_call 20; refine hF.mono ?_; rintro e w2 ⟨rfl, hb2, hx2⟩; have HB2 : Hid (Bx rh w w2) := HB.out.trans hb2; have HX : Hid (w2.heap[rh]? = some (.cells #[.string s, .int .i64 b, .int .i64 1402, .int .i64 a] 46 (0, 0))) := hx2; obtain ⟨-, -, u2, -, -, -⟩ := qcell hx2; clear hF hb2 hx2))
        go_ret
        refine ⟨HB2.out, 0, _, rfl, rfl, ?_, ?_⟩
        · rw [stp_err HE.out]; exact ⟨by decide, b, HX.out⟩
        · rw [stp_err HE.out]; intro y hy; cases hy
      · have d1 : decide (x < 0) = false := decide_eq_false h1
        by_cases h2 : most < x
        · have HE : Hid (pUp most ab s a = .error (a, ab)) := by show _ = _; unfold pUp; rw [hp, bnd_ok, if_neg h1, if_pos h2]
          have d2 : decide (most < x) = true := decide_eq_true h2
          have e1 : (ab == 0) = false := by rw [beq_eq_false_iff_ne]; exact hab
          have e2 : (ab != 0) = true := by rw [bne_iff_ne]; exact hab
          clear hp h1 h2
          go_enter Tryz.func18, Tryz.ntmps18
          go_wp2_with (first
            | (go_at_call 17; refine hN.mono ?_; rintro e w1 ⟨hb, x2, v, rfl, rfl, hQ, hx⟩; obtain rfl := hx x rfl; have HB : Hid (Bx rh w w1) := hb; obtain ⟨g1, -⟩ := hQ; have hF := fault_ok g1 ab a; obtain ⟨-, -, y2, -, -, -⟩ := qcell g1; clear hN hb hx g1)
            | (go_at_call 20; refine hF.mono ?_; rintro e w2 ⟨rfl, hb2, hx2⟩; have HB2 : Hid (Bx rh w w2) := HB.out.trans hb2; have HX : Hid (w2.heap[rh]? = some (.cells #[.string s, .int .i64 b, .int .i64 ab, .int .i64 a] 46 (0, 0))) := hx2; obtain ⟨-, -, u2, -, -, -⟩ := qcell hx2; clear hF hb2 hx2))
          go_ret
          refine ⟨HB2.out, 0, _, rfl, rfl, ?_, ?_⟩
          · rw [stp_err HE.out]; exact ⟨hab, b, HX.out⟩
          · rw [stp_err HE.out]; intro y hy; cases hy
        · have HE : Hid (pUp most ab s a = .ok (x, b)) := by show _ = _; unfold pUp; rw [hp, bnd_ok, if_neg h1, if_neg h2]
          have d2 : decide (most < x) = false := decide_eq_false h2
          clear hp h1 h2
          go_enter Tryz.func18, Tryz.ntmps18
          go_wp2_with (go_at_call 17; refine hN.mono ?_; rintro e w1 ⟨hb, x2, v, rfl, rfl, hQ, hx⟩; obtain rfl := hx x rfl; have HB : Hid (Bx rh w w1) := hb; have HQ : Hid (Qb w1 rh s (.ok b)) := hQ; obtain ⟨g1, -⟩ := hQ; obtain ⟨-, -, y2, -, -, -⟩ := qcell g1; clear hN hb hx g1)
          go_ret
          refine ⟨HB.out, x2, _, rfl, rfl, ?_, ?_⟩
          · rw [stp_ok HE.out]; exact HQ.out
          · rw [stp_ok HE.out]; intro y hy; exact Option.some.inj hy

theorem L_not_D {c : UInt8} (h : isL c = true) : isD c = false := by
  unfold isL at h
  unfold isD
  simp at h ⊢
  omega
def okTo (s : ByteArray) (k : Nat) : Prop := ∀ j (h : j < s.size), j < k → (isL s[j] || (decide (0 < j) && isD s[j])) = true
theorem nm_yes {s : ByteArray} (h1 : 0 < s.size) (h2 : s.size ≤ 16) (h : okTo s s.size) : isNm s = true := by
  have h0 := h 0 h1 h1
  simp at h0
  rw [isNm_rest h1 h2 (L_not_D h0)]
  refine all_yes fun j hj hlt => ?_
  have := h j hj hlt
  cases hl : isL s[j]
  · rw [hl] at this; simp at this; rw [this.2]; rfl
  · rfl
theorem nm_no {s : ByteArray} {k : Nat} (h1 : 0 < s.size) (h2 : s.size ≤ 16) (hk : k < s.size) (hl : isL s[k] = false) (h : k = 0 ∨ isD s[k] = false) : isNm s = false := by
  by_cases h3 : isD s[0] = true
  · exact isNm_digit h1 h3
  · have h3' : isD s[0] = false := by simpa using h3
    rw [isNm_rest h1 h2 h3']
    refine all_no hk ?_
    rcases h with rfl | h
    · rw [hl, h3']; rfl
    · rw [hl, h]; rfl
set_option maxHeartbeats 4000000 in
set_option maxRecDepth 20000 in
theorem Name_any (s : ByteArray) (w : World) : Calls Tryz.prog 66 #[.string s] w fun e w' => e = .returned (.bool (isNm s)) ∧ w' = w := by
  by_cases h0 : s.size = 0
  · rw [isNm_empty h0]
    have := empty_of h0
    subst this
    go_enter Tryz.func66, Tryz.ntmps66
    go_wp2
    go_ret
    exact ⟨rfl, rfl⟩
  · have h1 : 0 < s.size := by omega
    have hne := ne_empty h1
    by_cases h2 : 16 < s.size
    · rw [isNm_long h2]
      have d : (16 : Int) < (s.size : Int) := by omega
      clear h0
      go_enter Tryz.func66, Tryz.ntmps66
      go_wp2
      go_ret
      exact ⟨rfl, rfl⟩
    · obtain ⟨B, hB⟩ : ∃ B, isNm s = B := ⟨_, rfl⟩
      rw [hB]
      have HB : Hid (isNm s = B) := hB
      have d : ¬ (16 : Int) < (s.size : Int) := by omega
      have H16 : Hid (s.size ≤ 16) := by show _ ≤ _; omega
      clear h0 h2 hB
      go_enter Tryz.func66, Tryz.ntmps66
      go_wp2
      go_loopg [3] (s.size + 1) (fun kx s3 wr => ∃ k : Nat, s3 = .int .i64 k ∧ k ≤ s.size ∧ s.size - k ≤ kx ∧ w = wr ∧ Hid (okTo s k))
      case atStart => exact ⟨0, rfl, by omega, by omega, rfl, fun j _ h => by omega⟩
      case round =>
        obtain ⟨k, rfl, hk, hkx, rfl, HK⟩ := hrel
        by_cases hlt : k < s.size
        · have hl2 : (k : Int) < (s.size : Int) := by omega
          obtain ⟨L, hL⟩ : ∃ L, isL s[k] = L := ⟨_, rfl⟩
          obtain ⟨c, hc⟩ : ∃ c, s[k] = c := ⟨_, rfl⟩
          have HN : Hid ((L || (decide (0 < k) && isD c)) = true → okTo s (k + 1)) := fun hh j hj hlt => by
            by_cases e : j = k
            · subst e; rw [hL, hc]; exact hh
            · exact HK.out j hj (by omega)
          have HX : Hid (L = false → (k = 0 ∨ isD c = false) → B = false) := fun hf hd => by
            rw [← HB.out]; exact nm_no h1 H16.out hlt (hL.trans hf) (by rw [hc]; exact hd)
          rw [hc] at hL
          have HL : Hid (isL c = L) := hL
          clear hL
          go_upto_region 7 with (fail)
          go_cut [5] from 13 to 39 (fun s5 wx => s5 = .bool L ∧ w = wx)
          case first =>
            have hcs : c.toNat = 95 ∨ (97 ≤ c.toNat ∧ c.toNat ≤ 122) ∨ 122 < c.toNat ∨ (65 ≤ c.toNat ∧ c.toNat ≤ 90) ∨ (90 < c.toNat ∧ c.toNat < 97 ∧ c.toNat ≠ 95) ∨ c.toNat < 65 := by omega
            rcases hcs with hq | hq | hq | hq | hq | hq
            · have HV : Hid (L = true) := by show _ = _; rw [← HL.out]; unfold isL; simp; omega
              have d4 : ((c.toNat : Int) == 95) = true := by simp; omega
              as_aux_lemma =>
                go_wp2_with (fail)
                go_meet
                exact ⟨by rw [HV.out], rfl⟩
            · have HV : Hid (L = true) := by show _ = _; rw [← HL.out]; unfold isL; simp; omega
              have d4 : ((c.toNat : Int) == 95) = false := by simp; omega
              have d0 : decide ((97 : Int) ≤ (c.toNat : Int)) = true := by simp; omega
              have d1 : decide ((c.toNat : Int) ≤ 122) = true := by simp; omega
              as_aux_lemma =>
                go_wp2_with (fail)
                go_meet
                exact ⟨by rw [HV.out], rfl⟩
            · have HV : Hid (L = false) := by show _ = _; rw [← HL.out]; unfold isL; simp; omega
              have d4 : ((c.toNat : Int) == 95) = false := by simp; omega
              have d0 : decide ((97 : Int) ≤ (c.toNat : Int)) = true := by simp; omega
              have d1 : decide ((c.toNat : Int) ≤ 122) = false := by simp; omega
              have d2 : decide ((65 : Int) ≤ (c.toNat : Int)) = true := by simp; omega
              have d3 : decide ((c.toNat : Int) ≤ 90) = false := by simp; omega
              as_aux_lemma =>
                go_wp2_with (fail)
                go_meet
                exact ⟨by rw [HV.out], rfl⟩
            · have HV : Hid (L = true) := by show _ = _; rw [← HL.out]; unfold isL; simp; omega
              have d4 : ((c.toNat : Int) == 95) = false := by simp; omega
              have d0 : decide ((97 : Int) ≤ (c.toNat : Int)) = false := by simp; omega
              have d2 : decide ((65 : Int) ≤ (c.toNat : Int)) = true := by simp; omega
              have d3 : decide ((c.toNat : Int) ≤ 90) = true := by simp; omega
              as_aux_lemma =>
                go_wp2_with (fail)
                go_meet
                exact ⟨by rw [HV.out], rfl⟩
            · have HV : Hid (L = false) := by show _ = _; rw [← HL.out]; unfold isL; simp; omega
              have d4 : ((c.toNat : Int) == 95) = false := by simp; omega
              have d0 : decide ((97 : Int) ≤ (c.toNat : Int)) = false := by simp; omega
              have d2 : decide ((65 : Int) ≤ (c.toNat : Int)) = true := by simp; omega
              have d3 : decide ((c.toNat : Int) ≤ 90) = false := by simp; omega
              as_aux_lemma =>
                go_wp2_with (fail)
                go_meet
                exact ⟨by rw [HV.out], rfl⟩
            · have HV : Hid (L = false) := by show _ = _; rw [← HL.out]; unfold isL; simp; omega
              have d4 : ((c.toNat : Int) == 95) = false := by simp; omega
              have d0 : decide ((97 : Int) ≤ (c.toNat : Int)) = false := by simp; omega
              have d2 : decide ((65 : Int) ≤ (c.toNat : Int)) = false := by simp; omega
              as_aux_lemma =>
                go_wp2_with (fail)
                go_meet
                exact ⟨by rw [HV.out], rfl⟩
          case rest =>
          obtain ⟨rfl, rfl⟩ := hcut
          cases L with
          | true =>
            have HN2 : Hid (okTo s (k + 1)) := HN.out rfl
            as_aux_lemma =>
              go_wp2
              go_roundg (s.size - (k + 1))
              case measure => omega
              case rel => exact ⟨k + 1, by go_num, by omega, by omega, rfl, HN2.out⟩
          | false =>
            by_cases hk0 : k = 0
            · have dk : ((k : Int) == 0) = true := by simp; omega
              have HV : Hid (B = false) := HX.out rfl (.inl hk0)
              as_aux_lemma =>
                clear hk0
                go_wp2
                go_ret
                exact ⟨by rw [HV.out]; rfl, rfl⟩
            · have dk : ((k : Int) == 0) = false := by rw [beq_eq_false_iff_ne]; omega
              by_cases q1 : c.toNat < 48
              · have d1 : decide ((c.toNat : Int) < 48) = true := by simp; omega
                have HV : Hid (B = false) := HX.out rfl (.inr (by unfold isD; simp; omega))
                as_aux_lemma =>
                  go_wp2
                  go_ret
                  exact ⟨by rw [HV.out]; rfl, rfl⟩
              · have d1 : decide ((c.toNat : Int) < 48) = false := by simp; omega
                by_cases q2 : 57 < c.toNat
                · have d2 : decide ((57 : Int) < (c.toNat : Int)) = true := by simp; omega
                  have HV : Hid (B = false) := HX.out rfl (.inr (by unfold isD; simp; omega))
                  as_aux_lemma =>
                    go_wp2
                    go_ret
                    exact ⟨by rw [HV.out]; rfl, rfl⟩
                · have d2 : decide ((57 : Int) < (c.toNat : Int)) = false := by simp; omega
                  have HN2 : Hid (okTo s (k + 1)) := HN.out (by rw [decide_eq_true (by omega : 0 < k)]; unfold isD; simp; omega)
                  as_aux_lemma =>
                    go_wp2
                    go_roundg (s.size - (k + 1))
                    case measure => omega
                    case rel => exact ⟨k + 1, by go_num, by omega, by omega, rfl, HN2.out⟩
        · have hn : k = s.size := by omega
          subst hn
          have hl : ¬ ((s.size : Nat) : Int) < ((s.size : Nat) : Int) := by omega
          have HV : Hid (B = true) := by show _ = _; rw [← HB.out]; exact nm_yes h1 H16.out HK.out
          go_wp2
          go_ret
          exact ⟨by rw [HV.out]; rfl, rfl⟩
end Go.Proofs.YtajghalljkphiaaGreat
/- The document's own reader: ranged, with the bounds of what it answers. -/
namespace Go.Proofs.YtajghalljkphiaaGreat
open Go.RowKit

def vB (most : Int) (x : Int) (v : Value) (_ : World) : Prop := v = .int .i64 x ∧ (0 ≤ most → 0 ≤ x ∧ x ≤ most)
set_option maxHeartbeats 2000000 in
set_option maxRecDepth 20000 in
theorem qup_bd {w : World} {rh : Nat} {s : ByteArray} {t : Stt} (most ab : Int) (hab : ab ≠ 0) (H : Qb w rh s t) (hs : s.size ≤ maxLen) : Calls Tryz.prog 18 #[.pointer (some ⟨rh, 0, none⟩), .int .i64 most, .int .i64 ab] w (QP (pUp most ab) (vB most) s rh w t) := by
  have hN := qnum_any H hs
  obtain ⟨a, c, q, h⟩ := H.box
  obtain ⟨-, z1, -, -, -, -⟩ := qcell h
  cases t with
  | error e =>
    obtain ⟨q2, c2⟩ := e
    have hc2 : (c2 == 0) = false := by rw [beq_eq_false_iff_ne]; exact H.1
    have hc3 : (c2 != 0) = true := by rw [bne_iff_ne]; exact H.1
    clear h H
    go_enter Tryz.func18, Tryz.ntmps18
    go_wp2_with (go_at_call 17; refine hN.mono ?_; rintro e w1 ⟨hb, x, v, rfl, rfl, hQ, -⟩; have HB : Hid (Bx rh w w1) := hb; have HQ : Hid (Qb w1 rh s (.error (q2, c2))) := hQ; obtain ⟨-, a1, h1⟩ := hQ; obtain ⟨-, -, y2, -, -, -⟩ := qcell h1; clear hN hb h1)
    go_ret
    exact ⟨HB.out, 0, _, rfl, ⟨rfl, fun h => ⟨Int.le_refl _, h⟩⟩, HQ.out, fun y hy => by cases hy⟩
  | ok a0 =>
    obtain ⟨h0, ha⟩ := H
    obtain ⟨-, zz, -, -, -, -⟩ := qcell h0
    obtain rfl : a = a0 := by rw [z1] at zz; injection zz with zz; injection zz with _ zz; omega
    clear h zz h0
    rcases hp : pNum s a with ⟨q2, c2⟩ | ⟨x, b⟩
    · have HE : Hid (pUp most ab s a = .error (q2, c2)) := by show _ = _; unfold pUp; rw [hp, bnd_err]
      unfold QP at hN
      rw [stp_err hp] at hN
      clear hp
      go_enter Tryz.func18, Tryz.ntmps18
      go_wp2_with (go_at_call 17; refine hN.mono ?_; rintro e w1 ⟨hb, x, v, rfl, rfl, hQ, -⟩; have HB : Hid (Bx rh w w1) := hb; have HQ : Hid (Qb w1 rh s (.error (q2, c2))) := hQ; obtain ⟨hc, a1, h1⟩ := hQ; have hc2 : (c2 == 0) = false := (by rw [beq_eq_false_iff_ne]; exact hc); have hc3 : (c2 != 0) = true := (by rw [bne_iff_ne]; exact hc); obtain ⟨-, -, y2, -, -, -⟩ := qcell h1; clear hN hb h1 hc)
      go_ret
      refine ⟨HB.out, 0, _, rfl, ⟨rfl, fun h => ⟨Int.le_refl _, h⟩⟩, ?_, ?_⟩
      · rw [stp_err HE.out]; exact HQ.out
      · rw [stp_err HE.out]; intro y hy; cases hy
    · unfold QP at hN
      rw [stp_ok hp] at hN
      by_cases h1 : x < 0
      · have HE : Hid (pUp most ab s a = .error (a, 1402)) := by show _ = _; unfold pUp; rw [hp, bnd_ok, if_pos h1]
        have d1 : decide (x < 0) = true := decide_eq_true h1
        clear hp h1
        go_enter Tryz.func18, Tryz.ntmps18
        go_wp2_with (first
          | (go_at_call 17; refine hN.mono ?_; rintro e w1 ⟨hb, x2, v, rfl, rfl, hQ, hx⟩; obtain rfl := hx x rfl; have HB : Hid (Bx rh w w1) := hb; obtain ⟨g1, -⟩ := hQ; have hF := fault_ok g1 1402 a; obtain ⟨-, -, y2, -, -, -⟩ := qcell g1; clear hN hb hx g1)
          | (go_at_call 20; refine hF.mono ?_; rintro e w2 ⟨rfl, hb2, hx2⟩; have HB2 : Hid (Bx rh w w2) := HB.out.trans hb2; have HX : Hid (w2.heap[rh]? = some (.cells #[.string s, .int .i64 b, .int .i64 1402, .int .i64 a] 46 (0, 0))) := hx2; obtain ⟨-, -, u2, -, -, -⟩ := qcell hx2; clear hF hb2 hx2))
        go_ret
        refine ⟨HB2.out, 0, _, rfl, ⟨rfl, fun h => ⟨Int.le_refl _, h⟩⟩, ?_, ?_⟩
        · rw [stp_err HE.out]; exact ⟨by decide, b, HX.out⟩
        · rw [stp_err HE.out]; intro y hy; cases hy
      · have d1 : decide (x < 0) = false := decide_eq_false h1
        by_cases h2 : most < x
        · have HE : Hid (pUp most ab s a = .error (a, ab)) := by show _ = _; unfold pUp; rw [hp, bnd_ok, if_neg h1, if_pos h2]
          have d2 : decide (most < x) = true := decide_eq_true h2
          have e1 : (ab == 0) = false := by rw [beq_eq_false_iff_ne]; exact hab
          have e2 : (ab != 0) = true := by rw [bne_iff_ne]; exact hab
          clear hp h1 h2
          go_enter Tryz.func18, Tryz.ntmps18
          go_wp2_with (first
            | (go_at_call 17; refine hN.mono ?_; rintro e w1 ⟨hb, x2, v, rfl, rfl, hQ, hx⟩; obtain rfl := hx x rfl; have HB : Hid (Bx rh w w1) := hb; obtain ⟨g1, -⟩ := hQ; have hF := fault_ok g1 ab a; obtain ⟨-, -, y2, -, -, -⟩ := qcell g1; clear hN hb hx g1)
            | (go_at_call 20; refine hF.mono ?_; rintro e w2 ⟨rfl, hb2, hx2⟩; have HB2 : Hid (Bx rh w w2) := HB.out.trans hb2; have HX : Hid (w2.heap[rh]? = some (.cells #[.string s, .int .i64 b, .int .i64 ab, .int .i64 a] 46 (0, 0))) := hx2; obtain ⟨-, -, u2, -, -, -⟩ := qcell hx2; clear hF hb2 hx2))
          go_ret
          refine ⟨HB2.out, 0, _, rfl, ⟨rfl, fun h => ⟨Int.le_refl _, h⟩⟩, ?_, ?_⟩
          · rw [stp_err HE.out]; exact ⟨hab, b, HX.out⟩
          · rw [stp_err HE.out]; intro y hy; cases hy
        · have HE : Hid (pUp most ab s a = .ok (x, b)) := by show _ = _; unfold pUp; rw [hp, bnd_ok, if_neg h1, if_neg h2]
          have d2 : decide (most < x) = false := decide_eq_false h2
          have HV : Hid (0 ≤ x ∧ x ≤ most) := ⟨by omega, by omega⟩
          clear hp h1 h2
          go_enter Tryz.func18, Tryz.ntmps18
          go_wp2_with (go_at_call 17; refine hN.mono ?_; rintro e w1 ⟨hb, x2, v, rfl, rfl, hQ, hx⟩; obtain rfl := hx x rfl; have HB : Hid (Bx rh w w1) := hb; have HQ : Hid (Qb w1 rh s (.ok b)) := hQ; obtain ⟨g1, -⟩ := hQ; obtain ⟨-, -, y2, -, -, -⟩ := qcell g1; clear hN hb hx g1)
          go_ret
          refine ⟨HB.out, x2, _, rfl, ⟨rfl, fun _ => HV.out⟩, ?_, ?_⟩
          · rw [stp_ok HE.out]; exact HQ.out
          · rw [stp_ok HE.out]; intro y hy; exact Option.some.inj hy
end Go.Proofs.YtajghalljkphiaaGreat
/- The document's own reader: name. -/
namespace Go.Proofs.YtajghalljkphiaaGreat
open Go.RowKit

theorem tC_codes (s : ByteArray) (a : Int) : tC s a 16 = 0 ∨ tC s a 16 = 200 ∨ tC s a 16 = 201 ∨ tC s a 16 = 202 := by
  rcases gC_codes s a with g | g | g
  · by_cases h1 : gN s a < 0 ∨ (16 : Int) < gN s a
    · exact .inr (.inr (.inr (t_long g h1).1))
    · by_cases h2 : (s.size : Int) - gT s a < gN s a
      · exact .inr (.inl (t_cut g h1 h2).1)
      · exact .inl (t_ok g h1 h2).1
  · have h : gC s a ≠ 0 := by rw [g]; decide
    exact .inr (.inl ((t_err h).1.trans g))
  · have h : gC s a ≠ 0 := by rw [g]; decide
    exact .inr (.inr (.inl ((t_err h).1.trans g)))
theorem tT_le {s : ByteArray} {a : Nat} (ha : a ≤ s.size) (h : tC s a 16 = 0) : (tT s a 16).toNat ≤ s.size := by
  have g0 : gC s a = 0 := by
    apply Classical.byContradiction; intro h'
    rw [(t_err (most := 16) h').1] at h; exact h' h
  have g1 : ¬ (gN s a < 0 ∨ (16 : Int) < gN s a) := by
    intro h'; rw [(t_long g0 h').1] at h; cases h
  have g2 : ¬ (s.size : Int) - gT s a < gN s a := by
    intro h'; rw [(t_cut g0 g1 h').1] at h; cases h
  obtain ⟨_, _, t3⟩ := t_ok g0 g1 g2
  rw [t3]; omega
set_option maxHeartbeats 1000000 in
set_option maxRecDepth 20000 in
theorem qname_dead {w : World} {rh : Nat} {s : ByteArray} {q : Nat} {c : Int} (H : Qb w rh s (.error (q, c))) : Calls Tryz.prog 40 #[.pointer (some ⟨rh, 0, none⟩)] w fun e w' => e = .returned (.string ⟨#[]⟩) ∧ w' = w := by
  obtain ⟨hc, a, h⟩ := H
  obtain ⟨c0, c1, c2, c3, fr, hl⟩ := qcell h
  have hc2 : (c != 0) = true := by simp [hc]
  clear h fr hc
  go_enter Tryz.func40, Tryz.ntmps40
  go_wp2
  go_ret
  exact ⟨rfl, rfl⟩
set_option maxHeartbeats 2000000 in
set_option maxRecDepth 20000 in
theorem qname_ok {w : World} {rh : Nat} {s : ByteArray} {a : Nat} (H : Qb w rh s (.ok a)) (hs : s.size ≤ maxLen) : Calls Tryz.prog 40 #[.pointer (some ⟨rh, 0, none⟩)] w (QP pName vT s rh w (.ok a)) := by
  obtain ⟨h, ha⟩ := H
  obtain ⟨c0, c1, c2, c3, fr, hl⟩ := qcell h
  have hT : ∀ u : World, Below w.heap.size w u → Calls Tryz.prog 65 #[.string s, .int .i64 a, .int .i64 16] u fun e w' => e = .returned (.tuple #[.string (tS s a 16), .int .i64 (tT s a 16), .int .i64 (tC s a 16)]) ∧ Below w.heap.size w w' := fun u hu => reftext_any s a 16 u hs hu
  have HU : Hid (∀ u, Below w.heap.size w u → u.heap[rh]? = some (.cells #[.string s, .int .i64 a, .int .i64 0, .int .i64 0] 46 (0, 0))) := fun u hu => (hu.block rh hl).trans h
  clear h fr
  rcases tC_codes s a with g | g | g | g
  · have e1 : (tC s a 16 == 200) = false := by rw [g]; rfl
    have e2 : (tC s a 16 == 201) = false := by rw [g]; rfl
    have e3 : (tC s a 16 != 0) = false := by rw [g]; rfl
    have HI : Hid (∀ u, Calls Tryz.prog 66 #[.string (tS s a 16)] u fun e w' => e = .returned (.bool (isNm (tS s a 16))) ∧ w' = u) := fun u => Name_any _ u
    by_cases h2 : isNm (tS s a 16) = true
    · have HP : Hid (pName s a = .ok (tS s a 16, (tT s a 16).toNat)) := pName_ok g h2
      have HTT : Hid (tT s a 16 = ((tT s a 16).toNat : Int)) := (tT_nat ha g).1
      have HL : Hid ((tT s a 16).toNat ≤ s.size) := tT_le ha g
      clear g
      go_enter Tryz.func40, Tryz.ntmps40
      go_wp2
      go_region_with (go_at_call 65; refine (hT _ (by first | exact (Below.refl _ _).drew.drew | exact (Below.refl _ _).drew)).mono ?_; rintro e w2 ⟨rfl, hb2⟩; obtain ⟨k0, k1, k2, k3, kf, kl⟩ := qcell (HU.out _ hb2); have kf1 := kf 1; have HB : Hid (Below w.heap.size w w2) := hb2; clear hb2 hT kf)
      all_goals
        go_wp2_with (go_at_call 66; refine (HI.out _).mono ?_; rintro e w3 ⟨rfl, hw3⟩; replace hw3 := hw3.symm; subst hw3)
        go_ret
        refine ⟨(Bx.of_below HB.out).set 1 _, _, _, rfl, rfl, ?_, ?_⟩
        · rw [stp_ok HP.out]
          refine ⟨?_, HL.out⟩
          rw [HTT.out]
          exact hset (HU.out _ HB.out) _
        · rw [stp_ok HP.out]; intro y hy; exact Option.some.inj hy
    · have h2' : isNm (tS s a 16) = false := by simpa using h2
      have HP : Hid (pName s a = .error (a, 1403)) := pName_bad g h2'
      clear g h2
      go_enter Tryz.func40, Tryz.ntmps40
      go_wp2
      go_region_with (go_at_call 65; refine (hT _ (by first | exact (Below.refl _ _).drew.drew | exact (Below.refl _ _).drew)).mono ?_; rintro e w2 ⟨rfl, hb2⟩; obtain ⟨k0, k1, k2, k3, kf, kl⟩ := qcell (HU.out _ hb2); have kf1 := kf 1; have HB : Hid (Below w.heap.size w w2) := hb2; clear hb2 hT kf)
      all_goals
        have hF := fault_ok (HU.out _ HB.out) 1403 a
        go_wp2_with (first
          | (go_at_call 66; refine (HI.out _).mono ?_; rintro e w3 ⟨rfl, hw3⟩; replace hw3 := hw3.symm; subst hw3)
          | (go_at_call 20; refine hF.mono ?_; rintro e w4 ⟨rfl, hb4, hx4⟩; have HX : Hid (w4.heap[rh]? = some (.cells #[.string s, .int .i64 a, .int .i64 1403, .int .i64 a] 46 (0, 0))) := hx4; have HB4 : Hid (Bx rh w w4) := (Bx.of_below HB.out).trans hb4; obtain ⟨-, -, u2, -, -, -⟩ := qcell hx4; clear hF hb4 hx4))
        go_ret
        refine ⟨HB4.out, _, _, rfl, rfl, ?_, ?_⟩
        · rw [stp_err HP.out]; exact ⟨by decide, a, HX.out⟩
        · rw [stp_err HP.out]; intro y hy; cases hy
  · have e1 : (tC s a 16 == 200) = true := by rw [g]; rfl
    have e2 : (tC s a 16 == 201) = false := by rw [g]; rfl
    have e3 : (tC s a 16 != 0) = true := by rw [g]; rfl
    have HI : Hid (∀ u, Calls Tryz.prog 66 #[.string (tS s a 16)] u fun e w' => e = .returned (.bool (isNm (tS s a 16))) ∧ w' = u) := fun u => Name_any _ u
    have HP : Hid (pName s a = .error (a, 1401)) := by show _ = _; rw [pName_no (by rw [g]; decide), g]; rfl
    clear g
    go_enter Tryz.func40, Tryz.ntmps40
    go_wp2
    go_region_with (go_at_call 65; refine (hT _ (by first | exact (Below.refl _ _).drew.drew | exact (Below.refl _ _).drew)).mono ?_; rintro e w2 ⟨rfl, hb2⟩; obtain ⟨k0, k1, k2, k3, kf, kl⟩ := qcell (HU.out _ hb2); have kf1 := kf 1; have HB : Hid (Below w.heap.size w w2) := hb2; clear hb2 hT kf)
    all_goals
      have hF := fault_ok (HU.out _ HB.out) 1401 a
      go_wp2_with (first
        | (go_at_call 66; refine (HI.out _).mono ?_; rintro e w3 ⟨rfl, hw3⟩; replace hw3 := hw3.symm; subst hw3)
        | (go_at_call 20; refine hF.mono ?_; rintro e w4 ⟨rfl, hb4, hx4⟩; have HX : Hid (w4.heap[rh]? = some (.cells #[.string s, .int .i64 a, .int .i64 1401, .int .i64 a] 46 (0, 0))) := hx4; have HB4 : Hid (Bx rh w w4) := (Bx.of_below HB.out).trans hb4; obtain ⟨-, -, u2, -, -, -⟩ := qcell hx4; clear hF hb4 hx4))
      go_ret
      refine ⟨HB4.out, _, _, rfl, rfl, ?_, ?_⟩
      · rw [stp_err HP.out]; exact ⟨by decide, a, HX.out⟩
      · rw [stp_err HP.out]; intro y hy; cases hy
  · have e1 : (tC s a 16 == 200) = false := by rw [g]; rfl
    have e2 : (tC s a 16 == 201) = true := by rw [g]; rfl
    have e3 : (tC s a 16 != 0) = true := by rw [g]; rfl
    have HI : Hid (∀ u, Calls Tryz.prog 66 #[.string (tS s a 16)] u fun e w' => e = .returned (.bool (isNm (tS s a 16))) ∧ w' = u) := fun u => Name_any _ u
    have HP : Hid (pName s a = .error (a, 1402)) := by show _ = _; rw [pName_no (by rw [g]; decide), g]; rfl
    clear g
    go_enter Tryz.func40, Tryz.ntmps40
    go_wp2
    go_region_with (go_at_call 65; refine (hT _ (by first | exact (Below.refl _ _).drew.drew | exact (Below.refl _ _).drew)).mono ?_; rintro e w2 ⟨rfl, hb2⟩; obtain ⟨k0, k1, k2, k3, kf, kl⟩ := qcell (HU.out _ hb2); have kf1 := kf 1; have HB : Hid (Below w.heap.size w w2) := hb2; clear hb2 hT kf)
    all_goals
      have hF := fault_ok (HU.out _ HB.out) 1402 a
      go_wp2_with (first
        | (go_at_call 66; refine (HI.out _).mono ?_; rintro e w3 ⟨rfl, hw3⟩; replace hw3 := hw3.symm; subst hw3)
        | (go_at_call 20; refine hF.mono ?_; rintro e w4 ⟨rfl, hb4, hx4⟩; have HX : Hid (w4.heap[rh]? = some (.cells #[.string s, .int .i64 a, .int .i64 1402, .int .i64 a] 46 (0, 0))) := hx4; have HB4 : Hid (Bx rh w w4) := (Bx.of_below HB.out).trans hb4; obtain ⟨-, -, u2, -, -, -⟩ := qcell hx4; clear hF hb4 hx4))
      go_ret
      refine ⟨HB4.out, _, _, rfl, rfl, ?_, ?_⟩
      · rw [stp_err HP.out]; exact ⟨by decide, a, HX.out⟩
      · rw [stp_err HP.out]; intro y hy; cases hy
  · have e1 : (tC s a 16 == 200) = false := by rw [g]; rfl
    have e2 : (tC s a 16 == 201) = false := by rw [g]; rfl
    have e3 : (tC s a 16 != 0) = true := by rw [g]; rfl
    have HI : Hid (∀ u, Calls Tryz.prog 66 #[.string (tS s a 16)] u fun e w' => e = .returned (.bool (isNm (tS s a 16))) ∧ w' = u) := fun u => Name_any _ u
    have HP : Hid (pName s a = .error (a, 1403)) := by show _ = _; rw [pName_no (by rw [g]; decide), g]; rfl
    clear g
    go_enter Tryz.func40, Tryz.ntmps40
    go_wp2
    go_region_with (go_at_call 65; refine (hT _ (by first | exact (Below.refl _ _).drew.drew | exact (Below.refl _ _).drew)).mono ?_; rintro e w2 ⟨rfl, hb2⟩; obtain ⟨k0, k1, k2, k3, kf, kl⟩ := qcell (HU.out _ hb2); have kf1 := kf 1; have HB : Hid (Below w.heap.size w w2) := hb2; clear hb2 hT kf)
    all_goals
      have hF := fault_ok (HU.out _ HB.out) 1403 a
      go_wp2_with (first
        | (go_at_call 66; refine (HI.out _).mono ?_; rintro e w3 ⟨rfl, hw3⟩; replace hw3 := hw3.symm; subst hw3)
        | (go_at_call 20; refine hF.mono ?_; rintro e w4 ⟨rfl, hb4, hx4⟩; have HX : Hid (w4.heap[rh]? = some (.cells #[.string s, .int .i64 a, .int .i64 1403, .int .i64 a] 46 (0, 0))) := hx4; have HB4 : Hid (Bx rh w w4) := (Bx.of_below HB.out).trans hb4; obtain ⟨-, -, u2, -, -, -⟩ := qcell hx4; clear hF hb4 hx4))
      go_ret
      refine ⟨HB4.out, _, _, rfl, rfl, ?_, ?_⟩
      · rw [stp_err HP.out]; exact ⟨by decide, a, HX.out⟩
      · rw [stp_err HP.out]; intro y hy; cases hy
theorem qname_any {w : World} {rh : Nat} {s : ByteArray} {t : Stt} (H : Qb w rh s t) (hs : s.size ≤ maxLen) : Calls Tryz.prog 40 #[.pointer (some ⟨rh, 0, none⟩)] w (QP pName vT s rh w t) := by
  cases t with
  | ok a => exact qname_ok H hs
  | error e =>
    obtain ⟨q, c⟩ := e
    refine (qname_dead H).mono ?_
    rintro e w' ⟨rfl, rfl⟩
    exact ⟨Bx.refl _ _, _, _, rfl, rfl, H, fun y hy => by cases hy⟩
end Go.Proofs.YtajghalljkphiaaGreat
