/- The document's own reader: its state (alive at a place, or the first fault), what a call leaves; fault, num, ranged. -/
import Derived.Test.YtdgndglinkcdbaaDoorMY8
import Derived.Test.YtdgndglinkcdbaaDoorMWRef
import Derived.Deep.DeepCutAuto
import Derived.Deep.LoopGhost
namespace Go.Proofs.YtdgndglinkcdbaaDoor
open Go.RowKit

/-- Alive at a place, or the first fault. -/
abbrev Stt := Except (Nat × Int) Nat
/-- What a reader makes of a state: the next one, and what was read if it was. -/
def stp {α : Type} (p : Prs α) (s : ByteArray) (t : Stt) : Stt × Option α := match t with
  | .error e => (.error e, none)
  | .ok a => match p s a with
    | .ok (x, b) => (.ok b, some x)
    | .error e => (.error e, none)
theorem stp_dead {α : Type} (p : Prs α) (s : ByteArray) (e : Nat × Int) : stp p s (.error e) = (.error e, none) := rfl
theorem stp_ok {α : Type} {p : Prs α} {s : ByteArray} {a : Nat} {x : α} {b : Nat} (h : p s a = .ok (x, b)) : stp p s (.ok a) = (.ok b, some x) := by simp only [stp, h]
theorem stp_err {α : Type} {p : Prs α} {s : ByteArray} {a : Nat} {e : Nat × Int} (h : p s a = .error e) : stp p s (.ok a) = (.error e, none) := by simp only [stp, h]
section
variable {w : World} {rh : Nat} {s : ByteArray} {a : Nat} {c q : Int}
end
theorem gC_codes (s : ByteArray) (a : Int) : gC s a = 0 ∨ gC s a = 200 ∨ gC s a = 201 := by
  unfold gC
  split
  · exact .inr (.inl rfl)
  · have key : ∀ (l : List UInt8) (i z : Nat), (rd l i z).2.2 = 0 ∨ (rd l i z).2.2 = 200 ∨ (rd l i z).2.2 = 201 := by
      intro l
      induction l with
      | nil => intro i z; exact .inr (.inl rfl)
      | cons c l ih =>
        intro i z
        rw [rd]
        split
        · exact .inr (.inr rfl)
        · split
          · exact .inl rfl
          · exact ih _ _
    exact key _ _ _
theorem ofW_200 : ofW 200 = 1401 := rfl
theorem ofW_201 : ofW 201 = 1402 := rfl
theorem ofW_202 : ofW 202 = 1403 := rfl

end Go.Proofs.YtdgndglinkcdbaaDoor
/- The document's own reader: ranged, Name, name. -/
namespace Go.Proofs.YtdgndglinkcdbaaDoor
open Go.RowKit

theorem L_not_D {c : UInt8} (h : isL c = true) : isD c = false := by
  unfold isL at h
  unfold isD
  simp at h ⊢
  omega
def okTo (s : ByteArray) (k : Nat) : Prop := ∀ j (h : j < s.size), j < k → (isL s[j] || (decide (0 < j) && isD s[j])) = true
theorem nm_yes {s : ByteArray} (h1 : 0 < s.size) (h2 : s.size ≤ 16) (h : okTo s s.size) : isNm s = true := by
  have h0 := h 0 h1 h1
  simp at h0
  rw [isNm_rest h1 h2 (L_not_D h0)]
  refine all_yes fun j hj hlt => ?_
  have := h j hj hlt
  cases hl : isL s[j]
  · rw [hl] at this; simp at this; rw [this.2]; rfl
  · rfl
theorem nm_no {s : ByteArray} {k : Nat} (h1 : 0 < s.size) (h2 : s.size ≤ 16) (hk : k < s.size) (hl : isL s[k] = false) (h : k = 0 ∨ isD s[k] = false) : isNm s = false := by
  by_cases h3 : isD s[0] = true
  · exact isNm_digit h1 h3
  · have h3' : isD s[0] = false := by simpa using h3
    rw [isNm_rest h1 h2 h3']
    refine all_no hk ?_
    rcases h with rfl | h
    · rw [hl, h3']; rfl
    · rw [hl, h]; rfl
set_option maxHeartbeats 4000000 in
set_option maxRecDepth 20000 in
theorem Name_any (s : ByteArray) (w : World) : Calls Tryd.prog 68 #[.string s] w fun e w' => e = .returned (.bool (isNm s)) ∧ w' = w := by
  by_cases h0 : s.size = 0
  · rw [isNm_empty h0]
    have := empty_of h0
    subst this
    go_enter Tryd.func68, Tryd.ntmps68
    go_wp2
    go_ret
    exact ⟨rfl, rfl⟩
  · have h1 : 0 < s.size := by omega
    have hne := ne_empty h1
    by_cases h2 : 16 < s.size
    · rw [isNm_long h2]
      have d : (16 : Int) < (s.size : Int) := by omega
      clear h0
      go_enter Tryd.func68, Tryd.ntmps68
      go_wp2
      go_ret
      exact ⟨rfl, rfl⟩
    · obtain ⟨B, hB⟩ : ∃ B, isNm s = B := ⟨_, rfl⟩
      rw [hB]
      have HB : Hid (isNm s = B) := hB
      have d : ¬ (16 : Int) < (s.size : Int) := by omega
      have H16 : Hid (s.size ≤ 16) := by show _ ≤ _; omega
      clear h0 h2 hB
      go_enter Tryd.func68, Tryd.ntmps68
      go_wp2
      go_loopg [3] (s.size + 1) (fun kx s3 wr => ∃ k : Nat, s3 = .int .i64 k ∧ k ≤ s.size ∧ s.size - k ≤ kx ∧ w = wr ∧ Hid (okTo s k))
      case atStart => exact ⟨0, rfl, by omega, by omega, rfl, fun j _ h => by omega⟩
      case round =>
        obtain ⟨k, rfl, hk, hkx, rfl, HK⟩ := hrel
        by_cases hlt : k < s.size
        · have hl2 : (k : Int) < (s.size : Int) := by omega
          obtain ⟨L, hL⟩ : ∃ L, isL s[k] = L := ⟨_, rfl⟩
          obtain ⟨c, hc⟩ : ∃ c, s[k] = c := ⟨_, rfl⟩
          have HN : Hid ((L || (decide (0 < k) && isD c)) = true → okTo s (k + 1)) := fun hh j hj hlt => by
            by_cases e : j = k
            · subst e; rw [hL, hc]; exact hh
            · exact HK.out j hj (by omega)
          have HX : Hid (L = false → (k = 0 ∨ isD c = false) → B = false) := fun hf hd => by
            rw [← HB.out]; exact nm_no h1 H16.out hlt (hL.trans hf) (by rw [hc]; exact hd)
          rw [hc] at hL
          have HL : Hid (isL c = L) := hL
          clear hL
          go_upto_region 7 with (fail)
          go_cut [5] from 13 to 39 (fun s5 wx => s5 = .bool L ∧ w = wx)
          case first =>
            have hcs : c.toNat = 95 ∨ (97 ≤ c.toNat ∧ c.toNat ≤ 122) ∨ 122 < c.toNat ∨ (65 ≤ c.toNat ∧ c.toNat ≤ 90) ∨ (90 < c.toNat ∧ c.toNat < 97 ∧ c.toNat ≠ 95) ∨ c.toNat < 65 := by omega
            rcases hcs with hq | hq | hq | hq | hq | hq
            · have HV : Hid (L = true) := by show _ = _; rw [← HL.out]; unfold isL; simp; omega
              have d4 : ((c.toNat : Int) == 95) = true := by simp; omega
              as_aux_lemma =>
                go_wp2_with (fail)
                go_meet
                exact ⟨by rw [HV.out], rfl⟩
            · have HV : Hid (L = true) := by show _ = _; rw [← HL.out]; unfold isL; simp; omega
              have d4 : ((c.toNat : Int) == 95) = false := by simp; omega
              have d0 : decide ((97 : Int) ≤ (c.toNat : Int)) = true := by simp; omega
              have d1 : decide ((c.toNat : Int) ≤ 122) = true := by simp; omega
              as_aux_lemma =>
                go_wp2_with (fail)
                go_meet
                exact ⟨by rw [HV.out], rfl⟩
            · have HV : Hid (L = false) := by show _ = _; rw [← HL.out]; unfold isL; simp; omega
              have d4 : ((c.toNat : Int) == 95) = false := by simp; omega
              have d0 : decide ((97 : Int) ≤ (c.toNat : Int)) = true := by simp; omega
              have d1 : decide ((c.toNat : Int) ≤ 122) = false := by simp; omega
              have d2 : decide ((65 : Int) ≤ (c.toNat : Int)) = true := by simp; omega
              have d3 : decide ((c.toNat : Int) ≤ 90) = false := by simp; omega
              as_aux_lemma =>
                go_wp2_with (fail)
                go_meet
                exact ⟨by rw [HV.out], rfl⟩
            · have HV : Hid (L = true) := by show _ = _; rw [← HL.out]; unfold isL; simp; omega
              have d4 : ((c.toNat : Int) == 95) = false := by simp; omega
              have d0 : decide ((97 : Int) ≤ (c.toNat : Int)) = false := by simp; omega
              have d2 : decide ((65 : Int) ≤ (c.toNat : Int)) = true := by simp; omega
              have d3 : decide ((c.toNat : Int) ≤ 90) = true := by simp; omega
              as_aux_lemma =>
                go_wp2_with (fail)
                go_meet
                exact ⟨by rw [HV.out], rfl⟩
            · have HV : Hid (L = false) := by show _ = _; rw [← HL.out]; unfold isL; simp; omega
              have d4 : ((c.toNat : Int) == 95) = false := by simp; omega
              have d0 : decide ((97 : Int) ≤ (c.toNat : Int)) = false := by simp; omega
              have d2 : decide ((65 : Int) ≤ (c.toNat : Int)) = true := by simp; omega
              have d3 : decide ((c.toNat : Int) ≤ 90) = false := by simp; omega
              as_aux_lemma =>
                go_wp2_with (fail)
                go_meet
                exact ⟨by rw [HV.out], rfl⟩
            · have HV : Hid (L = false) := by show _ = _; rw [← HL.out]; unfold isL; simp; omega
              have d4 : ((c.toNat : Int) == 95) = false := by simp; omega
              have d0 : decide ((97 : Int) ≤ (c.toNat : Int)) = false := by simp; omega
              have d2 : decide ((65 : Int) ≤ (c.toNat : Int)) = false := by simp; omega
              as_aux_lemma =>
                go_wp2_with (fail)
                go_meet
                exact ⟨by rw [HV.out], rfl⟩
          case rest =>
          obtain ⟨rfl, rfl⟩ := hcut
          cases L with
          | true =>
            have HN2 : Hid (okTo s (k + 1)) := HN.out rfl
            as_aux_lemma =>
              go_wp2
              go_roundg (s.size - (k + 1))
              case measure => omega
              case rel => exact ⟨k + 1, by go_num, by omega, by omega, rfl, HN2.out⟩
          | false =>
            by_cases hk0 : k = 0
            · have dk : ((k : Int) == 0) = true := by simp; omega
              have HV : Hid (B = false) := HX.out rfl (.inl hk0)
              as_aux_lemma =>
                clear hk0
                go_wp2
                go_ret
                exact ⟨by rw [HV.out]; rfl, rfl⟩
            · have dk : ((k : Int) == 0) = false := by rw [beq_eq_false_iff_ne]; omega
              by_cases q1 : c.toNat < 48
              · have d1 : decide ((c.toNat : Int) < 48) = true := by simp; omega
                have HV : Hid (B = false) := HX.out rfl (.inr (by unfold isD; simp; omega))
                as_aux_lemma =>
                  go_wp2
                  go_ret
                  exact ⟨by rw [HV.out]; rfl, rfl⟩
              · have d1 : decide ((c.toNat : Int) < 48) = false := by simp; omega
                by_cases q2 : 57 < c.toNat
                · have d2 : decide ((57 : Int) < (c.toNat : Int)) = true := by simp; omega
                  have HV : Hid (B = false) := HX.out rfl (.inr (by unfold isD; simp; omega))
                  as_aux_lemma =>
                    go_wp2
                    go_ret
                    exact ⟨by rw [HV.out]; rfl, rfl⟩
                · have d2 : decide ((57 : Int) < (c.toNat : Int)) = false := by simp; omega
                  have HN2 : Hid (okTo s (k + 1)) := HN.out (by rw [decide_eq_true (by omega : 0 < k)]; unfold isD; simp; omega)
                  as_aux_lemma =>
                    go_wp2
                    go_roundg (s.size - (k + 1))
                    case measure => omega
                    case rel => exact ⟨k + 1, by go_num, by omega, by omega, rfl, HN2.out⟩
        · have hn : k = s.size := by omega
          subst hn
          have hl : ¬ ((s.size : Nat) : Int) < ((s.size : Nat) : Int) := by omega
          have HV : Hid (B = true) := by show _ = _; rw [← HB.out]; exact nm_yes h1 H16.out HK.out
          go_wp2
          go_ret
          exact ⟨by rw [HV.out]; rfl, rfl⟩
end Go.Proofs.YtdgndglinkcdbaaDoor
/- The document's own reader: ranged, with the bounds of what it answers. -/
namespace Go.Proofs.YtdgndglinkcdbaaDoor
open Go.RowKit

def vB (most : Int) (x : Int) (v : Value) (_ : World) : Prop := v = .int .i64 x ∧ (0 ≤ most → 0 ≤ x ∧ x ≤ most)
end Go.Proofs.YtdgndglinkcdbaaDoor
/- The document's own reader: name. -/
namespace Go.Proofs.YtdgndglinkcdbaaDoor
open Go.RowKit

theorem tC_codes (s : ByteArray) (a : Int) : tC s a 16 = 0 ∨ tC s a 16 = 200 ∨ tC s a 16 = 201 ∨ tC s a 16 = 202 := by
  rcases gC_codes s a with g | g | g
  · by_cases h1 : gN s a < 0 ∨ (16 : Int) < gN s a
    · exact .inr (.inr (.inr (t_long g h1).1))
    · by_cases h2 : (s.size : Int) - gT s a < gN s a
      · exact .inr (.inl (t_cut g h1 h2).1)
      · exact .inl (t_ok g h1 h2).1
  · have h : gC s a ≠ 0 := by rw [g]; decide
    exact .inr (.inl ((t_err h).1.trans g))
  · have h : gC s a ≠ 0 := by rw [g]; decide
    exact .inr (.inr (.inl ((t_err h).1.trans g)))
theorem tT_le {s : ByteArray} {a : Nat} (ha : a ≤ s.size) (h : tC s a 16 = 0) : (tT s a 16).toNat ≤ s.size := by
  have g0 : gC s a = 0 := by
    apply Classical.byContradiction; intro h'
    rw [(t_err (most := 16) h').1] at h; exact h' h
  have g1 : ¬ (gN s a < 0 ∨ (16 : Int) < gN s a) := by
    intro h'; rw [(t_long g0 h').1] at h; cases h
  have g2 : ¬ (s.size : Int) - gT s a < gN s a := by
    intro h'; rw [(t_cut g0 g1 h').1] at h; cases h
  obtain ⟨_, _, t3⟩ := t_ok g0 g1 g2
  rw [t3]; omega
end Go.Proofs.YtdgndglinkcdbaaDoor
