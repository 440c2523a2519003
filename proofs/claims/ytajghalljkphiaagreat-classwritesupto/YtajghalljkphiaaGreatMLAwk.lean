/- awake: what every program answers that is one; back, refuses. -/
import Derived.Test.YtajghalljkphiaaGreatMLSamp
import Derived.Test.YtajghalljkphiaaGreatMLEnc4
import Derived.Test.YtajghalljkphiaaGreatMLTiny
import Derived.Laws.Strings
import Derived.Deep.RegionHeld3
import Derived.Deep.DeepCutAuto
namespace Go.Proofs.YtajghalljkphiaaGreat
open Go.RowKit

def tinyB : ByteArray := match encP tinyP with | .ok b => b | .error _ => ⟨#[]⟩
theorem tiny_ok : encP tinyP = .ok tinyB := by kernel_rfl
theorem tiny_len : tinyB.size = 30 := by kernel_rfl
theorem take4 {s : ByteArray} (h : s.data.toList.take 4 = mag) : ((s.extract 0 4).toList == [71, 78, 83, 83]) = true := by
  have e : (s.extract 0 4).toList = s.data.toList.take 4 := by
    rw [ByteArray.toList_eq]
    have := ext_from s 0 4
    rw [Nat.zero_add] at this
    rw [this]; rfl
  rw [e, h]; rfl
theorem app_data (s t : ByteArray) : (s ++ t).data.toList = s.data.toList ++ t.data.toList := by
  show (ByteArray.append s t).data.toList = _
  rw [ByteArray.append_eq, ByteArray.data_append]; simp
theorem app_size (s t : ByteArray) : (s ++ t).size = s.size + t.size := by
  have h := congrArg List.length (app_data s t)
  rw [List.length_append, Array.length_toList, Array.length_toList, Array.length_toList] at h
  exact h
theorem tiny_tail : decP (tinyB ++ ⟨#[120]⟩) = .error (30, 1405) := by
  have := back_tail tiny_ok (s := tinyB ++ ⟨#[120]⟩) (t := [120]) (by rw [app_data]) (by rw [app_size, tiny_len]; decide)
  rw [this, tiny_len]; rfl
theorem tiny_gns : decP ⟨#[71, 78, 83]⟩ = .error (0, 1400) := dec_magic (by decide) (by decide)
/-- The program that was read lies in its box, and what stood before stands. -/
structure Aw (w : World) (b : Nat) (S : Nat → Prop) (p : Pg) (cs : Array Value) (u : World) : Prop where
  bel : Below w.heap.size w u
  prg : Bp u b S p cs
theorem Aw.next {w u u' : World} {b : Nat} {S : Nat → Prop} {p : Pg} {cs : Array Value} (h : Aw w b S p cs u) (hb : Below u.heap.size u u') : Aw w b S p cs u' := ⟨h.bel.trans (hb.mono h.bel.size), h.prg.below hb⟩
theorem Bp.c0 {u : World} {b : Nat} {S : Nat → Prop} {p : Pg} {a c : Value} (h : Bp u b S p #[a, c]) : u.cell? ⟨b, 0, none⟩ = some a ∧ u.cell? ⟨b, 1, none⟩ = some c := by
  have := h.box
  constructor <;> simp [World.cell?, this]
theorem enc_at {p : Pg} {s : ByteArray} (h : encP p = .ok s) {S : Nat → Prop} {cs : List Value} (w : World) (hS : ∀ k, S k → k < w.heap.size) (hR : kPg.R w S p cs) : Calls Tryz.prog 12 #[.agg cs.toArray] w fun e w' => Below w.heap.size w w' ∧ e = .returned (.tuple #[.string s, .int .i64 0]) := by
  have := Encode_any w hS hR; unfold EnP at this; rw [h] at this; exact this
theorem enc_no {p : Pg} {c : Int} (h : encP p = .error c) {S : Nat → Prop} {cs : List Value} (w : World) (hS : ∀ k, S k → k < w.heap.size) (hR : kPg.R w S p cs) : Calls Tryz.prog 12 #[.agg cs.toArray] w fun e w' => Below w.heap.size w w' ∧ e = .returned (.tuple #[.string ⟨#[]⟩, .int .i64 c]) := by
  have := Encode_any w hS hR; unfold EnP at this; rw [h] at this; exact this
theorem dec_at {p : Pg} {s : ByteArray} (h : decP s = .ok p) (hs : s.size ≤ maxLen) (w : World) : Calls Tryz.prog 5 #[.string s] w fun e w' => ∃ ao cap S, e = .returned (.tuple #[.agg #[.int .i64 p.main, .slice ao p.cls.length cap], .int .i64 0, .int .i64 0]) ∧ Below w.heap.size w w' ∧ Bp (w'.alloc (.cells #[.int .i64 p.main, .slice ao p.cls.length cap] 24)) w'.heap.size S p #[.int .i64 p.main, .slice ao p.cls.length cap] ∧ (∀ k, S k → w.heap.size ≤ k) := by
  have := Decode_any s w hs; unfold DeP at this; rw [h] at this
  refine this.mono ?_
  rintro e w' ⟨hb, v, rfl, cs, hR, rfl⟩
  have hR2 := hR
  obtain ⟨v1, rfl, ao, cap, rfl, -⟩ := hR2
  exact ⟨ao, cap, _, rfl, hb, ⟨heap_alloc_new _ _, kPg.keep (fun k hk => Below.heap_alloc _ _ _ hk.2) (soft_Pg hR), fun k hk => by have := hk.2; simp; omega⟩, fun k hk => hk.1⟩
theorem dec_no {s : ByteArray} {q : Nat} {c : Int} (h : decP s = .error (q, c)) (hs : s.size ≤ maxLen) (w : World) : Calls Tryz.prog 5 #[.string s] w fun e w' => Below w.heap.size w w' ∧ e = .returned (.tuple #[.agg #[.int .i64 0, .slice none 0 0], .int .i64 q, .int .i64 c]) := by
  have := Decode_any s w hs; unfold DeP at this; rw [h] at this; exact this
theorem tiny_at (w : World) : Calls Tryz.prog 26 #[] w fun e w' => ∃ ao cap S, e = .returned (.agg #[.int .i64 11, .slice ao 1 cap]) ∧ Below w.heap.size w w' ∧ kPg.R w' S tinyP [.int .i64 11, .slice ao 1 cap] ∧ (∀ k, S k → w.heap.size ≤ k ∧ k < w'.heap.size) := by
  refine (Tiny_any w).mono ?_
  rintro e w' ⟨hb, v, rfl, cs, hR, rfl⟩
  have hR2 := hR
  obtain ⟨v1, rfl, ao, cap, rfl, -⟩ := hR2
  exact ⟨ao, cap, _, rfl, hb, hR, fun k hk => hk⟩

set_option maxHeartbeats 4000000 in
set_option maxRecDepth 20000 in
theorem awake14 (w : World) : Calls Tryz.prog 10 #[] w fun e w' => e = .returned (.bool true) ∧ Below w.heap.size w w' := by
  obtain ⟨s, hs⟩ : ∃ s, tinyB = s := ⟨_, rfl⟩
  have HT : Hid (decP (s ++ ⟨#[120]⟩) = .error (s.size, 1405)) := by show _ = _; rw [← hs, tiny_tail, tiny_len]
  have HE : Hid (encP tinyP = .ok s) := by show _ = _; rw [← hs]; exact tiny_ok
  have h30 : s.size = 30 := by rw [← hs]; exact tiny_len
  have h4 : 4 < s.size := by omega
  have h5 : s.size ≤ maxLen := by rw [h30]; decide
  have h6 : (s ++ ⟨#[120]⟩ : ByteArray).size ≤ maxLen := by rw [app_size, h30]; decide
  have hc := take4 (from4 (enc_ok HE.out).2.1).2.1
  have HS : Hid (s.size ≤ maxLen ∧ (s ++ ⟨#[120]⟩ : ByteArray).size ≤ maxLen) := ⟨h5, h6⟩
  have hT0 := tiny_at w
  have h7 : s.size ≤ 1000 := by omega
  have h4d : decide ((4 : Int) < (s.size : Int)) = true := by simp; omega
  have heq : ((s.size : Int) == (s.size : Int)) = true := by simp
  have h4i : (4 : Int) ≤ (s.size : Int) := by omega
  clear hs h30 h5 h6
  go_enter Tryz.func10, Tryz.ntmps10
  go_upto_region 5 with (first
    | (go_at_call 26; refine hT0.mono ?_; rintro e w1 ⟨ao1, cap1, S1, rfl, hb1, hR1, hS1⟩; clear hT0; have hE := enc_at HE.out w1 (fun k hk => (hS1 k hk).2) hR1; have H1 : Hid (Below w.heap.size w w1) := hb1; clear hb1 hR1 hS1)
    | (go_at_call 12; refine hE.mono ?_; rintro e w2 ⟨hb2, rfl⟩; clear hE; have H2 : Hid (Below w.heap.size w w2) := H1.out.trans (hb2.mono H1.out.size); have hD := dec_at (back_1 HE.out) HS.out.1 w2; clear hb2 H1)
    | (go_at_call 5; refine hD.mono ?_; rintro e w3 ⟨ao, cap, S, rfl, hb3, hP3, -⟩; clear hD; have H3 : Hid (Aw w w3.heap.size S tinyP #[.int .i64 tinyP.main, .slice ao tinyP.cls.length cap] (w3.alloc (.cells #[.int .i64 tinyP.main, .slice ao tinyP.cls.length cap] 24))) := ⟨(H2.out.trans (hb3.mono H2.out.size)).alloc (Nat.le_trans H2.out.size hb3.size) _, hP3⟩; have hD2 := dec_no HT.out HS.out.2 (w3.alloc (.cells #[.int .i64 tinyP.main, .slice ao tinyP.cls.length cap] 24)); clear hb3 hP3 H2)
    | (go_at_call 5; refine hD2.mono ?_; rintro e w4 ⟨hb4, rfl⟩; clear hD2; have H4 : Hid (Aw w w3.heap.size S tinyP #[.int .i64 tinyP.main, .slice ao tinyP.cls.length cap] (w4.alloc (.cells #[.int .i64 0, .slice none 0 0] 24))) := (H3.out.next hb4).next ((Below.refl _ _).alloc (Nat.le_refl _) _); have hD3 := dec_no tiny_gns (by decide) (w4.alloc (.cells #[.int .i64 0, .slice none 0 0] 24)); clear hb4 H3)
    | (go_at_call 5; refine hD3.mono ?_; rintro e w5 ⟨hb5, rfl⟩; clear hD3; have H5 : Hid (Aw w w3.heap.size S tinyP #[.int .i64 tinyP.main, .slice ao tinyP.cls.length cap] (w5.alloc (.cells #[.int .i64 0, .slice none 0 0] 24))) := (H4.out.next hb5).next ((Below.refl _ _).alloc (Nat.le_refl _) _); clear hb5 H4))
  generalize hU : w5.alloc (.cells #[.int .i64 0, .slice none 0 0] 24) = U at *
  clear hU
  generalize hb3 : w3.heap.size = b3 at *
  clear hb3
  obtain ⟨c0, c1⟩ := H5.out.prg.c0
  have HTn : Hid (∀ u, Below U.heap.size U u → Calls Tryz.prog 26 #[] u fun e u' => ∃ a2 c2, e = .returned (.agg #[.int .i64 11, .slice a2 1 c2]) ∧ (u'.cell? ⟨b3, 0, none⟩ = some (.int .i64 tinyP.main) ∧ u'.cell? ⟨b3, 1, none⟩ = some (.slice ao tinyP.cls.length cap)) ∧
      Hid (∀ u2, Below u'.heap.size u' u2 → Calls Tryz.prog 7 #[.agg #[.int .i64 tinyP.main, .slice ao tinyP.cls.length cap], .agg #[.int .i64 11, .slice a2 1 c2]] u2 fun e u3 => e = .returned (.bool true) ∧ (u3.cell? ⟨b3, 0, none⟩ = some (.int .i64 tinyP.main) ∧ u3.cell? ⟨b3, 1, none⟩ = some (.slice ao tinyP.cls.length cap)) ∧ Hid (Below w.heap.size w u3))) := fun u hu => by
    refine (tiny_at u).mono ?_
    rintro e u' ⟨a2, c2, S2, rfl, hb, hR, hS⟩
    have hA := (H5.out.next hu).next hb
    refine ⟨a2, c2, rfl, hA.prg.c0, fun u2 hu2 => ?_⟩
    have hA2 := hA.next hu2
    refine (SameProgram_eq (x := tinyP) hA2.prg.low (fun k hk => Nat.lt_of_lt_of_le (hS k hk).2 hu2.size) hA2.prg.dat (kPg.keep (fun k hk => hu2.block k (hS k hk).2) hR)).mono ?_
    rintro e u3 ⟨rfl, hb3⟩
    have hA3 := hA2.next hb3
    exact ⟨rfl, hA3.prg.c0, hA3.bel⟩
  clear H5
  go_region_held3 (fun w' => w'.cell? ⟨b3, 0, none⟩ = some (.int .i64 tinyP.main) ∧ w'.cell? ⟨b3, 1, none⟩ = some (.slice ao tinyP.cls.length cap)) (go_keep) ((first
    | (go_at_call 8; refine (num_any _ _).mono ?_; rintro e w9 ⟨rfl, hw9⟩; replace hw9 := hw9.symm; subst hw9)
    | (go_at_call 26; refine (HTn.out _ (by with_reducible first | exact (Below.refl _ _).drew.drew | exact (Below.refl _ _).drew)).mono ?_; rintro e w6 ⟨a2, c2, rfl, ⟨k1, k2⟩, HSm⟩; clear HTn)
    | (go_at_call 7; refine (HSm.out _ (by with_reducible first | exact (Below.refl _ _) | exact (Below.refl _ _).drew)).mono ?_; rintro e w7 ⟨rfl, ⟨k3, k4⟩, HFin⟩; clear HSm)))
  all_goals
    go_wp2
    go_ret
    exact ⟨rfl, HFin.out⟩

end Go.Proofs.YtajghalljkphiaaGreat
