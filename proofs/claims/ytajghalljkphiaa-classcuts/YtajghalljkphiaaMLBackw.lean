/- The walks of ClassBack, ClassCuts. -/
import Derived.Test.YtajghalljkphiaaMLAwk
import Derived.Laws.Bits64
namespace Go.Proofs.Ytajghalljkphiaa
open Go.RowKit

theorem enc_err {p : Pg} {c : Int} (h : encP p = .error c) : 1400 ≤ c := by
  unfold encP at h
  split at h
  · split at h
    · split at h
      · split at h
        · injection h with h; omega
        · cases h
      · injection h with h; omega
    · injection h with h; omega
  · injection h with h; omega
set_option maxHeartbeats 4000000 in
set_option maxRecDepth 20000 in
theorem back_yy {s : ByteArray} {p : Pg} {x : Pg} {b : ByteArray} {S : Nat → Prop} {cs : List Value} (w : World) (hs : s.size ≤ maxLen) (hS : ∀ k, S k → k < w.heap.size) (hR : kPg.R w S p cs) (hx : decP s = .ok x) (hp : encP p = .ok b) : Calls Try.prog 3 #[.string s, .agg cs.toArray] w fun e w' => e = .returned (.bool true) ∧ Below w.heap.size w w' := by
  have hR2 := hR
  obtain ⟨v1, rfl, ao, cap, rfl, -⟩ := hR2
  have H1 : Hid (Aw w w.heap.size S p #[.int .i64 p.main, .slice ao p.cls.length cap] (w.alloc (.cells #[.int .i64 p.main, .slice ao p.cls.length cap] 24))) := aw_start w hS hR
  have hA := awake14 (w.alloc (.cells #[.int .i64 p.main, .slice ao p.cls.length cap] 24))
  have HD : Hid (∀ u, Calls Try.prog 8 #[.string s] u fun e w' => ∃ ao cap S, e = .returned (.tuple #[.agg #[.int .i64 x.main, .slice ao x.cls.length cap], .int .i64 0, .int .i64 0]) ∧ Below u.heap.size u w' ∧ Bp (w'.alloc (.cells #[.int .i64 x.main, .slice ao x.cls.length cap] 24)) w'.heap.size S x #[.int .i64 x.main, .slice ao x.cls.length cap] ∧ (∀ k, S k → u.heap.size ≤ k)) := fun u => dec_at hx hs u
  have HEx : Hid (encP x = .ok s) := back_2 hx
  have HEp : Hid (encP p = .ok b) := hp
  have HDy : Hid (decP b = .ok p ∧ b.size ≤ maxLen) := ⟨back_1 hp, by have := (enc_ok hp).2.2; unfold maxLen; omega⟩
  clear hx hp hS hR hs
  go_enter Try.func3, Try.ntmps3
  go_wp2_with (first
    | (go_at_call 7; refine hA.mono ?_; rintro e wa ⟨rfl, hba⟩; clear hA; have H2 : Hid (Aw w w.heap.size S p #[.int .i64 p.main, .slice ao p.cls.length cap] wa) := H1.out.next hba; have hD := HD.out wa; clear hba H1)
    | (go_at_call 8; refine hD.mono ?_; rintro e wd ⟨aod, capd, Sd, rfl, hbd, hPd, -⟩; clear hD HD; have H3 : Hid (Aw w w.heap.size S p #[.int .i64 p.main, .slice ao p.cls.length cap] (wd.alloc (.cells #[.int .i64 x.main, .slice aod x.cls.length capd] 24))) := (H2.out.next hbd).next ((Below.refl _ _).alloc (Nat.le_refl _) _); have HX : Hid (Bp (wd.alloc (.cells #[.int .i64 x.main, .slice aod x.cls.length capd] 24)) wd.heap.size Sd x #[.int .i64 x.main, .slice aod x.cls.length capd]) := hPd; have hEx := enc_at HEx.out _ HX.out.low HX.out.dat; clear hbd hPd H2)
    | (go_at_call 10; refine hEx.mono ?_; rintro e we ⟨hbe, rfl⟩; clear hEx; have H4 : Hid (Aw w w.heap.size S p #[.int .i64 p.main, .slice ao p.cls.length cap] we) := H3.out.next hbe; have hEp := enc_at HEp.out _ H4.out.prg.low H4.out.prg.dat; clear hbe H3 HX)
    | (refine wpList_load_row rfl 24 _ rfl wd.heap.size rfl 24 _ (0, 0) _ HX.out.box Try.underlying24 rfl infoRPg ?_)
    | (refine wpList_load_row rfl 24 _ rfl w.heap.size rfl 24 _ (0, 0) _ H4.out.prg.box Try.underlying24 rfl infoRPg ?_)
    | (go_at_call 10; refine hEp.mono ?_; rintro e wf ⟨hbf, rfl⟩; clear hEp; have H5 : Hid (Aw w w.heap.size S p #[.int .i64 p.main, .slice ao p.cls.length cap] wf) := H4.out.next hbf; have hDy := dec_at HDy.out.1 HDy.out.2 wf; clear hbf H4)
    | (go_at_call 8; refine hDy.mono ?_; rintro e wy ⟨aoy, capy, Sy, rfl, hby, hPy, -⟩; clear hDy; have H6 : Hid (Aw w w.heap.size S p #[.int .i64 p.main, .slice ao p.cls.length cap] (wy.alloc (.cells #[.int .i64 p.main, .slice aoy p.cls.length capy] 24))) := (H5.out.next hby).next ((Below.refl _ _).alloc (Nat.le_refl _) _); have HY : Hid (Bp (wy.alloc (.cells #[.int .i64 p.main, .slice aoy p.cls.length capy] 24)) wy.heap.size Sy p #[.int .i64 p.main, .slice aoy p.cls.length capy]) := hPy; have hSm := SameProgram_eq (x := p) HY.out.low H6.out.prg.low HY.out.dat H6.out.prg.dat; obtain ⟨c0, c1⟩ := H6.out.prg.c0; obtain ⟨d0, d1⟩ := HY.out.c0; clear hby hPy H5)
    | (go_at_call 11; refine hSm.mono ?_; rintro e wz ⟨rfl, hbz⟩; have HF : Hid (Below w.heap.size w wz) := (H6.out.next hbz).bel; clear hSm hbz)
    | (go_at_call 9; refine (num_any _ _).mono ?_; rintro e w9 ⟨rfl, hw9⟩; replace hw9 := hw9.symm; subst hw9))
  go_ret
  exact ⟨rfl, HF.out⟩
set_option maxHeartbeats 4000000 in
set_option maxRecDepth 20000 in
theorem back_yn {s : ByteArray} {p : Pg} {x : Pg} {d : Int} {S : Nat → Prop} {cs : List Value} (w : World) (hs : s.size ≤ maxLen) (hS : ∀ k, S k → k < w.heap.size) (hR : kPg.R w S p cs) (hx : decP s = .ok x) (hp : encP p = .error d) : Calls Try.prog 3 #[.string s, .agg cs.toArray] w fun e w' => e = .returned (.bool true) ∧ Below w.heap.size w w' := by
  have hR2 := hR
  obtain ⟨v1, rfl, ao, cap, rfl, -⟩ := hR2
  have H1 : Hid (Aw w w.heap.size S p #[.int .i64 p.main, .slice ao p.cls.length cap] (w.alloc (.cells #[.int .i64 p.main, .slice ao p.cls.length cap] 24))) := aw_start w hS hR
  have hA := awake14 (w.alloc (.cells #[.int .i64 p.main, .slice ao p.cls.length cap] 24))
  have HD : Hid (∀ u, Calls Try.prog 8 #[.string s] u fun e w' => ∃ ao cap S, e = .returned (.tuple #[.agg #[.int .i64 x.main, .slice ao x.cls.length cap], .int .i64 0, .int .i64 0]) ∧ Below u.heap.size u w' ∧ Bp (w'.alloc (.cells #[.int .i64 x.main, .slice ao x.cls.length cap] 24)) w'.heap.size S x #[.int .i64 x.main, .slice ao x.cls.length cap] ∧ (∀ k, S k → u.heap.size ≤ k)) := fun u => dec_at hx hs u
  have HEx : Hid (encP x = .ok s) := back_2 hx
  have HEp : Hid (encP p = .error d) := hp
  have hd0 : (d != 0) = true := by have := enc_err hp; rw [bne_iff_ne]; omega
  clear hx hp hS hR hs
  go_enter Try.func3, Try.ntmps3
  go_wp2_with (first
    | (go_at_call 7; refine hA.mono ?_; rintro e wa ⟨rfl, hba⟩; clear hA; have H2 : Hid (Aw w w.heap.size S p #[.int .i64 p.main, .slice ao p.cls.length cap] wa) := H1.out.next hba; have hD := HD.out wa; clear hba H1)
    | (go_at_call 8; refine hD.mono ?_; rintro e wd ⟨aod, capd, Sd, rfl, hbd, hPd, -⟩; clear hD HD; have H3 : Hid (Aw w w.heap.size S p #[.int .i64 p.main, .slice ao p.cls.length cap] (wd.alloc (.cells #[.int .i64 x.main, .slice aod x.cls.length capd] 24))) := (H2.out.next hbd).next ((Below.refl _ _).alloc (Nat.le_refl _) _); have HX : Hid (Bp (wd.alloc (.cells #[.int .i64 x.main, .slice aod x.cls.length capd] 24)) wd.heap.size Sd x #[.int .i64 x.main, .slice aod x.cls.length capd]) := hPd; have hEx := enc_at HEx.out _ HX.out.low HX.out.dat; clear hbd hPd H2)
    | (go_at_call 10; refine hEx.mono ?_; rintro e we ⟨hbe, rfl⟩; clear hEx; have H4 : Hid (Aw w w.heap.size S p #[.int .i64 p.main, .slice ao p.cls.length cap] we) := H3.out.next hbe; have hEp := enc_no HEp.out _ H4.out.prg.low H4.out.prg.dat; clear hbe H3 HX)
    | (refine wpList_load_row rfl 24 _ rfl wd.heap.size rfl 24 _ (0, 0) _ HX.out.box Try.underlying24 rfl infoRPg ?_)
    | (refine wpList_load_row rfl 24 _ rfl w.heap.size rfl 24 _ (0, 0) _ H4.out.prg.box Try.underlying24 rfl infoRPg ?_)
    | (go_at_call 10; refine hEp.mono ?_; rintro e wf ⟨hbf, rfl⟩; clear hEp; have HF : Hid (Below w.heap.size w wf) := (H4.out.next hbf).bel; clear hbf H4)
    | (go_at_call 9; refine (num_any _ _).mono ?_; rintro e w9 ⟨rfl, hw9⟩; replace hw9 := hw9.symm; subst hw9))
  go_ret
  exact ⟨rfl, HF.out⟩
set_option maxHeartbeats 4000000 in
set_option maxRecDepth 20000 in
theorem back_ny {s : ByteArray} {p : Pg} {q : Nat} {c : Int} {b : ByteArray} {S : Nat → Prop} {cs : List Value} (w : World) (hs : s.size ≤ maxLen) (hS : ∀ k, S k → k < w.heap.size) (hR : kPg.R w S p cs) (hx : decP s = .error (q, c)) (hp : encP p = .ok b) : Calls Try.prog 3 #[.string s, .agg cs.toArray] w fun e w' => e = .returned (.bool true) ∧ Below w.heap.size w w' := by
  have hR2 := hR
  obtain ⟨v1, rfl, ao, cap, rfl, -⟩ := hR2
  have H1 : Hid (Aw w w.heap.size S p #[.int .i64 p.main, .slice ao p.cls.length cap] (w.alloc (.cells #[.int .i64 p.main, .slice ao p.cls.length cap] 24))) := aw_start w hS hR
  have hA := awake14 (w.alloc (.cells #[.int .i64 p.main, .slice ao p.cls.length cap] 24))
  have HD : Hid (∀ u, Calls Try.prog 8 #[.string s] u fun e w' => Below u.heap.size u w' ∧ e = .returned (.tuple #[.agg #[.int .i64 0, .slice none 0 0], .int .i64 q, .int .i64 c])) := fun u => dec_no hx hs u
  have hq := (dec_err hx).1
  have hc := (dec_err hx).2
  have hc0 : (c == 0) = false := by rw [beq_eq_false_iff_ne]; omega
  have hq1 : decide ((q : Int) < 0) = false := by simp
  have hq2 : ¬ (s.size : Int) < (q : Int) := by omega
  have HEp : Hid (encP p = .ok b) := hp
  have HDy : Hid (decP b = .ok p ∧ b.size ≤ maxLen) := ⟨back_1 hp, by have := (enc_ok hp).2.2; unfold maxLen; omega⟩
  clear hx hp hS hR hs hq hc
  go_enter Try.func3, Try.ntmps3
  go_wp2_with (first
    | (go_at_call 7; refine hA.mono ?_; rintro e wa ⟨rfl, hba⟩; clear hA; have H2 : Hid (Aw w w.heap.size S p #[.int .i64 p.main, .slice ao p.cls.length cap] wa) := H1.out.next hba; have hD := HD.out wa; clear hba H1)
    | (go_at_call 8; refine hD.mono ?_; rintro e wd ⟨hbd, rfl⟩; clear hD HD; have H4 : Hid (Aw w w.heap.size S p #[.int .i64 p.main, .slice ao p.cls.length cap] (wd.alloc (.cells #[.int .i64 0, .slice none 0 0] 24))) := (H2.out.next hbd).next ((Below.refl _ _).alloc (Nat.le_refl _) _); have hEp := enc_at HEp.out _ H4.out.prg.low H4.out.prg.dat; clear hbd H2)
    | (refine wpList_load_row rfl 24 _ rfl w.heap.size rfl 24 _ (0, 0) _ H4.out.prg.box Try.underlying24 rfl infoRPg ?_)
    | (go_at_call 10; refine hEp.mono ?_; rintro e wf ⟨hbf, rfl⟩; clear hEp; have H5 : Hid (Aw w w.heap.size S p #[.int .i64 p.main, .slice ao p.cls.length cap] wf) := H4.out.next hbf; have hDy := dec_at HDy.out.1 HDy.out.2 wf; clear hbf H4)
    | (go_at_call 8; refine hDy.mono ?_; rintro e wy ⟨aoy, capy, Sy, rfl, hby, hPy, -⟩; clear hDy; have H6 : Hid (Aw w w.heap.size S p #[.int .i64 p.main, .slice ao p.cls.length cap] (wy.alloc (.cells #[.int .i64 p.main, .slice aoy p.cls.length capy] 24))) := (H5.out.next hby).next ((Below.refl _ _).alloc (Nat.le_refl _) _); have HY : Hid (Bp (wy.alloc (.cells #[.int .i64 p.main, .slice aoy p.cls.length capy] 24)) wy.heap.size Sy p #[.int .i64 p.main, .slice aoy p.cls.length capy]) := hPy; have hSm := SameProgram_eq (x := p) HY.out.low H6.out.prg.low HY.out.dat H6.out.prg.dat; obtain ⟨c0, c1⟩ := H6.out.prg.c0; obtain ⟨d0, d1⟩ := HY.out.c0; clear hby hPy H5)
    | (go_at_call 11; refine hSm.mono ?_; rintro e wz ⟨rfl, hbz⟩; have HF : Hid (Below w.heap.size w wz) := (H6.out.next hbz).bel; clear hSm hbz)
    | (go_at_call 9; refine (num_any _ _).mono ?_; rintro e w9 ⟨rfl, hw9⟩; replace hw9 := hw9.symm; subst hw9))
  go_ret
  exact ⟨rfl, HF.out⟩
set_option maxHeartbeats 4000000 in
set_option maxRecDepth 20000 in
theorem back_nn {s : ByteArray} {p : Pg} {q : Nat} {c : Int} {d : Int} {S : Nat → Prop} {cs : List Value} (w : World) (hs : s.size ≤ maxLen) (hS : ∀ k, S k → k < w.heap.size) (hR : kPg.R w S p cs) (hx : decP s = .error (q, c)) (hp : encP p = .error d) : Calls Try.prog 3 #[.string s, .agg cs.toArray] w fun e w' => e = .returned (.bool true) ∧ Below w.heap.size w w' := by
  have hR2 := hR
  obtain ⟨v1, rfl, ao, cap, rfl, -⟩ := hR2
  have H1 : Hid (Aw w w.heap.size S p #[.int .i64 p.main, .slice ao p.cls.length cap] (w.alloc (.cells #[.int .i64 p.main, .slice ao p.cls.length cap] 24))) := aw_start w hS hR
  have hA := awake14 (w.alloc (.cells #[.int .i64 p.main, .slice ao p.cls.length cap] 24))
  have HD : Hid (∀ u, Calls Try.prog 8 #[.string s] u fun e w' => Below u.heap.size u w' ∧ e = .returned (.tuple #[.agg #[.int .i64 0, .slice none 0 0], .int .i64 q, .int .i64 c])) := fun u => dec_no hx hs u
  have hq := (dec_err hx).1
  have hc := (dec_err hx).2
  have hc0 : (c == 0) = false := by rw [beq_eq_false_iff_ne]; omega
  have hq1 : decide ((q : Int) < 0) = false := by simp
  have hq2 : ¬ (s.size : Int) < (q : Int) := by omega
  have HEp : Hid (encP p = .error d) := hp
  have hd0 : (d != 0) = true := by have := enc_err hp; rw [bne_iff_ne]; omega
  clear hx hp hS hR hs hq hc
  go_enter Try.func3, Try.ntmps3
  go_wp2_with (first
    | (go_at_call 7; refine hA.mono ?_; rintro e wa ⟨rfl, hba⟩; clear hA; have H2 : Hid (Aw w w.heap.size S p #[.int .i64 p.main, .slice ao p.cls.length cap] wa) := H1.out.next hba; have hD := HD.out wa; clear hba H1)
    | (go_at_call 8; refine hD.mono ?_; rintro e wd ⟨hbd, rfl⟩; clear hD HD; have H4 : Hid (Aw w w.heap.size S p #[.int .i64 p.main, .slice ao p.cls.length cap] (wd.alloc (.cells #[.int .i64 0, .slice none 0 0] 24))) := (H2.out.next hbd).next ((Below.refl _ _).alloc (Nat.le_refl _) _); have hEp := enc_no HEp.out _ H4.out.prg.low H4.out.prg.dat; clear hbd H2)
    | (refine wpList_load_row rfl 24 _ rfl w.heap.size rfl 24 _ (0, 0) _ H4.out.prg.box Try.underlying24 rfl infoRPg ?_)
    | (go_at_call 10; refine hEp.mono ?_; rintro e wf ⟨hbf, rfl⟩; clear hEp; have HF : Hid (Below w.heap.size w wf) := (H4.out.next hbf).bel; clear hbf H4)
    | (go_at_call 9; refine (num_any _ _).mono ?_; rintro e w9 ⟨rfl, hw9⟩; replace hw9 := hw9.symm; subst hw9))
  go_ret
  exact ⟨rfl, HF.out⟩
theorem back_walk {s : ByteArray} {p : Pg} {S : Nat → Prop} {cs : List Value} (w : World) (hs : s.size ≤ maxLen) (hS : ∀ k, S k → k < w.heap.size) (hR : kPg.R w S p cs) : Calls Try.prog 3 #[.string s, .agg cs.toArray] w fun e w' => e = .returned (.bool true) ∧ Below w.heap.size w w' := by
  rcases hd : decP s with ⟨q, c⟩ | x <;> rcases he : encP p with d | b
  · exact back_nn w hs hS hR hd he
  · exact back_ny w hs hS hR hd he
  · exact back_yn w hs hS hR hd he
  · exact back_yy w hs hS hR hd he
set_option maxHeartbeats 4000000 in
set_option maxRecDepth 20000 in
theorem cuts_no {p : Pg} {d cut : Int} {S : Nat → Prop} {cs : List Value} (w : World) (hS : ∀ k, S k → k < w.heap.size) (hR : kPg.R w S p cs) (hp : encP p = .error d) : Calls Try.prog 4 #[.agg cs.toArray, .int .i64 cut] w fun e w' => e = .returned (.bool true) ∧ Below w.heap.size w w' := by
  have hR2 := hR
  obtain ⟨v1, rfl, ao, cap, rfl, -⟩ := hR2
  have H1 : Hid (Aw w w.heap.size S p #[.int .i64 p.main, .slice ao p.cls.length cap] (w.alloc (.cells #[.int .i64 p.main, .slice ao p.cls.length cap] 24))) := aw_start w hS hR
  have hA := awake14 (w.alloc (.cells #[.int .i64 p.main, .slice ao p.cls.length cap] 24))
  have HEp : Hid (encP p = .error d) := hp
  have hd0 : (d != 0) = true := by have := enc_err hp; rw [bne_iff_ne]; omega
  clear hp hS hR
  go_enter Try.func4, Try.ntmps4
  go_wp2_with (first
    | (go_at_call 7; refine hA.mono ?_; rintro e wa ⟨rfl, hba⟩; clear hA; have H2 : Hid (Aw w w.heap.size S p #[.int .i64 p.main, .slice ao p.cls.length cap] wa) := H1.out.next hba; have hEp := enc_no HEp.out _ H2.out.prg.low H2.out.prg.dat; clear hba H1)
    | (go_at_call 10; refine hEp.mono ?_; rintro e wf ⟨hbf, rfl⟩; clear hEp; have HF : Hid (Below w.heap.size w wf) := (H2.out.next hbf).bel; clear hbf H2)
    | (refine wpList_load_row rfl 24 _ rfl w.heap.size rfl 24 _ (0, 0) _ H2.out.prg.box Try.underlying24 rfl infoRPg ?_)
    | (go_at_call 9; refine (num_any _ _).mono ?_; rintro e w9 ⟨rfl, hw9⟩; replace hw9 := hw9.symm; subst hw9))
  go_ret
  exact ⟨rfl, HF.out⟩
set_option maxHeartbeats 4000000 in
set_option maxRecDepth 20000 in
theorem cuts_short {p : Pg} {b : ByteArray} {cut : Int} {k : Nat} {S : Nat → Prop} {cs : List Value} (w : World) (hS : ∀ k, S k → k < w.heap.size) (hR : kPg.R w S p cs) (hp : encP p = .ok b) (hk : wrap64 ((IntKind.u64.wrap cut).tmod (b.size : Int)) = (k : Int)) (hkb : k < b.size) (hk4 : k < 4) (hd : decP (b.extract 0 k) = .error (0, 1400)) : Calls Try.prog 4 #[.agg cs.toArray, .int .i64 cut] w fun e w' => e = .returned (.bool true) ∧ Below w.heap.size w w' := by
  have hR2 := hR
  obtain ⟨v1, rfl, ao, cap, rfl, -⟩ := hR2
  have H1 : Hid (Aw w w.heap.size S p #[.int .i64 p.main, .slice ao p.cls.length cap] (w.alloc (.cells #[.int .i64 p.main, .slice ao p.cls.length cap] 24))) := aw_start w hS hR
  have hA := awake14 (w.alloc (.cells #[.int .i64 p.main, .slice ao p.cls.length cap] 24))
  have HEp : Hid (encP p = .ok b) := hp
  have hbs := (enc_ok hp).2.2
  have HDy : Hid (decP (b.extract 0 k) = .error (0, 1400) ∧ (b.extract 0 k).size ≤ maxLen) := ⟨hd, by have h2 : b.size ≤ maxLen := (by unfold maxLen; omega); rw [ByteArray.size_extract]; omega⟩
  have hz : (b.size : Int) ≠ 0 := by omega
  have hz2 : ((b.size : Int) == 0) = false := by rw [beq_eq_false_iff_ne]; omega
  have hw : IntKind.u64.wrap (b.size : Int) = (b.size : Int) := by
    rw [IntKind.wrap_u64]; omega
  clear hp hS hR hd
  go_enter Try.func4, Try.ntmps4
  go_wp2_with (first
    | (go_at_call 7; refine hA.mono ?_; rintro e wa ⟨rfl, hba⟩; clear hA; have H2 : Hid (Aw w w.heap.size S p #[.int .i64 p.main, .slice ao p.cls.length cap] wa) := H1.out.next hba; have hEp := enc_at HEp.out _ H2.out.prg.low H2.out.prg.dat; clear hba H1)
    | (go_at_call 10; refine hEp.mono ?_; rintro e wf ⟨hbf, rfl⟩; clear hEp; have H3 : Hid (Aw w w.heap.size S p #[.int .i64 p.main, .slice ao p.cls.length cap] wf) := H2.out.next hbf; have hDy := dec_no HDy.out.1 HDy.out.2 wf; clear hbf H2)
    | (refine wpList_load_row rfl 24 _ rfl w.heap.size rfl 24 _ (0, 0) _ H2.out.prg.box Try.underlying24 rfl infoRPg ?_)
    | (go_at_call 8; refine hDy.mono ?_; rintro e wd ⟨hbd, rfl⟩; clear hDy; have HF : Hid (Below w.heap.size w (wd.alloc (.cells #[.int .i64 0, .slice none 0 0] 24))) := ((H3.out.next hbd).next ((Below.refl _ _).alloc (Nat.le_refl _) _)).bel; clear hbd H3)
    | (go_at_call 9; refine (num_any _ _).mono ?_; rintro e w9 ⟨rfl, hw9⟩; replace hw9 := hw9.symm; subst hw9))
  go_ret
  exact ⟨rfl, HF.out⟩
set_option maxHeartbeats 4000000 in
set_option maxRecDepth 20000 in
theorem cuts_long {p : Pg} {b : ByteArray} {cut : Int} {k q : Nat} {S : Nat → Prop} {cs : List Value} (w : World) (hS : ∀ k, S k → k < w.heap.size) (hR : kPg.R w S p cs) (hp : encP p = .ok b) (hk : wrap64 ((IntKind.u64.wrap cut).tmod (b.size : Int)) = (k : Int)) (hkb : k < b.size) (hk4 : 4 ≤ k) (hd : decP (b.extract 0 k) = .error (q, 1401)) (hq : q ≤ k) : Calls Try.prog 4 #[.agg cs.toArray, .int .i64 cut] w fun e w' => e = .returned (.bool true) ∧ Below w.heap.size w w' := by
  have hR2 := hR
  obtain ⟨v1, rfl, ao, cap, rfl, -⟩ := hR2
  have H1 : Hid (Aw w w.heap.size S p #[.int .i64 p.main, .slice ao p.cls.length cap] (w.alloc (.cells #[.int .i64 p.main, .slice ao p.cls.length cap] 24))) := aw_start w hS hR
  have hA := awake14 (w.alloc (.cells #[.int .i64 p.main, .slice ao p.cls.length cap] 24))
  have HEp : Hid (encP p = .ok b) := hp
  have hbs := (enc_ok hp).2.2
  have HDy : Hid (decP (b.extract 0 k) = .error (q, 1401) ∧ (b.extract 0 k).size ≤ maxLen) := ⟨hd, by have h2 : b.size ≤ maxLen := (by unfold maxLen; omega); rw [ByteArray.size_extract]; omega⟩
  have hz : (b.size : Int) ≠ 0 := by omega
  have hz2 : ((b.size : Int) == 0) = false := by rw [beq_eq_false_iff_ne]; omega
  have hw : IntKind.u64.wrap (b.size : Int) = (b.size : Int) := by
    rw [IntKind.wrap_u64]; omega
  clear hp hS hR hd
  go_enter Try.func4, Try.ntmps4
  go_wp2_with (first
    | (go_at_call 7; refine hA.mono ?_; rintro e wa ⟨rfl, hba⟩; clear hA; have H2 : Hid (Aw w w.heap.size S p #[.int .i64 p.main, .slice ao p.cls.length cap] wa) := H1.out.next hba; have hEp := enc_at HEp.out _ H2.out.prg.low H2.out.prg.dat; clear hba H1)
    | (go_at_call 10; refine hEp.mono ?_; rintro e wf ⟨hbf, rfl⟩; clear hEp; have H3 : Hid (Aw w w.heap.size S p #[.int .i64 p.main, .slice ao p.cls.length cap] wf) := H2.out.next hbf; have hDy := dec_no HDy.out.1 HDy.out.2 wf; clear hbf H2)
    | (refine wpList_load_row rfl 24 _ rfl w.heap.size rfl 24 _ (0, 0) _ H2.out.prg.box Try.underlying24 rfl infoRPg ?_)
    | (go_at_call 8; refine hDy.mono ?_; rintro e wd ⟨hbd, rfl⟩; clear hDy; have HF : Hid (Below w.heap.size w (wd.alloc (.cells #[.int .i64 0, .slice none 0 0] 24))) := ((H3.out.next hbd).next ((Below.refl _ _).alloc (Nat.le_refl _) _)).bel; clear hbd H3)
    | (go_at_call 9; refine (num_any _ _).mono ?_; rintro e w9 ⟨rfl, hw9⟩; replace hw9 := hw9.symm; subst hw9))
  go_ret
  exact ⟨rfl, HF.out⟩
theorem at_modl (k : Nat) (z : Int) (h1 : 1 ≤ k) (h2 : k ≤ 100000) : ∃ a : Nat, wrap64 ((IntKind.u64.wrap z).tmod (k : Int)) = a ∧ a < k := by
  have h0 : 0 ≤ IntKind.u64.wrap z := by rw [IntKind.wrap_u64]; omega
  generalize IntKind.u64.wrap z = q at h0 ⊢
  rw [Int.tmod_eq_emod_of_nonneg h0]
  have h1 := Int.emod_nonneg q (show (k : Int) ≠ 0 by omega)
  have h2 := Int.emod_lt_of_pos q (show 0 < (k : Int) by omega)
  exact ⟨(q % (k : Int)).toNat, by rw [IntWalk.wrap64_in _ (by omega)]; omega, by omega⟩
theorem cuts_walk {p : Pg} (cut : Int) {S : Nat → Prop} {cs : List Value} (w : World) (hS : ∀ k, S k → k < w.heap.size) (hR : kPg.R w S p cs) : Calls Try.prog 4 #[.agg cs.toArray, .int .i64 cut] w fun e w' => e = .returned (.bool true) ∧ Below w.heap.size w w' := by
  rcases he : encP p with d | b
  · exact cuts_no w hS hR he
  · obtain ⟨_, e1, e2⟩ := enc_ok he
    have h4 := (from4 e1).2.2
    obtain ⟨k, hk, hkb⟩ := at_modl b.size cut (by omega) (by omega)
    have hsz : (b.extract 0 k).size = k := by rw [ByteArray.size_extract]; omega
    have hd := dec_cut (s := b.extract 0 k) (t := b.data.toList.drop k) he (by
      intro h
      have := congrArg List.length h
      rw [List.length_drop, Array.length_toList] at this
      have h5 : b.data.size = b.size := rfl
      simp at this; omega) (by
      have e : (b.extract 0 k).data.toList = b.data.toList.take k := by
        have := ext_from b 0 k
        rw [Nat.zero_add] at this
        rw [this]; rfl
      rw [e, List.take_append_drop])
    rw [hsz] at hd
    by_cases h : k < 4
    · exact cuts_short w hS hR he hk hkb h (hd.1 h)
    · obtain ⟨q, d1, d2⟩ := hd.2 (by omega)
      exact cuts_long w hS hR he hk hkb (by omega) d1 (by omega)
end Go.Proofs.Ytajghalljkphiaa
