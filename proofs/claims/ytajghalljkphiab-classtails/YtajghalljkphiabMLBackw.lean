/- The walks of ClassBack, ClassCuts. -/
import Derived.Test.YtajghalljkphiabMLAwk
import Derived.Laws.Bits64
namespace Go.Proofs.Ytajghalljkphiab
open Go.RowKit

theorem enc_err {p : Pg} {c : Int} (h : encP p = .error c) : 1400 ≤ c := by
  unfold encP at h
  split at h
  · split at h
    · split at h
      · split at h
        · injection h with h; omega
        · cases h
      · injection h with h; omega
    · injection h with h; omega
  · injection h with h; omega
set_option maxHeartbeats 4000000 in
set_option maxRecDepth 20000 in
theorem tails_no {p : Pg} {d : Int} {tl : ByteArray} {S : Nat → Prop} {cs : List Value} (w : World) (hS : ∀ k, S k → k < w.heap.size) (hR : kPg.R w S p cs) (hp : encP p = .error d) : Calls Try.prog 4 #[.agg cs.toArray, .string tl] w fun e w' => e = .returned (.bool true) ∧ Below w.heap.size w w' := by
  have hR2 := hR
  obtain ⟨v1, rfl, ao, cap, rfl, -⟩ := hR2
  have H1 : Hid (Aw w w.heap.size S p #[.int .i64 p.main, .slice ao p.cls.length cap] (w.alloc (.cells #[.int .i64 p.main, .slice ao p.cls.length cap] 25))) := aw_start w hS hR
  have hA := awake14 (w.alloc (.cells #[.int .i64 p.main, .slice ao p.cls.length cap] 25))
  have HEp : Hid (encP p = .error d) := hp
  have hd0 : (d != 0) = true := by have := enc_err hp; rw [bne_iff_ne]; omega
  clear hp hS hR
  go_enter Try.func4, Try.ntmps4
  go_wp2_with (first
    | (go_at_call 5; refine hA.mono ?_; rintro e wa ⟨rfl, hba⟩; clear hA; have H2 : Hid (Aw w w.heap.size S p #[.int .i64 p.main, .slice ao p.cls.length cap] wa) := H1.out.next hba; have hEp := enc_no HEp.out _ H2.out.prg.low H2.out.prg.dat; clear hba H1)
    | (go_at_call 9; refine hEp.mono ?_; rintro e wf ⟨hbf, rfl⟩; clear hEp; have HF : Hid (Below w.heap.size w wf) := (H2.out.next hbf).bel; clear hbf H2)
    | (refine wpList_load_row rfl 25 _ rfl w.heap.size rfl 25 _ (0, 0) _ H2.out.prg.box Try.underlying25 rfl infoRPg ?_)
    | (go_at_call 10; refine (num_any _ _).mono ?_; rintro e w9 ⟨rfl, hw9⟩; replace hw9 := hw9.symm; subst hw9))
  go_ret
  exact ⟨rfl, HF.out⟩
set_option maxHeartbeats 4000000 in
set_option maxRecDepth 20000 in
theorem tails_none {p : Pg} {b : ByteArray} {S : Nat → Prop} {cs : List Value} (w : World) (hS : ∀ k, S k → k < w.heap.size) (hR : kPg.R w S p cs) (hp : encP p = .ok b) : Calls Try.prog 4 #[.agg cs.toArray, .string ⟨#[]⟩] w fun e w' => e = .returned (.bool true) ∧ Below w.heap.size w w' := by
  have hR2 := hR
  obtain ⟨v1, rfl, ao, cap, rfl, -⟩ := hR2
  have H1 : Hid (Aw w w.heap.size S p #[.int .i64 p.main, .slice ao p.cls.length cap] (w.alloc (.cells #[.int .i64 p.main, .slice ao p.cls.length cap] 25))) := aw_start w hS hR
  have hA := awake14 (w.alloc (.cells #[.int .i64 p.main, .slice ao p.cls.length cap] 25))
  have HEp : Hid (encP p = .ok b) := hp
  clear hp hS hR
  go_enter Try.func4, Try.ntmps4
  go_wp2_with (first
    | (go_at_call 5; refine hA.mono ?_; rintro e wa ⟨rfl, hba⟩; clear hA; have H2 : Hid (Aw w w.heap.size S p #[.int .i64 p.main, .slice ao p.cls.length cap] wa) := H1.out.next hba; have hEp := enc_at HEp.out _ H2.out.prg.low H2.out.prg.dat; clear hba H1)
    | (go_at_call 9; refine hEp.mono ?_; rintro e wf ⟨hbf, rfl⟩; clear hEp; have HF : Hid (Below w.heap.size w wf) := (H2.out.next hbf).bel; clear hbf H2)
    | (refine wpList_load_row rfl 25 _ rfl w.heap.size rfl 25 _ (0, 0) _ H2.out.prg.box Try.underlying25 rfl infoRPg ?_)
    | (go_at_call 10; refine (num_any _ _).mono ?_; rintro e w9 ⟨rfl, hw9⟩; replace hw9 := hw9.symm; subst hw9))
  go_ret
  exact ⟨rfl, HF.out⟩
set_option maxHeartbeats 4000000 in
set_option maxRecDepth 20000 in
theorem tails_much {p : Pg} {b tl : ByteArray} {S : Nat → Prop} {cs : List Value} (w : World) (hS : ∀ k, S k → k < w.heap.size) (hR : kPg.R w S p cs) (hp : encP p = .ok b) (ht : tl.size ≤ 140737488351232) (h1 : 0 < tl.size) (h2 : 32768 < b.size + tl.size) : Calls Try.prog 4 #[.agg cs.toArray, .string tl] w fun e w' => e = .returned (.bool true) ∧ Below w.heap.size w w' := by
  have hR2 := hR
  obtain ⟨v1, rfl, ao, cap, rfl, -⟩ := hR2
  have H1 : Hid (Aw w w.heap.size S p #[.int .i64 p.main, .slice ao p.cls.length cap] (w.alloc (.cells #[.int .i64 p.main, .slice ao p.cls.length cap] 25))) := aw_start w hS hR
  have hA := awake14 (w.alloc (.cells #[.int .i64 p.main, .slice ao p.cls.length cap] 25))
  have HEp : Hid (encP p = .ok b) := hp
  have hbs := (enc_ok hp).2.2
  have hne := ne_empty h1
  have hg : (32768 : Int) < (b.size : Int) + (tl.size : Int) := by omega
  clear hp hS hR
  go_enter Try.func4, Try.ntmps4
  go_wp2_with (first
    | (go_at_call 5; refine hA.mono ?_; rintro e wa ⟨rfl, hba⟩; clear hA; have H2 : Hid (Aw w w.heap.size S p #[.int .i64 p.main, .slice ao p.cls.length cap] wa) := H1.out.next hba; have hEp := enc_at HEp.out _ H2.out.prg.low H2.out.prg.dat; clear hba H1)
    | (go_at_call 9; refine hEp.mono ?_; rintro e wf ⟨hbf, rfl⟩; clear hEp; have HF : Hid (Below w.heap.size w wf) := (H2.out.next hbf).bel; clear hbf H2)
    | (refine wpList_load_row rfl 25 _ rfl w.heap.size rfl 25 _ (0, 0) _ H2.out.prg.box Try.underlying25 rfl infoRPg ?_)
    | (go_at_call 10; refine (num_any _ _).mono ?_; rintro e w9 ⟨rfl, hw9⟩; replace hw9 := hw9.symm; subst hw9))
  go_ret
  exact ⟨rfl, HF.out⟩
set_option maxHeartbeats 4000000 in
set_option maxRecDepth 20000 in
theorem tails_yes {p : Pg} {b tl : ByteArray} {S : Nat → Prop} {cs : List Value} (w : World) (hS : ∀ k, S k → k < w.heap.size) (hR : kPg.R w S p cs) (hp : encP p = .ok b) (h1 : 0 < tl.size) (h2 : b.size + tl.size ≤ 32768) : Calls Try.prog 4 #[.agg cs.toArray, .string tl] w fun e w' => e = .returned (.bool true) ∧ Below w.heap.size w w' := by
  have hR2 := hR
  obtain ⟨v1, rfl, ao, cap, rfl, -⟩ := hR2
  have H1 : Hid (Aw w w.heap.size S p #[.int .i64 p.main, .slice ao p.cls.length cap] (w.alloc (.cells #[.int .i64 p.main, .slice ao p.cls.length cap] 25))) := aw_start w hS hR
  have hA := awake14 (w.alloc (.cells #[.int .i64 p.main, .slice ao p.cls.length cap] 25))
  have HEp : Hid (encP p = .ok b) := hp
  have hbs := (enc_ok hp).2.2
  have hne := ne_empty h1
  have hg : ¬ (32768 : Int) < (b.size : Int) + (tl.size : Int) := by omega
  have hself : ((b.size : Int) == (b.size : Int)) = true := by simp
  have HDy : Hid (decP (b ++ tl) = .error (b.size, 1405) ∧ (b ++ tl).size ≤ maxLen) := by
    refine ⟨?_, by rw [app_size]; unfold maxLen; omega⟩
    rw [back_tail hp (app_data b tl) (by rw [app_size]; omega), if_neg]
    intro h
    have h6 := congrArg List.length h
    rw [Array.length_toList] at h6
    have h5 : tl.data.size = tl.size := rfl
    have h7 : tl.data.size = 0 := h6
    omega
  have HDz : Hid (decP (⟨#[88]⟩ ++ b) = .error (0, 1400) ∧ (⟨#[88]⟩ ++ b : ByteArray).size ≤ maxLen) := by
    have e : (⟨#[88]⟩ ++ b : ByteArray).size = b.size + 1 := by rw [app_size]; exact Nat.add_comm _ _
    refine ⟨dec_magic (by omega) ?_, by rw [e]; unfold maxLen; omega⟩
    rw [app_data]
    intro h
    have := congrArg List.head? h
    simp [mag] at this
  clear hp hS hR
  go_enter Try.func4, Try.ntmps4
  go_wp2_with (first
    | (go_at_call 5; refine hA.mono ?_; rintro e wa ⟨rfl, hba⟩; clear hA; have H2 : Hid (Aw w w.heap.size S p #[.int .i64 p.main, .slice ao p.cls.length cap] wa) := H1.out.next hba; have hEp := enc_at HEp.out _ H2.out.prg.low H2.out.prg.dat; clear hba H1)
    | (go_at_call 9; refine hEp.mono ?_; rintro e wf ⟨hbf, rfl⟩; clear hEp; have H3 : Hid (Aw w w.heap.size S p #[.int .i64 p.main, .slice ao p.cls.length cap] wf) := H2.out.next hbf; have hDy := dec_no HDy.out.1 HDy.out.2 wf; clear hbf H2)
    | (refine wpList_load_row rfl 25 _ rfl w.heap.size rfl 25 _ (0, 0) _ H2.out.prg.box Try.underlying25 rfl infoRPg ?_)
    | (go_at_call 11; refine hDy.mono ?_; rintro e wd ⟨hbd, rfl⟩; clear hDy; have H4 : Hid (Aw w w.heap.size S p #[.int .i64 p.main, .slice ao p.cls.length cap] (wd.alloc (.cells #[.int .i64 0, .slice none 0 0] 25))) := (H3.out.next hbd).next ((Below.refl _ _).alloc (Nat.le_refl _) _); have hDz := dec_no HDz.out.1 HDz.out.2 (wd.alloc (.cells #[.int .i64 0, .slice none 0 0] 25)); clear hbd H3)
    | (go_at_call 11; refine hDz.mono ?_; rintro e wg ⟨hbg, rfl⟩; clear hDz; have HF : Hid (Below w.heap.size w (wg.alloc (.cells #[.int .i64 0, .slice none 0 0] 25))) := ((H4.out.next hbg).next ((Below.refl _ _).alloc (Nat.le_refl _) _)).bel; clear hbg H4)
    | (go_at_call 10; refine (num_any _ _).mono ?_; rintro e w9 ⟨rfl, hw9⟩; replace hw9 := hw9.symm; subst hw9))
  go_ret
  exact ⟨rfl, HF.out⟩
theorem tails_walk {p : Pg} {tl : ByteArray} {S : Nat → Prop} {cs : List Value} (w : World) (ht : tl.size ≤ 140737488351232) (hS : ∀ k, S k → k < w.heap.size) (hR : kPg.R w S p cs) : Calls Try.prog 4 #[.agg cs.toArray, .string tl] w fun e w' => e = .returned (.bool true) ∧ Below w.heap.size w w' := by
  rcases he : encP p with d | b
  · exact tails_no w hS hR he
  · by_cases h1 : tl.size = 0
    · have := empty_of h1
      subst this
      exact tails_none w hS hR he
    · by_cases h2 : 32768 < b.size + tl.size
      · exact tails_much w hS hR he ht (by omega) h2
      · exact tails_yes w hS hR he (by omega) (by omega)
end Go.Proofs.Ytajghalljkphiab
