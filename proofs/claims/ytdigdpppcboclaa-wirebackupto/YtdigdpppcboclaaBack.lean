/- The walk of the law WireBack: for every number and for texts of at most 1048576 bytes each it returns true, and of what was there nothing turns. -/
import Derived.Test.YtdigdpppcboclaaText
import Derived.Deep.RegionWith
import Derived.BigRegion
import Derived.Deep.QuietTactic
import Derived.BigQuiet
namespace Go.Proofs.Ytdigdpppcboclaa
open Go.RowKit

theorem Gr.drew2 {w0 w : World} (h : Gr w0 w) : Gr w0 w.drew := Below.drew h

theorem Gr.drewM {w0 w : World} (h : Gr w0 w) (n : Nat) : Gr w0 (w.drewN n) := ⟨h.os, h.tape, h.output, h.size, h.block⟩

theorem tmodr (x : Int) : -2147483648 < x.tmod 2147483648 ∧ x.tmod 2147483648 < 2147483648 := by
  have h1 := Int.lt_tmod_of_pos x (b := 2147483648) (by decide)
  have h2 := Int.tmod_lt_of_pos x (b := 2147483648) (by decide)
  omega

theorem app_lst (a b : ByteArray) : (a ++ b).data.toList = a.data.toList ++ b.data.toList := by
  rw [ByteArray.data_append]; simp

theorem from_app (A S B : ByteArray) : from_ (A ++ S ++ B) A.size = S.data.toList ++ B.data.toList := by
  unfold from_
  rw [app_lst, app_lst, List.append_assoc]
  have h : A.size = A.data.toList.length := by rw [Array.length_toList]; rfl
  rw [h, List.drop_left]

theorem putB_list {k : Int} (h1 : -2147483648 ≤ k) (h2 : k ≤ 2147483647) : (putB k).data.toList = parts (zig k) ∧ (putB k).size = (parts (zig k)).length := by
  rw [putB_yes (inR_iff.2 ⟨h1, h2⟩)]
  exact ⟨by simp, by show (parts (zig k)).toArray.size = _; simp⟩

/-- A number's bytes, read where they stand. -/
theorem get_back {A B : ByteArray} {k : Int} (h1 : -2147483648 ≤ k) (h2 : k ≤ 2147483647) :
    gN (A ++ putB k ++ B) A.size = k ∧ gT (A ++ putB k ++ B) A.size = (A.size : Int) + (putB k).size ∧ gC (A ++ putB k ++ B) A.size = 0 := by
  obtain ⟨e1, e2⟩ := putB_list h1 h2
  obtain ⟨g1, g2, g3⟩ := g_yes (s := A ++ putB k ++ B) (a := A.size) (by rw [ByteArray.size_append, ByteArray.size_append]; omega)
  have hr := rd_parts (zig k) B.data.toList 0 0 (by omega) (by omega) (by simpa using zig_lt h1 h2)
  rw [g1, g2, g3, from_app, e1, hr]
  refine ⟨?_, ?_, rfl⟩
  · show zag (0 + zig k * 128 ^ 0) = k
    rw [Nat.zero_add, Nat.pow_zero, Nat.mul_one, zag_zig]
  · show (if (0 : Int) = 0 then (A.size : Int) + ((0 + (parts (zig k)).length : Nat) : Int) else 0) = _
    rw [if_pos rfl, e2]; omega

theorem ext_mid (A T B : ByteArray) : (A ++ T ++ B).extract A.size (A.size + T.size) = T := by
  apply ByteArray.ext
  rw [ByteArray.data_extract, ByteArray.data_append, ByteArray.data_append]
  apply Array.ext'
  have hA : A.size = A.data.toList.length := by rw [Array.length_toList]; rfl
  have hT : T.size = T.data.toList.length := by rw [Array.length_toList]; rfl
  rw [Array.toList_extract, List.extract_eq_take_drop, Array.toList_append, Array.toList_append, List.append_assoc, hA, hT, List.drop_left, Nat.add_sub_cancel_left, List.take_left]

/-- A text's bytes, read where they stand. -/
theorem text_back {A T B : ByteArray} (hT : T.size ≤ 1048576) :
    tS (A ++ txtB T ++ B) A.size T.size = T ∧ tT (A ++ txtB T ++ B) A.size T.size = ((A ++ txtB T ++ B).size : Int) - B.size ∧ tC (A ++ txtB T ++ B) A.size T.size = 0 := by
  have hr : A ++ txtB T ++ B = A ++ putB T.size ++ (T ++ B) := by
    apply ByteArray.ext
    unfold txtB
    simp only [ByteArray.data_append, Array.append_assoc]
  have hr2 : A ++ txtB T ++ B = (A ++ putB T.size) ++ T ++ B := by
    apply ByteArray.ext
    unfold txtB
    simp only [ByteArray.data_append, Array.append_assoc]
  obtain ⟨g1, g2, g3⟩ := get_back (A := A) (B := T ++ B) (k := (T.size : Int)) (by omega) (by omega)
  rw [← hr] at g1 g2 g3
  have hs : (A ++ txtB T ++ B).size = A.size + (putB T.size).size + T.size + B.size := by
    rw [hr2, ByteArray.size_append, ByteArray.size_append, ByteArray.size_append]
  obtain ⟨o1, o2, o3⟩ := t_ok (s := A ++ txtB T ++ B) (a := A.size) (most := T.size) g3 (by rw [g1]; omega) (by rw [g1, g2, hs]; omega)
  refine ⟨?_, ?_, o1⟩
  · rw [o2, g1, g2]
    have e1 : ((A.size : Int) + ((putB T.size).size : Int)).toNat = (A ++ putB T.size).size := by rw [ByteArray.size_append]; omega
    have e2 : ((A.size : Int) + ((putB T.size).size : Int) + (T.size : Int)).toNat = (A ++ putB T.size).size + T.size := by rw [ByteArray.size_append]; omega
    rw [e1, e2, hr2]
    exact ext_mid _ _ _
  · rw [o3, g1, g2, hs]; omega

/-- What is taken is the only way to write it. -/
theorem only_way {B : ByteArray} (h : gC B 0 = 0) : B.extract 0 (gT B 0).toNat = putB (gN B 0) := by
  obtain ⟨g1, g2, g3⟩ := g_yes (s := B) (a := 0) (by omega)
  have h0 : ((0 : Nat) : Int) = 0 := rfl
  rw [h0] at g1 g2 g3
  rw [g3] at h
  rw [g1, g2]
  obtain ⟨⟨Z, n, c⟩, hR⟩ : ∃ R, rd (from_ B 0) 0 0 = R := ⟨_, rfl⟩
  rw [hR] at h ⊢
  have hc : c = 0 := h
  subst hc
  obtain ⟨y, e1, e2, e3, _, e5⟩ := rd_taken _ 0 0 Z n (by omega) hR
  have hy : Z = y := by simpa using e1
  have hn : n = (parts y).length := by omega
  have hz : Z < 4294967296 := rd_num_lt hR
  have hrg := zag_range hz
  show B.extract 0 (if (0 : Int) = 0 then ((0 : Nat) : Int) + (n : Int) else 0).toNat = putB (zag Z)
  rw [if_pos rfl, putB_yes (inR_iff.2 hrg), zig_zag]
  apply ByteArray.ext
  apply Array.ext'
  rw [ByteArray.data_extract, Array.toList_extract, List.extract_eq_take_drop]
  have e6 : (((0 : Nat) : Int) + (n : Int)).toNat = n := by omega
  rw [e6, List.drop_zero, Nat.sub_zero, hn, hy]
  have e7 : from_ B 0 = B.data.toList := rfl
  rw [e7] at e3
  rw [e3]

theorem put_of2 {w0 : World} {S : ByteArray} (x : Int) (w : World) (hS : S = putB x) (hg : Gr w0 w) :
    Calls Try.prog 9 #[.int .i64 x] w fun e w' => e = .returned (.string S) ∧ Gr w0 w' := by rw [hS]; exact put_g x w hg
theorem txt_of {w0 : World} {S : ByteArray} (s : ByteArray) (w : World) (hs : s.size ≤ maxLen) (hS : S = txtB s) (hg : Gr w0 w) :
    Calls Try.prog 15 #[.string s] w fun e w' => e = .returned (.string S) ∧ Gr w0 w' := by rw [hS]; exact puttext_any s w hs hg

set_option maxHeartbeats 2000000 in
set_option maxRecDepth 20000 in
theorem back_walk (x : Int) (t ahead behind : ByteArray) (ht : t.size ≤ 1048576) (ha : ahead.size ≤ 1048576) (hb : behind.size ≤ 1048576) (w : World) :
    Calls Try.prog 5 #[.int .i64 x, .string t, .string ahead, .string behind] w fun e w' => e = .returned (.bool true) ∧ Gr w w' := by
  have hg := Gr.refl w
  obtain ⟨k, hk⟩ : ∃ k, k = x.tmod 2147483648 := ⟨_, rfl⟩
  have hr := tmodr x
  rw [← hk] at hr
  obtain ⟨r1, r2⟩ := hr
  have e1 : x.tmod 2147483648 = k := hk.symm
  have HK : Hid _ := hk
  clear hk
  obtain ⟨S, hS⟩ : ∃ S, S = putB k := ⟨_, rfl⟩
  have hS5 : S.size ≤ 5 := by rw [hS]; exact putB_size k
  obtain ⟨A1, hA1⟩ : ∃ A1, A1 = ahead ++ S := ⟨_, rfl⟩
  obtain ⟨X, hX⟩ : ∃ X, X = A1 ++ behind := ⟨_, rfl⟩
  have hA1s : A1.size = ahead.size + S.size := by rw [hA1, ByteArray.size_append]
  have hXs : X.size = A1.size + behind.size := by rw [hX, ByteArray.size_append]
  have p1 : ∀ W : World, (Op.stringOp .add ahead S).run Try.prog W = .ok (.string A1) W := fun W => by
    rw [hA1]; exact run_string_add_sum (P := Try.prog) W _ _ (by omega)
  have p2 : ∀ W : World, (Op.stringOp .add A1 behind).run Try.prog W = .ok (.string X) W := fun W => by
    rw [hX]; exact run_string_add_sum (P := Try.prog) W _ _ (by omega)
  obtain ⟨TT, hTT⟩ : ∃ TT, TT = txtB t := ⟨_, rfl⟩
  have hTTs : TT.size ≤ 1048581 := by
    rw [hTT]; unfold txtB; rw [ByteArray.size_append]; have := putB_size (t.size : Int); omega
  obtain ⟨A2, hA2⟩ : ∃ A2, A2 = ahead ++ TT := ⟨_, rfl⟩
  obtain ⟨Y, hY⟩ : ∃ Y, Y = A2 ++ behind := ⟨_, rfl⟩
  have hA2s : A2.size = ahead.size + TT.size := by rw [hA2, ByteArray.size_append]
  have hYs : Y.size = A2.size + behind.size := by rw [hY, ByteArray.size_append]
  have p3 : ∀ W : World, (Op.stringOp .add ahead TT).run Try.prog W = .ok (.string A2) W := fun W => by
    rw [hA2]; exact run_string_add_sum (P := Try.prog) W _ _ (by omega)
  have p4 : ∀ W : World, (Op.stringOp .add A2 behind).run Try.prog W = .ok (.string Y) W := fun W => by
    rw [hY]; exact run_string_add_sum (P := Try.prog) W _ _ (by omega)
  obtain ⟨n1, n2, n3⟩ := get_back (A := ahead) (B := behind) (k := k) (by omega) (by omega)
  rw [← hS, ← hA1, ← hX] at n1 n2 n3
  have n2' : (gT X (ahead.size : Int) != (X.size : Int) - (behind.size : Int)) = false := by
    rw [n2]; simp; omega
  obtain ⟨m1, m2, m3⟩ := text_back (A := ahead) (B := behind) ht
  rw [← hTT, ← hA2, ← hY] at m1 m2 m3
  have m2' : (tT Y (ahead.size : Int) (t.size : Int) != (Y.size : Int) - (behind.size : Int)) = false := by
    rw [m2]; simp
  have HX : Hid (X.size ≤ maxLen) := by show X.size ≤ maxLen; unfold maxLen; omega
  have HY : Hid (Y.size ≤ maxLen) := by show Y.size ≤ maxLen; unfold maxLen; omega
  have HB : Hid (behind.size ≤ maxLen) := by show behind.size ≤ maxLen; unfold maxLen; omega
  have HT : Hid (t.size ≤ maxLen) := by show t.size ≤ maxLen; unfold maxLen; omega
  have bX : X.size ≤ 3000000 := by omega
  have bY : Y.size ≤ 4000000 := by omega
  have HS : Hid _ := hS
  have HTT : Hid _ := hTT
  have q1 := hA1.symm
  have q2 := hX.symm
  have q3 := hA2.symm
  have q4 := hY.symm
  clear hS hA1 hX hTT hA2 hY hA1s hXs hA2s hYs hTTs hS5 n2 m2
  by_cases hc : gC behind 0 = 0
  · obtain ⟨_, _, b1, b2, b3, b4⟩ := g_ok hc
    have ow := only_way hc
    have hc' : (gC behind 0 != 0) = false := by simp [hc]
    clear hc
    go_enter Try.func5, Try.ntmps5
    go_wp2_with (first | (go_at_call 12; refine (awake _ hg).mono ?_; clear hg; rintro e w1 ⟨rfl, hg⟩) | (go_at_call 9; refine (put_of2 k _ HS.out hg).mono ?_; clear hg; rintro e w2 ⟨rfl, hg⟩) | (go_at_call 7; refine (get_g _ _ _ (by first | exact HX.out | exact HB.out) hg).mono ?_; clear hg; rintro e w3 ⟨rfl, hg⟩) | (go_at_call 15; refine (txt_of t _ HT.out HTT.out hg).mono ?_; clear hg; rintro e w4 ⟨rfl, hg⟩) | (go_at_call 13; refine (text_any Y _ _ _ HY.out hg).mono ?_; clear hg; rintro e w5 ⟨rfl, hg⟩) | (go_at_call 11; refine (num_g _ _ hg).mono ?_; clear hg; rintro e w6 ⟨rfl, hg⟩))
    have hgd := hg.drew2
    clear hg
    go_region_with (first | (go_at_call 11; refine (num_g _ _ hgd).mono ?_; clear hgd; rintro e w8 ⟨rfl, hg⟩) | (go_at_call 9; refine (put_g _ _ hg).mono ?_; clear hg; rintro e w9 ⟨rfl, hg⟩))
    go_wp2
    go_ret
    exact ⟨rfl, hg⟩
  · have hc' : (gC behind 0 != 0) = true := by simp [hc]
    clear hc
    go_enter Try.func5, Try.ntmps5
    go_wp2_with (first | (go_at_call 12; refine (awake _ hg).mono ?_; clear hg; rintro e w1 ⟨rfl, hg⟩) | (go_at_call 9; refine (put_of2 k _ HS.out hg).mono ?_; clear hg; rintro e w2 ⟨rfl, hg⟩) | (go_at_call 7; refine (get_g _ _ _ (by first | exact HX.out | exact HB.out) hg).mono ?_; clear hg; rintro e w3 ⟨rfl, hg⟩) | (go_at_call 15; refine (txt_of t _ HT.out HTT.out hg).mono ?_; clear hg; rintro e w4 ⟨rfl, hg⟩) | (go_at_call 13; refine (text_any Y _ _ _ HY.out hg).mono ?_; clear hg; rintro e w5 ⟨rfl, hg⟩) | (go_at_call 11; refine (num_g _ _ hg).mono ?_; clear hg; rintro e w6 ⟨rfl, hg⟩))
    go_quiet ((go_at_call 11; exact Calls.quiet_of_same (num_any _ _)))
    go_wp2
    go_ret
    exact ⟨rfl, hg.drewM _⟩
end Go.Proofs.Ytdigdpppcboclaa
