/- The walk of the law WireShort: for every number and every string it returns true, and of what was there nothing turns. -/
import Derived.Test.YtdigdpppcboclaaNums
import Derived.RegionTactic
import Derived.BigRegion
import Derived.Deep.AppendLies
import Derived.Laws.IdiomStrings
namespace Go.Proofs.Ytdigdpppcboclaa
open Go.RowKit

theorem Gr.alloc1 {w0 w : World} (h : Gr w0 w) (o : Obj) : Gr w0 (w.alloc o) := Below.alloc h (Below.size h) o
theorem Gr.drew {w0 w : World} (h : Gr w0 w) : Gr w0 w.drew := Below.drew h

theorem tmod_rng (x : Int) : -2147483648 < x.tmod 2147483648 ∧ x.tmod 2147483648 < 2147483648 := by
  have h1 := Int.lt_tmod_of_pos x (b := 2147483648) (by decide)
  have h2 := Int.tmod_lt_of_pos x (b := 2147483648) (by decide)
  omega

theorem z_pos {k : Int} (h : 0 ≤ k) : Value.int .i64 (2 * k) = Value.int .i64 ((zig k : Nat) : Int) := by
  have : 2 * k = ((zig k : Nat) : Int) := by unfold zig; rw [if_pos h]; omega
  rw [this]
theorem z_neg {k : Int} (h : k < 0) : Value.int .i64 (-2 * k - 1) = Value.int .i64 ((zig k : Nat) : Int) := by
  have : -2 * k - 1 = ((zig k : Nat) : Int) := by unfold zig; rw [if_neg (by omega)]; omega
  rw [this]

theorem put_of {w0 : World} {S : ByteArray} (x : Int) (w : World) (hS : S = putB x) (hg : Gr w0 w) :
    Calls Try.prog 9 #[.int .i64 x] w fun e w' => e = .returned (.string S) ∧ Gr w0 w' := by rw [hS]; exact put_g x w hg

theorem cnt_step {n z L : Nat} (h : n + (parts z).length = L + 1) (hz : 128 ≤ z) : n + 1 + (parts (z / 128)).length = L + 1 := by
  rw [parts_ge hz] at h; simp at h; omega
theorem cnt_end {n z L : Nat} (h : n + (parts z).length = L + 1) (hz : ¬ 128 ≤ z) : n = L := by
  rw [parts_lt (by omega)] at h; simp at h; omega

/-- Two bytes that were just laid, as a string. -/
theorem two_string (W : World) (x y : Int) (d e : UInt8) (hx : x = (d.toNat : Int)) (hy : y = (e.toNat : Int)) :
    (convert 38 9 (.slice (some ⟨W.heap.size, 0, none⟩) 2 2)).run Try.prog (W.alloc (.cells #[.int .u8 x, .int .u8 y] 5)).drew = .ok (.string ⟨#[d, e]⟩) (W.alloc (.cells #[.int .u8 x, .int .u8 y] 5)).drew := by
  have hb : (W.alloc (.cells #[.int .u8 x, .int .u8 y] 5)).drew.heap[W.heap.size]? = some (.cells #[.int .u8 x, .int .u8 y] 5 (0, 0)) := heap_alloc_new W _
  refine run_convert_bytes_back (P := Try.prog) _ 38 9 5 ⟨W.heap.size, 0, none⟩ 2 [d, e] Try.underlying38 Try.underlying5 Try.underlying9 ?_
  intro j hj
  have hn := World.news_of_block hb
  match j, hj with
  | 0, _ => exact (hn 0 _ rfl).trans (by rw [hx]; rfl)
  | 1, _ => exact (hn 1 _ rfl).trans (by rw [hy]; rfl)

theorem ext_list {S : ByteArray} {l : List UInt8} (h : S = ⟨l.toArray⟩) (m : Nat) : (S.extract 0 m).data.toList = l.take m := by
  rw [h, ByteArray.data_extract]
  simp
theorem app_list (a b : ByteArray) : (a ++ b).data.toList = a.data.toList ++ b.data.toList := by
  rw [ByteArray.data_append]; simp

theorem from0 (s : ByteArray) : from_ s 0 = s.data.toList := rfl

theorem gC0 (s : ByteArray) : gC s 0 = cdOf (rd s.data.toList 0 0) := by
  have := (g_yes (s := s) (a := 0) (by omega)).2.2
  exact this

theorem dropLast_take {l : List UInt8} {m : Nat} (h : l.length = m + 1) : l.take m = l.dropLast := by
  rw [List.dropLast_eq_take, h]; rfl

theorem short_form {S tail : ByteArray} {z m : Nat} {d : UInt8} (hS : S = ⟨(parts z).toArray⟩) (hm : S.size = m + 1) (hz : z < 4294967296) (hd : 128 ≤ d.toNat) : gC (S.extract 0 m ++ ⟨#[d, 0]⟩ ++ tail) 0 = 201 := by
  have hl : (parts z).length = m + 1 := by rw [hS] at hm; simpa [ByteArray.size] using hm
  rw [gC0, app_list, app_list, ext_list hS, dropLast_take hl]
  have := rd_long z 0 0 d tail.data.toList (by omega) (by simpa using hz) hd
  show cdOf (rd ((parts z).dropLast ++ [d, 0] ++ tail.data.toList) 0 0) = 201
  rw [List.append_assoc]
  show cdOf (rd ((parts z).dropLast ++ d :: 0 :: tail.data.toList) 0 0) = 201
  rw [this]; rfl
theorem short_cut {S : ByteArray} {z m : Nat} (hS : S = ⟨(parts z).toArray⟩) (hm : S.size = m + 1) (hz : z < 4294967296) : gC (S.extract 0 m) 0 = 200 := by
  have hl : (parts z).length = m + 1 := by rw [hS] at hm; simpa [ByteArray.size] using hm
  rw [gC0, ext_list hS, dropLast_take hl, rd_cut z 0 0 (by omega) (by simpa using hz)]; rfl

theorem last_lt {S : ByteArray} {z m : Nat} (hS : S = ⟨(parts z).toArray⟩) (hm : S.size = m + 1) (h : m < S.size) : (S[m]'h).toNat < 128 := by
  subst hS
  have hl : (parts z).length = m + 1 := by simpa [ByteArray.size] using hm
  have hne : parts z ≠ [] := fun e => by rw [e] at hl; simp at hl
  have := parts_last z hne
  rw [List.getLast_eq_getElem] at this
  simp only [hl, Nat.add_sub_cancel] at this
  exact this

theorem sq_rng {k : Int} (h1 : -2147483648 < k) (h2 : k < 2147483648) : 0 ≤ k * k ∧ k * k ≤ 4611686018427387904 := by
  refine ⟨?_, ?_⟩
  · rcases Int.le_total 0 k with h | h
    · exact Int.mul_nonneg h h
    · exact Int.mul_nonneg_of_nonpos_of_nonpos h h
  · have h3 : k * k = (k.natAbs * k.natAbs : Nat) := (Int.natAbs_mul_self).symm
    have h4 : k.natAbs * k.natAbs ≤ 2147483648 * 2147483648 := Nat.mul_le_mul (by omega) (by omega)
    rw [h3]; omega

set_option maxHeartbeats 2000000 in
set_option maxRecDepth 20000 in
theorem short_walk (x : Int) (tail : ByteArray) (ht : tail.size ≤ 140737488351232) (w : World) :
    Calls Try.prog 6 #[.int .i64 x, .string tail] w fun e w' => e = .returned (.bool true) ∧ Gr w w' := by
  have hg := Gr.refl w
  obtain ⟨k, hk⟩ : ∃ k, k = x.tmod 2147483648 := ⟨_, rfl⟩
  have hr := tmod_rng x
  rw [← hk] at hr
  obtain ⟨r1, r2⟩ := hr
  have e1 : x.tmod 2147483648 = k := hk.symm
  have HK : Hid _ := hk
  clear hk
  have hz4 := zig_lt (x := k) (by omega) (by omega)
  have hL5 := parts_len5 hz4
  have hL1 := parts_pos (zig k)
  obtain ⟨S, hS⟩ : ∃ S, S = putB k := ⟨_, rfl⟩
  have hSp : S = ⟨(parts (zig k)).toArray⟩ := by rw [hS, putB_yes (inR_iff.2 ⟨by omega, by omega⟩)]
  have hSs : S.size = (parts (zig k)).length := by rw [hSp]; show (parts (zig k)).toArray.size = _; simp
  obtain ⟨m, hm⟩ : ∃ m, S.size = m + 1 := ⟨S.size - 1, by omega⟩
  have hm5 : m ≤ 4 := by omega
  have hml : m < S.size := by omega
  obtain ⟨c, hc⟩ : ∃ c : Nat, c = (S[m]'hml).toNat := ⟨_, rfl⟩
  have hix : ∀ W : World, (Instr.index 9 (.string S) (.int .i64 (m : Int))).run Try.prog W = .ok (.int .u8 (c : Int)) W := fun W => by
    rw [run_index_string W 9 S .i64 (m : Int) Try.underlying9, dif_pos ⟨by omega, by omega⟩, hc]
    rfl
  have hc128 : c < 128 := by rw [hc]; exact last_lt hSp hm hml
  obtain ⟨d, hd⟩ : ∃ d : UInt8, d.toNat = c + 128 := ⟨UInt8.ofNat (c + 128), by rw [UInt8.toNat_ofNat']; omega⟩
  have hcv : ∀ W : World, (convert 38 9 (.slice (some ⟨W.heap.size, 0, none⟩) 2 2)).run Try.prog (W.alloc (.cells #[.int .u8 (((c : Int) + 128) % 256), .int .u8 0] 5)).drew = .ok (.string ⟨#[d, 0]⟩) (W.alloc (.cells #[.int .u8 (((c : Int) + 128) % 256), .int .u8 0] 5)).drew := fun W =>
    two_string W _ _ d 0 (by rw [hd]; omega) rfl
  have hxs : (S.extract 0 m).size ≤ 5 := by rw [ByteArray.size_extract]; omega
  obtain ⟨V, hV⟩ : ∃ V, S.extract 0 m = V := ⟨_, rfl⟩
  rw [hV] at hxs
  obtain ⟨T, hT⟩ : ∃ T, T = V ++ ⟨#[d, 0]⟩ := ⟨_, rfl⟩
  have hTs : T.size ≤ 7 := by rw [hT, ByteArray.size_append]; show _ + 2 ≤ 7; omega
  have ha1 : ∀ W : World, (Op.stringOp .add V ⟨#[d, 0]⟩).run Try.prog W = .ok (.string T) W := fun W => by
    rw [hT]; exact run_string_add_sum (P := Try.prog) W _ _ (by show _ + 2 ≤ _; omega)
  obtain ⟨U, hU⟩ : ∃ U, U = T ++ tail := ⟨_, rfl⟩
  have hUs : U.size ≤ maxLen := by rw [hU, ByteArray.size_append]; unfold maxLen; omega
  have ha2 : ∀ W : World, (Op.stringOp .add T tail).run Try.prog W = .ok (.string U) W := fun W => by
    rw [hU]; exact run_string_add_sum (P := Try.prog) W _ _ (by omega)
  have hg1 : (gC U 0 == 201) = true := by
    rw [hU, hT, ← hV, short_form hSp hm hz4 (by omega)]; rfl
  have hg2 : (gC V 0 == 200) = true := by
    rw [← hV, short_cut hSp hm hz4]; rfl
  have hvs : V.size ≤ maxLen := by unfold maxLen; omega
  obtain ⟨q1, q2⟩ := sq_rng r1 r2
  have hpp : putB (2147483648 + k * k) = ⟨#[]⟩ := putB_no (by
    cases h : inR (2147483648 + k * k)
    · rfl
    · have := inR_iff.1 h; omega)
  have HU : Hid _ := hUs
  have HV : Hid _ := hvs
  clear hc hd hT hU hTs hUs hxs hvs hc128
  have HS : Hid _ := hS
  have HSp : Hid _ := hSp
  have HSs : Hid _ := hSs
  have HZ4 : Hid _ := hz4
  have HL : Hid _ := hL5
  clear hS hSp hSs hz4 hL5 hL1
  by_cases hpos : 0 ≤ k
  all_goals
    go_enter Try.func6, Try.ntmps6
    go_wp2_with (first | (go_at_call 12; refine (awake _ hg).mono ?_; clear hg; rintro e w1 ⟨rfl, hg⟩) | (go_at_call 9; refine (put_of _ _ HS.out hg).mono ?_; clear hg; rintro e w2 ⟨rfl, hg⟩))
    go_loop [7, 8] (fun y m => ∃ z n : Nat, y = .int .i64 z ∧ m = .int .i64 n ∧ z < 4294967296 ∧ Hid (n + (parts z).length = (parts (zig k)).length + 1)) (fun y _ => (intOf y).toNat)
    case atStart => exact ⟨zig k, 1, by first | exact z_pos hpos | exact z_neg hpos | exact z_neg (by omega), rfl, HZ4.out, Nat.add_comm _ _⟩
    case round =>
      obtain ⟨z, n, rfl, rfl, hz, HN⟩ := hrel
      have hn : n ≤ 5 := by have := HN.out; have := HL.out; have := parts_pos z; omega
      by_cases hc : 128 ≤ z
      · go_wp2
        go_round
        case rel => exact ⟨z / 128, n + 1, by go_num, by go_num, by omega, cnt_step HN.out hc⟩
        case measure => simp [intOf]; omega
      · have hlen : ((m : Int) + 1 != (n : Int)) = false := by
          have h1 := cnt_end HN.out hc
          have h2 := HSs.out
          simp; omega
        go_wp2
        go_region
        have hgd : Gr w (w2.alloc (.cells #[.int .u8 (((c : Int) + 128) % 256), .int .u8 0] 5)).drew := (hg.alloc1 _).drew
        clear hg
        go_wp2_with (first | (go_at_call 7; refine (get_g U _ _ HU.out hgd).mono ?_; clear hgd; rintro e w3 ⟨rfl, hg⟩) | (go_at_call 7; refine (get_g V _ _ HV.out hg).mono ?_; clear hg; rintro e w4 ⟨rfl, hg⟩) | (go_at_call 11; refine (num_g _ _ hg).mono ?_; clear hg; rintro e w5 ⟨rfl, hg⟩) | (go_at_call 9; refine (put_g _ _ hg).mono ?_; clear hg; rintro e w6 ⟨rfl, hg⟩))
        go_ret
        exact ⟨rfl, hg⟩
end Go.Proofs.Ytdigdpppcboclaa
