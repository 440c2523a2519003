/- types.Text and the document's Text at every int. -/
import Derived.Test.YtdgndglinkcdbaaDoorMGT2
import Derived.Shelf.LaysM
import Derived.Shelf.Strconv.Itoa3
import Derived.Lib.ItoaLen
namespace Go.Proofs.YtdgndglinkcdbaaDoor
open Go.RowKit Go.Shelf

def itoL_ren : Go.Shelf.Ren := ⟨fun | 171 => 30 | 243 => 53 | 246 => 65 | 283 => 70 | 284 => 71 | 285 => 72 | 286 => 73 | 129 => 76 | 317 => 75 | 318 => 77 | 319 => 78 | 320 => 79 | 337 => 80 | 338 => 81 | n => n, fun | 3 => 3 | 9 => 9 | 2 => 2 | 4 => 4 | 171 => 98 | 0 => 0 | 53 => 82 | 37 => 54 | 5 => 5 | 173 => 101 | 212 => 105 | 51 => 106 | 20 => 20 | 213 => 107 | 46 => 108 | 232 => 111 | 233 => 112 | n => n, fun | 17 => 0 | 18 => 1 | 19 => 2 | n => n⟩
theorem itoL : Go.Proofs.LaysM.n171 Tryd.prog itoL_ren := {
  mixed := by kernel_rfl
  f129 := Tryd.func76.trans (congrArg some (by kernel_rfl))
  f171 := Tryd.func30.trans (congrArg some (by kernel_rfl))
  f243 := Tryd.func53.trans (congrArg some (by kernel_rfl))
  f246 := Tryd.func65.trans (congrArg some (by kernel_rfl))
  f283 := Tryd.func70.trans (congrArg some (by kernel_rfl))
  f284 := Tryd.func71.trans (congrArg some (by kernel_rfl))
  f285 := Tryd.func72.trans (congrArg some (by kernel_rfl))
  f286 := Tryd.func73.trans (congrArg some (by kernel_rfl))
  f317 := Tryd.func75.trans (congrArg some (by kernel_rfl))
  f318 := Tryd.func77.trans (congrArg some (by kernel_rfl))
  f319 := Tryd.func78.trans (congrArg some (by kernel_rfl))
  f320 := Tryd.func79.trans (congrArg some (by kernel_rfl))
  f337 := Tryd.func80.trans (congrArg some (by kernel_rfl))
  f338 := Tryd.func81.trans (congrArg some (by kernel_rfl))
  t0 := Tryd.underlying0
  a0 := Tryd.isAgg0
  z0 := Tryd.sizeOf0
  v0 := Tryd.zeroValue0
  t2 := Tryd.underlying2
  a2 := Tryd.isAgg2
  z2 := Tryd.sizeOf2
  v2 := Tryd.zeroValue2
  t3 := Tryd.underlying3
  a3 := Tryd.isAgg3
  z3 := Tryd.sizeOf3
  v3 := Tryd.zeroValue3
  t4 := Tryd.underlying4
  a4 := Tryd.isAgg4
  z4 := Tryd.sizeOf4
  v4 := Tryd.zeroValue4
  t5 := Tryd.underlying5
  a5 := Tryd.isAgg5
  z5 := Tryd.sizeOf5
  v5 := Tryd.zeroValue5
  t9 := Tryd.underlying9
  a9 := Tryd.isAgg9
  z9 := Tryd.sizeOf9
  v9 := Tryd.zeroValue9
  t20 := Tryd.underlying20
  a20 := Tryd.isAgg20
  z20 := Tryd.sizeOf20
  v20 := Tryd.zeroValue20
  t37 := Tryd.underlying54
  a37 := Tryd.isAgg54
  z37 := Tryd.sizeOf54
  v37 := Tryd.zeroValue54
  t46 := Tryd.underlying108
  a46 := Tryd.isAgg108
  z46 := Tryd.sizeOf108
  v46 := Tryd.zeroValue108
  t51 := Tryd.underlying106
  a51 := Tryd.isAgg106
  z51 := Tryd.sizeOf106
  v51 := Tryd.zeroValue106
  t53 := Tryd.underlying82
  a53 := Tryd.isAgg82
  z53 := Tryd.sizeOf82
  v53 := Tryd.zeroValue82
  t171 := Tryd.underlying98
  a171 := Tryd.isAgg98
  z171 := Tryd.sizeOf98
  v171 := Tryd.zeroValue98
  t173 := Tryd.underlying101
  a173 := Tryd.isAgg101
  z173 := Tryd.sizeOf101
  v173 := Tryd.zeroValue101
  t212 := Tryd.underlying105
  a212 := Tryd.isAgg105
  z212 := Tryd.sizeOf105
  v212 := Tryd.zeroValue105
  t213 := Tryd.underlying107
  a213 := Tryd.isAgg107
  z213 := Tryd.sizeOf107
  t232 := Tryd.underlying111
  a232 := Tryd.isAgg111
  z232 := Tryd.sizeOf111
  v232 := Tryd.zeroValue111
  t233 := Tryd.underlying112
  a233 := Tryd.isAgg112
  z233 := Tryd.sizeOf112
  v233 := Tryd.zeroValue112
  g17 := by kernel_rfl
  g18 := by kernel_rfl
  g19 := by kernel_rfl
  i0 := by kernel_rfl
  i2 := by kernel_rfl
  i3 := by kernel_rfl
  i4 := by kernel_rfl
  i5 := by kernel_rfl
  i9 := by kernel_rfl
  i20 := by kernel_rfl
  i37 := by kernel_rfl
  i46 := by kernel_rfl
  i51 := by kernel_rfl
  i53 := by kernel_rfl
  i171 := by kernel_rfl
  i173 := by kernel_rfl
  i212 := by kernel_rfl
  i232 := by kernel_rfl
  i233 := by kernel_rfl
  m17 := by kernel_rfl
  m18 := by kernel_rfl
  m19 := by kernel_rfl }
theorem grow_below (w : World) (k : Nat) (os : Array Obj) : Below w.heap.size w (Sort.grow (w.drewN k) os) :=
  ⟨rfl, rfl, rfl, by simp [Sort.grow], fun j hj => by
    show (w.heap ++ os)[j]? = w.heap[j]?
    rw [Array.getElem?_append_left hj]⟩
theorem itoa_ok (n : Int) (h0 : -9223372036854775808 ≤ n) (h1 : n ≤ 9223372036854775807) (w : World) (htab : Lib.TabIs Tryd.prog w "internal/strconv.uint64pow10" .u64 Lib.pow10Tab) :
    Calls Tryd.prog 30 #[.int .i64 n] w fun e w' => e = .returned (.string ⟨(Lib.itoa n).toArray⟩) ∧ Below w.heap.size w w' := by
  refine (Any.strconv_Itoa itoL n h0 h1 w htab).mono ?_
  rintro e w' ⟨rfl, k, os, rfl⟩
  exact ⟨rfl, grow_below w k os⟩
/-- A type's text. -/
def txtT (t : Int) : ByteArray :=
  if t = 0 then ⟨#[110, 111, 110, 101]⟩ else if t = 1 then ⟨#[105, 110, 116]⟩ else if t = 2 then ⟨#[110, 117, 108, 108]⟩ else if t = 3 then ⟨#[105, 110, 116, 115]⟩ else if t = 4 then ⟨#[114, 101, 102, 115]⟩
  else if 16 ≤ t then (⟨#[99, 108, 97, 115, 115, 32]⟩ : ByteArray) ++ ⟨(Lib.decDigits (t - 16).toNat).toArray⟩ else ⟨#[63]⟩
theorem dig_str (x : Nat) : strOfNums (dig x) = ⟨(Lib.decDigits x).toArray⟩ := by
  unfold strOfNums dig
  simp [Function.comp_def]
set_option maxHeartbeats 2000000 in
set_option maxRecDepth 20000 in
theorem typtext_ok (t : Int) (h1 : t ≤ 9223372036854775807) (w : World) (htab : Lib.TabIs Tryd.prog w "internal/strconv.uint64pow10" .u64 Lib.pow10Tab) : Calls Tryd.prog 8 #[.int .i64 t] w fun e w' => e = .returned (.string (txtT t)) ∧ Below w.heap.size w w' := by
  by_cases c0 : t = 0
  · subst c0
    go_enter Tryd.func8, Tryd.ntmps8
    go_wp2_with (fail)
    go_ret
    exact ⟨rfl, Below.refl _ _⟩
  by_cases c1 : t = 1
  · subst c1
    go_enter Tryd.func8, Tryd.ntmps8
    go_wp2_with (fail)
    go_ret
    exact ⟨rfl, Below.refl _ _⟩
  by_cases c2 : t = 2
  · subst c2
    go_enter Tryd.func8, Tryd.ntmps8
    go_wp2_with (fail)
    go_ret
    exact ⟨rfl, Below.refl _ _⟩
  by_cases c3 : t = 3
  · subst c3
    go_enter Tryd.func8, Tryd.ntmps8
    go_wp2_with (fail)
    go_ret
    exact ⟨rfl, Below.refl _ _⟩
  by_cases c4 : t = 4
  · subst c4
    go_enter Tryd.func8, Tryd.ntmps8
    go_wp2_with (fail)
    go_ret
    exact ⟨rfl, Below.refl _ _⟩
  have e0 : (t == 0) = false := by simp [c0]
  have e1 : (t == 1) = false := by simp [c1]
  have e2 : (t == 2) = false := by simp [c2]
  have e3 : (t == 3) = false := by simp [c3]
  have e4 : (t == 4) = false := by simp [c4]
  by_cases h16 : 16 ≤ t
  · have hr : txtT t = (⟨#[99, 108, 97, 115, 115, 32]⟩ : ByteArray) ++ ⟨(Lib.itoa (t - 16)).toArray⟩ := by
      unfold txtT Lib.itoa
      rw [if_neg c0, if_neg c1, if_neg c2, if_neg c3, if_neg c4, if_pos h16, if_neg (show ¬ t - 16 < 0 by omega)]
    rw [hr]
    have hI := itoa_ok (t - 16) (by omega) (by omega) w htab
    have d16 : decide (t < 16) = false := by simp; omega
    have hw : wrap64 (t - 16) = t - 16 := by unfold wrap64; omega
    have hZ : ¬ 9223372036854775807 < 6 + (⟨(Lib.itoa (t - 16)).toArray⟩ : ByteArray).size := by
      have := Lib.itoa_length_le (t - 16) (by omega) (by omega)
      simp only [ByteArray.size, List.size_toArray]; omega
    generalize (⟨(Lib.itoa (t - 16)).toArray⟩ : ByteArray) = Z at *
    clear hr c0 c1 c2 c3 c4 h16 htab h1
    go_enter Tryd.func8, Tryd.ntmps8
    go_wp2_with (go_at_call 30; refine hI.mono ?_; rintro e u1 ⟨rfl, hb⟩; have HB : Hid (Below w.heap.size w u1) := hb; clear hI hb)
    go_ret
    exact ⟨rfl, HB.out⟩
  · have hr : txtT t = ⟨#[63]⟩ := by
      unfold txtT
      rw [if_neg c0, if_neg c1, if_neg c2, if_neg c3, if_neg c4, if_neg h16]
    rw [hr]
    have d16 : decide (t < 16) = true := by simp; omega
    clear hr c0 c1 c2 c3 c4 h16 htab h1
    go_enter Tryd.func8, Tryd.ntmps8
    go_wp2_with (fail)
    go_ret
    exact ⟨rfl, Below.refl _ _⟩
set_option maxHeartbeats 2000000 in
set_option maxRecDepth 20000 in
theorem doctext_ok (t : Int) (h1 : t ≤ 9223372036854775807) (w : World) : Calls Tryd.prog 9 #[.int .i64 t] w fun e w' => e = .returned (.string (txtT t)) ∧ Below w.heap.size w w' := by
  by_cases c0 : t = 0
  · subst c0
    go_enter Tryd.func9, Tryd.ntmps9
    go_wp2_with (fail)
    go_ret
    exact ⟨rfl, Below.refl _ _⟩
  by_cases c1 : t = 1
  · subst c1
    go_enter Tryd.func9, Tryd.ntmps9
    go_wp2_with (fail)
    go_ret
    exact ⟨rfl, Below.refl _ _⟩
  by_cases c2 : t = 2
  · subst c2
    go_enter Tryd.func9, Tryd.ntmps9
    go_wp2_with (fail)
    go_ret
    exact ⟨rfl, Below.refl _ _⟩
  by_cases c3 : t = 3
  · subst c3
    go_enter Tryd.func9, Tryd.ntmps9
    go_wp2_with (fail)
    go_ret
    exact ⟨rfl, Below.refl _ _⟩
  by_cases c4 : t = 4
  · subst c4
    go_enter Tryd.func9, Tryd.ntmps9
    go_wp2_with (fail)
    go_ret
    exact ⟨rfl, Below.refl _ _⟩
  have e0 : (t == 0) = false := by simp [c0]
  have e1 : (t == 1) = false := by simp [c1]
  have e2 : (t == 2) = false := by simp [c2]
  have e3 : (t == 3) = false := by simp [c3]
  have e4 : (t == 4) = false := by simp [c4]
  by_cases h16 : 16 ≤ t
  · obtain ⟨q, hq⟩ : ∃ q : Nat, t - 16 = (q : Int) := ⟨(t - 16).toNat, by omega⟩
    have hr : txtT t = (⟨#[99, 108, 97, 115, 115, 32]⟩ : ByteArray) ++ ⟨(Lib.decDigits q).toArray⟩ := by
      unfold txtT
      rw [if_neg c0, if_neg c1, if_neg c2, if_neg c3, if_neg c4, if_pos h16, show (t - 16).toNat = q by omega]
    rw [hr]
    have hI := dec_ok q (by omega) w
    rw [dig_str, ← hq] at hI
    have d16 : decide (16 ≤ t) = true := by simp [h16]
    have hw : wrap64 (t - 16) = t - 16 := by unfold wrap64; omega
    have hZ : ¬ 9223372036854775807 < 6 + (⟨(Lib.decDigits q).toArray⟩ : ByteArray).size := by
      have h9 := Lib.itoa_length_le (q : Int) (by omega) (by omega)
      rw [show Lib.itoa (q : Int) = Lib.decDigits q by unfold Lib.itoa; rw [if_neg (by omega)]; simp] at h9
      simp only [ByteArray.size, List.size_toArray]; omega
    generalize (⟨(Lib.decDigits q).toArray⟩ : ByteArray) = Z at *
    clear hr c0 c1 c2 c3 c4 h16 h1 hq
    go_enter Tryd.func9, Tryd.ntmps9
    go_wp2_with (go_at_call 31; refine hI.mono ?_; rintro e u1 ⟨rfl, hb⟩; have HB : Hid (Below w.heap.size w u1) := hb; clear hI hb)
    go_ret
    exact ⟨rfl, HB.out⟩
  · have hr : txtT t = ⟨#[63]⟩ := by
      unfold txtT
      rw [if_neg c0, if_neg c1, if_neg c2, if_neg c3, if_neg c4, if_neg h16]
    rw [hr]
    have d16 : decide (16 ≤ t) = false := by simp; omega
    clear hr c0 c1 c2 c3 c4 h16 h1
    go_enter Tryd.func9, Tryd.ntmps9
    go_wp2_with (fail)
    go_ret
    exact ⟨rfl, Below.refl _ _⟩
end Go.Proofs.YtdgndglinkcdbaaDoor
