/- The program's own Load: signatures. -/
import Derived.Test.YtbdfpodglfpjnaaGreatMQSg2
import Derived.Sort.Grow
import Derived.Lib.Bytealg
import Derived.Lib.Strings
import Derived.Lib.Walk
import Derived.Deep.RegionHeld3
namespace Go.Proofs.YtbdfpodglfpjnaaGreat
open Go.RowKit

structure Lys (u u' : World) : Prop where
  bl : Below u.heap.size u u'
  dr : u.drawn ≤ u'.drawn
theorem Lys.refl (u : World) : Lys u u := ⟨Below.refl _ _, Nat.le_refl _⟩
theorem Lys.trans {a b c : World} (h : Lys a b) (k : Lys b c) : Lys a c := ⟨h.bl.trans (k.bl.mono h.bl.size), Nat.le_trans h.dr k.dr⟩
theorem Lys.alloc {a b : World} (h : Lys a b) (o : Obj) : Lys a (b.alloc o) := ⟨h.bl.alloc h.bl.size o, h.dr⟩
theorem Lys.drew {a b : World} (h : Lys a b) : Lys a b.drew := ⟨h.bl.drew, Nat.le_succ_of_le h.dr⟩
theorem Lys.drewN {a b : World} (h : Lys a b) (n : Nat) : Lys a (b.drewN n) := ⟨⟨h.bl.os, h.bl.tape, h.bl.output, h.bl.size, h.bl.block⟩, Nat.le_trans h.dr (Nat.le_add_right _ _)⟩
theorem Lys.setRow {a b : World} (h : Lys a b) {k : Nat} (hk : a.heap.size ≤ k) (row : Array Value) : Lys a (b.setRow k row) :=
  ⟨⟨h.bl.os, h.bl.tape, h.bl.output, by rw [size_setRow]; exact h.bl.size, fun j hj => by rw [setRow_other _ _ _ _ (show j ≠ k by omega)]; exact h.bl.block j hj⟩, h.dr⟩
theorem Lys.grow {u u' : World} (h : Lys u u') : ∃ q os, u' = Go.Sort.grow (u.drewN q) os := by
  refine ⟨u'.drawn - u.drawn, u'.heap.extract u.heap.size u'.heap.size, ?_⟩
  have hz := h.bl.size
  have he : u'.heap = u.heap ++ u'.heap.extract u.heap.size u'.heap.size := by
    apply Array.ext_getElem?
    intro i
    rw [Array.getElem?_append]
    split
    · rename_i hi; exact h.bl.block i hi
    · rename_i hi
      rw [Array.getElem?_extract]
      by_cases hl : i < u'.heap.size
      · rw [if_pos (by omega), show u.heap.size + (i - u.heap.size) = i by omega]
      · rw [if_neg (by omega), Array.getElem?_eq_none (by omega)]
  have hd : u'.drawn = u.drawn + (u'.drawn - u.drawn) := by have := h.dr; omega
  have h1 := h.bl.os
  have h2 := h.bl.tape
  have h3 := h.bl.output
  cases u'
  cases u
  simp only [Go.Sort.grow, World.drewN] at *
  subst h1 h2 h3
  congr 1
end Go.Proofs.YtbdfpodglfpjnaaGreat
namespace Go.Proofs.YtbdfpodglfpjnaaGreat
open Go.RowKit

def cmpS (a b : ByteArray) : Int := Lib.compareBytes a.data.toList b.data.toList
def cmpI (x y : Int) : Int := if x < y then -1 else if y < x then 1 else 0
def cmpL : List Int → List Int → Int
  | [], [] => 0
  | [], _ :: _ => -1
  | _ :: _, [] => 1
  | x :: xs, y :: ys => if cmpI x y = 0 then cmpL xs ys else cmpI x y
/-- A signature. -/
structure Sg where
  nm : ByteArray
  args : List Int
  ret : Int
def sgC (a b : Sg) : Int := if eqB a.nm b.nm then (if a.ret = b.ret then cmpL a.args b.args else cmpI a.ret b.ret) else cmpS a.nm b.nm
set_option maxRecDepth 20000 in
theorem cmpS_ok0 (a b : ByteArray) (w : World) : Calls Tryz.prog 81 #[.string a, .string b] w fun e w' => e = .returned (.int .i64 (cmpS a b)) ∧ w' = w := by
  go_enter Tryz.func81, Tryz.ntmps81
  go_wp2
  rw [run_callFunc_extern Tryz.func93 (by kernel_rfl) (by kernel_rfl) (by kernel_rfl) (e := Extern.BytealgCompare.compare) (by kernel_rfl), Lib.run_compareString]
  simp only [Result.andThen]
  rw [Oper.upon_value]
  go_wp2
  go_ret
  exact ⟨rfl, rfl⟩
theorem cmpS_ok (a b : ByteArray) (w : World) : Calls Tryz.prog 61 #[.string a, .string b] w fun e w' => e = .returned (.int .i64 (cmpS a b)) ∧ w' = w := by
  go_enter Tryz.func61, Tryz.ntmps61
  go_wp2_with (go_at_call 81; refine (cmpS_ok0 a b _).mono ?_; rintro e w9 ⟨rfl, hw9⟩; replace hw9 := hw9.symm; subst hw9)
  go_ret
  exact ⟨rfl, rfl⟩
theorem nan_ok (x : Int) (w : World) : Calls Tryz.prog 91 #[.int .i64 x] w fun e w' => e = .returned (.bool false) ∧ w' = w := by
  have h : (x != x) = false := by simp
  go_enter Tryz.func91, Tryz.ntmps91
  go_wp2
  go_ret
  exact ⟨by first | rfl | simp, rfl⟩
set_option maxRecDepth 20000 in
theorem cmpI_ok (x y : Int) (w : World) : Calls Tryz.prog 72 #[.int .i64 x, .int .i64 y] w fun e w' => e = .returned (.int .i64 (cmpI x y)) ∧ w' = w := by
  by_cases h1 : x < y
  · rw [show cmpI x y = -1 by simp [cmpI, h1]]
    go_enter Tryz.func72, Tryz.ntmps72
    go_wp2_with (go_at_call 91; refine (nan_ok _ w).mono ?_; rintro e w9 ⟨rfl, hw9⟩; replace hw9 := hw9.symm; subst hw9)
    go_ret
    exact ⟨rfl, rfl⟩
  · by_cases h2 : y < x
    · rw [show cmpI x y = 1 by simp [cmpI, h1, h2]]
      go_enter Tryz.func72, Tryz.ntmps72
      go_wp2_with (go_at_call 91; refine (nan_ok _ w).mono ?_; rintro e w9 ⟨rfl, hw9⟩; replace hw9 := hw9.symm; subst hw9)
      go_ret
      exact ⟨rfl, rfl⟩
    · rw [show cmpI x y = 0 by simp [cmpI, h1, h2]]
      go_enter Tryz.func72, Tryz.ntmps72
      go_wp2_with (go_at_call 91; refine (nan_ok _ w).mono ?_; rintro e w9 ⟨rfl, hw9⟩; replace hw9 := hw9.symm; subst hw9)
      go_ret
      exact ⟨rfl, rfl⟩
theorem cmpL_drop {xs ys : List Int} {i : Nat} {x y : Int} (hx : xs[i]? = some x) (hy : ys[i]? = some y) : cmpL (xs.drop i) (ys.drop i) = if cmpI x y = 0 then cmpL (xs.drop (i + 1)) (ys.drop (i + 1)) else cmpI x y := by
  obtain ⟨h1, e1⟩ := List.getElem?_eq_some_iff.1 hx
  obtain ⟨h2, e2⟩ := List.getElem?_eq_some_iff.1 hy
  rw [List.drop_eq_getElem_cons h1, List.drop_eq_getElem_cons h2, e1, e2]; rfl
set_option maxHeartbeats 2000000 in
set_option maxRecDepth 20000 in
theorem cmpL_ok {w : World} {Sa Sb : Nat → Prop} {va vb : Value} {xs ys : List Int} (hA : Sl kI w Sa va xs) (hB : Sl kI w Sb vb ys) : Calls Tryz.prog 73 #[va, vb] w fun e w' => e = .returned (.int .i64 (cmpL xs ys)) ∧ w' = w := by
  have hA2 := hA
  have hB2 := hB
  obtain ⟨aa, ca, rfl, hmx, -⟩ := hA2
  obtain ⟨ab, cb, rfl, -, -⟩ := hB2
  unfold maxLen at hmx
  have HC : Hid (∀ i x, xs[i]? = some x → ∃ b o, aa = some ⟨b, o, none⟩ ∧ w.cell? ⟨b, o + i, none⟩ = some (.int .i64 x)) := fun i x hx => by
    obtain ⟨b1, o1, e1, cs1, r1, k1⟩ := hA.at_ hx
    obtain rfl := r1
    have a0 := k1 0 _ rfl
    rw [show o1 + (i * kI.k + 0) = o1 + i by show o1 + (i * 1 + 0) = o1 + i; omega] at a0
    exact ⟨b1, o1, e1, a0⟩
  have HD : Hid (∀ i x, ys[i]? = some x → ∃ b o, ab = some ⟨b, o, none⟩ ∧ w.cell? ⟨b, o + i, none⟩ = some (.int .i64 x)) := fun i x hx => by
    obtain ⟨b1, o1, e1, cs1, r1, k1⟩ := hB.at_ hx
    obtain rfl := r1
    have a0 := k1 0 _ rfl
    rw [show o1 + (i * kI.k + 0) = o1 + i by show o1 + (i * 1 + 0) = o1 + i; omega] at a0
    exact ⟨b1, o1, e1, a0⟩
  obtain ⟨R, hR⟩ : ∃ R, cmpL xs ys = R := ⟨_, rfl⟩
  have HR0 : Hid (cmpL (xs.drop 0) (ys.drop 0) = R) := by show cmpL _ _ = R; simpa using hR
  rw [hR]
  clear hR hA hB
  go_enter Tryz.func73, Tryz.ntmps73
  go_wp2
  go_loopw [5, 6, 7, 8, 11] (fun s5 s6 s7 s8 s11 wr => ∃ i : Nat, s11 = .int .i64 i ∧ i ≤ xs.length ∧ i ≤ ys.length ∧ Hid (wr = w) ∧ Hid (cmpL (xs.drop i) (ys.drop i) = R)) (fun _ _ _ _ s11 _ => xs.length - (intOf s11).toNat)
  case atStart => exact ⟨0, rfl, by omega, by omega, rfl, HR0.out⟩
  case round =>
    obtain ⟨i, rfl, hi, hj, HW, HR⟩ := hrel
    have hww := HW.out
    subst hww
    clear HR0
    by_cases hlt : i < xs.length
    · obtain ⟨x, hx⟩ : ∃ x, xs[i]? = some x := ⟨_, List.getElem?_eq_getElem hlt⟩
      obtain ⟨pa, oa, rfl, a0⟩ := HC.out i x hx
      have hl1 : (i : Int) < (xs.length : Int) := by omega
      by_cases hlt2 : i < ys.length
      · obtain ⟨y, hy⟩ : ∃ y, ys[i]? = some y := ⟨_, List.getElem?_eq_getElem hlt2⟩
        obtain ⟨pb, ob, rfl, b0⟩ := HD.out i y hy
        have hl2 : (i : Int) < (ys.length : Int) := by omega
        have hl3 : ¬ ys.length ≤ i := by omega
        have hC := cmpI_ok x y wr
        have hd := cmpL_drop hx hy
        rw [HR.out] at hd
        by_cases hc : cmpI x y = 0
        · rw [if_pos hc] at hd
          rw [hc] at hC
          have HD' : Hid (cmpL (xs.drop (i + 1)) (ys.drop (i + 1)) = R) := hd.symm
          clear hx hy hd hc HC HD
          go_wp2_with (go_at_call 72; refine hC.mono ?_; rintro e w9 ⟨rfl, hw9⟩; replace hw9 := hw9.symm; subst hw9)
          go_roundw
          case measure => simp only [intOf]; omega
          case rel => exact ⟨i + 1, by go_num, by omega, by omega, (by first | exact rfl | exact trivial), HD'.out⟩
        · rw [if_neg hc] at hd
          have hne : (cmpI x y != 0) = true := by simp [hc]
          rw [← hd] at hC hne
          clear hx hy hc hd HC HD HR
          go_wp2_with (go_at_call 72; refine hC.mono ?_; rintro e w9 ⟨rfl, hw9⟩; replace hw9 := hw9.symm; subst hw9)
          go_ret
          exact ⟨rfl, rfl⟩
      · have hn : i = ys.length := by omega
        have hr : R = 1 := by
          have := HR.out
          rw [← this, hn, List.drop_length, List.drop_eq_getElem_cons (by omega)]; rfl
        subst hr
        subst hn
        clear hx HC HD hlt2 HR hi hj
        go_wp2
        go_ret
        exact ⟨rfl, rfl⟩
    · have hn : i = xs.length := by omega
      have hl1 : ¬ (i : Int) < (xs.length : Int) := by omega
      by_cases h2 : xs.length < ys.length
      · have hr : R = -1 := by
          have := HR.out
          rw [← this, hn, List.drop_length, List.drop_eq_getElem_cons (by omega)]; rfl
        subst hr
        subst hn
        clear HC HD HR hi hj
        go_wp2
        go_ret
        exact ⟨rfl, rfl⟩
      · have hr : R = 0 := by
          have := HR.out
          rw [← this, hn, List.drop_length, show xs.length = ys.length by omega, List.drop_length]; rfl
        subst hr
        subst hn
        clear HC HD HR hi hj
        go_wp2
        go_ret
        exact ⟨rfl, rfl⟩
end Go.Proofs.YtbdfpodglfpjnaaGreat
namespace Go.Proofs.YtbdfpodglfpjnaaGreat
open Go.RowKit

set_option maxRecDepth 20000 in
theorem infoSg : (Tryz.prog.info? 70).map (·.size) = some 3 := by kernel_rfl
set_option maxHeartbeats 1000000 in
set_option maxRecDepth 20000 in
theorem ofm_ok (nm : ByteArray) (stc : Bool) (p1 p2 p3 p4 : Option Addr) (n1 n2 n3 n4 c1 c2 c3 c4 : Nat) (ret lo st : Int) (u : World) : Calls Tryz.prog 63 #[.agg #[.string nm, .bool stc, .slice p1 n1 c1, .int .i64 ret, .int .i64 lo, .int .i64 st, .slice p2 n2 c2, .slice p3 n3 c3, .slice p4 n4 c4]] u fun e u' => e = .returned (.agg #[.string nm, .slice p1 n1 c1, .int .i64 ret]) ∧ Lys u u' := by
  have hz : (u.alloc (.cells #[.string nm, .bool stc, .slice p1 n1 c1, .int .i64 ret, .int .i64 lo, .int .i64 st, .slice p2 n2 c2, .slice p3 n3 c3, .slice p4 n4 c4] 39)).heap.size = u.heap.size + 1 := by simp
  have hN := heap_alloc_new (u.alloc (.cells #[.string nm, .bool stc, .slice p1 n1 c1, .int .i64 ret, .int .i64 lo, .int .i64 st, .slice p2 n2 c2, .slice p3 n3 c3, .slice p4 n4 c4] 39)) (.cells #[.string nm, .slice p1 n1 c1, .int .i64 ret] 70)
  rw [hz] at hN
  have HN : Hid _ := hN
  have HL : Hid (Lys u ((u.alloc (.cells #[.string nm, .bool stc, .slice p1 n1 c1, .int .i64 ret, .int .i64 lo, .int .i64 st, .slice p2 n2 c2, .slice p3 n3 c3, .slice p4 n4 c4] 39)).alloc (.cells #[.string nm, .slice p1 n1 c1, .int .i64 ret] 70))) := ((Lys.refl u).alloc _).alloc _
  clear hz hN
  go_enter Tryz.func63, Tryz.ntmps63
  go_wp2
  refine bodyPost_ret (results_cell_row rfl _ _ (u.heap.size + 1) 70 #[.string nm, .slice p1 n1 c1, .int .i64 ret] (0, 0) _ rfl HN.out Tryz.underlying70 rfl infoSg) rfl ?_
  exact ⟨rfl, HL.out⟩
set_option maxHeartbeats 1000000 in
set_option maxRecDepth 20000 in
theorem ofe_ok (nm : ByteArray) (p1 : Option Addr) (n1 c1 : Nat) (ret cl me : Int) (u : World) : Calls Tryz.prog 44 #[.agg #[.string nm, .slice p1 n1 c1, .int .i64 ret, .int .i64 cl, .int .i64 me]] u fun e u' => e = .returned (.agg #[.string nm, .slice p1 n1 c1, .int .i64 ret]) ∧ Lys u u' := by
  have hz : (u.alloc (.cells #[.string nm, .slice p1 n1 c1, .int .i64 ret, .int .i64 cl, .int .i64 me] 72)).heap.size = u.heap.size + 1 := by simp
  have hN := heap_alloc_new (u.alloc (.cells #[.string nm, .slice p1 n1 c1, .int .i64 ret, .int .i64 cl, .int .i64 me] 72)) (.cells #[.string nm, .slice p1 n1 c1, .int .i64 ret] 70)
  rw [hz] at hN
  have HN : Hid _ := hN
  have HL : Hid (Lys u ((u.alloc (.cells #[.string nm, .slice p1 n1 c1, .int .i64 ret, .int .i64 cl, .int .i64 me] 72)).alloc (.cells #[.string nm, .slice p1 n1 c1, .int .i64 ret] 70))) := ((Lys.refl u).alloc _).alloc _
  clear hz hN
  go_enter Tryz.func44, Tryz.ntmps44
  go_wp2
  refine bodyPost_ret (results_cell_row rfl _ _ (u.heap.size + 1) 70 #[.string nm, .slice p1 n1 c1, .int .i64 ret] (0, 0) _ rfl HN.out Tryz.underlying70 rfl infoSg) rfl ?_
  exact ⟨rfl, HL.out⟩
set_option maxHeartbeats 2000000 in
set_option maxRecDepth 20000 in
theorem sgc_ok {u : World} {Sa Sb : Nat → Prop} {a b : Sg} {va vb : Value} (hA : Sl kI u Sa va a.args) (hB : Sl kI u Sb vb b.args) (la : ∀ k, Sa k → k < u.heap.size) (lb : ∀ k, Sb k → k < u.heap.size) : Calls Tryz.prog 45 #[.agg #[.string a.nm, va, .int .i64 a.ret], .agg #[.string b.nm, vb, .int .i64 b.ret]] u fun e u' => e = .returned (.int .i64 (sgC a b)) ∧ Lys u u' := by
  have HL : Hid (Lys u ((u.alloc (.cells #[.string a.nm, va, .int .i64 a.ret] 70)).alloc (.cells #[.string b.nm, vb, .int .i64 b.ret] 70))) := ((Lys.refl u).alloc _).alloc _
  have hI := cmpL_ok (hA.keep (w' := (u.alloc (.cells #[.string a.nm, va, .int .i64 a.ret] 70)).alloc (.cells #[.string b.nm, vb, .int .i64 b.ret] 70)) fun k q => HL.out.bl.block k (la k q)) (hB.keep fun k q => HL.out.bl.block k (lb k q))
  have hS := cmpS_ok a.nm b.nm ((u.alloc (.cells #[.string a.nm, va, .int .i64 a.ret] 70)).alloc (.cells #[.string b.nm, vb, .int .i64 b.ret] 70))
  have hR := cmpI_ok a.ret b.ret ((u.alloc (.cells #[.string a.nm, va, .int .i64 a.ret] 70)).alloc (.cells #[.string b.nm, vb, .int .i64 b.ret] 70))
  obtain ⟨pa, ca, rfl, -⟩ := hA
  obtain ⟨pb, cb, rfl, -⟩ := hB
  have hT := eqB_list a.nm b.nm
  have hT2 : (a.nm.toList != b.nm.toList) = !eqB a.nm b.nm := by rw [← hT]; rfl
  rcases hE : eqB a.nm b.nm with _ | _
  · rw [hE] at hT hT2
    rw [show sgC a b = cmpS a.nm b.nm by simp [sgC, hE]]
    simp only [Bool.not_false] at hT2
    clear hI hR la lb hE
    generalize cmpS a.nm b.nm = C at *
    go_enter Tryz.func45, Tryz.ntmps45
    go_wp2_with (go_at_call 61; refine hS.mono ?_; rintro e w9 ⟨rfl, hw9⟩; replace hw9 := hw9.symm; subst hw9)
    go_ret
    exact ⟨rfl, HL.out⟩
  · rw [hE] at hT hT2
    simp only [Bool.not_true] at hT2
    by_cases hr : a.ret = b.ret
    · rw [show sgC a b = cmpL a.args b.args by simp [sgC, hE, hr]]
      have hr1 : (a.ret != b.ret) = false := by simp [hr]
      clear hS hR la lb hE hr
      generalize cmpL a.args b.args = C at *
      go_enter Tryz.func45, Tryz.ntmps45
      go_wp2_with (go_at_call 73; refine hI.mono ?_; rintro e w9 ⟨rfl, hw9⟩; replace hw9 := hw9.symm; subst hw9)
      go_ret
      exact ⟨rfl, HL.out⟩
    · rw [show sgC a b = cmpI a.ret b.ret by simp [sgC, hE, hr]]
      have hr1 : (a.ret != b.ret) = true := by simp [hr]
      clear hS hI la lb hE hr
      generalize cmpI a.ret b.ret = C at *
      go_enter Tryz.func45, Tryz.ntmps45
      go_wp2_with (go_at_call 72; refine hR.mono ?_; rintro e w9 ⟨rfl, hw9⟩; replace hw9 := hw9.symm; subst hw9)
      go_ret
      exact ⟨rfl, HL.out⟩
set_option maxHeartbeats 1000000 in
set_option maxRecDepth 20000 in
theorem byName_ok (a b : ByteArray) (x y : Int) (u : World) : Calls Tryz.prog 60 #[.agg #[.string a, .int .i64 x], .agg #[.string b, .int .i64 y]] u fun e u' => e = .returned (.int .i64 (cmpS a b)) ∧ Lys u u' := by
  have HL : Hid (Lys u ((u.alloc (.cells #[.string a, .int .i64 x] 42)).alloc (.cells #[.string b, .int .i64 y] 42))) := ((Lys.refl u).alloc _).alloc _
  have hS := cmpS_ok a b ((u.alloc (.cells #[.string a, .int .i64 x] 42)).alloc (.cells #[.string b, .int .i64 y] 42))
  generalize cmpS a b = C at *
  go_enter Tryz.func60, Tryz.ntmps60
  go_wp2_with (go_at_call 61; refine hS.mono ?_; rintro e w9 ⟨rfl, hw9⟩; replace hw9 := hw9.symm; subst hw9)
  go_ret
  exact ⟨rfl, HL.out⟩
def sgM (m : Md) : Sg := ⟨m.nm, m.args, m.ret⟩
def sgE (e : En) : Sg := ⟨e.nm, e.args, e.ret⟩
end Go.Proofs.YtbdfpodglfpjnaaGreat
