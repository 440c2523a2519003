/- The program's own Load: the fault is caught; Load itself, once layoutsOf has its contract. -/
import Derived.Test.YtbbmgjcabmjjdaaGreatDoorMQLoh
import Derived.Test.YtbbmgjcabmjjdaaGreatDoorMY3
import Derived.Recover
import Derived.Laws.Pointers
import Derived.OwnWalk
namespace Go.Proofs.YtbbmgjcabmjjdaaGreatDoor
open Go.RowKit

theorem layoutsOf_ok {S : Nat → Prop} {p : Pg} {cs : List Value} {w : World} (hS : ∀ k, S k → k < w.heap.size) (hR : kPg.R w S p cs) (hok : Okq p) (hF : HqF) (hM : HqM) (hab : st5 p = (0, 0) → AbQ p) (hLy : HLy p) : Calls Tryz.prog 14 #[.agg cs.toArray] w (LfP p w) := by
  by_cases h1 : (rk1 p).1 = 0
  case neg => exact lof1f hS hR hok h1
  by_cases h2 : (rk2 p).1 = 0
  case neg => exact lof2f hS hR hok h1 h2
  by_cases h3 : (rk3 p).1 = 0
  case neg => exact lof3f hS hR hok h1 h2 h3
  by_cases h4 : (rk4 p).1 = 0
  case neg => exact lof4f hS hR hok h1 h2 h3 h4
  by_cases h5 : (rk5 p).1 = 0
  case neg => exact lof5f hS hR hok hF hM h1 h2 h3 h4 h5
  have h5a : st5 p = (0, 0) := (st5_r5 h1 h2 h3 h4).trans (rk_no (by decide) h5)
  have hab := hab h5a
  by_cases h6 : (rk6 p).1 = 0
  case neg => exact lof6f hS hR hok hF hM h1 h2 h3 h4 h5 h5a hab hLy h6
  by_cases h7 : (rk7 p).1 = 0
  case neg => exact lof7f hS hR hok hF hM h1 h2 h3 h4 h5 h5a hab hLy h6 h7
  rcases h8 : bad8 p with _ | _
  · exact lof9f hS hR hok hF hM h1 h2 h3 h4 h5 h5a hab hLy h6 h7 h8
  · exact lof8f hS hR hok hF hM h1 h2 h3 h4 h5 h5a hab hLy h6 h7 h8
end Go.Proofs.YtbbmgjcabmjjdaaGreatDoor
namespace Go.Proofs.YtbbmgjcabmjjdaaGreatDoor
open Go.RowKit

theorem ta_yes (v : Value) (w : World) : (Instr.typeAssert (.iface 61 v) 20 61 true).run Tryz.prog w = .ok (.tuple #[v, .bool true]) w := by kernel_rfl
theorem ta_nil (w : World) : (Instr.typeAssert .nilIface 20 61 true).run Tryz.prog w = .ok (.tuple #[.agg #[.int .i64 0, .int .i64 0], .bool false]) w := by kernel_rfl
/-- What the deferred closure leaves where a fault is under way. -/
structure CtP (h g : Nat) (q c : Int) (w w' : World) : Prop where
  os : w'.os = w.os
  tape : w'.tape = w.tape
  output : w'.output = w.output
  size : w.heap.size ≤ w'.heap.size
  at_ : w'.heap[h]? = some (.cells #[.int .i64 q] 3 (0, 0))
  code : w'.heap[g]? = some (.cells #[.int .i64 c] 39 (0, 0))
  block : ∀ k, k < w.heap.size → k ≠ h → k ≠ g → w'.heap[k]? = w.heap[k]?
theorem ctp_of {h g : Nat} {q c : Int} {w W : World} (hne : h ≠ g) (hH : W.heap[h]? = some (.cells #[.int .i64 0] 3 (0, 0))) (hG : W.heap[g]? = some (.cells #[.int .i64 0] 39 (0, 0))) (hz : W.heap.size = w.heap.size + 1)
    (hb : ∀ k, k < w.heap.size → W.heap[k]? = w.heap[k]?) (ho : W.os = w.os ∧ W.tape = w.tape ∧ W.output = w.output) : CtP h g q c w ((W.setCell ⟨h, 0, none⟩ (.int .i64 q)).setCell ⟨g, 0, none⟩ (.int .i64 c)).drew := by
  have e1 : (W.setCell ⟨h, 0, none⟩ (.int .i64 q)).heap[g]? = some (.cells #[.int .i64 0] 39 (0, 0)) := by rw [Below.heap_setCell _ _ _ _ (Ne.symm hne)]; exact hG
  refine ⟨ho.1, ho.2.1, ho.2.2, ?_, ?_, ?_, fun k hk h1 h2 => ?_⟩
  · show w.heap.size ≤ ((W.setCell ⟨h, 0, none⟩ (.int .i64 q)).setCell ⟨g, 0, none⟩ (.int .i64 c)).heap.size
    simp only [World.setCell, Array.size_modify]; omega
  · show ((W.setCell ⟨h, 0, none⟩ (.int .i64 q)).setCell ⟨g, 0, none⟩ (.int .i64 c)).heap[h]? = _
    rw [Below.heap_setCell _ _ _ _ hne]; exact hset hH _
  · exact hset e1 _
  · show ((W.setCell ⟨h, 0, none⟩ (.int .i64 q)).setCell ⟨g, 0, none⟩ (.int .i64 c)).heap[k]? = _
    rw [Below.heap_setCell _ _ _ _ h2, Below.heap_setCell _ _ _ _ h1]; exact hb k hk

theorem ctp_of2 {h g : Nat} {q c : Int} {w W : World} (hne : h ≠ g) (hH : W.heap[h]? = some (.cells #[.int .i64 0] 3 (0, 0))) (hG : W.heap[g]? = some (.cells #[.int .i64 0] 39 (0, 0))) (hz : W.heap.size = w.heap.size + 1)
    (hb : ∀ k, k < w.heap.size → W.heap[k]? = w.heap[k]?) (ho : W.os = w.os ∧ W.tape = w.tape ∧ W.output = w.output) : CtP h g q c w ((W.setCell ⟨g, 0, none⟩ (.int .i64 c)).setCell ⟨h, 0, none⟩ (.int .i64 q)).drew := by
  have e1 : (W.setCell ⟨g, 0, none⟩ (.int .i64 c)).heap[h]? = some (.cells #[.int .i64 0] 3 (0, 0)) := by rw [Below.heap_setCell _ _ _ _ hne]; exact hH
  refine ⟨ho.1, ho.2.1, ho.2.2, ?_, ?_, ?_, fun k hk h1 h2 => ?_⟩
  · show w.heap.size ≤ ((W.setCell ⟨g, 0, none⟩ (.int .i64 c)).setCell ⟨h, 0, none⟩ (.int .i64 q)).heap.size
    simp only [World.setCell, Array.size_modify]; omega
  · show ((W.setCell ⟨g, 0, none⟩ (.int .i64 c)).setCell ⟨h, 0, none⟩ (.int .i64 q)).heap[h]? = _
    exact hset e1 _
  · show ((W.setCell ⟨g, 0, none⟩ (.int .i64 c)).setCell ⟨h, 0, none⟩ (.int .i64 q)).heap[g]? = _
    rw [Below.heap_setCell _ _ _ _ (Ne.symm hne)]; exact hset hG _
  · show ((W.setCell ⟨g, 0, none⟩ (.int .i64 c)).setCell ⟨h, 0, none⟩ (.int .i64 q)).heap[k]? = _
    rw [Below.heap_setCell _ _ _ _ h1, Below.heap_setCell _ _ _ _ h2]; exact hb k hk

/-- The deferred closure, where a fault is under way: it lays it into the boxes at blocks h and g. -/
theorem catchL_panicking (h g : Nat) (q c : Int) (w : World) (hne : h ≠ g) (hh : w.heap[h]? = some (.cells #[.int .i64 0] 3 (0, 0))) (hg : w.heap[g]? = some (.cells #[.int .i64 0] 39 (0, 0))) :
    CallsD Tryz.prog 26 #[.pointer (some ⟨h, 0, none⟩), .pointer (some ⟨g, 0, none⟩)] (.panicking [{ v := .iface 61 (.agg #[.int .i64 q, .int .i64 c]), recovered := false }]) w fun e u' w' =>
      e = .returned (.tuple #[]) ∧ u' = .panicking [{ v := .iface 61 (.agg #[.int .i64 q, .int .i64 c]), recovered := true }] ∧ CtP h g q c w w' := by
  have hl : h < w.heap.size := (Array.getElem?_eq_some_iff.1 hh).1
  have gl : g < w.heap.size := (Array.getElem?_eq_some_iff.1 hg).1
  refine callsD_of_wpS Tryz.func26 rfl fun c₀ cs hu => ?_
  apply wpS_seq
  apply wpS_region
  simp [wpOpsS, go_sem, recoverD, hu, Tryz.ntmps26, Exit.thenS, ta_yes]
  apply wpS_seq
  apply wpS_region
  simp [wpOpsS, go_sem, Exit.thenS]
  refine wpS_cond (t := true) (by simp [Act.eval, Array.replicate]) ?_
  simp only [if_true]
  refine wpS_of_wp ?_
  have hH : (w.alloc (.cells #[.int .i64 q, .int .i64 c] 61)).heap[h]? = some (.cells #[.int .i64 0] 3 (0, 0)) := (Below.heap_alloc _ _ _ hl).trans hh
  have hG : (w.alloc (.cells #[.int .i64 q, .int .i64 c] 61)).heap[g]? = some (.cells #[.int .i64 0] 39 (0, 0)) := (Below.heap_alloc _ _ _ gl).trans hg
  have hN := heap_alloc_new w (.cells #[.int .i64 q, .int .i64 c] 61)
  have hz : (w.alloc (.cells #[.int .i64 q, .int .i64 c] 61)).heap.size = w.heap.size + 1 := by simp
  have HB : Hid (∀ k, k < w.heap.size → (w.alloc (.cells #[.int .i64 q, .int .i64 c] 61)).heap[k]? = w.heap[k]?) := fun k hk => Below.heap_alloc _ _ _ hk
  have HO : Hid ((w.alloc (.cells #[.int .i64 q, .int .i64 c] 61)).os = w.os ∧ (w.alloc (.cells #[.int .i64 q, .int .i64 c] 61)).tape = w.tape ∧ (w.alloc (.cells #[.int .i64 q, .int .i64 c] 61)).output = w.output) := ⟨rfl, rfl, rfl⟩
  generalize hW : w.alloc (.cells #[.int .i64 q, .int .i64 c] 61) = W at *
  have c0 : W.cell? ⟨h, 0, none⟩ = some (.int .i64 0) := by simp [World.cell?, hH]
  have c1 : W.cell? ⟨g, 0, none⟩ = some (.int .i64 0) := by simp [World.cell?, hG]
  have f0 : W.frozen? ⟨h, 0, none⟩ = false := by simp [World.frozen?, hH]
  have f1 : W.frozen? ⟨g, 0, none⟩ = false := by simp [World.frozen?, hG]
  have n0 : W.cell? ⟨w.heap.size, 0, none⟩ = some (.int .i64 q) := by simp [World.cell?, hN]
  have n1 : W.cell? ⟨w.heap.size, 1, none⟩ = some (.int .i64 c) := by simp [World.cell?, hN]
  have HH : Hid (W.heap[h]? = some (.cells #[.int .i64 0] 3 (0, 0))) := hH
  have HG : Hid (W.heap[g]? = some (.cells #[.int .i64 0] 39 (0, 0))) := hG
  have HZ : Hid (W.heap.size = w.heap.size + 1) := hz
  have d1 : h ≠ w.heap.size := by omega
  have d2 : g ≠ w.heap.size := by omega
  have l1 : h < W.heap.size := by omega
  have l2 : g < W.heap.size := by omega
  clear hW hH hG hN hh hg hz hl gl
  go_region
  all_goals
    simp [bodyPostS, results, Tryz.results26]
    first | exact ctp_of hne HH.out HG.out HZ.out HB.out HO.out | exact ctp_of2 hne HH.out HG.out HZ.out HB.out HO.out
/-- Where none is: nothing turns but that a box is made. -/
theorem catchL_idle (h g : Nat) (w : World) : CallsD Tryz.prog 26 #[.pointer (some ⟨h, 0, none⟩), .pointer (some ⟨g, 0, none⟩)] .returning w fun e u' w' => e = .returned (.tuple #[]) ∧ u' = .returning ∧ w' = w.alloc (.cells #[.int .i64 0, .int .i64 0] 61) := by
  refine callsD_of_wpS Tryz.func26 rfl fun c₀ cs hu => ?_
  apply wpS_seq
  apply wpS_region
  simp [wpOpsS, go_sem, recoverD, hu, Tryz.ntmps26, Exit.thenS, ta_nil]
  apply wpS_seq
  apply wpS_region
  simp [wpOpsS, go_sem, Exit.thenS]
  refine wpS_cond (t := false) (by simp [Act.eval, Array.replicate]) ?_
  simp only [Bool.false_eq_true, if_false]
  refine wpS_of_wp (wp_skip ?_)
  cases c₀
  simp_all [bodyPostS, results, Tryz.results26]
end Go.Proofs.YtbbmgjcabmjjdaaGreatDoor
namespace Go.Proofs.YtbbmgjcabmjjdaaGreatDoor
open Go.RowKit

/-- What layoutsOf is to answer of p. -/
def HLo (p : Pg) : Prop := ∀ (S : Nat → Prop) (cs : List Value) (w : World), (∀ k, S k → k < w.heap.size) → kPg.R w S p cs → Calls Tryz.prog 14 #[.agg cs.toArray] w (LfP p w)
set_option maxHeartbeats 1000000 in
set_option maxRecDepth 20000 in
theorem lo0_ok {S : Nat → Prop} {p : Pg} {w : World} {pb : Nat} {po : Option Addr} {pc : Nat} (hLo : HLo p) (hS : ∀ k, S k → k < w.heap.size) (hb : w.heap[pb]? = some (.cells #[.int .i64 p.main, .slice po p.cls.length pc] 37 (0, 0))) (hV : Sl kCs w S (.slice po p.cls.length pc) p.cls) : Calls Tryz.prog 13 #[.pointer (some ⟨pb, 0, none⟩)] w (LfP p w) := by
  have hC := hLo S [.int .i64 p.main, .slice po p.cls.length pc] w hS ⟨_, rfl, hV⟩
  have m0 : w.cell? ⟨pb, 0, none⟩ = some (.int .i64 p.main) := bxq_cell hb rfl
  have m1 : w.cell? ⟨pb, 1, none⟩ = some (.slice po p.cls.length pc) := bxq_cell hb rfl
  clear hb hV hS hLo
  rcases hq : loadJ p with ⟨c, q⟩ | ls
  · have HE : Hid (loadJ p = .error (c, q)) := hq
    unfold LfP at hC
    rw [hq] at hC
    clear hq
    go_enter Tryz.func13, Tryz.ntmps13
    go_wp2_with (go_at_call 14; refine hC.mono ?_; rintro e w2 ⟨hb, rfl⟩)
    exact ⟨rfl, LfP.err HE.out hb⟩
  · have HE : Hid (loadJ p = .ok ls) := hq
    unfold LfP at hC
    rw [hq] at hC
    clear hq
    go_enter Tryz.func13, Tryz.ntmps13
    go_wp2_with (go_at_call 14; refine hC.mono ?_; rintro e w2 ⟨hb, vl, rfl, hs⟩; have HB : Hid _ := hb; have HS : Hid _ := hs; obtain ⟨al, cl, rfl, -, -⟩ := hs; clear hC hb)
    go_ret
    exact ⟨HB.out, by rw [HE.out]; exact ⟨_, rfl, HS.out⟩⟩
/-- What Load answers. -/
def LdQ (p : Pg) (w : World) (e : Ending) (w' : World) : Prop := Below w.heap.size w w' ∧ match loadJ p with
  | .ok ls => ∃ vl, e = .returned (.tuple #[vl, .int .i64 0, .int .i64 0]) ∧ Sl kLyU w' (fun k => w.heap.size ≤ k ∧ k < w'.heap.size) vl ls
  | .error s => e = .returned (.tuple #[.slice none 0 0, .int .i64 s.2, .int .i64 s.1])
set_option maxHeartbeats 1000000 in
set_option maxRecDepth 20000 in
theorem caughtL_ok {S : Nat → Prop} {p : Pg} {w : World} {pb : Nat} {po : Option Addr} {pc : Nat} (hLo : HLo p) (hS : ∀ k, S k → k < w.heap.size) (hb : w.heap[pb]? = some (.cells #[.int .i64 p.main, .slice po p.cls.length pc] 37 (0, 0))) (hV : Sl kCs w S (.slice po p.cls.length pc) p.cls) :
    Calls Tryz.prog 12 #[.func (.func 13) #[] #[.pointer (some ⟨pb, 0, none⟩)]] w (LdQ p w) := by
  have hmf : ∀ (fn : Fn) (first cap : Array Value) (w : World), (Instr.makeFunc fn first cap).run Tryz.prog w = .ok (.func fn first cap) w := fun _ _ _ _ => rfl
  have hl : pb < w.heap.size := (Array.getElem?_eq_some_iff.1 hb).1
  have s1 : (w.alloc (.cells #[.int .i64 0] 3)).heap.size = w.heap.size + 1 := by simp
  have xz : ((w.alloc (.cells #[.int .i64 0] 3)).alloc (.cells #[.int .i64 0] 39)).heap.size = w.heap.size + 2 := by simp
  have x1 := heap_alloc_new w (.cells #[.int .i64 0] 3)
  have x2 := heap_alloc_new (w.alloc (.cells #[.int .i64 0] 3)) (.cells #[.int .i64 0] 39)
  rw [s1] at x2
  have x1b : ((w.alloc (.cells #[.int .i64 0] 3)).alloc (.cells #[.int .i64 0] 39)).heap[w.heap.size]? = some (.cells #[.int .i64 0] 3 (0, 0)) := (Below.heap_alloc _ _ _ (by omega)).trans x1
  have xB : Below w.heap.size w ((w.alloc (.cells #[.int .i64 0] 3)).alloc (.cells #[.int .i64 0] 39)) := ((Below.refl _ _).alloc (Nat.le_refl _) _).alloc (by omega) _
  have hC := lo0_ok (S := S) (p := p) (w := (w.alloc (.cells #[.int .i64 0] 3)).alloc (.cells #[.int .i64 0] 39)) (pb := pb) hLo (fun k q => Nat.lt_of_lt_of_le (hS k q) xB.size) ((xB.block _ hl).trans hb) (hV.keep fun b q => xB.block b (hS b q))
  unfold LfP at hC
  have HB : Hid (∀ w2, Below ((w.alloc (.cells #[.int .i64 0] 3)).alloc (.cells #[.int .i64 0] 39)).heap.size ((w.alloc (.cells #[.int .i64 0] 3)).alloc (.cells #[.int .i64 0] 39)) w2 → Below w.heap.size w w2 ∧ w2.heap[w.heap.size]? = some (.cells #[.int .i64 0] 3 (0, 0)) ∧ w2.heap[w.heap.size + 1]? = some (.cells #[.int .i64 0] 39 (0, 0)) ∧ w.heap.size + 2 ≤ w2.heap.size) := fun w2 hb2 =>
    ⟨xB.trans (hb2.mono (by omega)), by rw [hb2.block _ (by omega)]; exact x1b, by rw [hb2.block _ (by omega)]; exact x2, by have := hb2.size; omega⟩
  have HZ : Hid (((w.alloc (.cells #[.int .i64 0] 3)).alloc (.cells #[.int .i64 0] 39)).heap.size = w.heap.size + 2) := xz
  clear x1 x2 x1b xz xB s1 hb hV hS hLo
  rcases hq : loadJ p with ⟨c, q⟩ | ls
  · rw [hq] at hC
    have HE : Hid (loadJ p = .error (c, q)) := hq
    clear hq
    go_enter_defers Tryz.func12, Tryz.ntmps12
    go_wp2_with (go_at_call 13; refine hC.mono ?_; rintro e w2 ⟨hb2, rfl⟩)
    refine leaves_cons (f := 26) (args := #[.pointer (some ⟨w.heap.size, 0, none⟩), .pointer (some ⟨w.heap.size + 1, 0, none⟩)]) (by simp) (by simp [go_sem]) ?_
    obtain ⟨q1, q3, q4, q5⟩ := HB.out w2 hb2
    refine (catchL_panicking w.heap.size (w.heap.size + 1) q c w2 (by omega) q3 q4).mono ?_
    rintro e u' w3 ⟨rfl, rfl, hw3⟩
    have c1 : w3.cell? ⟨w.heap.size, 0, none⟩ = some (.int .i64 q) := by simp [World.cell?, hw3.at_]
    have c2 : w3.cell? ⟨w.heap.size + 1, 0, none⟩ = some (.int .i64 c) := by simp [World.cell?, hw3.code]
    simp [Leaves, settle, results, Tryz.results12, Result.andThen, asAddr, go_sem, c1, c2]
    unfold LdQ
    rw [HE.out]
    exact ⟨q1.trans ⟨hw3.os, hw3.tape, hw3.output, hw3.size, fun k hk => hw3.block k (by have := q1.size; omega) (by omega) (by omega)⟩, rfl⟩
  · rw [hq] at hC
    have HE : Hid (loadJ p = .ok ls) := hq
    clear hq
    go_enter_defers Tryz.func12, Tryz.ntmps12
    go_wp2_with (go_at_call 13; refine hC.mono ?_; rintro e w2 ⟨hb, vl, rfl, hs⟩; have HS : Hid (Sl kLyU w2 (fun k => w.heap.size + 2 ≤ k ∧ k < w2.heap.size) vl ls) := hs.mono (fun k hk => ⟨by have := hk.1; rw [HZ.out] at this; exact this, hk.2⟩); obtain ⟨al, cl, rfl, -, -⟩ := hs; obtain ⟨q1, q3, q4, q5⟩ := HB.out w2 hb; have H1 : Hid _ := q1; have H3 : Hid _ := q3; have H4 : Hid _ := q4; have c3 : w2.cell? ⟨w.heap.size, 0, none⟩ = some (.int .i64 0) := bxq_cell q3 rfl; have c4 : w2.cell? ⟨w.heap.size + 1, 0, none⟩ = some (.int .i64 0) := bxq_cell q4 rfl; have f3 : w2.frozen? ⟨w.heap.size, 0, none⟩ = false := (by simp [World.frozen?, q3]); have f4 : w2.frozen? ⟨w.heap.size + 1, 0, none⟩ = false := (by simp [World.frozen?, q4]); clear hC hb q1 q3 q4)
    refine leaves_cons (f := 26) (args := #[.pointer (some ⟨w.heap.size, 0, none⟩), .pointer (some ⟨w.heap.size + 1, 0, none⟩)]) (by simp) (by simp [go_sem]) ?_
    refine (catchL_idle w.heap.size (w.heap.size + 1) _).mono ?_
    rintro e u' w3 ⟨rfl, rfl, hw3⟩
    have z1 : ((w2.setCell ⟨w.heap.size, 0, none⟩ (.int .i64 0)).setCell ⟨w.heap.size + 1, 0, none⟩ (.int .i64 0)).heap.size = w2.heap.size := by simp [World.setCell]
    have hk : ∀ k, k < w2.heap.size → k ≠ w.heap.size → k ≠ w.heap.size + 1 → w3.heap[k]? = w2.heap[k]? := fun k hk h1 h2 => by
      rw [hw3, Below.heap_alloc _ _ _ (by omega), Below.heap_setCell _ _ _ _ (show k ≠ w.heap.size + 1 by omega), Below.heap_setCell _ _ _ _ h1]
    have hs3 : w3.heap.size = w2.heap.size + 1 := by rw [hw3]; simp [World.setCell]
    have d1 : w3.heap[w.heap.size]? = some (.cells #[.int .i64 0] 3 (0, 0)) := by
      rw [hw3, Below.heap_alloc _ _ _ (by omega), Below.heap_setCell _ _ _ _ (show w.heap.size ≠ w.heap.size + 1 by omega)]; exact hset H3.out _
    have d2 : w3.heap[w.heap.size + 1]? = some (.cells #[.int .i64 0] 39 (0, 0)) := by
      rw [hw3, Below.heap_alloc _ _ _ (by omega)]
      exact hset ((Below.heap_setCell _ _ _ _ (show w.heap.size + 1 ≠ w.heap.size by omega)).trans H4.out) _
    have c1 : w3.cell? ⟨w.heap.size, 0, none⟩ = some (.int .i64 0) := by simp [World.cell?, d1]
    have c2 : w3.cell? ⟨w.heap.size + 1, 0, none⟩ = some (.int .i64 0) := by simp [World.cell?, d2]
    simp [Leaves, settle, results, Tryz.results12, Result.andThen, asAddr, go_sem, c1, c2]
    unfold LdQ
    rw [HE.out]
    have h1 := H1.out
    have hS := h1.size
    have hz2 := HZ.out
    refine ⟨⟨by rw [hw3]; exact h1.os, by rw [hw3]; exact h1.tape, by rw [hw3]; exact h1.output, by omega, fun k q => ?_⟩, _, rfl, (Sl.keep (K := kLyU) (S := fun k => w.heap.size + 2 ≤ k ∧ k < w2.heap.size) (fun k q => hk k q.2 (by have := q.1; omega) (by have := q.1; omega)) HS.out).mono fun k q => ⟨by have := q.1; omega, by have := q.2; omega⟩⟩
    rw [hk k (by omega) (by omega) (by omega)]; exact h1.block k q
set_option maxHeartbeats 2000000 in
set_option maxRecDepth 20000 in
theorem loadQ_ok {S : Nat → Prop} {p : Pg} {cs : List Value} {w : World} (hLo : HLo p) (hS : ∀ k, S k → k < w.heap.size) (hR : kPg.R w S p cs) : Calls Tryz.prog 5 #[.agg cs.toArray] w (LdQ p w) := by
  obtain ⟨y, rfl, hV⟩ := hR
  have hV2 := hV
  obtain ⟨po, pc, rfl, -, -⟩ := hV2
  have xB : Below w.heap.size w (w.alloc (.cells #[.int .i64 p.main, .slice po p.cls.length pc] 37)) := (Below.refl _ _).alloc (Nat.le_refl _) _
  have hC := caughtL_ok (S := S) (p := p) (w := w.alloc (.cells #[.int .i64 p.main, .slice po p.cls.length pc] 37)) (pb := w.heap.size) hLo (fun k q => Nat.lt_of_lt_of_le (hS k q) xB.size) (heap_alloc_new _ _) (hV.keep fun b q => xB.block b (hS b q))
  have HB : Hid _ := xB
  clear hV hS hLo xB
  unfold LdQ at hC
  rcases hq : loadJ p with ⟨c, q⟩ | ls
  · rw [hq] at hC
    have HE : Hid (loadJ p = .error (c, q)) := hq
    clear hq
    go_enter Tryz.func5, Tryz.ntmps5
    go_wp2_with (go_at_call 12; refine hC.mono ?_; rintro e w2 ⟨hb, rfl⟩; have HB2 : Hid (Below w.heap.size w w2) := HB.out.trans (hb.mono HB.out.size); clear hC hb)
    go_ret3
    exact ⟨HB2.out, by rw [HE.out]; rfl⟩
  · rw [hq] at hC
    have HE : Hid (loadJ p = .ok ls) := hq
    clear hq
    go_enter Tryz.func5, Tryz.ntmps5
    go_wp2_with (go_at_call 12; refine hC.mono ?_; rintro e w2 ⟨hb, vl, rfl, hs⟩; have HB2 : Hid (Below w.heap.size w w2) := HB.out.trans (hb.mono HB.out.size); have HS : Hid (Sl kLyU w2 (fun k => w.heap.size ≤ k ∧ k < w2.heap.size) vl ls) := hs.mono (fun k hk => ⟨Nat.le_trans HB.out.size hk.1, hk.2⟩); obtain ⟨al, cl, rfl, -, -⟩ := hs; clear hC hb)
    go_ret3
    exact ⟨HB2.out, by rw [HE.out]; exact ⟨_, rfl, HS.out⟩⟩
end Go.Proofs.YtbbmgjcabmjjdaaGreatDoor
