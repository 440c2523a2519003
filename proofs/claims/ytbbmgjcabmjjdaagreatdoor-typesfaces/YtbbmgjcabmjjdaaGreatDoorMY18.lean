/- The program's own Load: signatures. -/
import Derived.Test.YtbbmgjcabmjjdaaGreatDoorMY17
import Derived.Sort.Grow
import Derived.Lib.Bytealg
import Derived.Lib.Strings
import Derived.Lib.Walk
import Derived.Deep.RegionHeld3
namespace Go.Proofs.YtbbmgjcabmjjdaaGreatDoor
open Go.RowKit

theorem hidQ {p : Prop} (h : p) : Hid p := h
theorem cell_keep {u u' : World} {bx j : Nat} {x : Value} (h : u.cell? ⟨bx, j, none⟩ = some x) (hb : Below u.heap.size u u') : u'.cell? ⟨bx, j, none⟩ = some x := by
  have hl : bx < u.heap.size := by
    apply Nat.lt_of_not_le
    intro hn
    have e : u.heap[bx]? = none := Array.getElem?_eq_none hn
    simp only [World.cell?, e] at h
    cases h
  rw [cell_same (hb.block bx hl)]; exact h
set_option maxHeartbeats 4000000 in
set_option maxRecDepth 20000 in
theorem wsg2_ok {u : World} {S Sm : Nat → Prop} {v : Value} {p : Pg} {bt bc : Nat} {k : Int} (hT : Tb u S v p bt) (hc : u.cell? ⟨bc, 0, none⟩ = some (.int .i64 k)) (hk : isJ p k = true) {m : Md} {cs : List Value} (hR : kMd.R u Sm m cs) (hSm : ∀ k, Sm k → k < u.heap.size) (ho : OqM m) : Calls Tryz.prog 66 #[.agg cs.toArray, .pointer (some ⟨bt, 0, none⟩), .pointer (some ⟨bc, 0, none⟩)] u fun e u' => e = .returned (.bool (badM p (faceJ p k) m)) ∧ Below u.heap.size u u' := by
  have hR0 := hR
  obtain ⟨v1, v2, v3, v4, rfl, q1, q2, q3, q4⟩ := hR
  obtain ⟨p1, c1, rfl, -⟩ := q1
  obtain ⟨p2, c2, rfl, -⟩ := q2
  obtain ⟨p3, c3, rfl, -⟩ := q3
  obtain ⟨p4, c4, rfl, -⟩ := q4
  have hb1 : Below u.heap.size u (u.alloc (.cells #[.string m.nm, .bool m.stc, .slice p1 m.args.length c1, .int .i64 m.ret, .int .i64 m.lo, .int .i64 m.st, .slice p2 m.code.length c2, .slice p3 m.tab.length c3, .slice p4 m.maps.length c4] 30)) := (Below.refl _ _).alloc (Nat.le_refl _) _
  have hN := heap_alloc_new u (.cells #[.string m.nm, .bool m.stc, .slice p1 m.args.length c1, .int .i64 m.ret, .int .i64 m.lo, .int .i64 m.st, .slice p2 m.code.length c2, .slice p3 m.tab.length c3, .slice p4 m.maps.length c4] 30)
  obtain ⟨W, hW⟩ : ∃ W, u.alloc (.cells #[.string m.nm, .bool m.stc, .slice p1 m.args.length c1, .int .i64 m.ret, .int .i64 m.lo, .int .i64 m.st, .slice p2 m.code.length c2, .slice p3 m.tab.length c3, .slice p4 m.maps.length c4] 30) = W := ⟨_, rfl⟩
  rw [hW] at hb1 hN
  have HB : Hid (Below u.heap.size u W) := hb1
  have hTW := hT.go hb1
  have HT : Hid (Tb W S v p bt) := hTW
  have hRW : kMd.R W Sm m [.string m.nm, .bool m.stc, .slice p1 m.args.length c1, .int .i64 m.ret, .int .i64 m.lo, .int .i64 m.st, .slice p2 m.code.length c2, .slice p3 m.tab.length c3, .slice p4 m.maps.length c4] := kMd.keep (fun b hb => hb1.block b (hSm b hb)) hR0
  have hlW : ∀ k, Sm k → k < W.heap.size := fun k q => Nat.lt_of_lt_of_le (hSm k q) hb1.size
  have hC := wsig_ok hTW.tr hTW.lo hRW hlW ho
  have HF : Hid (∀ u1, Below W.heap.size W u1 → Calls Tryz.prog 68 #[.agg #[.string m.nm, .bool m.stc, .slice p1 m.args.length c1, .int .i64 m.ret, .int .i64 m.lo, .int .i64 m.st, .slice p2 m.code.length c2, .slice p3 m.tab.length c3, .slice p4 m.maps.length c4]] u1 fun e u' => e = .returned (.bool (decide (m.lo < needJ m))) ∧ Below u1.heap.size u1 u') := fun u1 hb => few_ok (kMd.keep (fun b q => hb.block b (hlW b q)) hRW) ho.nargs
  have HN : Hid (W.heap[u.heap.size]? = some (.cells #[.string m.nm, .bool m.stc, .slice p1 m.args.length c1, .int .i64 m.ret, .int .i64 m.lo, .int .i64 m.st, .slice p2 m.code.length c2, .slice p3 m.tab.length c3, .slice p4 m.maps.length c4] 30 (0, 0))) := hN
  have b0 := hTW.box
  have HC : Hid (W.cell? ⟨bc, 0, none⟩ = some (.int .i64 k)) := cell_keep hc hb1
  have HK : Hid (isJ p k = true) := hk
  have n0 : W.cell? ⟨u.heap.size, 0, none⟩ = some (.string m.nm) := bxq_cell hN rfl
  have n1 : W.cell? ⟨u.heap.size, 1, none⟩ = some (.bool m.stc) := bxq_cell hN rfl
  have n2 : W.cell? ⟨u.heap.size, 2, none⟩ = some (.slice p1 m.args.length c1) := bxq_cell hN rfl
  have n3 : W.cell? ⟨u.heap.size, 3, none⟩ = some (.int .i64 m.ret) := bxq_cell hN rfl
  have n4 : W.cell? ⟨u.heap.size, 4, none⟩ = some (.int .i64 m.lo) := bxq_cell hN rfl
  have n5 : W.cell? ⟨u.heap.size, 5, none⟩ = some (.int .i64 m.st) := bxq_cell hN rfl
  have n6 : W.cell? ⟨u.heap.size, 6, none⟩ = some (.slice p2 m.code.length c2) := bxq_cell hN rfl
  have n7 : W.cell? ⟨u.heap.size, 7, none⟩ = some (.slice p3 m.tab.length c3) := bxq_cell hN rfl
  have n8 : W.cell? ⟨u.heap.size, 8, none⟩ = some (.slice p4 m.maps.length c4) := bxq_cell hN rfl
  have hbd : badM p (faceJ p k) m = ((m.args.any (fun t => !typJ p t) || (m.ret != 0 && !typJ p m.ret)) || (!faceJ p k && decide (m.lo < needJ m))) := by unfold badM; rw [Bool.or_assoc]
  rw [hbd]
  generalize (m.args.any (fun t => !typJ p t) || (m.ret != 0 && !typJ p m.ret)) = A at *
  generalize decide (m.lo < needJ m) = D at *
  have hv := hT.tr
  obtain ⟨ao, cap, rfl, -⟩ := hv
  obtain ⟨Fc, hFc⟩ : ∃ Fc, faceJ p k = Fc := ⟨_, rfl⟩
  have HFC : Hid (faceJ p k = Fc) := hFc
  rw [hFc]
  clear hbd hFc hT hTW hRW hlW hR0 hSm ho hb1 hN hc hk
  subst hW
  rcases A with _ | _ <;> rcases Fc with _ | _
  all_goals
    go_enter Tryz.func66, Tryz.ntmps66
    go_wp2_with (first
      | (go_at_call 67; refine hC.mono ?_; rintro e u1 ⟨rfl, hb⟩; have HB1 : Hid (Below u.heap.size u u1) := HB.out.trans (hb.mono HB.out.size); have hn1 := (hb.block u.heap.size (Array.getElem?_eq_some_iff.1 HN.out).1).trans HN.out; have n0' : u1.cell? ⟨u.heap.size, 0, none⟩ = some (.string m.nm) := bxq_cell hn1 rfl; have n1' : u1.cell? ⟨u.heap.size, 1, none⟩ = some (.bool m.stc) := bxq_cell hn1 rfl; have n2' : u1.cell? ⟨u.heap.size, 2, none⟩ = some (.slice p1 m.args.length c1) := bxq_cell hn1 rfl; have n3' : u1.cell? ⟨u.heap.size, 3, none⟩ = some (.int .i64 m.ret) := bxq_cell hn1 rfl; have n4' : u1.cell? ⟨u.heap.size, 4, none⟩ = some (.int .i64 m.lo) := bxq_cell hn1 rfl; have n5' : u1.cell? ⟨u.heap.size, 5, none⟩ = some (.int .i64 m.st) := bxq_cell hn1 rfl; have n6' : u1.cell? ⟨u.heap.size, 6, none⟩ = some (.slice p2 m.code.length c2) := bxq_cell hn1 rfl; have n7' : u1.cell? ⟨u.heap.size, 7, none⟩ = some (.slice p3 m.tab.length c3) := bxq_cell hn1 rfl; have n8' : u1.cell? ⟨u.heap.size, 8, none⟩ = some (.slice p4 m.maps.length c4) := bxq_cell hn1 rfl; have d1 := cell_keep HC.out hb; have hT1 := HT.out.go hb; have b1 := hT1.box; have hF := HF.out u1 hb; obtain ⟨i2, sb2, so2, f1, f2, f3, f4, g1, g2, g3, g4, rfl, hl0, rfl, -, ⟨-, t1', -, -, -, -, -, -⟩, -⟩ := tq_get hT1.tr HK.out; rw [cl_face HK.out, HFC.out] at t1'; have hl2 : (i2 : Int) < ((trQ p).length : Int) := (by omega); clear hC hb hT1 hn1)
      | (go_at_call 68; refine hF.mono ?_; rintro e u2 ⟨rfl, hb⟩; have HB2 : Hid (Below u.heap.size u u2) := HB1.out.trans (hb.mono HB1.out.size); clear hF hb))
    go_ret
    exact ⟨by first | rfl | simp, by first | exact HB2.out | exact HB1.out⟩
theorem bad4_eq (p : Pg) (i : Nat) : bad4 p i = ((ofJ p (11 + i)).flds.any (fun f => !typJ p f.ty) || ((ofJ p (11 + i)).stcs.any (fun f => !typJ p f.ty) || (ofJ p (11 + i)).mds.any (badM p (ofJ p (11 + i)).face))) := rfl
set_option maxHeartbeats 4000000 in
set_option maxRecDepth 20000 in
theorem wsign_ok {w : World} {S : Nat → Prop} {v : Value} {p : Pg} (hok : Okq p) (h : Sl kCs w S v (trQ p)) (hS : ∀ k, S k → k < w.heap.size) {i : Nat} (hi : i < p.cls.length) : Calls Tryz.prog 32 #[v, .int .i64 (11 + (i : Int))] w fun e w' => e = .returned (.bool (bad4 p i)) ∧ Below w.heap.size w w' := by
  have hT := Tb.mk_ h hS
  have hoc := hok.at hi
  have hv := h
  obtain ⟨ao, cap, rfl, hmx, -⟩ := hv
  unfold maxLen at hmx
  obtain ⟨hu1, -, hk⟩ := user_of hi
  have hfa : faceJ p (11 + (i : Int)) = (ofJ p (11 + (i : Int))).face := by simp [faceJ, hu1]
  rw [bad4_eq, ← hfa]
  obtain ⟨k, e1⟩ : ∃ k : Int, 11 + (i : Int) = k := ⟨_, rfl⟩
  have HG : Hid (11 ≤ k) := by show _ ≤ _; omega
  rw [e1] at hoc hk hu1 hfa
  rw [e1]
  clear e1 hi hok hu1 hfa
  have hz1 : (w.alloc (.cells #[.slice ao (trQ p).length cap] 63)).heap.size = w.heap.size + 1 := by simp
  have hN := heap_alloc_new (w.alloc (.cells #[.slice ao (trQ p).length cap] 63)) (.cells #[.int .i64 k] 3)
  rw [hz1] at hN
  have hb1 : Below w.heap.size w (w.alloc (.cells #[.slice ao (trQ p).length cap] 63)) := (Below.refl _ _).alloc (Nat.le_refl _) _
  have hb2 : Below (w.heap.size + 1) (w.alloc (.cells #[.slice ao (trQ p).length cap] 63)) ((w.alloc (.cells #[.slice ao (trQ p).length cap] 63)).alloc (.cells #[.int .i64 k] 3)) := (Below.refl _ _).alloc (by omega) _
  obtain ⟨W, hW⟩ : ∃ W, (w.alloc (.cells #[.slice ao (trQ p).length cap] 63)).alloc (.cells #[.int .i64 k] 3) = W := ⟨_, rfl⟩
  rw [hW] at hb2 hN
  have HB : Hid (Below w.heap.size w W) := hb1.trans (hb2.mono (by omega))
  have hTW : Tb W S (.slice ao (trQ p).length cap) p w.heap.size := hT.go (by rw [hz1]; exact hb2)
  have HT : Hid (Tb W S (.slice ao (trQ p).length cap) p w.heap.size) := hTW
  have b0 := hTW.box
  have c0 : W.cell? ⟨w.heap.size + 1, 0, none⟩ = some (.int .i64 k) := bxq_cell hN rfl
  have HC : Hid (W.cell? ⟨w.heap.size + 1, 0, none⟩ = some (.int .i64 k)) := c0
  have HK : Hid (isJ p k = true) := hk
  obtain ⟨i1, sb, so, f1, f2, f3, f4, g1, g2, g3, g4, rfl, hi1, rfl, -, ⟨-, -, -, -, -, t5, t6, t7⟩, q⟩ := tq_get hTW.tr hk
  rw [cl_user HG.out] at t5 t6 t7 q
  have hl : (i1 : Int) < ((trQ p).length : Int) := by omega
  have HQ : Hid (∀ u, Below W.heap.size W u → (u.cell? ⟨w.heap.size, 0, none⟩ = some (.slice (some ⟨sb, so, none⟩) (trQ p).length cap) ∧ u.cell? ⟨w.heap.size + 1, 0, none⟩ = some (.int .i64 i1) ∧ u.cell? ⟨sb, so + i1 * 8 + 5, none⟩ = some (.slice f2 (ofJ p (i1 : Int)).flds.length g2) ∧ u.cell? ⟨sb, so + i1 * 8 + 6, none⟩ = some (.slice f3 (ofJ p (i1 : Int)).stcs.length g3) ∧ u.cell? ⟨sb, so + i1 * 8 + 7, none⟩ = some (.slice f4 (ofJ p (i1 : Int)).mds.length g4))) := fun u hb => ⟨(HT.out.go hb).box, cell_keep HC.out hb, cell_keep t5 hb, cell_keep t6 hb, cell_keep t7 hb⟩
  have hCF : ∀ (u : World) (f : Option Addr) (g : Nat) (fs : List Fd), Below W.heap.size W u → Sl kFd W S (.slice f fs.length g) fs → (∀ x ∈ fs, rg x.ty) → Calls Tryz.prog 64 #[.slice f fs.length g, .func (.func 62) #[] #[.pointer (some ⟨w.heap.size, 0, none⟩)]] u fun e u' => e = .returned (.bool (fs.any fun f => !typJ p f.ty)) ∧ Below u.heap.size u u' := fun u f g fs hb hs hr =>
    conF_ok (F := 62) (enters_of Tryz.func62 (by kernel_rfl) rfl) (post := #[.pointer (some ⟨w.heap.size, 0, none⟩)]) (f := fun f : Fd => !typJ p f.ty) (hs.keep fun b q => hb.block b (HT.out.lo b q)) (fun k q => Nat.lt_of_lt_of_le (HT.out.lo k q) hb.size) (fun u' x cs hb' hx hR => by
      obtain rfl := hR
      have hT' := HT.out.go (hb.trans (hb'.mono hb.size))
      exact (wsgf_ok hT' (hr x hx)).mono fun e u2 ⟨a, b⟩ => ⟨a, b.mono hb'.size⟩)
  have hC1 := hCF W f2 g2 (ofJ p (i1 : Int)).flds (Below.refl _ _) q.out.2.1 hoc.flds
  have HC2 : Hid _ := fun (u : World) (hb : Below W.heap.size W u) => hCF u f3 g3 (ofJ p (i1 : Int)).stcs hb q.out.2.2.1 hoc.stcs
  have HC3 : Hid _ := fun (u : World) (hb : Below W.heap.size W u) => conM_ok (F := 66) (enters_of Tryz.func66 (by kernel_rfl) rfl) (w := u) (post := #[.pointer (some ⟨w.heap.size, 0, none⟩), .pointer (some ⟨w.heap.size + 1, 0, none⟩)]) (f := badM p (faceJ p (i1 : Int))) (q.out.2.2.2.keep fun b q => hb.block b (HT.out.lo b q)) (fun k q => Nat.lt_of_lt_of_le (HT.out.lo k q) hb.size) (fun u' x cs hb' hx hR => by
      have hb2 := hb.trans (hb'.mono hb.size)
      exact (wsg2_ok (HT.out.go hb2) (cell_keep HC.out hb2) hk hR (fun k q => Nat.lt_of_lt_of_le (HT.out.lo k q) hb2.size) (hoc.mds x hx)).mono fun e u2 ⟨a, b⟩ => ⟨a, b.mono hb'.size⟩)
  generalize (ofJ p (i1 : Int)).flds.any (fun f => !typJ p f.ty) = A1 at *
  generalize (ofJ p (i1 : Int)).stcs.any (fun f => !typJ p f.ty) = A2 at *
  generalize (ofJ p (i1 : Int)).mds.any (badM p (faceJ p (i1 : Int))) = A3 at *
  clear hCF h hS hT hTW hk q hb1 hb2 hN hoc hz1
  have HBW : Hid (w.heap.size ≤ W.heap.size) := HB.out.size
  subst hW
  rcases A1 with _ | _ <;> rcases A2 with _ | _
  all_goals
    go_enter Tryz.func32, Tryz.ntmps32
    go_wp2_with (first
      | (go_at_call 64; first
        | (refine hC2.mono ?_; rintro e u2 ⟨rfl, hb⟩; have hw2 := HW1.out.trans (hb.mono HW1.out.size); have HW2 := hidQ hw2; obtain ⟨x0, x1, -, -, x4⟩ := HQ.out u2 hw2; have hC3 := HC3.out u2 hw2; clear hC2 hb hw2)
        | (refine hC1.mono ?_; rintro e u1 ⟨rfl, hb⟩; have HW1 := hidQ hb; obtain ⟨y0, y1, y2, y3, y4⟩ := HQ.out u1 hb; have hC2 := HC2.out u1 hb; clear hC1 hb))
      | (go_at_call 65; refine hC3.mono ?_; rintro e u3 ⟨rfl, hb⟩; have HW3 := hidQ (HW2.out.trans (hb.mono HW2.out.size)); clear hC3 hb))
    go_ret
    first
      | exact ⟨by first | rfl | simp, HB.out.trans (HW3.out.mono HBW.out)⟩
      | exact ⟨by first | rfl | simp, HB.out.trans (HW2.out.mono HBW.out)⟩
      | exact ⟨by first | rfl | simp, HB.out.trans (HW1.out.mono HBW.out)⟩
end Go.Proofs.YtbbmgjcabmjjdaaGreatDoor
namespace Go.Proofs.YtbbmgjcabmjjdaaGreatDoor
open Go.RowKit

structure Lys (u u' : World) : Prop where
  bl : Below u.heap.size u u'
  dr : u.drawn ≤ u'.drawn
theorem Lys.refl (u : World) : Lys u u := ⟨Below.refl _ _, Nat.le_refl _⟩
theorem Lys.trans {a b c : World} (h : Lys a b) (k : Lys b c) : Lys a c := ⟨h.bl.trans (k.bl.mono h.bl.size), Nat.le_trans h.dr k.dr⟩
theorem Lys.alloc {a b : World} (h : Lys a b) (o : Obj) : Lys a (b.alloc o) := ⟨h.bl.alloc h.bl.size o, h.dr⟩
theorem Lys.drew {a b : World} (h : Lys a b) : Lys a b.drew := ⟨h.bl.drew, Nat.le_succ_of_le h.dr⟩
theorem Lys.drewN {a b : World} (h : Lys a b) (n : Nat) : Lys a (b.drewN n) := ⟨⟨h.bl.os, h.bl.tape, h.bl.output, h.bl.size, h.bl.block⟩, Nat.le_trans h.dr (Nat.le_add_right _ _)⟩
theorem Lys.setRow {a b : World} (h : Lys a b) {k : Nat} (hk : a.heap.size ≤ k) (row : Array Value) : Lys a (b.setRow k row) :=
  ⟨⟨h.bl.os, h.bl.tape, h.bl.output, by rw [size_setRow]; exact h.bl.size, fun j hj => by rw [setRow_other _ _ _ _ (show j ≠ k by omega)]; exact h.bl.block j hj⟩, h.dr⟩
theorem Lys.grow {u u' : World} (h : Lys u u') : ∃ q os, u' = Go.Sort.grow (u.drewN q) os := by
  refine ⟨u'.drawn - u.drawn, u'.heap.extract u.heap.size u'.heap.size, ?_⟩
  have hz := h.bl.size
  have he : u'.heap = u.heap ++ u'.heap.extract u.heap.size u'.heap.size := by
    apply Array.ext_getElem?
    intro i
    rw [Array.getElem?_append]
    split
    · rename_i hi; exact h.bl.block i hi
    · rename_i hi
      rw [Array.getElem?_extract]
      by_cases hl : i < u'.heap.size
      · rw [if_pos (by omega), show u.heap.size + (i - u.heap.size) = i by omega]
      · rw [if_neg (by omega), Array.getElem?_eq_none (by omega)]
  have hd : u'.drawn = u.drawn + (u'.drawn - u.drawn) := by have := h.dr; omega
  have h1 := h.bl.os
  have h2 := h.bl.tape
  have h3 := h.bl.output
  cases u'
  cases u
  simp only [Go.Sort.grow, World.drewN] at *
  subst h1 h2 h3
  congr 1
end Go.Proofs.YtbbmgjcabmjjdaaGreatDoor
namespace Go.Proofs.YtbbmgjcabmjjdaaGreatDoor
open Go.RowKit

def cmpS (a b : ByteArray) : Int := Lib.compareBytes a.data.toList b.data.toList
def cmpI (x y : Int) : Int := if x < y then -1 else if y < x then 1 else 0
def cmpL : List Int → List Int → Int
  | [], [] => 0
  | [], _ :: _ => -1
  | _ :: _, [] => 1
  | x :: xs, y :: ys => if cmpI x y = 0 then cmpL xs ys else cmpI x y
/-- A signature. -/
structure Sg where
  nm : ByteArray
  args : List Int
  ret : Int
def sgC (a b : Sg) : Int := if eqB a.nm b.nm then (if a.ret = b.ret then cmpL a.args b.args else cmpI a.ret b.ret) else cmpS a.nm b.nm
set_option maxRecDepth 20000 in
theorem cmpS_ok0 (a b : ByteArray) (w : World) : Calls Tryz.prog 97 #[.string a, .string b] w fun e w' => e = .returned (.int .i64 (cmpS a b)) ∧ w' = w := by
  go_enter Tryz.func97, Tryz.ntmps97
  go_wp2
  rw [run_callFunc_extern Tryz.func117 (by kernel_rfl) (by kernel_rfl) (by kernel_rfl) (e := Extern.BytealgCompare.compare) (by kernel_rfl), Lib.run_compareString]
  simp only [Result.andThen]
  rw [Oper.upon_value]
  go_wp2
  go_ret
  exact ⟨rfl, rfl⟩
theorem cmpS_ok (a b : ByteArray) (w : World) : Calls Tryz.prog 70 #[.string a, .string b] w fun e w' => e = .returned (.int .i64 (cmpS a b)) ∧ w' = w := by
  go_enter Tryz.func70, Tryz.ntmps70
  go_wp2_with (go_at_call 97; refine (cmpS_ok0 a b _).mono ?_; rintro e w9 ⟨rfl, hw9⟩; replace hw9 := hw9.symm; subst hw9)
  go_ret
  exact ⟨rfl, rfl⟩
theorem nan_ok (x : Int) (w : World) : Calls Tryz.prog 118 #[.int .i64 x] w fun e w' => e = .returned (.bool false) ∧ w' = w := by
  have h : (x != x) = false := by simp
  go_enter Tryz.func118, Tryz.ntmps118
  go_wp2
  go_ret
  exact ⟨by first | rfl | simp, rfl⟩
set_option maxRecDepth 20000 in
theorem cmpI_ok (x y : Int) (w : World) : Calls Tryz.prog 98 #[.int .i64 x, .int .i64 y] w fun e w' => e = .returned (.int .i64 (cmpI x y)) ∧ w' = w := by
  by_cases h1 : x < y
  · rw [show cmpI x y = -1 by simp [cmpI, h1]]
    go_enter Tryz.func98, Tryz.ntmps98
    go_wp2_with (go_at_call 118; refine (nan_ok _ w).mono ?_; rintro e w9 ⟨rfl, hw9⟩; replace hw9 := hw9.symm; subst hw9)
    go_ret
    exact ⟨rfl, rfl⟩
  · by_cases h2 : y < x
    · rw [show cmpI x y = 1 by simp [cmpI, h1, h2]]
      go_enter Tryz.func98, Tryz.ntmps98
      go_wp2_with (go_at_call 118; refine (nan_ok _ w).mono ?_; rintro e w9 ⟨rfl, hw9⟩; replace hw9 := hw9.symm; subst hw9)
      go_ret
      exact ⟨rfl, rfl⟩
    · rw [show cmpI x y = 0 by simp [cmpI, h1, h2]]
      go_enter Tryz.func98, Tryz.ntmps98
      go_wp2_with (go_at_call 118; refine (nan_ok _ w).mono ?_; rintro e w9 ⟨rfl, hw9⟩; replace hw9 := hw9.symm; subst hw9)
      go_ret
      exact ⟨rfl, rfl⟩
theorem cmpL_drop {xs ys : List Int} {i : Nat} {x y : Int} (hx : xs[i]? = some x) (hy : ys[i]? = some y) : cmpL (xs.drop i) (ys.drop i) = if cmpI x y = 0 then cmpL (xs.drop (i + 1)) (ys.drop (i + 1)) else cmpI x y := by
  obtain ⟨h1, e1⟩ := List.getElem?_eq_some_iff.1 hx
  obtain ⟨h2, e2⟩ := List.getElem?_eq_some_iff.1 hy
  rw [List.drop_eq_getElem_cons h1, List.drop_eq_getElem_cons h2, e1, e2]; rfl
set_option maxHeartbeats 2000000 in
set_option maxRecDepth 20000 in
theorem cmpL_ok {w : World} {Sa Sb : Nat → Prop} {va vb : Value} {xs ys : List Int} (hA : Sl kI w Sa va xs) (hB : Sl kI w Sb vb ys) : Calls Tryz.prog 99 #[va, vb] w fun e w' => e = .returned (.int .i64 (cmpL xs ys)) ∧ w' = w := by
  have hA2 := hA
  have hB2 := hB
  obtain ⟨aa, ca, rfl, hmx, -⟩ := hA2
  obtain ⟨ab, cb, rfl, -, -⟩ := hB2
  unfold maxLen at hmx
  have HC : Hid (∀ i x, xs[i]? = some x → ∃ b o, aa = some ⟨b, o, none⟩ ∧ w.cell? ⟨b, o + i, none⟩ = some (.int .i64 x)) := fun i x hx => by
    obtain ⟨b1, o1, e1, cs1, r1, k1⟩ := hA.at_ hx
    obtain rfl := r1
    have a0 := k1 0 _ rfl
    rw [show o1 + (i * kI.k + 0) = o1 + i by show o1 + (i * 1 + 0) = o1 + i; omega] at a0
    exact ⟨b1, o1, e1, a0⟩
  have HD : Hid (∀ i x, ys[i]? = some x → ∃ b o, ab = some ⟨b, o, none⟩ ∧ w.cell? ⟨b, o + i, none⟩ = some (.int .i64 x)) := fun i x hx => by
    obtain ⟨b1, o1, e1, cs1, r1, k1⟩ := hB.at_ hx
    obtain rfl := r1
    have a0 := k1 0 _ rfl
    rw [show o1 + (i * kI.k + 0) = o1 + i by show o1 + (i * 1 + 0) = o1 + i; omega] at a0
    exact ⟨b1, o1, e1, a0⟩
  obtain ⟨R, hR⟩ : ∃ R, cmpL xs ys = R := ⟨_, rfl⟩
  have HR0 : Hid (cmpL (xs.drop 0) (ys.drop 0) = R) := by show cmpL _ _ = R; simpa using hR
  rw [hR]
  clear hR hA hB
  go_enter Tryz.func99, Tryz.ntmps99
  go_wp2
  go_loopw [5, 6, 7, 8, 11] (fun s5 s6 s7 s8 s11 wr => ∃ i : Nat, s11 = .int .i64 i ∧ i ≤ xs.length ∧ i ≤ ys.length ∧ Hid (wr = w) ∧ Hid (cmpL (xs.drop i) (ys.drop i) = R)) (fun _ _ _ _ s11 _ => xs.length - (intOf s11).toNat)
  case atStart => exact ⟨0, rfl, by omega, by omega, rfl, HR0.out⟩
  case round =>
    obtain ⟨i, rfl, hi, hj, HW, HR⟩ := hrel
    have hww := HW.out
    subst hww
    clear HR0
    by_cases hlt : i < xs.length
    · obtain ⟨x, hx⟩ : ∃ x, xs[i]? = some x := ⟨_, List.getElem?_eq_getElem hlt⟩
      obtain ⟨pa, oa, rfl, a0⟩ := HC.out i x hx
      have hl1 : (i : Int) < (xs.length : Int) := by omega
      by_cases hlt2 : i < ys.length
      · obtain ⟨y, hy⟩ : ∃ y, ys[i]? = some y := ⟨_, List.getElem?_eq_getElem hlt2⟩
        obtain ⟨pb, ob, rfl, b0⟩ := HD.out i y hy
        have hl2 : (i : Int) < (ys.length : Int) := by omega
        have hl3 : ¬ ys.length ≤ i := by omega
        have hC := cmpI_ok x y wr
        have hd := cmpL_drop hx hy
        rw [HR.out] at hd
        by_cases hc : cmpI x y = 0
        · rw [if_pos hc] at hd
          rw [hc] at hC
          have HD' : Hid (cmpL (xs.drop (i + 1)) (ys.drop (i + 1)) = R) := hd.symm
          clear hx hy hd hc HC HD
          go_wp2_with (go_at_call 98; refine hC.mono ?_; rintro e w9 ⟨rfl, hw9⟩; replace hw9 := hw9.symm; subst hw9)
          go_roundw
          case measure => simp only [intOf]; omega
          case rel => exact ⟨i + 1, by go_num, by omega, by omega, (by first | exact rfl | exact trivial), HD'.out⟩
        · rw [if_neg hc] at hd
          have hne : (cmpI x y != 0) = true := by simp [hc]
          rw [← hd] at hC hne
          clear hx hy hc hd HC HD HR
          go_wp2_with (go_at_call 98; refine hC.mono ?_; rintro e w9 ⟨rfl, hw9⟩; replace hw9 := hw9.symm; subst hw9)
          go_ret
          exact ⟨rfl, rfl⟩
      · have hn : i = ys.length := by omega
        have hr : R = 1 := by
          have := HR.out
          rw [← this, hn, List.drop_length, List.drop_eq_getElem_cons (by omega)]; rfl
        subst hr
        subst hn
        clear hx HC HD hlt2 HR hi hj
        go_wp2
        go_ret
        exact ⟨rfl, rfl⟩
    · have hn : i = xs.length := by omega
      have hl1 : ¬ (i : Int) < (xs.length : Int) := by omega
      by_cases h2 : xs.length < ys.length
      · have hr : R = -1 := by
          have := HR.out
          rw [← this, hn, List.drop_length, List.drop_eq_getElem_cons (by omega)]; rfl
        subst hr
        subst hn
        clear HC HD HR hi hj
        go_wp2
        go_ret
        exact ⟨rfl, rfl⟩
      · have hr : R = 0 := by
          have := HR.out
          rw [← this, hn, List.drop_length, show xs.length = ys.length by omega, List.drop_length]; rfl
        subst hr
        subst hn
        clear HC HD HR hi hj
        go_wp2
        go_ret
        exact ⟨rfl, rfl⟩
end Go.Proofs.YtbbmgjcabmjjdaaGreatDoor
namespace Go.Proofs.YtbbmgjcabmjjdaaGreatDoor
open Go.RowKit

set_option maxRecDepth 20000 in
theorem infoSg : (Tryz.prog.info? 95).map (·.size) = some 3 := by kernel_rfl
set_option maxHeartbeats 1000000 in
set_option maxRecDepth 20000 in
theorem ofm_ok (nm : ByteArray) (stc : Bool) (p1 p2 p3 p4 : Option Addr) (n1 n2 n3 n4 c1 c2 c3 c4 : Nat) (ret lo st : Int) (u : World) : Calls Tryz.prog 72 #[.agg #[.string nm, .bool stc, .slice p1 n1 c1, .int .i64 ret, .int .i64 lo, .int .i64 st, .slice p2 n2 c2, .slice p3 n3 c3, .slice p4 n4 c4]] u fun e u' => e = .returned (.agg #[.string nm, .slice p1 n1 c1, .int .i64 ret]) ∧ Lys u u' := by
  have hz : (u.alloc (.cells #[.string nm, .bool stc, .slice p1 n1 c1, .int .i64 ret, .int .i64 lo, .int .i64 st, .slice p2 n2 c2, .slice p3 n3 c3, .slice p4 n4 c4] 30)).heap.size = u.heap.size + 1 := by simp
  have hN := heap_alloc_new (u.alloc (.cells #[.string nm, .bool stc, .slice p1 n1 c1, .int .i64 ret, .int .i64 lo, .int .i64 st, .slice p2 n2 c2, .slice p3 n3 c3, .slice p4 n4 c4] 30)) (.cells #[.string nm, .slice p1 n1 c1, .int .i64 ret] 95)
  rw [hz] at hN
  have HN : Hid _ := hN
  have HL : Hid (Lys u ((u.alloc (.cells #[.string nm, .bool stc, .slice p1 n1 c1, .int .i64 ret, .int .i64 lo, .int .i64 st, .slice p2 n2 c2, .slice p3 n3 c3, .slice p4 n4 c4] 30)).alloc (.cells #[.string nm, .slice p1 n1 c1, .int .i64 ret] 95))) := ((Lys.refl u).alloc _).alloc _
  clear hz hN
  go_enter Tryz.func72, Tryz.ntmps72
  go_wp2
  refine bodyPost_ret (results_cell_row rfl _ _ (u.heap.size + 1) 95 #[.string nm, .slice p1 n1 c1, .int .i64 ret] (0, 0) _ rfl HN.out Tryz.underlying95 rfl infoSg) rfl ?_
  exact ⟨rfl, HL.out⟩
set_option maxHeartbeats 1000000 in
set_option maxRecDepth 20000 in
theorem ofe_ok (nm : ByteArray) (p1 : Option Addr) (n1 c1 : Nat) (ret cl me : Int) (u : World) : Calls Tryz.prog 81 #[.agg #[.string nm, .slice p1 n1 c1, .int .i64 ret, .int .i64 cl, .int .i64 me]] u fun e u' => e = .returned (.agg #[.string nm, .slice p1 n1 c1, .int .i64 ret]) ∧ Lys u u' := by
  have hz : (u.alloc (.cells #[.string nm, .slice p1 n1 c1, .int .i64 ret, .int .i64 cl, .int .i64 me] 79)).heap.size = u.heap.size + 1 := by simp
  have hN := heap_alloc_new (u.alloc (.cells #[.string nm, .slice p1 n1 c1, .int .i64 ret, .int .i64 cl, .int .i64 me] 79)) (.cells #[.string nm, .slice p1 n1 c1, .int .i64 ret] 95)
  rw [hz] at hN
  have HN : Hid _ := hN
  have HL : Hid (Lys u ((u.alloc (.cells #[.string nm, .slice p1 n1 c1, .int .i64 ret, .int .i64 cl, .int .i64 me] 79)).alloc (.cells #[.string nm, .slice p1 n1 c1, .int .i64 ret] 95))) := ((Lys.refl u).alloc _).alloc _
  clear hz hN
  go_enter Tryz.func81, Tryz.ntmps81
  go_wp2
  refine bodyPost_ret (results_cell_row rfl _ _ (u.heap.size + 1) 95 #[.string nm, .slice p1 n1 c1, .int .i64 ret] (0, 0) _ rfl HN.out Tryz.underlying95 rfl infoSg) rfl ?_
  exact ⟨rfl, HL.out⟩
set_option maxHeartbeats 2000000 in
set_option maxRecDepth 20000 in
theorem sgc_ok {u : World} {Sa Sb : Nat → Prop} {a b : Sg} {va vb : Value} (hA : Sl kI u Sa va a.args) (hB : Sl kI u Sb vb b.args) (la : ∀ k, Sa k → k < u.heap.size) (lb : ∀ k, Sb k → k < u.heap.size) : Calls Tryz.prog 73 #[.agg #[.string a.nm, va, .int .i64 a.ret], .agg #[.string b.nm, vb, .int .i64 b.ret]] u fun e u' => e = .returned (.int .i64 (sgC a b)) ∧ Lys u u' := by
  have HL : Hid (Lys u ((u.alloc (.cells #[.string a.nm, va, .int .i64 a.ret] 95)).alloc (.cells #[.string b.nm, vb, .int .i64 b.ret] 95))) := ((Lys.refl u).alloc _).alloc _
  have hI := cmpL_ok (hA.keep (w' := (u.alloc (.cells #[.string a.nm, va, .int .i64 a.ret] 95)).alloc (.cells #[.string b.nm, vb, .int .i64 b.ret] 95)) fun k q => HL.out.bl.block k (la k q)) (hB.keep fun k q => HL.out.bl.block k (lb k q))
  have hS := cmpS_ok a.nm b.nm ((u.alloc (.cells #[.string a.nm, va, .int .i64 a.ret] 95)).alloc (.cells #[.string b.nm, vb, .int .i64 b.ret] 95))
  have hR := cmpI_ok a.ret b.ret ((u.alloc (.cells #[.string a.nm, va, .int .i64 a.ret] 95)).alloc (.cells #[.string b.nm, vb, .int .i64 b.ret] 95))
  obtain ⟨pa, ca, rfl, -⟩ := hA
  obtain ⟨pb, cb, rfl, -⟩ := hB
  have hT := eqB_list a.nm b.nm
  have hT2 : (a.nm.toList != b.nm.toList) = !eqB a.nm b.nm := by rw [← hT]; rfl
  rcases hE : eqB a.nm b.nm with _ | _
  · rw [hE] at hT hT2
    rw [show sgC a b = cmpS a.nm b.nm by simp [sgC, hE]]
    simp only [Bool.not_false] at hT2
    clear hI hR la lb hE
    generalize cmpS a.nm b.nm = C at *
    go_enter Tryz.func73, Tryz.ntmps73
    go_wp2_with (go_at_call 70; refine hS.mono ?_; rintro e w9 ⟨rfl, hw9⟩; replace hw9 := hw9.symm; subst hw9)
    go_ret
    exact ⟨rfl, HL.out⟩
  · rw [hE] at hT hT2
    simp only [Bool.not_true] at hT2
    by_cases hr : a.ret = b.ret
    · rw [show sgC a b = cmpL a.args b.args by simp [sgC, hE, hr]]
      have hr1 : (a.ret != b.ret) = false := by simp [hr]
      clear hS hR la lb hE hr
      generalize cmpL a.args b.args = C at *
      go_enter Tryz.func73, Tryz.ntmps73
      go_wp2_with (go_at_call 99; refine hI.mono ?_; rintro e w9 ⟨rfl, hw9⟩; replace hw9 := hw9.symm; subst hw9)
      go_ret
      exact ⟨rfl, HL.out⟩
    · rw [show sgC a b = cmpI a.ret b.ret by simp [sgC, hE, hr]]
      have hr1 : (a.ret != b.ret) = true := by simp [hr]
      clear hS hI la lb hE hr
      generalize cmpI a.ret b.ret = C at *
      go_enter Tryz.func73, Tryz.ntmps73
      go_wp2_with (go_at_call 98; refine hR.mono ?_; rintro e w9 ⟨rfl, hw9⟩; replace hw9 := hw9.symm; subst hw9)
      go_ret
      exact ⟨rfl, HL.out⟩
set_option maxHeartbeats 1000000 in
set_option maxRecDepth 20000 in
theorem byName_ok (a b : ByteArray) (x y : Int) (u : World) : Calls Tryz.prog 69 #[.agg #[.string a, .int .i64 x], .agg #[.string b, .int .i64 y]] u fun e u' => e = .returned (.int .i64 (cmpS a b)) ∧ Lys u u' := by
  have HL : Hid (Lys u ((u.alloc (.cells #[.string a, .int .i64 x] 71)).alloc (.cells #[.string b, .int .i64 y] 71))) := ((Lys.refl u).alloc _).alloc _
  have hS := cmpS_ok a b ((u.alloc (.cells #[.string a, .int .i64 x] 71)).alloc (.cells #[.string b, .int .i64 y] 71))
  generalize cmpS a b = C at *
  go_enter Tryz.func69, Tryz.ntmps69
  go_wp2_with (go_at_call 70; refine hS.mono ?_; rintro e w9 ⟨rfl, hw9⟩; replace hw9 := hw9.symm; subst hw9)
  go_ret
  exact ⟨rfl, HL.out⟩
def sgM (m : Md) : Sg := ⟨m.nm, m.args, m.ret⟩
def sgE (e : En) : Sg := ⟨e.nm, e.args, e.ret⟩
end Go.Proofs.YtbbmgjcabmjjdaaGreatDoor
