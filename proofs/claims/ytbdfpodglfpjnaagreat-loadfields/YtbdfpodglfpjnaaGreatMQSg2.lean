/- The program's own Load: rule 4, whole. -/
import Derived.Test.YtbdfpodglfpjnaaGreatMY13
namespace Go.Proofs.YtbdfpodglfpjnaaGreat
open Go.RowKit

theorem hidQ {p : Prop} (h : p) : Hid p := h
theorem cell_keep {u u' : World} {bx j : Nat} {x : Value} (h : u.cell? ⟨bx, j, none⟩ = some x) (hb : Below u.heap.size u u') : u'.cell? ⟨bx, j, none⟩ = some x := by
  have hl : bx < u.heap.size := by
    apply Nat.lt_of_not_le
    intro hn
    have e : u.heap[bx]? = none := Array.getElem?_eq_none hn
    simp only [World.cell?, e] at h
    cases h
  rw [cell_same (hb.block bx hl)]; exact h
set_option maxHeartbeats 4000000 in
set_option maxRecDepth 20000 in
theorem wsg2_ok {u : World} {S Sm : Nat → Prop} {v : Value} {p : Pg} {bt bc : Nat} {k : Int} (hT : Tb u S v p bt) (hc : u.cell? ⟨bc, 0, none⟩ = some (.int .i64 k)) (hk : isJ p k = true) {m : Md} {cs : List Value} (hR : kMd.R u Sm m cs) (hSm : ∀ k, Sm k → k < u.heap.size) (ho : OqM m) : Calls Tryz.prog 57 #[.agg cs.toArray, .pointer (some ⟨bt, 0, none⟩), .pointer (some ⟨bc, 0, none⟩)] u fun e u' => e = .returned (.bool (badM p (faceJ p k) m)) ∧ Below u.heap.size u u' := by
  have hR0 := hR
  obtain ⟨v1, v2, v3, v4, rfl, q1, q2, q3, q4⟩ := hR
  obtain ⟨p1, c1, rfl, -⟩ := q1
  obtain ⟨p2, c2, rfl, -⟩ := q2
  obtain ⟨p3, c3, rfl, -⟩ := q3
  obtain ⟨p4, c4, rfl, -⟩ := q4
  have hb1 : Below u.heap.size u (u.alloc (.cells #[.string m.nm, .bool m.stc, .slice p1 m.args.length c1, .int .i64 m.ret, .int .i64 m.lo, .int .i64 m.st, .slice p2 m.code.length c2, .slice p3 m.tab.length c3, .slice p4 m.maps.length c4] 39)) := (Below.refl _ _).alloc (Nat.le_refl _) _
  have hN := heap_alloc_new u (.cells #[.string m.nm, .bool m.stc, .slice p1 m.args.length c1, .int .i64 m.ret, .int .i64 m.lo, .int .i64 m.st, .slice p2 m.code.length c2, .slice p3 m.tab.length c3, .slice p4 m.maps.length c4] 39)
  obtain ⟨W, hW⟩ : ∃ W, u.alloc (.cells #[.string m.nm, .bool m.stc, .slice p1 m.args.length c1, .int .i64 m.ret, .int .i64 m.lo, .int .i64 m.st, .slice p2 m.code.length c2, .slice p3 m.tab.length c3, .slice p4 m.maps.length c4] 39) = W := ⟨_, rfl⟩
  rw [hW] at hb1 hN
  have HB : Hid (Below u.heap.size u W) := hb1
  have hTW := hT.go hb1
  have HT : Hid (Tb W S v p bt) := hTW
  have hRW : kMd.R W Sm m [.string m.nm, .bool m.stc, .slice p1 m.args.length c1, .int .i64 m.ret, .int .i64 m.lo, .int .i64 m.st, .slice p2 m.code.length c2, .slice p3 m.tab.length c3, .slice p4 m.maps.length c4] := kMd.keep (fun b hb => hb1.block b (hSm b hb)) hR0
  have hlW : ∀ k, Sm k → k < W.heap.size := fun k q => Nat.lt_of_lt_of_le (hSm k q) hb1.size
  have hC := wsig_ok hTW.tr hTW.lo hRW hlW ho
  have HF : Hid (∀ u1, Below W.heap.size W u1 → Calls Tryz.prog 59 #[.agg #[.string m.nm, .bool m.stc, .slice p1 m.args.length c1, .int .i64 m.ret, .int .i64 m.lo, .int .i64 m.st, .slice p2 m.code.length c2, .slice p3 m.tab.length c3, .slice p4 m.maps.length c4]] u1 fun e u' => e = .returned (.bool (decide (m.lo < needJ m))) ∧ Below u1.heap.size u1 u') := fun u1 hb => few_ok (kMd.keep (fun b q => hb.block b (hlW b q)) hRW) ho.nargs
  have HN : Hid (W.heap[u.heap.size]? = some (.cells #[.string m.nm, .bool m.stc, .slice p1 m.args.length c1, .int .i64 m.ret, .int .i64 m.lo, .int .i64 m.st, .slice p2 m.code.length c2, .slice p3 m.tab.length c3, .slice p4 m.maps.length c4] 39 (0, 0))) := hN
  have b0 := hTW.box
  have HC : Hid (W.cell? ⟨bc, 0, none⟩ = some (.int .i64 k)) := cell_keep hc hb1
  have HK : Hid (isJ p k = true) := hk
  have n0 : W.cell? ⟨u.heap.size, 0, none⟩ = some (.string m.nm) := bxq_cell hN rfl
  have n1 : W.cell? ⟨u.heap.size, 1, none⟩ = some (.bool m.stc) := bxq_cell hN rfl
  have n2 : W.cell? ⟨u.heap.size, 2, none⟩ = some (.slice p1 m.args.length c1) := bxq_cell hN rfl
  have n3 : W.cell? ⟨u.heap.size, 3, none⟩ = some (.int .i64 m.ret) := bxq_cell hN rfl
  have n4 : W.cell? ⟨u.heap.size, 4, none⟩ = some (.int .i64 m.lo) := bxq_cell hN rfl
  have n5 : W.cell? ⟨u.heap.size, 5, none⟩ = some (.int .i64 m.st) := bxq_cell hN rfl
  have n6 : W.cell? ⟨u.heap.size, 6, none⟩ = some (.slice p2 m.code.length c2) := bxq_cell hN rfl
  have n7 : W.cell? ⟨u.heap.size, 7, none⟩ = some (.slice p3 m.tab.length c3) := bxq_cell hN rfl
  have n8 : W.cell? ⟨u.heap.size, 8, none⟩ = some (.slice p4 m.maps.length c4) := bxq_cell hN rfl
  have hbd : badM p (faceJ p k) m = ((m.args.any (fun t => !typJ p t) || (m.ret != 0 && !typJ p m.ret)) || (!faceJ p k && decide (m.lo < needJ m))) := by unfold badM; rw [Bool.or_assoc]
  rw [hbd]
  generalize (m.args.any (fun t => !typJ p t) || (m.ret != 0 && !typJ p m.ret)) = A at *
  generalize decide (m.lo < needJ m) = D at *
  have hv := hT.tr
  obtain ⟨ao, cap, rfl, -⟩ := hv
  obtain ⟨Fc, hFc⟩ : ∃ Fc, faceJ p k = Fc := ⟨_, rfl⟩
  have HFC : Hid (faceJ p k = Fc) := hFc
  rw [hFc]
  clear hbd hFc hT hTW hRW hlW hR0 hSm ho hb1 hN hc hk
  subst hW
  rcases A with _ | _ <;> rcases Fc with _ | _
  all_goals
    go_enter Tryz.func57, Tryz.ntmps57
    go_wp2_with (first
      | (go_at_call 58; refine hC.mono ?_; rintro e u1 ⟨rfl, hb⟩; have HB1 : Hid (Below u.heap.size u u1) := HB.out.trans (hb.mono HB.out.size); have hn1 := (hb.block u.heap.size (Array.getElem?_eq_some_iff.1 HN.out).1).trans HN.out; have n0' : u1.cell? ⟨u.heap.size, 0, none⟩ = some (.string m.nm) := bxq_cell hn1 rfl; have n1' : u1.cell? ⟨u.heap.size, 1, none⟩ = some (.bool m.stc) := bxq_cell hn1 rfl; have n2' : u1.cell? ⟨u.heap.size, 2, none⟩ = some (.slice p1 m.args.length c1) := bxq_cell hn1 rfl; have n3' : u1.cell? ⟨u.heap.size, 3, none⟩ = some (.int .i64 m.ret) := bxq_cell hn1 rfl; have n4' : u1.cell? ⟨u.heap.size, 4, none⟩ = some (.int .i64 m.lo) := bxq_cell hn1 rfl; have n5' : u1.cell? ⟨u.heap.size, 5, none⟩ = some (.int .i64 m.st) := bxq_cell hn1 rfl; have n6' : u1.cell? ⟨u.heap.size, 6, none⟩ = some (.slice p2 m.code.length c2) := bxq_cell hn1 rfl; have n7' : u1.cell? ⟨u.heap.size, 7, none⟩ = some (.slice p3 m.tab.length c3) := bxq_cell hn1 rfl; have n8' : u1.cell? ⟨u.heap.size, 8, none⟩ = some (.slice p4 m.maps.length c4) := bxq_cell hn1 rfl; have d1 := cell_keep HC.out hb; have hT1 := HT.out.go hb; have b1 := hT1.box; have hF := HF.out u1 hb; obtain ⟨i2, sb2, so2, f1, f2, f3, f4, g1, g2, g3, g4, rfl, hl0, rfl, -, ⟨-, t1', -, -, -, -, -, -⟩, -⟩ := tq_get hT1.tr HK.out; rw [cl_face HK.out, HFC.out] at t1'; have hl2 : (i2 : Int) < ((trQ p).length : Int) := (by omega); clear hC hb hT1 hn1)
      | (go_at_call 59; refine hF.mono ?_; rintro e u2 ⟨rfl, hb⟩; have HB2 : Hid (Below u.heap.size u u2) := HB1.out.trans (hb.mono HB1.out.size); clear hF hb))
    go_ret
    exact ⟨by first | rfl | simp, by first | exact HB2.out | exact HB1.out⟩
theorem bad4_eq (p : Pg) (i : Nat) : bad4 p i = ((ofJ p (11 + i)).flds.any (fun f => !typJ p f.ty) || ((ofJ p (11 + i)).stcs.any (fun f => !typJ p f.ty) || (ofJ p (11 + i)).mds.any (badM p (ofJ p (11 + i)).face))) := rfl
set_option maxHeartbeats 4000000 in
set_option maxRecDepth 20000 in
theorem wsign_ok {w : World} {S : Nat → Prop} {v : Value} {p : Pg} (hok : Okq p) (h : Sl kCs w S v (trQ p)) (hS : ∀ k, S k → k < w.heap.size) {i : Nat} (hi : i < p.cls.length) : Calls Tryz.prog 33 #[v, .int .i64 (11 + (i : Int))] w fun e w' => e = .returned (.bool (bad4 p i)) ∧ Below w.heap.size w w' := by
  have hT := Tb.mk_ h hS
  have hoc := hok.at hi
  have hv := h
  obtain ⟨ao, cap, rfl, hmx, -⟩ := hv
  unfold maxLen at hmx
  obtain ⟨hu1, -, hk⟩ := user_of hi
  have hfa : faceJ p (11 + (i : Int)) = (ofJ p (11 + (i : Int))).face := by simp [faceJ, hu1]
  rw [bad4_eq, ← hfa]
  obtain ⟨k, e1⟩ : ∃ k : Int, 11 + (i : Int) = k := ⟨_, rfl⟩
  have HG : Hid (11 ≤ k) := by show _ ≤ _; omega
  rw [e1] at hoc hk hu1 hfa
  rw [e1]
  clear e1 hi hok hu1 hfa
  have hz1 : (w.alloc (.cells #[.slice ao (trQ p).length cap] 77)).heap.size = w.heap.size + 1 := by simp
  have hN := heap_alloc_new (w.alloc (.cells #[.slice ao (trQ p).length cap] 77)) (.cells #[.int .i64 k] 3)
  rw [hz1] at hN
  have hb1 : Below w.heap.size w (w.alloc (.cells #[.slice ao (trQ p).length cap] 77)) := (Below.refl _ _).alloc (Nat.le_refl _) _
  have hb2 : Below (w.heap.size + 1) (w.alloc (.cells #[.slice ao (trQ p).length cap] 77)) ((w.alloc (.cells #[.slice ao (trQ p).length cap] 77)).alloc (.cells #[.int .i64 k] 3)) := (Below.refl _ _).alloc (by omega) _
  obtain ⟨W, hW⟩ : ∃ W, (w.alloc (.cells #[.slice ao (trQ p).length cap] 77)).alloc (.cells #[.int .i64 k] 3) = W := ⟨_, rfl⟩
  rw [hW] at hb2 hN
  have HB : Hid (Below w.heap.size w W) := hb1.trans (hb2.mono (by omega))
  have hTW : Tb W S (.slice ao (trQ p).length cap) p w.heap.size := hT.go (by rw [hz1]; exact hb2)
  have HT : Hid (Tb W S (.slice ao (trQ p).length cap) p w.heap.size) := hTW
  have b0 := hTW.box
  have c0 : W.cell? ⟨w.heap.size + 1, 0, none⟩ = some (.int .i64 k) := bxq_cell hN rfl
  have HC : Hid (W.cell? ⟨w.heap.size + 1, 0, none⟩ = some (.int .i64 k)) := c0
  have HK : Hid (isJ p k = true) := hk
  obtain ⟨i1, sb, so, f1, f2, f3, f4, g1, g2, g3, g4, rfl, hi1, rfl, -, ⟨-, -, -, -, -, t5, t6, t7⟩, q⟩ := tq_get hTW.tr hk
  rw [cl_user HG.out] at t5 t6 t7 q
  have hl : (i1 : Int) < ((trQ p).length : Int) := by omega
  have HQ : Hid (∀ u, Below W.heap.size W u → (u.cell? ⟨w.heap.size, 0, none⟩ = some (.slice (some ⟨sb, so, none⟩) (trQ p).length cap) ∧ u.cell? ⟨w.heap.size + 1, 0, none⟩ = some (.int .i64 i1) ∧ u.cell? ⟨sb, so + i1 * 8 + 5, none⟩ = some (.slice f2 (ofJ p (i1 : Int)).flds.length g2) ∧ u.cell? ⟨sb, so + i1 * 8 + 6, none⟩ = some (.slice f3 (ofJ p (i1 : Int)).stcs.length g3) ∧ u.cell? ⟨sb, so + i1 * 8 + 7, none⟩ = some (.slice f4 (ofJ p (i1 : Int)).mds.length g4))) := fun u hb => ⟨(HT.out.go hb).box, cell_keep HC.out hb, cell_keep t5 hb, cell_keep t6 hb, cell_keep t7 hb⟩
  have hCF : ∀ (u : World) (f : Option Addr) (g : Nat) (fs : List Fd), Below W.heap.size W u → Sl kFd W S (.slice f fs.length g) fs → (∀ x ∈ fs, rg x.ty) → Calls Tryz.prog 55 #[.slice f fs.length g, .func (.func 53) #[] #[.pointer (some ⟨w.heap.size, 0, none⟩)]] u fun e u' => e = .returned (.bool (fs.any fun f => !typJ p f.ty)) ∧ Below u.heap.size u u' := fun u f g fs hb hs hr =>
    conF_ok (F := 53) (enters_of Tryz.func53 (by kernel_rfl) rfl) (post := #[.pointer (some ⟨w.heap.size, 0, none⟩)]) (f := fun f : Fd => !typJ p f.ty) (hs.keep fun b q => hb.block b (HT.out.lo b q)) (fun k q => Nat.lt_of_lt_of_le (HT.out.lo k q) hb.size) (fun u' x cs hb' hx hR => by
      obtain rfl := hR
      have hT' := HT.out.go (hb.trans (hb'.mono hb.size))
      exact (wsgf_ok hT' (hr x hx)).mono fun e u2 ⟨a, b⟩ => ⟨a, b.mono hb'.size⟩)
  have hC1 := hCF W f2 g2 (ofJ p (i1 : Int)).flds (Below.refl _ _) q.out.2.1 hoc.flds
  have HC2 : Hid _ := fun (u : World) (hb : Below W.heap.size W u) => hCF u f3 g3 (ofJ p (i1 : Int)).stcs hb q.out.2.2.1 hoc.stcs
  have HC3 : Hid _ := fun (u : World) (hb : Below W.heap.size W u) => conM_ok (F := 57) (enters_of Tryz.func57 (by kernel_rfl) rfl) (w := u) (post := #[.pointer (some ⟨w.heap.size, 0, none⟩), .pointer (some ⟨w.heap.size + 1, 0, none⟩)]) (f := badM p (faceJ p (i1 : Int))) (q.out.2.2.2.keep fun b q => hb.block b (HT.out.lo b q)) (fun k q => Nat.lt_of_lt_of_le (HT.out.lo k q) hb.size) (fun u' x cs hb' hx hR => by
      have hb2 := hb.trans (hb'.mono hb.size)
      exact (wsg2_ok (HT.out.go hb2) (cell_keep HC.out hb2) hk hR (fun k q => Nat.lt_of_lt_of_le (HT.out.lo k q) hb2.size) (hoc.mds x hx)).mono fun e u2 ⟨a, b⟩ => ⟨a, b.mono hb'.size⟩)
  generalize (ofJ p (i1 : Int)).flds.any (fun f => !typJ p f.ty) = A1 at *
  generalize (ofJ p (i1 : Int)).stcs.any (fun f => !typJ p f.ty) = A2 at *
  generalize (ofJ p (i1 : Int)).mds.any (badM p (faceJ p (i1 : Int))) = A3 at *
  clear hCF h hS hT hTW hk q hb1 hb2 hN hoc hz1
  have HBW : Hid (w.heap.size ≤ W.heap.size) := HB.out.size
  subst hW
  rcases A1 with _ | _ <;> rcases A2 with _ | _
  all_goals
    go_enter Tryz.func33, Tryz.ntmps33
    go_wp2_with (first
      | (go_at_call 55; first
        | (refine hC2.mono ?_; rintro e u2 ⟨rfl, hb⟩; have hw2 := HW1.out.trans (hb.mono HW1.out.size); have HW2 := hidQ hw2; obtain ⟨x0, x1, -, -, x4⟩ := HQ.out u2 hw2; have hC3 := HC3.out u2 hw2; clear hC2 hb hw2)
        | (refine hC1.mono ?_; rintro e u1 ⟨rfl, hb⟩; have HW1 := hidQ hb; obtain ⟨y0, y1, y2, y3, y4⟩ := HQ.out u1 hb; have hC2 := HC2.out u1 hb; clear hC1 hb))
      | (go_at_call 56; refine hC3.mono ?_; rintro e u3 ⟨rfl, hb⟩; have HW3 := hidQ (HW2.out.trans (hb.mono HW2.out.size)); clear hC3 hb))
    go_ret
    first
      | exact ⟨by first | rfl | simp, HB.out.trans (HW3.out.mono HBW.out)⟩
      | exact ⟨by first | rfl | simp, HB.out.trans (HW2.out.mono HBW.out)⟩
      | exact ⟨by first | rfl | simp, HB.out.trans (HW1.out.mono HBW.out)⟩
end Go.Proofs.YtbdfpodglfpjnaaGreat
