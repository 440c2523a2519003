/- The document's own reader: class. -/
import Derived.Test.YtajghalljkphiaaGreatMGD2
import Derived.Test.YtajghalljkphiaaGreatMGD0
import Derived.Test.YtajghalljkphiaaGreatMGD1
import Derived.Test.YtajghalljkphiaaGreatMLLC
import Derived.Test.YtajghalljkphiaaGreatMLCau
namespace Go.Proofs.YtajghalljkphiaaGreat
open Go.RowKit

theorem boxed (r0 : World) (z row : Array Value) (T : TypeId) : ((r0.alloc (.cells z T)).setRow r0.heap.size row).heap[r0.heap.size]? = some (.cells row T (0, 0)) ∧ ((r0.alloc (.cells z T)).setRow r0.heap.size row).heap.size = r0.heap.size + 1 ∧ (∀ k, k < r0.heap.size → ((r0.alloc (.cells z T)).setRow r0.heap.size row).heap[k]? = r0.heap[k]?) ∧ ((r0.alloc (.cells z T)).setRow r0.heap.size row).os = r0.os ∧ ((r0.alloc (.cells z T)).setRow r0.heap.size row).tape = r0.tape ∧ ((r0.alloc (.cells z T)).setRow r0.heap.size row).output = r0.output :=
  ⟨setRow_heap _ _ _ _ _ _ (heap_alloc_new _ _), by rw [size_setRow]; simp, fun k hk => by rw [setRow_other _ _ _ _ (by omega), Below.heap_alloc _ _ _ hk], rfl, rfl, rfl⟩
theorem cs_state (s : ByteArray) (t : Stt) : (stp pCs s t).1 = (stp (pList 24 pMd) s (stp (pList 24 pFd) s (stp (pList 24 pFd) s (stp (pList 8 pNum) s (stp pNum s (stp (pUp 3 1402) s (stp pName s t).1).1).1).1).1).1).1 := by
  rw [show pCs = pMap _ _ from rfl, (stp_map _ _ _ _).1, (stp_seq _ _ _ _).1, (stp_seq _ _ _ _).1, (stp_seq _ _ _ _).1, (stp_seq _ _ _ _).1, (stp_seq _ _ _ _).1, (stp_seq _ _ _ _).1, show (stp pFl2 s (stp pName s t).1).1 = (stp (pUp 3 1402) s (stp pName s t).1).1 from (stp_map _ _ _ _).1]
theorem cs_val {s : ByteArray} {t : Stt} {y : Cs} (hy : (stp pCs s t).2 = some y) {x0 : ByteArray} {x1 x2 : Int} {x3 : List Int} {x4 x5 : List Fd} {x7 : List Md} (h0 : ∀ z, (stp pName s t).2 = some z → x0 = z) (h1 : ∀ z, (stp (pUp 3 1402) s (stp pName s t).1).2 = some z → x1 = z) (h2 : ∀ z, (stp pNum s (stp (pUp 3 1402) s (stp pName s t).1).1).2 = some z → x2 = z) (h3 : ∀ z, (stp (pList 8 pNum) s (stp pNum s (stp (pUp 3 1402) s (stp pName s t).1).1).1).2 = some z → x3 = z) (h4 : ∀ z, (stp (pList 24 pFd) s (stp (pList 8 pNum) s (stp pNum s (stp (pUp 3 1402) s (stp pName s t).1).1).1).1).2 = some z → x4 = z) (h5 : ∀ z, (stp (pList 24 pFd) s (stp (pList 24 pFd) s (stp (pList 8 pNum) s (stp pNum s (stp (pUp 3 1402) s (stp pName s t).1).1).1).1).1).2 = some z → x5 = z) (h7 : ∀ z, (stp (pList 24 pMd) s (stp (pList 24 pFd) s (stp (pList 24 pFd) s (stp (pList 8 pNum) s (stp pNum s (stp (pUp 3 1402) s (stp pName s t).1).1).1).1).1).1).2 = some z → x7 = z) : (⟨x0, x1 % 2 == 1, decide (2 ≤ x1), x2, x3, x4, x5, x7⟩ : Cs) = y := by
  have hfl : (stp pFl2 s (stp pName s t).1).1 = (stp (pUp 3 1402) s (stp pName s t).1).1 := (stp_map _ _ _ _).1
  rw [show pCs = pMap _ _ from rfl, (stp_map _ _ _ _).2, Option.map_eq_some_iff] at hy
  obtain ⟨z, hz, rfl⟩ := hy
  obtain ⟨g0, k0⟩ := (stp_seq _ _ _ _).2 _ hz
  obtain ⟨g1, k1⟩ := (stp_seq _ _ _ _).2 _ k0
  rw [hfl] at k1
  obtain ⟨g2, k2⟩ := (stp_seq _ _ _ _).2 _ k1
  obtain ⟨g3, k3⟩ := (stp_seq _ _ _ _).2 _ k2
  obtain ⟨g4, k4⟩ := (stp_seq _ _ _ _).2 _ k3
  obtain ⟨g5, k5⟩ := (stp_seq _ _ _ _).2 _ k4
  rw [show pFl2 = pMap _ _ from rfl, (stp_map _ _ _ _).2, Option.map_eq_some_iff] at g1
  obtain ⟨f, hf, hf2⟩ := g1
  obtain rfl := h1 _ hf
  have e1 : (x1 % 2 == 1) = z.2.1.1 := by
    rw [← hf2]
    show (x1 % 2 == 1) = decide (x1 % 2 = 1)
    exact Bool.beq_eq_decide_eq _ _
  have e2 : decide (2 ≤ x1) = z.2.1.2 := by rw [← hf2]
  rw [h0 _ g0, e1, e2, h2 _ g2, h3 _ g3, h4 _ g4, h5 _ g5, h7 _ k5]
set_option maxHeartbeats 4000000 in
set_option maxRecDepth 20000 in
theorem qclass_any {w : World} {rh : Nat} {s : ByteArray} {t : Stt} (H : Qb w rh s t) (hs : s.size ≤ maxLen) : Calls Tryz.prog 19 #[.pointer (some ⟨rh, 0, none⟩)] w (QP pCs (Nw kCs w) s rh w t) := by
  obtain ⟨i0, hi, hz0, hz1_, hz2⟩ := info_parts infoLM
  have hrh := H.lt
  have Mp0 : Hid (Mq w rh s 53 #[.string ⟨#[]⟩, .bool false, .bool false, .int .i64 0, .slice none 0 0, .slice none 0 0, .slice none 0 0, .slice none 0 0] #[.string ⟨#[]⟩, .bool false, .bool false, .int .i64 0, .slice none 0 0, .slice none 0 0, .slice none 0 0, .slice none 0 0] t ((w.alloc (.cells #[.string ⟨#[]⟩, .bool false, .bool false, .int .i64 0, .slice none 0 0, .slice none 0 0, .slice none 0 0, .slice none 0 0] 53)).alloc (.cells #[.string ⟨#[]⟩, .bool false, .bool false, .int .i64 0, .slice none 0 0, .slice none 0 0, .slice none 0 0, .slice none 0 0] 53))) := by
    have hz1 : (w.alloc (.cells #[.string ⟨#[]⟩, .bool false, .bool false, .int .i64 0, .slice none 0 0, .slice none 0 0, .slice none 0 0, .slice none 0 0] 53)).heap.size = w.heap.size + 1 := by simp
    have n2 := heap_alloc_new (w.alloc (.cells #[.string ⟨#[]⟩, .bool false, .bool false, .int .i64 0, .slice none 0 0, .slice none 0 0, .slice none 0 0, .slice none 0 0] 53)) (.cells #[.string ⟨#[]⟩, .bool false, .bool false, .int .i64 0, .slice none 0 0, .slice none 0 0, .slice none 0 0, .slice none 0 0] 53)
    rw [hz1] at n2
    have hB : Below w.heap.size w ((w.alloc (.cells #[.string ⟨#[]⟩, .bool false, .bool false, .int .i64 0, .slice none 0 0, .slice none 0 0, .slice none 0 0, .slice none 0 0] 53)).alloc (.cells #[.string ⟨#[]⟩, .bool false, .bool false, .int .i64 0, .slice none 0 0, .slice none 0 0, .slice none 0 0, .slice none 0 0] 53)) := ((Below.refl _ _).alloc (Nat.le_refl _) _).alloc (by omega) _
    exact ⟨Bx.of_below hB, by rw [Below.heap_alloc _ _ _ (by omega)]; exact heap_alloc_new w _, n2, H.below hB, by simp⟩
  have M0 := Mp0
  have hC0 := qname_any Mp0.out.q hs
  clear H
  go_enter Tryz.func19, Tryz.ntmps19
  go_upto_region 16 with (first
    | (go_at_call 40; refine hC0.mono ?_; rintro e u0 ⟨hb0, x0, v0, rfl, hv0, hQ0, hx0⟩; have M1 : Hid (Mq w rh s 53 #[.string ⟨#[]⟩, .bool false, .bool false, .int .i64 0, .slice none 0 0, .slice none 0 0, .slice none 0 0, .slice none 0 0] #[.string ⟨#[]⟩, .bool false, .bool false, .int .i64 0, .slice none 0 0, .slice none 0 0, .slice none 0 0, .slice none 0 0] (stp pName s t).1 u0) := M0.out.call hb0 hQ0 hrh; obtain rfl := hv0; have hC1 := qup_bd 3 1402 (by decide) M1.out.q hs; clear hC0 hb0 hQ0)
    | (go_at_call 18; refine hC1.mono ?_; rintro e u1 ⟨hb1, x1, v1, rfl, hv1, hQ1, hx1⟩; have M2 : Hid (Mq w rh s 53 #[.string ⟨#[]⟩, .bool false, .bool false, .int .i64 0, .slice none 0 0, .slice none 0 0, .slice none 0 0, .slice none 0 0] #[.string ⟨#[]⟩, .bool false, .bool false, .int .i64 0, .slice none 0 0, .slice none 0 0, .slice none 0 0, .slice none 0 0] (stp (pUp 3 1402) s (stp pName s t).1).1 u1) := M1.out.call hb1 hQ1 hrh; obtain ⟨rfl, hbd⟩ := hv1; obtain ⟨hbd1, hbd2⟩ := hbd (by decide); have c0 : u1.cell? ⟨w.heap.size + 1, 0, none⟩ = some (.string ⟨#[]⟩) := M2.out.cell rfl; have f0 : u1.frozen? ⟨w.heap.size + 1, 0, none⟩ = false := M2.out.frz _; have c1 : u1.cell? ⟨w.heap.size + 1, 1, none⟩ = some (.bool false) := M2.out.cell rfl; have f1 : u1.frozen? ⟨w.heap.size + 1, 1, none⟩ = false := M2.out.frz _; have c2 : u1.cell? ⟨w.heap.size + 1, 2, none⟩ = some (.bool false) := M2.out.cell rfl; have f2 : u1.frozen? ⟨w.heap.size + 1, 2, none⟩ = false := M2.out.frz _; have l1 : w.heap.size + 1 < u1.heap.size := M2.out.lt; have Mp2 : Hid (Mq w rh s 53 #[.string ⟨#[]⟩, .bool false, .bool false, .int .i64 0, .slice none 0 0, .slice none 0 0, .slice none 0 0, .slice none 0 0] #[.string x0, .bool (x1 % 2 == 1), .bool (decide (2 ≤ x1)), .int .i64 0, .slice none 0 0, .slice none 0 0, .slice none 0 0, .slice none 0 0] (stp (pUp 3 1402) s (stp pName s t).1).1 (((u1.setCell ⟨w.heap.size + 1, 0, none⟩ (.string x0)).setCell ⟨w.heap.size + 1, 1, none⟩ (.bool (x1 % 2 == 1))).setCell ⟨w.heap.size + 1, 2, none⟩ (.bool (decide (2 ≤ x1))))) := (((M2.out.set (row' := #[.string x0, .bool false, .bool false, .int .i64 0, .slice none 0 0, .slice none 0 0, .slice none 0 0, .slice none 0 0]) hrh rfl).set (row' := #[.string x0, .bool (x1 % 2 == 1), .bool false, .int .i64 0, .slice none 0 0, .slice none 0 0, .slice none 0 0, .slice none 0 0]) hrh rfl).set (row' := #[.string x0, .bool (x1 % 2 == 1), .bool (decide (2 ≤ x1)), .int .i64 0, .slice none 0 0, .slice none 0 0, .slice none 0 0, .slice none 0 0]) hrh rfl); have hC2 := qnum_any Mp2.out.q hs; clear hC1 hb1 hQ1)
    | (go_at_call 17; refine hC2.mono ?_; rintro e u2 ⟨hb2, x2, v2, rfl, hv2, hQ2, hx2⟩; have M3 : Hid (Mq w rh s 53 #[.string ⟨#[]⟩, .bool false, .bool false, .int .i64 0, .slice none 0 0, .slice none 0 0, .slice none 0 0, .slice none 0 0] #[.string x0, .bool (x1 % 2 == 1), .bool (decide (2 ≤ x1)), .int .i64 0, .slice none 0 0, .slice none 0 0, .slice none 0 0, .slice none 0 0] (stp pNum s (stp (pUp 3 1402) s (stp pName s t).1).1).1 u2) := Mp2.out.call hb2 hQ2 hrh; obtain rfl := hv2; have c3 : u2.cell? ⟨w.heap.size + 1, 3, none⟩ = some (.int .i64 0) := M3.out.cell rfl; have f3 : u2.frozen? ⟨w.heap.size + 1, 3, none⟩ = false := M3.out.frz _; have l2 : w.heap.size + 1 < u2.heap.size := M3.out.lt; have Mp3 : Hid (Mq w rh s 53 #[.string ⟨#[]⟩, .bool false, .bool false, .int .i64 0, .slice none 0 0, .slice none 0 0, .slice none 0 0, .slice none 0 0] #[.string x0, .bool (x1 % 2 == 1), .bool (decide (2 ≤ x1)), .int .i64 x2, .slice none 0 0, .slice none 0 0, .slice none 0 0, .slice none 0 0] (stp pNum s (stp (pUp 3 1402) s (stp pName s t).1).1).1 (u2.setCell ⟨w.heap.size + 1, 3, none⟩ (.int .i64 x2))) := (M3.out.set (row' := #[.string x0, .bool (x1 % 2 == 1), .bool (decide (2 ≤ x1)), .int .i64 x2, .slice none 0 0, .slice none 0 0, .slice none 0 0, .slice none 0 0]) hrh rfl); have hC3 := qlist_any 8 (by decide) Mp3.out.q hs; clear hC2 hb2 hQ2)
    | (go_at_call 41; refine hC3.mono ?_; rintro e u3 ⟨hb3, x3, v3, rfl, hv3, hQ3, hx3⟩; have M4 : Hid (Mq w rh s 53 #[.string ⟨#[]⟩, .bool false, .bool false, .int .i64 0, .slice none 0 0, .slice none 0 0, .slice none 0 0, .slice none 0 0] #[.string x0, .bool (x1 % 2 == 1), .bool (decide (2 ≤ x1)), .int .i64 x2, .slice none 0 0, .slice none 0 0, .slice none 0 0, .slice none 0 0] (stp (pList 8 pNum) s (stp pNum s (stp (pUp 3 1402) s (stp pName s t).1).1).1).1 u3) := Mp3.out.call hb3 hQ3 hrh; have hsl3 := hv3; have L3 : Lk kI w u3 v3 x3 := hsl3.mono (fun k hk => ⟨Nat.le_trans Mp3.out.size hk.1, hk.2⟩); obtain ⟨ao3, cap3, rfl, -⟩ := hsl3; have c4 : u3.cell? ⟨w.heap.size + 1, 4, none⟩ = some (.slice none 0 0) := M4.out.cell rfl; have f4 : u3.frozen? ⟨w.heap.size + 1, 4, none⟩ = false := M4.out.frz _; have l3 : w.heap.size + 1 < u3.heap.size := M4.out.lt; have Mp4 : Hid (Mq w rh s 53 #[.string ⟨#[]⟩, .bool false, .bool false, .int .i64 0, .slice none 0 0, .slice none 0 0, .slice none 0 0, .slice none 0 0] #[.string x0, .bool (x1 % 2 == 1), .bool (decide (2 ≤ x1)), .int .i64 x2, .slice ao3 x3.length cap3, .slice none 0 0, .slice none 0 0, .slice none 0 0] (stp (pList 8 pNum) s (stp pNum s (stp (pUp 3 1402) s (stp pName s t).1).1).1).1 (u3.setCell ⟨w.heap.size + 1, 4, none⟩ (.slice ao3 x3.length cap3))) := (M4.out.set (row' := #[.string x0, .bool (x1 % 2 == 1), .bool (decide (2 ≤ x1)), .int .i64 x2, .slice ao3 x3.length cap3, .slice none 0 0, .slice none 0 0, .slice none 0 0]) hrh rfl); have L3 := L3.set 4 (.slice ao3 x3.length cap3); have hC4 := qfields_any Mp4.out.q hs; clear hC3 hb3 hQ3)
    | (go_at_call 42; refine hC4.mono ?_; rintro e u4 ⟨hb4, x4, v4, rfl, hv4, hQ4, hx4⟩; have M5 : Hid (Mq w rh s 53 #[.string ⟨#[]⟩, .bool false, .bool false, .int .i64 0, .slice none 0 0, .slice none 0 0, .slice none 0 0, .slice none 0 0] #[.string x0, .bool (x1 % 2 == 1), .bool (decide (2 ≤ x1)), .int .i64 x2, .slice ao3 x3.length cap3, .slice none 0 0, .slice none 0 0, .slice none 0 0] (stp (pList 24 pFd) s (stp (pList 8 pNum) s (stp pNum s (stp (pUp 3 1402) s (stp pName s t).1).1).1).1).1 u4) := Mp4.out.call hb4 hQ4 hrh; have L3 := L3.call hb4 hrh; have hsl4 := hv4; have L4 : Lk kFd w u4 v4 x4 := hsl4.mono (fun k hk => ⟨Nat.le_trans Mp4.out.size hk.1, hk.2⟩); obtain ⟨ao4, cap4, rfl, -⟩ := hsl4; have c5 : u4.cell? ⟨w.heap.size + 1, 5, none⟩ = some (.slice none 0 0) := M5.out.cell rfl; have f5 : u4.frozen? ⟨w.heap.size + 1, 5, none⟩ = false := M5.out.frz _; have l4 : w.heap.size + 1 < u4.heap.size := M5.out.lt; have Mp5 : Hid (Mq w rh s 53 #[.string ⟨#[]⟩, .bool false, .bool false, .int .i64 0, .slice none 0 0, .slice none 0 0, .slice none 0 0, .slice none 0 0] #[.string x0, .bool (x1 % 2 == 1), .bool (decide (2 ≤ x1)), .int .i64 x2, .slice ao3 x3.length cap3, .slice ao4 x4.length cap4, .slice none 0 0, .slice none 0 0] (stp (pList 24 pFd) s (stp (pList 8 pNum) s (stp pNum s (stp (pUp 3 1402) s (stp pName s t).1).1).1).1).1 (u4.setCell ⟨w.heap.size + 1, 5, none⟩ (.slice ao4 x4.length cap4))) := (M5.out.set (row' := #[.string x0, .bool (x1 % 2 == 1), .bool (decide (2 ≤ x1)), .int .i64 x2, .slice ao3 x3.length cap3, .slice ao4 x4.length cap4, .slice none 0 0, .slice none 0 0]) hrh rfl); have L3 := L3.set 5 (.slice ao4 x4.length cap4); have L4 := L4.set 5 (.slice ao4 x4.length cap4); have hC5 := qfields_any Mp5.out.q hs; clear hC4 hb4 hQ4)
    | (go_at_call 42; refine hC5.mono ?_; rintro e u5 ⟨hb5, x5, v5, rfl, hv5, hQ5, hx5⟩; have M6 : Hid (Mq w rh s 53 #[.string ⟨#[]⟩, .bool false, .bool false, .int .i64 0, .slice none 0 0, .slice none 0 0, .slice none 0 0, .slice none 0 0] #[.string x0, .bool (x1 % 2 == 1), .bool (decide (2 ≤ x1)), .int .i64 x2, .slice ao3 x3.length cap3, .slice ao4 x4.length cap4, .slice none 0 0, .slice none 0 0] (stp (pList 24 pFd) s (stp (pList 24 pFd) s (stp (pList 8 pNum) s (stp pNum s (stp (pUp 3 1402) s (stp pName s t).1).1).1).1).1).1 u5) := Mp5.out.call hb5 hQ5 hrh; have L3 := L3.call hb5 hrh; have L4 := L4.call hb5 hrh; have hsl5 := hv5; have L5 : Lk kFd w u5 v5 x5 := hsl5.mono (fun k hk => ⟨Nat.le_trans Mp5.out.size hk.1, hk.2⟩); obtain ⟨ao5, cap5, rfl, -⟩ := hsl5; have c6 : u5.cell? ⟨w.heap.size + 1, 6, none⟩ = some (.slice none 0 0) := M6.out.cell rfl; have f6 : u5.frozen? ⟨w.heap.size + 1, 6, none⟩ = false := M6.out.frz _; have l5 : w.heap.size + 1 < u5.heap.size := M6.out.lt; have Mp6 : Hid (Mq w rh s 53 #[.string ⟨#[]⟩, .bool false, .bool false, .int .i64 0, .slice none 0 0, .slice none 0 0, .slice none 0 0, .slice none 0 0] #[.string x0, .bool (x1 % 2 == 1), .bool (decide (2 ≤ x1)), .int .i64 x2, .slice ao3 x3.length cap3, .slice ao4 x4.length cap4, .slice ao5 x5.length cap5, .slice none 0 0] (stp (pList 24 pFd) s (stp (pList 24 pFd) s (stp (pList 8 pNum) s (stp pNum s (stp (pUp 3 1402) s (stp pName s t).1).1).1).1).1).1 (u5.setCell ⟨w.heap.size + 1, 6, none⟩ (.slice ao5 x5.length cap5))) := (M6.out.set (row' := #[.string x0, .bool (x1 % 2 == 1), .bool (decide (2 ≤ x1)), .int .i64 x2, .slice ao3 x3.length cap3, .slice ao4 x4.length cap4, .slice ao5 x5.length cap5, .slice none 0 0]) hrh rfl); have L3 := L3.set 6 (.slice ao5 x5.length cap5); have L4 := L4.set 6 (.slice ao5 x5.length cap5); have L5 := L5.set 6 (.slice ao5 x5.length cap5); have hC6 := qup_any 24 1404 (by decide) Mp6.out.q hs; clear hC5 hb5 hQ5)
    | (go_at_call 18; refine hC6.mono ?_; rintro e u6 ⟨hb6, x6, v6, rfl, hv6, hQ6, hx6⟩; have M7 : Hid (Mq w rh s 53 #[.string ⟨#[]⟩, .bool false, .bool false, .int .i64 0, .slice none 0 0, .slice none 0 0, .slice none 0 0, .slice none 0 0] #[.string x0, .bool (x1 % 2 == 1), .bool (decide (2 ≤ x1)), .int .i64 x2, .slice ao3 x3.length cap3, .slice ao4 x4.length cap4, .slice ao5 x5.length cap5, .slice none 0 0] (stp (pUp 24 1404) s (stp (pList 24 pFd) s (stp (pList 24 pFd) s (stp (pList 8 pNum) s (stp pNum s (stp (pUp 3 1402) s (stp pName s t).1).1).1).1).1).1).1 u6) := Mp6.out.call hb6 hQ6 hrh; have L3 := L3.call hb6 hrh; have L4 := L4.call hb6 hrh; have L5 := L5.call hb6 hrh; obtain rfl := hv6; clear hC6 hb6 hQ6))
  have hxm1 : ∀ b, (stp (pUp 24 1404) s (stp (pList 24 pFd) s (stp (pList 24 pFd) s (stp (pList 8 pNum) s (stp pNum s (stp (pUp 3 1402) s (stp pName s t).1).1).1).1).1).1).1 = .ok b → 0 ≤ x6 ∧ x6 ≤ 24 := fun b hb => up_bound hb hx6
  have hR1 := Rem.start (p := pMd) hx6
  obtain ⟨Z1, hZ1⟩ : ∃ Z, stp (pList 24 pMd) s (stp (pList 24 pFd) s (stp (pList 24 pFd) s (stp (pList 8 pNum) s (stp pNum s (stp (pUp 3 1402) s (stp pName s t).1).1).1).1).1).1 = Z := ⟨_, rfl⟩
  rw [hZ1] at hR1
  have HI1 : Hid (QIm kMd 63 Z1 pMd s rh (w.heap.size + 1) 53 (fun v => #[.string x0, .bool (x1 % 2 == 1), .bool (decide (2 ≤ x1)), .int .i64 x2, .slice ao3 x3.length cap3, .slice ao4 x4.length cap4, .slice ao5 x5.length cap5, v]) (fun k => k = rh ∨ k = w.heap.size + 1) u6 x6.toNat 0 (.slice none 0 0) u6 (stp (pUp 24 1404) s (stp (pList 24 pFd) s (stp (pList 24 pFd) s (stp (pList 8 pNum) s (stp pNum s (stp (pUp 3 1402) s (stp pName s t).1).1).1).1).1).1).1 ∧ ∀ b, (stp (pUp 24 1404) s (stp (pList 24 pFd) s (stp (pList 24 pFd) s (stp (pList 8 pNum) s (stp pNum s (stp (pUp 3 1402) s (stp pName s t).1).1).1).1).1).1).1 = .ok b → 0 ≤ x6 ∧ x6 ≤ 24) := ⟨⟨[], rfl, Gro.nil _ _ _ _, Bs.refl _ _, M7.out.q, hR1, M7.out.box⟩, hxm1⟩
  have hu1 : w.heap.size + 1 < u6.heap.size := M7.out.lt
  have HZ1 : Hid (stp (pList 24 pMd) s (stp (pList 24 pFd) s (stp (pList 24 pFd) s (stp (pList 8 pNum) s (stp pNum s (stp (pUp 3 1402) s (stp pName s t).1).1).1).1).1).1 = Z1) := hZ1
  clear hxm1 hR1 hZ1 hx6
  go_wp2_with (fail)
  go_loopg [11] (x6.toNat + 1) (fun kx s12 wr => ∃ (i : Nat) (v : Value) (t : Stt), s12 = .int .i64 i ∧ x6.toNat - i ≤ kx ∧ Hid (QIm kMd 63 Z1 pMd s rh (w.heap.size + 1) 53 (fun v => #[.string x0, .bool (x1 % 2 == 1), .bool (decide (2 ≤ x1)), .int .i64 x2, .slice ao3 x3.length cap3, .slice ao4 x4.length cap4, .slice ao5 x5.length cap5, v]) (fun k => k = rh ∨ k = w.heap.size + 1) u6 x6.toNat i v wr t) ∧ Hid (∀ b, t = .ok b → 0 ≤ x6 ∧ x6 ≤ 24 ∧ i ≤ x6.toNat))
  case atStart => exact ⟨0, _, _, rfl, by omega, HI1.out.1, fun b hb => ⟨(HI1.out.2 b hb).1, (HI1.out.2 b hb).2, by omega⟩⟩
  case round =>
    obtain ⟨i, v, t1, rfl, hkx, HL, HA⟩ := hrel
    obtain ⟨c, hc, hc0⟩ := qcode2 HL.out.choose_spec.2.2.2.1
    obtain ⟨B, hB⟩ : ∃ B : Bool, B = (decide ((i : Int) < x6) && alive t1) := ⟨_, rfl⟩
    have HBt : Hid (B = (decide ((i : Int) < x6) && alive t1)) := hB
    have HC0 : Hid ((c == 0) = alive t1) := hc0
    clear hB hc0
    go_upto_region 17 with (fail)
    go_cut [53] from 44 to 53 (fun s61 wx => s61 = .bool B ∧ wr = wx)
    case first =>
      by_cases hlt : (i : Int) < x6
      · cases hcz : (c == 0) with
        | true =>
          have HV : Hid (B = true) := by show _ = _; rw [HBt.out, decide_eq_true hlt, ← HC0.out, hcz]; rfl
          as_aux_lemma =>
            go_wp2_with (fail)
            go_meet
            exact ⟨by rw [HV.out], rfl⟩
        | false =>
          have HV : Hid (B = false) := by show _ = _; rw [HBt.out, ← HC0.out, hcz, Bool.and_false]
          as_aux_lemma =>
            go_wp2_with (fail)
            go_meet
            exact ⟨by rw [HV.out], rfl⟩
      · have hd : decide ((i : Int) < x6) = false := decide_eq_false hlt
        have HV : Hid (B = false) := by show _ = _; rw [HBt.out, hd, Bool.false_and]
        as_aux_lemma =>
          go_wp2_with (fail)
          go_meet
          exact ⟨by rw [HV.out], rfl⟩
    case rest =>
    obtain ⟨rfl, rfl⟩ := hcut
    cases B with
    | true =>
      have hlt0 : (i : Int) < x6 := by
        apply Classical.byContradiction; intro hn
        have := HBt.out; rw [decide_eq_false hn] at this; cases this
      cases t1 with
      | error e => have := HBt.out; rw [decide_eq_true hlt0] at this; simp [alive] at this
      | ok b =>
      obtain ⟨a1, a2, a3⟩ := HA.out b rfl
      have hlt : i < x6.toNat := by omega
      clear hlt0 hc HC0 HBt
      have hD0 := qmethod_any HL.out.choose_spec.2.2.2.1 hs
      have hwz := (HL.out.choose_spec.2.2.1).size
      have HN : Hid (∀ w1 y, Bx rh wr w1 → Qb w1 rh s (stp pMd s (.ok b)).1 → (∀ z, (stp pMd s (.ok b)).2 = some z → y = z) → _) := fun w1 y q1 q2 q3 => HL.out.next (j := 7) hlt (by omega) hu1 (by omega) (.inl rfl) (.inr rfl) (fun _ => rfl) q1 q2 q3
      have HS : Hid ((stp pMd s (.ok b)).1 = (stp pMd s (.ok b)).1) := rfl
      have HE : Hid (True) := trivial
      clear HL HA HI1
      ·
        go_wp2_with (first
          | (go_at_call 43; refine hD0.mono ?_; rintro e r0 ⟨hb0, y0, vy0, rfl, hv0, hQ0, hy0⟩; obtain ⟨cs0, hR0, rfl⟩ := hv0; have HK0 : Hid (kMd.R r0 (fun b => wr.heap.size ≤ b ∧ b < r0.heap.size) y0 cs0) := hR0; obtain ⟨m1, m2, m3, m4, rfl, s1, s2, s3, s4⟩ := hR0; obtain ⟨am1, cm1, rfl, -⟩ := s1; obtain ⟨am2, cm2, rfl, -⟩ := s2; obtain ⟨am3, cm3, rfl, -⟩ := s3; obtain ⟨am4, cm4, rfl, -⟩ := s4; have HN0 : Hid ((r0.alloc (.cells #[.string ⟨#[]⟩, .bool false, .slice none 0 0, .int .i64 0, .int .i64 0, .int .i64 0, .slice none 0 0, .slice none 0 0, .slice none 0 0] 63)).heap[r0.heap.size]? = some (.cells #[.string ⟨#[]⟩, .bool false, .slice none 0 0, .int .i64 0, .int .i64 0, .int .i64 0, .slice none 0 0, .slice none 0 0, .slice none 0 0] 63 (0, 0))) := heap_alloc_new _ _; have HY0 : Hid (∀ y, (stp pMd s (.ok b)).2 = some y → y0 = y) := hy0; have HB0 : Hid (Bx rh wr r0) := hb0; have HQ0 : Hid (Qb r0 rh s (stp pMd s (.ok b)).1) := hQ0; clear hD0 hb0 hQ0 hy0)
          | (refine wpList_load_row rfl 63 _ rfl r0.heap.size rfl 63 _ (0, 0) _ HG1.out Tryz.underlying63 rfl infoRMd ?_)
          | (refine wpList_store_row rfl 63 _ _ rfl r0.heap.size _ rfl rfl 63 _ HN0.out infoRMd rfl (by simp [Value.oneCell']) ?_; have hx := boxed r0 #[.string ⟨#[]⟩, .bool false, .slice none 0 0, .int .i64 0, .int .i64 0, .int .i64 0, .slice none 0 0, .slice none 0 0, .slice none 0 0] #[.string y0.nm, .bool y0.stc, .slice am1 y0.args.length cm1, .int .i64 y0.ret, .int .i64 y0.lo, .int .i64 y0.st, .slice am2 y0.code.length cm2, .slice am3 y0.tab.length cm3, .slice am4 y0.maps.length cm4] 63; generalize ((r0.alloc (.cells #[.string ⟨#[]⟩, .bool false, .slice none 0 0, .int .i64 0, .int .i64 0, .int .i64 0, .slice none 0 0, .slice none 0 0, .slice none 0 0] 63)).setRow r0.heap.size #[.string y0.nm, .bool y0.stc, .slice am1 y0.args.length cm1, .int .i64 y0.ret, .int .i64 y0.lo, .int .i64 y0.st, .slice am2 y0.code.length cm2, .slice am3 y0.tab.length cm3, .slice am4 y0.maps.length cm4]) = r1 at hx ⊢; obtain ⟨g1, z1, k1, o1⟩ := hx; have HG1 : Hid (r1.heap[r0.heap.size]? = some (.cells #[.string y0.nm, .bool y0.stc, .slice am1 y0.args.length cm1, .int .i64 y0.ret, .int .i64 y0.lo, .int .i64 y0.st, .slice am2 y0.code.length cm2, .slice am3 y0.tab.length cm3, .slice am4 y0.maps.length cm4] 63 (0, 0))) := g1; have HB1 : Hid (Bx rh wr r1) := (HB0.out.trans ⟨o1.1, o1.2.1, o1.2.2, by omega, fun k hk _ => k1 k hk⟩); have hQ1 : Qb r1 rh s (stp pMd s (.ok b)).1 := HQ0.out.keep (k1 _ HQ0.out.lt); have HQ : Hid (kMd.R r1 (fun b => wr.heap.size ≤ b ∧ b < r1.heap.size) y0 [.string y0.nm, .bool y0.stc, .slice am1 y0.args.length cm1, .int .i64 y0.ret, .int .i64 y0.lo, .int .i64 y0.st, .slice am2 y0.code.length cm2, .slice am3 y0.tab.length cm3, .slice am4 y0.maps.length cm4]) := (kMd.mono (fun k hk => ⟨hk.1, by omega⟩) (kMd.keep (fun k hk => k1 k hk.2) HK0.out)); obtain ⟨hm3, ⟨fs, hfs⟩, h9⟩ := HN.out r1 y0 HB1.out hQ1 HY0.out; have hz9 := HB1.out.size; have cm : r1.cell? ⟨w.heap.size + 1, 7, none⟩ = some v := (by simp only [World.cell?, hm3]; rfl); have HF : Hid (r1.ownsRow u6.heap.size 63 9 v i fs) := hfs; have H9 : Hid _ := h9 [.string y0.nm, .bool y0.stc, .slice am1 y0.args.length cm1, .int .i64 y0.ret, .int .i64 y0.lo, .int .i64 y0.st, .slice am2 y0.code.length cm2, .slice am3 y0.tab.length cm3, .slice am4 y0.maps.length cm4] fs; clear hm3 h9 hfs g1 z1 k1 o1 hQ1 HK0 HN0)
          | (at_builtin; refine wpList_append_lies _ rfl _ _ 51 rfl u6.heap.size 63 i0 (.agg #[.string ⟨#[]⟩, .bool false, .slice none 0 0, .int .i64 0, .int .i64 0, .int .i64 0, .slice none 0 0, .slice none 0 0, .slice none 0 0]) 9 144 Tryz.underlying51 hi hz0 hz1_ hz2 rfl (by decide) _ i fs rfl (HF.out.alloc _) ⟨r1.heap.size, 0, none⟩ 1 1 [.string y0.nm, .bool y0.stc, .slice am1 y0.args.length cm1, .int .i64 y0.ret, .int .i64 y0.lo, .int .i64 y0.st, .slice am2 y0.code.length cm2, .slice am3 y0.tab.length cm3, .slice am4 y0.maps.length cm4] rfl rfl (news_at _ _ _) (kMd.one HQ.out) (by decide) (by unfold maxLen; omega) (by omega) (by simp; omega) _ rfl ?_; intro g cap w2 hown hgrow hat hlt3; obtain ⟨hm4, h10⟩ := H9.out _ w2 g cap HQ.out HF.out hown hgrow hat; have HO : Hid _ := h10; have cz : w2.cell? ⟨w.heap.size + 1, 7, none⟩ = some v := (by simp [World.cell?, hm4]); have fz : w2.frozen? ⟨w.heap.size + 1, 7, none⟩ = false := (by simp [World.frozen?, hm4]); have lz := blk_ltD hm4; clear hown hgrow hat H9 hm4 h10))
        go_roundg (x6.toNat - (i + 1))
        case measure => omega
        case rel => exact ⟨i + 1, _, _, by go_num, by omega, HO.out, fun _ _ => ⟨a1, a2, by omega⟩⟩
    | false =>
      have HF1 : Hid _ := HL.out.fin (by
        have hb := HBt.out
        cases t1 with
        | error e => exact .inl ⟨_, rfl⟩
        | ok b =>
          right
          apply Classical.byContradiction; intro hn
          obtain ⟨a1, a2, a3⟩ := HA.out b rfl
          rw [decide_eq_true (by omega : (i : Int) < x6)] at hb; simp [alive] at hb)
      clear HL HA HI1 hc HC0 HBt hkx
      obtain ⟨qb2, qm2, x7, qs2, qq2, qy2⟩ := HF1.out
      have kS := hu1
      have kS4 := qb2.size
      have HM3 : Hid (wr.heap[w.heap.size + 1]? = some (.cells #[.string x0, .bool (x1 % 2 == 1), .bool (decide (2 ≤ x1)), .int .i64 x2, .slice ao3 x3.length cap3, .slice ao4 x4.length cap4, .slice ao5 x5.length cap5, v] 53 (0, 0))) := qm2
      have HR3 : Hid (wr.heap[w.heap.size]? = some (.cells #[.string ⟨#[]⟩, .bool false, .bool false, .int .i64 0, .slice none 0 0, .slice none 0 0, .slice none 0 0, .slice none 0 0] 53 (0, 0))) := by
        show _ = _
        rw [qb2.block _ (by omega) (by omega)]
        exact M7.out.res
      have HBX : Hid (∀ k, k < u6.heap.size → k ≠ rh → k ≠ w.heap.size + 1 → wr.heap[k]? = u6.heap[k]?) := fun k hk e1 e2 => by
        rw [qb2.block k hk (by omega)]
      have HT7 : Hid (Sl kMd wr (fun b => u6.heap.size ≤ b ∧ b < wr.heap.size) v x7) := qs2
      have HO3 : Hid (wr.os = w.os ∧ wr.tape = w.tape ∧ wr.output = w.output) := ⟨qb2.os.trans M7.out.bx.os, qb2.tape.trans M7.out.bx.tape, qb2.output.trans M7.out.bx.output⟩
      have HQ3 : Hid (Qb wr rh s Z1.1) := qq2
      have HY2 : Hid (∀ ys, Z1.2 = some ys → x7 = ys) := qy2
      obtain ⟨am_, cm_, hvm, -⟩ := qs2
      subst hvm
      clear HF1 qb2 qm2 qq2 qy2
      go_wp2_with (first
        | (refine wpList_load_row rfl 53 _ rfl (w.heap.size + 1) rfl 53 _ (0, 0) _ HM3.out Tryz.underlying53 rfl infoRCs ?_)
        | (refine wpList_store_row rfl 53 _ _ rfl w.heap.size _ rfl rfl 53 _ HR3.out infoRCs rfl (by simp [Value.oneCell']) ?_))
      refine bodyPost_ret (results_cell_row rfl _ _ w.heap.size 53 #[.string x0, .bool (x1 % 2 == 1), .bool (decide (2 ≤ x1)), .int .i64 x2, .slice ao3 x3.length cap3, .slice ao4 x4.length cap4, .slice ao5 x5.length cap5, .slice am_ x7.length cm_] (0, 0) _ rfl (setRow_heap _ _ _ _ _ _ HR3.out) Tryz.underlying53 rfl infoRCs) rfl ?_
      have hsame : ∀ k, k ≠ w.heap.size → (wr.setRow w.heap.size #[.string x0, .bool (x1 % 2 == 1), .bool (decide (2 ≤ x1)), .int .i64 x2, .slice ao3 x3.length cap3, .slice ao4 x4.length cap4, .slice ao5 x5.length cap5, .slice am_ x7.length cm_]).heap[k]? = wr.heap[k]? := fun k hn => setRow_other _ _ _ _ hn
      have hsz : (wr.setRow w.heap.size #[.string x0, .bool (x1 % 2 == 1), .bool (decide (2 ≤ x1)), .int .i64 x2, .slice ao3 x3.length cap3, .slice ao4 x4.length cap4, .slice ao5 x5.length cap5, .slice am_ x7.length cm_]).heap.size = wr.heap.size := by rw [size_setRow]
      refine ⟨⟨HO3.out.1, HO3.out.2.1, HO3.out.2.2, by rw [hsz]; omega, fun k hk e => ?_⟩, ⟨x0, x1 % 2 == 1, decide (2 ≤ x1), x2, x3, x4, x5, x7⟩, _, rfl, ⟨_, ⟨_, _, _, _, rfl, ?_, ?_, ?_, ?_⟩, rfl⟩, ?_, ?_⟩
      · rw [hsame k (by omega), HBX.out k (by omega) e (by omega)]; exact M7.out.bx.block k hk e
      · exact (Sl.keep (fun k hk => by rw [hsame k (by have := hk.1; omega), HBX.out k hk.2 (by have := hk.1; omega) (by have := hk.1; omega)]) L3).mono fun k hk => ⟨by have := hk.1; omega, by rw [hsz]; have := hk.2; omega⟩
      · exact (Sl.keep (fun k hk => by rw [hsame k (by have := hk.1; omega), HBX.out k hk.2 (by have := hk.1; omega) (by have := hk.1; omega)]) L4).mono fun k hk => ⟨by have := hk.1; omega, by rw [hsz]; have := hk.2; omega⟩
      · exact (Sl.keep (fun k hk => by rw [hsame k (by have := hk.1; omega), HBX.out k hk.2 (by have := hk.1; omega) (by have := hk.1; omega)]) L5).mono fun k hk => ⟨by have := hk.1; omega, by rw [hsz]; have := hk.2; omega⟩
      · exact (HT7.out.keep fun k hk => hsame k (by have := hk.1; omega)).mono fun k hk => ⟨by have := hk.1; omega, by rw [hsz]; exact hk.2⟩
      · rw [cs_state, HZ1.out]; exact HQ3.out.keep (hsame rh (by omega))
      · exact fun y hy => cs_val hy hx0 hx1 hx2 hx3 hx4 hx5 (by rw [HZ1.out]; exact HY2.out)
end Go.Proofs.YtajghalljkphiaaGreat
/- The document's own Decode. -/
namespace Go.Proofs.YtajghalljkphiaaGreat
open Go.RowKit

theorem pg_state (s : ByteArray) (t : Stt) : (stp pPg s t).1 = (stp (pList 40 pCs) s (stp pNum s t).1).1 := by
  rw [show pPg = pMap _ _ from rfl, (stp_map _ _ _ _).1, (stp_seq _ _ _ _).1]
theorem pg_val {s : ByteArray} {t : Stt} {y : Pg} (hy : (stp pPg s t).2 = some y) {x0 : Int} {x7 : List Cs} (h0 : ∀ z, (stp pNum s t).2 = some z → x0 = z) (h7 : ∀ z, (stp (pList 40 pCs) s (stp pNum s t).1).2 = some z → x7 = z) : (⟨x0, x7⟩ : Pg) = y := by
  rw [show pPg = pMap _ _ from rfl, (stp_map _ _ _ _).2, Option.map_eq_some_iff] at hy
  obtain ⟨z, hz, rfl⟩ := hy
  obtain ⟨g0, k0⟩ := (stp_seq _ _ _ _).2 _ hz
  rw [h0 _ g0, h7 _ k0]
theorem stp_dead2 {α : Type} {p : Prs α} {s : ByteArray} {a : Nat} {e : Nat × Int} (h : (stp p s (.ok a)).1 = .error e) : p s a = .error e := by
  rcases hp : p s a with e2 | ⟨x, b⟩
  · rw [stp_err hp] at h; injection h with h; rw [h]
  · rw [stp_ok hp] at h; cases h
theorem stp_live {α : Type} {p : Prs α} {s : ByteArray} {a b : Nat} (h : (stp p s (.ok a)).1 = .ok b) : ∃ x, p s a = .ok (x, b) := by
  rcases hp : p s a with e2 | ⟨x, c⟩
  · rw [stp_err hp] at h; cases h
  · rw [stp_ok hp] at h; injection h with h; exact ⟨x, by rw [h]⟩
theorem stp_live2 {α : Type} {p : Prs α} {s : ByteArray} {a b : Nat} {x : α} (h : (stp p s (.ok a)).1 = .ok b) (hx : ∀ y, (stp p s (.ok a)).2 = some y → y = x) : p s a = .ok (x, b) := by
  obtain ⟨y, hy⟩ := stp_live h
  rw [hy, hx y (by rw [stp_ok hy])]
section
variable {s : ByteArray} (h1 : ¬ 32768 < s.size) (h2 : s.data.toList.take 4 = mag)
include h1 h2
theorem dec_dead {e : Nat × Int} (h : pPg s 4 = .error e) : decP s = .error e := by
  unfold decP; rw [if_neg h1, if_pos h2, h]
theorem dec_tail {b : Nat} (h : ∃ x, pPg s 4 = .ok (x, b)) (hb : b < s.size) : decP s = .error (b, 1405) := by
  obtain ⟨x, h⟩ := h
  unfold decP; rw [if_neg h1, if_pos h2, h]; exact if_pos hb
theorem dec_live {b : Nat} {x : Pg} (h : pPg s 4 = .ok (x, b)) (hb : ¬ b < s.size) : decP s = .ok x := by
  unfold decP; rw [if_neg h1, if_pos h2, h]; exact if_neg hb
end
/-- What the document's Decode answers. -/
def DeD (s : ByteArray) (w : World) (e : Ending) (w' : World) : Prop := Below w.heap.size w w' ∧ match decP s with
  | .ok p => ∃ v, e = .returned (.tuple #[v, .int .i64 0, .int .i64 0]) ∧ Nw kPg w p v w'
  | .error (q, c) => e = .returned (.tuple #[.agg #[.int .i64 0, .slice none 0 0], .int .i64 q, .int .i64 c])
/-- The result's box, the reader's, the program's, while it is read. -/
structure Dq (w : World) (s : ByteArray) (row : Array Value) (t : Stt) (u : World) : Prop where
  bel : Below w.heap.size w u
  res : u.heap[w.heap.size]? = some (.cells #[.int .i64 0, .slice none 0 0] 24 (0, 0))
  box : u.heap[w.heap.size + 2]? = some (.cells row 24 (0, 0))
  q : Qb u (w.heap.size + 1) s t
  size : w.heap.size + 3 ≤ u.heap.size
section
variable {w : World} {s : ByteArray} {row : Array Value} {t : Stt} {u : World}
theorem Dq.call {u' : World} {t' : Stt} (h : Dq w s row t u) (hb : Bx (w.heap.size + 1) u u') (hq : Qb u' (w.heap.size + 1) s t') : Dq w s row t' u' :=
  ⟨⟨hb.os.trans h.bel.os, hb.tape.trans h.bel.tape, hb.output.trans h.bel.output, Nat.le_trans h.bel.size hb.size, fun k hk => (hb.block k (by have := h.size; omega) (by omega)).trans (h.bel.block k hk)⟩, (hb.block _ (by have := h.size; omega) (by omega)).trans h.res, (hb.block _ (by have := h.size; omega) (by omega)).trans h.box, hq, Nat.le_trans h.size hb.size⟩
theorem Dq.set {j : Nat} {v : Value} {row' : Array Value} (h : Dq w s row t u) (hr : row.setIfInBounds j v = row') : Dq w s row' t (u.setCell ⟨w.heap.size + 2, j, none⟩ v) := by
  subst hr
  refine ⟨⟨h.bel.os, h.bel.tape, h.bel.output, by simp [World.setCell]; exact h.bel.size, fun k hk => ?_⟩, ?_, hset h.box _, h.q.keep ?_, by simp [World.setCell]; exact h.size⟩
  · rw [Below.heap_setCell _ _ _ _ (show k ≠ w.heap.size + 2 by omega)]; exact h.bel.block k hk
  · rw [Below.heap_setCell _ _ _ _ (show w.heap.size ≠ w.heap.size + 2 by omega)]; exact h.res
  · exact Below.heap_setCell _ _ _ _ (show w.heap.size + 1 ≠ w.heap.size + 2 by omega)
theorem Dq.cell {j : Nat} {v : Value} (h : Dq w s row t u) (hr : row[j]? = some v) : u.cell? ⟨w.heap.size + 2, j, none⟩ = some v := by simp [World.cell?, h.box, hr]
theorem Dq.frz (h : Dq w s row t u) (j : Nat) : u.frozen? ⟨w.heap.size + 2, j, none⟩ = false := by simp [World.frozen?, h.box]
theorem Dq.lt (h : Dq w s row t u) : w.heap.size + 2 < u.heap.size := by have := h.size; omega
end
theorem Dq.start (w : World) (s : ByteArray) (hs : 4 ≤ s.size) : Dq w s #[.int .i64 0, .slice none 0 0] (.ok 4) (((w.alloc (.cells #[.int .i64 0, .slice none 0 0] 24)).alloc (.cells #[.string s, .int .i64 4, .int .i64 0, .int .i64 0] 46)).alloc (.cells #[.int .i64 0, .slice none 0 0] 24)) := by
  have z1 : (w.alloc (.cells #[.int .i64 0, .slice none 0 0] 24)).heap.size = w.heap.size + 1 := by simp
  have z2 : ((w.alloc (.cells #[.int .i64 0, .slice none 0 0] 24)).alloc (.cells #[.string s, .int .i64 4, .int .i64 0, .int .i64 0] 46)).heap.size = w.heap.size + 2 := by simp
  have n2 := heap_alloc_new (w.alloc (.cells #[.int .i64 0, .slice none 0 0] 24)) (.cells #[.string s, .int .i64 4, .int .i64 0, .int .i64 0] 46)
  have n3 := heap_alloc_new ((w.alloc (.cells #[.int .i64 0, .slice none 0 0] 24)).alloc (.cells #[.string s, .int .i64 4, .int .i64 0, .int .i64 0] 46)) (.cells #[.int .i64 0, .slice none 0 0] 24)
  rw [z1] at n2
  rw [z2] at n3
  have hB : Below w.heap.size w (((w.alloc (.cells #[.int .i64 0, .slice none 0 0] 24)).alloc (.cells #[.string s, .int .i64 4, .int .i64 0, .int .i64 0] 46)).alloc (.cells #[.int .i64 0, .slice none 0 0] 24)) := (((Below.refl _ _).alloc (Nat.le_refl _) _).alloc (by omega) _).alloc (by omega) _
  refine ⟨hB, ?_, n3, ⟨?_, hs⟩, by simp⟩
  · rw [Below.heap_alloc _ _ _ (by omega), Below.heap_alloc _ _ _ (by omega)]; exact heap_alloc_new w _
  · rw [Below.heap_alloc _ _ _ (by omega)]; exact n2
set_option maxHeartbeats 4000000 in
set_option maxRecDepth 20000 in
theorem qdec_long (s : ByteArray) (w : World) (h : 32768 < s.size) : Calls Tryz.prog 6 #[.string s] w (DeD s w) := by
  have HE : Hid (decP s = .error (0, 1406)) := by show _ = _; unfold decP; rw [if_pos h]
  have d1 : (32768 : Int) < (s.size : Int) := by omega
  have n1 := heap_alloc_new w (.cells #[.int .i64 0, .slice none 0 0] 24)
  have HN : Hid ((w.alloc (.cells #[.int .i64 0, .slice none 0 0] 24)).heap[w.heap.size]? = some (.cells #[.int .i64 0, .slice none 0 0] 24 (0, 0))) := n1
  clear n1 h
  go_enter Tryz.func6, Tryz.ntmps6
  go_wp2_with (first
    | (refine wpList_store_row rfl 24 _ _ rfl w.heap.size _ rfl rfl 24 _ HN.out infoRPg rfl (by simp [Value.oneCell']) ?_))
  refine bodyPost_ret (results_ctt rfl _ _ w.heap.size 24 #[.int .i64 0, .slice none 0 0] (0, 0) _ rfl (setRow_heap _ _ _ _ _ _ HN.out) Tryz.underlying24 rfl infoRPg) rfl ?_
  unfold DeD
  rw [HE.out]
  exact ⟨⟨rfl, rfl, rfl, by rw [size_setRow]; simp, fun k hk => by rw [setRow_other _ _ _ _ (by omega), Below.heap_alloc _ _ _ hk]⟩, rfl⟩
set_option maxHeartbeats 4000000 in
set_option maxRecDepth 20000 in
theorem qdec_mag (s : ByteArray) (w : World) (h : ¬ 32768 < s.size) (h2 : ¬ s.data.toList.take 4 = mag) : Calls Tryz.prog 6 #[.string s] w (DeD s w) := by
  have HE : Hid (decP s = .error (0, 1400)) := by show _ = _; unfold decP; rw [if_neg h, if_neg h2]
  have d1 : ¬ (32768 : Int) < (s.size : Int) := by omega
  have n1 := heap_alloc_new w (.cells #[.int .i64 0, .slice none 0 0] 24)
  have HN : Hid ((w.alloc (.cells #[.int .i64 0, .slice none 0 0] 24)).heap[w.heap.size]? = some (.cells #[.int .i64 0, .slice none 0 0] 24 (0, 0))) := n1
  have HM : Hid (4 ≤ s.size → ((s.extract 0 4).toList == [71, 78, 83, 83]) = false) := fun h4 => by
    have e : (s.extract 0 4).toList = s.data.toList.take 4 := by
      rw [ByteArray.toList_eq]
      have := ext_from s 0 4
      rw [Nat.zero_add] at this
      rw [this]; rfl
    rw [e, beq_eq_false_iff_ne]; exact h2
  clear n1 h h2
  by_cases h4 : s.size < 4
  · have d2 : (s.size : Int) < 4 := by omega
    clear HM
    go_enter Tryz.func6, Tryz.ntmps6
    go_wp2_with (first
      | (refine wpList_store_row rfl 24 _ _ rfl w.heap.size _ rfl rfl 24 _ HN.out infoRPg rfl (by simp [Value.oneCell']) ?_))
    refine bodyPost_ret (results_ctt rfl _ _ w.heap.size 24 #[.int .i64 0, .slice none 0 0] (0, 0) _ rfl (setRow_heap _ _ _ _ _ _ HN.out) Tryz.underlying24 rfl infoRPg) rfl ?_
    unfold DeD
    rw [HE.out]
    exact ⟨⟨rfl, rfl, rfl, by rw [size_setRow]; simp, fun k hk => by rw [setRow_other _ _ _ _ (by omega), Below.heap_alloc _ _ _ hk]⟩, rfl⟩
  · have d2 : ¬ (s.size : Int) < 4 := by omega
    have hm := HM.out (by omega)
    clear HM
    go_enter Tryz.func6, Tryz.ntmps6
    go_wp2_with (first
      | (refine wpList_store_row rfl 24 _ _ rfl w.heap.size _ rfl rfl 24 _ HN.out infoRPg rfl (by simp [Value.oneCell']) ?_))
    refine bodyPost_ret (results_ctt rfl _ _ w.heap.size 24 #[.int .i64 0, .slice none 0 0] (0, 0) _ rfl (setRow_heap _ _ _ _ _ _ HN.out) Tryz.underlying24 rfl infoRPg) rfl ?_
    unfold DeD
    rw [HE.out]
    exact ⟨⟨rfl, rfl, rfl, by rw [size_setRow]; simp, fun k hk => by rw [setRow_other _ _ _ _ (by omega), Below.heap_alloc _ _ _ hk]⟩, rfl⟩
set_option maxHeartbeats 4000000 in
set_option maxRecDepth 20000 in
theorem qdec_ok (s : ByteArray) (w : World) (hs : s.size ≤ maxLen) (h : ¬ 32768 < s.size) (h2 : s.data.toList.take 4 = mag) : Calls Tryz.prog 6 #[.string s] w (DeD s w) := by
  obtain ⟨i0, hi, hz0, hz1_, hz2⟩ := info_parts infoLC
  have h4 : 4 ≤ s.size := by
    have := congrArg List.length h2
    rw [List.length_take] at this
    simp [mag] at this; omega
  have hm := take4 h2
  have d1 : ¬ (32768 : Int) < (s.size : Int) := by omega
  have d2 : ¬ (s.size : Int) < 4 := by omega
  have HLN : Hid (¬ 32768 < s.size) := h
  have HMG : Hid (s.data.toList.take 4 = mag) := h2
  have Mp0 : Hid (Dq w s #[.int .i64 0, .slice none 0 0] (.ok 4) (((w.alloc (.cells #[.int .i64 0, .slice none 0 0] 24)).alloc (.cells #[.string s, .int .i64 4, .int .i64 0, .int .i64 0] 46)).alloc (.cells #[.int .i64 0, .slice none 0 0] 24))) := Dq.start w s h4
  have hC0 := qnum_any Mp0.out.q hs
  clear h h2 h4
  go_enter Tryz.func6, Tryz.ntmps6
  go_upto_region 10 with (first
    | (go_at_call 17; refine hC0.mono ?_; rintro e u0 ⟨hb0, x0, v0, rfl, hv0, hQ0, hx0⟩; obtain rfl := hv0; have HX0 : Hid (∀ y, (stp pNum s (.ok 4)).2 = some y → x0 = y) := hx0; have M1 := Mp0.out.call hb0 hQ0; have c0 : u0.cell? ⟨w.heap.size + 2, 0, none⟩ = some (.int .i64 0) := M1.cell rfl; have f0 : u0.frozen? ⟨w.heap.size + 2, 0, none⟩ = false := M1.frz _; have l0 : w.heap.size + 2 < u0.heap.size := M1.lt; have Mp1 : Hid (Dq w s #[.int .i64 x0, .slice none 0 0] (stp pNum s (.ok 4)).1 (u0.setCell ⟨w.heap.size + 2, 0, none⟩ (.int .i64 x0))) := M1.set rfl; have hC1 := qup_any 40 1404 (by decide) Mp1.out.q hs; clear hC0 hb0 hQ0 hx0 M1 Mp0)
    | (go_at_call 18; refine hC1.mono ?_; rintro e u1 ⟨hb1, x1, v1, rfl, hv1, hQ1, hx1⟩; obtain rfl := hv1; have M2 : Hid (Dq w s #[.int .i64 x0, .slice none 0 0] (stp (pUp 40 1404) s (stp pNum s (.ok 4)).1).1 u1) := Mp1.out.call hb1 hQ1; clear hC1 hb1 hQ1 Mp1))
  have hxm1 : ∀ b, (stp (pUp 40 1404) s (stp pNum s (.ok 4)).1).1 = .ok b → 0 ≤ x1 ∧ x1 ≤ 40 := fun b hb => up_bound hb hx1
  have hR1 := Rem.start (p := pCs) hx1
  obtain ⟨Z1, hZ1⟩ : ∃ Z, stp (pList 40 pCs) s (stp pNum s (.ok 4)).1 = Z := ⟨_, rfl⟩
  rw [hZ1] at hR1
  have HI1 : Hid (QIm kCs 53 Z1 pCs s (w.heap.size + 1) (w.heap.size + 2) 24 (fun v => #[.int .i64 x0, v]) (fun k => k = (w.heap.size + 1) ∨ k = w.heap.size + 2) u1 x1.toNat 0 (.slice none 0 0) u1 (stp (pUp 40 1404) s (stp pNum s (.ok 4)).1).1 ∧ ∀ b, (stp (pUp 40 1404) s (stp pNum s (.ok 4)).1).1 = .ok b → 0 ≤ x1 ∧ x1 ≤ 40) := ⟨⟨[], rfl, Gro.nil _ _ _ _, Bs.refl _ _, M2.out.q, hR1, M2.out.box⟩, hxm1⟩
  have hu1 : w.heap.size + 2 < u1.heap.size := M2.out.lt
  have HZ1 : Hid (stp (pList 40 pCs) s (stp pNum s (.ok 4)).1 = Z1) := hZ1
  clear hxm1 hR1 hZ1 hx1
  go_wp2_with (fail)
  go_loopg [9] (x1.toNat + 1) (fun kx s12 wr => ∃ (i : Nat) (v : Value) (t : Stt), s12 = .int .i64 i ∧ x1.toNat - i ≤ kx ∧ Hid (QIm kCs 53 Z1 pCs s (w.heap.size + 1) (w.heap.size + 2) 24 (fun v => #[.int .i64 x0, v]) (fun k => k = (w.heap.size + 1) ∨ k = w.heap.size + 2) u1 x1.toNat i v wr t) ∧ Hid (∀ b, t = .ok b → 0 ≤ x1 ∧ x1 ≤ 40 ∧ i ≤ x1.toNat))
  case atStart => exact ⟨0, _, _, rfl, by omega, HI1.out.1, fun b hb => ⟨(HI1.out.2 b hb).1, (HI1.out.2 b hb).2, by omega⟩⟩
  case round =>
    obtain ⟨i, v, t1, rfl, hkx, HL, HA⟩ := hrel
    obtain ⟨c, hc, hc0⟩ := qcode2 HL.out.choose_spec.2.2.2.1
    obtain ⟨B, hB⟩ : ∃ B : Bool, B = (decide ((i : Int) < x1) && alive t1) := ⟨_, rfl⟩
    have HBt : Hid (B = (decide ((i : Int) < x1) && alive t1)) := hB
    have HC0 : Hid ((c == 0) = alive t1) := hc0
    clear hB hc0
    go_upto_region 11 with (fail)
    go_cut [42] from 33 to 42 (fun s61 wx => s61 = .bool B ∧ wr = wx)
    case first =>
      by_cases hlt : (i : Int) < x1
      · cases hcz : (c == 0) with
        | true =>
          have HV : Hid (B = true) := by show _ = _; rw [HBt.out, decide_eq_true hlt, ← HC0.out, hcz]; rfl
          as_aux_lemma =>
            go_wp2_with (fail)
            go_meet
            exact ⟨by rw [HV.out], rfl⟩
        | false =>
          have HV : Hid (B = false) := by show _ = _; rw [HBt.out, ← HC0.out, hcz, Bool.and_false]
          as_aux_lemma =>
            go_wp2_with (fail)
            go_meet
            exact ⟨by rw [HV.out], rfl⟩
      · have hd : decide ((i : Int) < x1) = false := decide_eq_false hlt
        have HV : Hid (B = false) := by show _ = _; rw [HBt.out, hd, Bool.false_and]
        as_aux_lemma =>
          go_wp2_with (fail)
          go_meet
          exact ⟨by rw [HV.out], rfl⟩
    case rest =>
    obtain ⟨rfl, rfl⟩ := hcut
    cases B with
    | true =>
      have hlt0 : (i : Int) < x1 := by
        apply Classical.byContradiction; intro hn
        have := HBt.out; rw [decide_eq_false hn] at this; cases this
      cases t1 with
      | error e => have := HBt.out; rw [decide_eq_true hlt0] at this; simp [alive] at this
      | ok b =>
      obtain ⟨a1, a2, a3⟩ := HA.out b rfl
      have hlt : i < x1.toNat := by omega
      clear hlt0 hc HC0 HBt
      have hD0 := qclass_any HL.out.choose_spec.2.2.2.1 hs
      have hwz := (HL.out.choose_spec.2.2.1).size
      have HN : Hid (∀ w1 y, Bx (w.heap.size + 1) wr w1 → Qb w1 (w.heap.size + 1) s (stp pCs s (.ok b)).1 → (∀ z, (stp pCs s (.ok b)).2 = some z → y = z) → _) := fun w1 y q1 q2 q3 => HL.out.next (j := 1) hlt (by omega) hu1 (by omega) (.inl rfl) (.inr rfl) (fun _ => rfl) q1 q2 q3
      have HS : Hid ((stp pCs s (.ok b)).1 = (stp pCs s (.ok b)).1) := rfl
      have HE : Hid (True) := trivial
      clear HL HA HI1
      ·
        go_wp2_with (first
          | (go_at_call 19; refine hD0.mono ?_; rintro e r0 ⟨hb0, y0, vy0, rfl, hv0, hQ0, hy0⟩; obtain ⟨cs0, hR0, rfl⟩ := hv0; have HK0 : Hid (kCs.R r0 (fun b => wr.heap.size ≤ b ∧ b < r0.heap.size) y0 cs0) := hR0; obtain ⟨m1, m2, m3, m4, rfl, s1, s2, s3, s4⟩ := hR0; obtain ⟨am1, cm1, rfl, -⟩ := s1; obtain ⟨am2, cm2, rfl, -⟩ := s2; obtain ⟨am3, cm3, rfl, -⟩ := s3; obtain ⟨am4, cm4, rfl, -⟩ := s4; have HN0 : Hid ((r0.alloc (.cells #[.string ⟨#[]⟩, .bool false, .bool false, .int .i64 0, .slice none 0 0, .slice none 0 0, .slice none 0 0, .slice none 0 0] 53)).heap[r0.heap.size]? = some (.cells #[.string ⟨#[]⟩, .bool false, .bool false, .int .i64 0, .slice none 0 0, .slice none 0 0, .slice none 0 0, .slice none 0 0] 53 (0, 0))) := heap_alloc_new _ _; have HY0 : Hid (∀ y, (stp pCs s (.ok b)).2 = some y → y0 = y) := hy0; have HB0 : Hid (Bx (w.heap.size + 1) wr r0) := hb0; have HQ0 : Hid (Qb r0 (w.heap.size + 1) s (stp pCs s (.ok b)).1) := hQ0; clear hD0 hb0 hQ0 hy0)
          | (refine wpList_load_row rfl 53 _ rfl r0.heap.size rfl 53 _ (0, 0) _ HG1.out Tryz.underlying53 rfl infoRCs ?_)
          | (refine wpList_store_row rfl 53 _ _ rfl r0.heap.size _ rfl rfl 53 _ HN0.out infoRCs rfl (by simp [Value.oneCell']) ?_; have hx := boxed r0 #[.string ⟨#[]⟩, .bool false, .bool false, .int .i64 0, .slice none 0 0, .slice none 0 0, .slice none 0 0, .slice none 0 0] #[.string y0.nm, .bool y0.face, .bool y0.fin, .int .i64 y0.sup, .slice am1 y0.faces.length cm1, .slice am2 y0.flds.length cm2, .slice am3 y0.stcs.length cm3, .slice am4 y0.mds.length cm4] 53; generalize ((r0.alloc (.cells #[.string ⟨#[]⟩, .bool false, .bool false, .int .i64 0, .slice none 0 0, .slice none 0 0, .slice none 0 0, .slice none 0 0] 53)).setRow r0.heap.size #[.string y0.nm, .bool y0.face, .bool y0.fin, .int .i64 y0.sup, .slice am1 y0.faces.length cm1, .slice am2 y0.flds.length cm2, .slice am3 y0.stcs.length cm3, .slice am4 y0.mds.length cm4]) = r1 at hx ⊢; obtain ⟨g1, z1, k1, o1⟩ := hx; have HG1 : Hid (r1.heap[r0.heap.size]? = some (.cells #[.string y0.nm, .bool y0.face, .bool y0.fin, .int .i64 y0.sup, .slice am1 y0.faces.length cm1, .slice am2 y0.flds.length cm2, .slice am3 y0.stcs.length cm3, .slice am4 y0.mds.length cm4] 53 (0, 0))) := g1; have HB1 : Hid (Bx (w.heap.size + 1) wr r1) := (HB0.out.trans ⟨o1.1, o1.2.1, o1.2.2, by omega, fun k hk _ => k1 k hk⟩); have hQ1 : Qb r1 (w.heap.size + 1) s (stp pCs s (.ok b)).1 := HQ0.out.keep (k1 _ HQ0.out.lt); have HQ : Hid (kCs.R r1 (fun b => wr.heap.size ≤ b ∧ b < r1.heap.size) y0 [.string y0.nm, .bool y0.face, .bool y0.fin, .int .i64 y0.sup, .slice am1 y0.faces.length cm1, .slice am2 y0.flds.length cm2, .slice am3 y0.stcs.length cm3, .slice am4 y0.mds.length cm4]) := (kCs.mono (fun k hk => ⟨hk.1, by omega⟩) (kCs.keep (fun k hk => k1 k hk.2) HK0.out)); obtain ⟨hm3, ⟨fs, hfs⟩, h9⟩ := HN.out r1 y0 HB1.out hQ1 HY0.out; have hz9 := HB1.out.size; have cm : r1.cell? ⟨w.heap.size + 2, 1, none⟩ = some v := (by simp only [World.cell?, hm3]; rfl); have HF : Hid (r1.ownsRow u1.heap.size 53 8 v i fs) := hfs; have H9 : Hid _ := h9 [.string y0.nm, .bool y0.face, .bool y0.fin, .int .i64 y0.sup, .slice am1 y0.faces.length cm1, .slice am2 y0.flds.length cm2, .slice am3 y0.stcs.length cm3, .slice am4 y0.mds.length cm4] fs; clear hm3 h9 hfs g1 z1 k1 o1 hQ1 HK0 HN0)
          | (at_builtin; refine wpList_append_lies _ rfl _ _ 22 rfl u1.heap.size 53 i0 (.agg #[.string ⟨#[]⟩, .bool false, .bool false, .int .i64 0, .slice none 0 0, .slice none 0 0, .slice none 0 0, .slice none 0 0]) 8 128 Tryz.underlying22 hi hz0 hz1_ hz2 rfl (by decide) _ i fs rfl (HF.out.alloc _) ⟨r1.heap.size, 0, none⟩ 1 1 [.string y0.nm, .bool y0.face, .bool y0.fin, .int .i64 y0.sup, .slice am1 y0.faces.length cm1, .slice am2 y0.flds.length cm2, .slice am3 y0.stcs.length cm3, .slice am4 y0.mds.length cm4] rfl rfl (news_at _ _ _) (kCs.one HQ.out) (by decide) (by unfold maxLen; omega) (by omega) (by simp; omega) _ rfl ?_; intro g cap w2 hown hgrow hat hlt3; obtain ⟨hm4, h10⟩ := H9.out _ w2 g cap HQ.out HF.out hown hgrow hat; have HO : Hid _ := h10; have cz : w2.cell? ⟨w.heap.size + 2, 1, none⟩ = some v := (by simp [World.cell?, hm4]); have fz : w2.frozen? ⟨w.heap.size + 2, 1, none⟩ = false := (by simp [World.frozen?, hm4]); have lz := blk_ltD hm4; clear hown hgrow hat H9 hm4 h10))
        go_roundg (x1.toNat - (i + 1))
        case measure => omega
        case rel => exact ⟨i + 1, _, _, by go_num, by omega, HO.out, fun _ _ => ⟨a1, a2, by omega⟩⟩
    | false =>
      have HF1 : Hid _ := HL.out.fin (by
        have hb := HBt.out
        cases t1 with
        | error e => exact .inl ⟨_, rfl⟩
        | ok b =>
          right
          apply Classical.byContradiction; intro hn
          obtain ⟨a1, a2, a3⟩ := HA.out b rfl
          rw [decide_eq_true (by omega : (i : Int) < x1)] at hb; simp [alive] at hb)
      clear HL HA HI1 hc HC0 HBt hkx
      obtain ⟨qb2, qm2, x7, qs2, qq2, qy2⟩ := HF1.out
      have kS := hu1
      have kS4 := qb2.size
      have HM3 : Hid (wr.heap[w.heap.size + 2]? = some (.cells #[.int .i64 x0, v] 24 (0, 0))) := qm2
      have HR3 : Hid (wr.heap[w.heap.size]? = some (.cells #[.int .i64 0, .slice none 0 0] 24 (0, 0))) := by
        show _ = _
        rw [qb2.block _ (by omega) (by omega)]
        exact M2.out.res
      have HBL : Hid (Below w.heap.size w wr) := ⟨qb2.os.trans M2.out.bel.os, qb2.tape.trans M2.out.bel.tape, qb2.output.trans M2.out.bel.output, by omega, fun k hk => by
        rw [qb2.block k (by omega) (by omega)]; exact M2.out.bel.block k hk⟩
      have HT7 : Hid (Sl kCs wr (fun b => u1.heap.size ≤ b ∧ b < wr.heap.size) v x7) := qs2
      have HY2 : Hid (∀ ys, Z1.2 = some ys → x7 = ys) := qy2
      have HPS : Hid ((stp pPg s (.ok 4)).1 = Z1.1 ∧ ∀ y, (stp pPg s (.ok 4)).2 = some y → y = ⟨x0, x7⟩) := ⟨by rw [pg_state, HZ1.out], fun y hy => (pg_val hy HX0.out (by rw [HZ1.out]; exact HY2.out)).symm⟩
      obtain ⟨am_, cm_, hvm, -⟩ := qs2
      subst hvm
      have kT : w.heap.size < wr.heap.size := by omega
      cases hz : Z1.1 with
      | error e =>
        obtain ⟨q, c⟩ := e
        rw [hz] at qq2 HPS
        have HE : Hid (decP s = .error (q, c)) := by show _ = _; exact dec_dead HLN.out HMG.out (stp_dead2 HPS.out.1)
        obtain ⟨hc, a9, hq9⟩ := qq2
        obtain ⟨n0, n1, n2, n3, -, -⟩ := qcell hq9
        have e1 : (c == 0) = false := beq_eq_false_iff_ne.2 hc
        have e2 : (c != 0) = true := by rw [bne_iff_ne]; exact hc
        clear HF1 qb2 qm2 qy2 hz hc hq9
        go_upto_region 18 with (fail)
        have HRR := HR3
        have k0 : wr.cell? ⟨w.heap.size, 0, none⟩ = some (.int .i64 0) := by simp [World.cell?, HRR.out]
        have k1 : wr.cell? ⟨w.heap.size, 1, none⟩ = some (.slice none 0 0) := by simp [World.cell?, HRR.out]
        have r0 : wr.frozen? ⟨w.heap.size, 0, none⟩ = false := by simp [World.frozen?, HRR.out]
        have r1 : wr.frozen? ⟨w.heap.size, 1, none⟩ = false := by simp [World.frozen?, HRR.out]
        have kT9 : w.heap.size < wr.heap.size := (Array.getElem?_eq_some_iff.1 HRR.out).1
        go_region
        go_wp2
        have hh : ((wr.setCell ⟨w.heap.size, 0, none⟩ (.int .i64 0)).setCell ⟨w.heap.size, 1, none⟩ (.slice none 0 0)).drew.heap[w.heap.size]? = some (.cells #[.int .i64 0, .slice none 0 0] 24 (0, 0)) := hset (hset HRR.out _) _
        refine bodyPost_ret (results_ctt rfl _ _ w.heap.size 24 #[.int .i64 0, .slice none 0 0] (0, 0) _ rfl hh Tryz.underlying24 rfl infoRPg) rfl ?_
        unfold DeD
        rw [HE.out]
        have hBL := HBL.out
        exact ⟨⟨hBL.os, hBL.tape, hBL.output, by show _ ≤ ((wr.setCell _ _).setCell _ _).heap.size; simp only [World.setCell, Array.size_modify]; exact hBL.size, fun k hk => by
          show ((wr.setCell _ _).setCell _ _).heap[k]? = _
          rw [Below.heap_setCell _ _ _ _ (show k ≠ w.heap.size by omega), Below.heap_setCell _ _ _ _ (show k ≠ w.heap.size by omega)]; exact hBL.block k hk⟩, rfl⟩
      | ok b =>
        rw [hz] at qq2 HPS
        obtain ⟨h9, hb9⟩ := qq2
        obtain ⟨n0, n1, n2, n3, -, -⟩ := qcell h9
        by_cases hbs : b < s.size
        · have HE : Hid (decP s = .error (b, 1405)) := by show _ = _; exact dec_tail HLN.out HMG.out (stp_live HPS.out.1) hbs
          have hF := fault_ok h9 1405 b
          have hbi : (b : Int) < (s.size : Int) := by omega
          clear HF1 qb2 qm2 qy2 hz hb9
          go_upto_region 18 with (go_at_call 20; refine hF.mono ?_; rintro e w9 ⟨rfl, hbx, hx9⟩; have HBX : Hid (Bx (w.heap.size + 1) wr w9) := hbx; obtain ⟨-, -, j2, j3, -, -⟩ := qcell hx9; clear hF n0 n1 n2 n3 hbx)
          have HRR : Hid (w9.heap[w.heap.size]? = some (.cells #[.int .i64 0, .slice none 0 0] 24 (0, 0))) := (HBX.out.block _ kT (by omega)).trans HR3.out
          have HB9 : Hid (Below w.heap.size w w9) := ⟨HBX.out.os.trans HBL.out.os, HBX.out.tape.trans HBL.out.tape, HBX.out.output.trans HBL.out.output, Nat.le_trans HBL.out.size HBX.out.size, fun k hk => (HBX.out.block k (by omega) (by omega)).trans (HBL.out.block k hk)⟩
          have k0 : w9.cell? ⟨w.heap.size, 0, none⟩ = some (.int .i64 0) := by simp [World.cell?, HRR.out]
          have k1 : w9.cell? ⟨w.heap.size, 1, none⟩ = some (.slice none 0 0) := by simp [World.cell?, HRR.out]
          have r0 : w9.frozen? ⟨w.heap.size, 0, none⟩ = false := by simp [World.frozen?, HRR.out]
          have r1 : w9.frozen? ⟨w.heap.size, 1, none⟩ = false := by simp [World.frozen?, HRR.out]
          have kT9 : w.heap.size < w9.heap.size := (Array.getElem?_eq_some_iff.1 HRR.out).1
          go_region
          go_wp2
          have hh : ((w9.setCell ⟨w.heap.size, 0, none⟩ (.int .i64 0)).setCell ⟨w.heap.size, 1, none⟩ (.slice none 0 0)).drew.heap[w.heap.size]? = some (.cells #[.int .i64 0, .slice none 0 0] 24 (0, 0)) := hset (hset HRR.out _) _
          refine bodyPost_ret (results_ctt rfl _ _ w.heap.size 24 #[.int .i64 0, .slice none 0 0] (0, 0) _ rfl hh Tryz.underlying24 rfl infoRPg) rfl ?_
          unfold DeD
          rw [HE.out]
          have hBL := HB9.out
          exact ⟨⟨hBL.os, hBL.tape, hBL.output, by show _ ≤ ((w9.setCell _ _).setCell _ _).heap.size; simp only [World.setCell, Array.size_modify]; exact hBL.size, fun k hk => by
            show ((w9.setCell _ _).setCell _ _).heap[k]? = _
            rw [Below.heap_setCell _ _ _ _ (show k ≠ w.heap.size by omega), Below.heap_setCell _ _ _ _ (show k ≠ w.heap.size by omega)]; exact hBL.block k hk⟩, rfl⟩
        · have HE : Hid (decP s = .ok ⟨x0, x7⟩) := by show _ = _; exact dec_live HLN.out HMG.out (stp_live2 HPS.out.1 HPS.out.2) (by omega)
          have hbi : ¬ (b : Int) < (s.size : Int) := by omega
          clear HF1 qb2 qm2 qy2 hz hb9 h9
          go_wp2_with (first
            | (refine wpList_load_row rfl 24 _ rfl (w.heap.size + 2) rfl 24 _ (0, 0) _ HM3.out Tryz.underlying24 rfl infoRPg ?_)
            | (refine wpList_store_row rfl 24 _ _ rfl w.heap.size _ rfl rfl 24 _ HR3.out infoRPg rfl (by simp [Value.oneCell']) ?_))
          refine bodyPost_ret (results_ctt rfl _ _ w.heap.size 24 #[.int .i64 x0, .slice am_ x7.length cm_] (0, 0) _ rfl (setRow_heap _ _ _ _ _ _ HR3.out) Tryz.underlying24 rfl infoRPg) rfl ?_
          have hsame : ∀ k, k ≠ w.heap.size → (wr.setRow w.heap.size #[.int .i64 x0, .slice am_ x7.length cm_]).heap[k]? = wr.heap[k]? := fun k hn => setRow_other _ _ _ _ hn
          have hsz : (wr.setRow w.heap.size #[.int .i64 x0, .slice am_ x7.length cm_]).heap.size = wr.heap.size := by rw [size_setRow]
          unfold DeD
          rw [HE.out]
          have hBL := HBL.out
          refine ⟨⟨hBL.os, hBL.tape, hBL.output, by rw [hsz]; omega, fun k hk => by rw [hsame k (by omega)]; exact hBL.block k hk⟩, _, rfl, _, ⟨_, rfl, ?_⟩, rfl⟩
          exact (HT7.out.keep fun k hk => hsame k (by have := hk.1; omega)).mono fun k hk => ⟨by have := hk.1; omega, by rw [hsz]; exact hk.2⟩
theorem qDecode_any (s : ByteArray) (w : World) (hs : s.size ≤ maxLen) : Calls Tryz.prog 6 #[.string s] w (DeD s w) := by
  by_cases h : 32768 < s.size
  · exact qdec_long s w h
  · by_cases h2 : s.data.toList.take 4 = mag
    · exact qdec_ok s w hs h h2
    · exact qdec_mag s w h h2
end Go.Proofs.YtajghalljkphiaaGreat
