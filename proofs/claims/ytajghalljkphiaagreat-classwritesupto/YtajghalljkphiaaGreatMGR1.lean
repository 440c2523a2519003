/- Reading a field. -/
import Derived.Test.YtajghalljkphiaaGreatMLRec
namespace Go.Proofs.YtajghalljkphiaaGreat
open Go.RowKit

theorem infoRFd : (Tryz.prog.info? 96).map (·.size) = some 2 := by kernel_rfl
theorem pFd_eq (s : ByteArray) (a : Nat) : pFd s a = bnd (pName s a) fun x1 b1 => bnd (pNum s b1) fun x2 b2 => .ok (⟨x1, x2⟩, b2) := by
  unfold pFd
  simp only [pMap, pSeq, bnd_assoc, bnd_ok]

set_option maxHeartbeats 4000000 in
set_option maxRecDepth 20000 in
theorem rfd_ok {w : World} {rh : Nat} {s : ByteArray} {a : Nat} (H : Rb w rh s a) (ha : a ≤ s.size) (hs : s.size ≤ maxLen) :
    Calls Tryz.prog 82 #[.pointer (some ⟨rh, 0, none⟩)] w (RdP (pFd s a) (Nw kFdU w) s rh w) := by
  have HE0 : Hid _ := pFd_eq s a
  obtain ⟨tot, htot⟩ : ∃ t, pFd s a = t := ⟨_, rfl⟩
  rw [htot] at HE0 ⊢
  have HL0 : Hid (Lc w rh s 96 #[.string ⟨#[]⟩, .int .i64 0] #[.string ⟨#[]⟩, .int .i64 0] a ((w.alloc (.cells #[.string ⟨#[]⟩, .int .i64 0] 96)).alloc (.cells #[.string ⟨#[]⟩, .int .i64 0] 96))) := Lc.start H _ _
  have hA0 := ha
  clear H htot
  go_enter Tryz.func82, Tryz.ntmps82
  go_wp2_with (first
    | (go_at_call 79; refine (rname_ok HL0.out.box hA0 hs).mono ?_; rintro e w1 hr; refine RdP.split hr ?_ ?_; (rintro q c hq rfl hb; exact ⟨rfl, RdP.err (by rw [HE0.out, hq]; rfl) (HL0.out.bx.trans hb)⟩); rintro x1 a1 u1 hq rfl rfl hR hb; have hA1 : a1 ≤ s.size := ((good_name).back s a x1 a1 hA0 hq).2.2.1; have HE1 : Hid _ := HE0.out; rw [hq, bnd_ok] at HE1; have L1 := HL0.out.call hb hR; have f1_0 := L1.fr 0; have g1_0 : w1.cell? ⟨w.heap.size + 1, 0, none⟩ = some (.string ⟨#[]⟩) := (by rw [L1.cell]; rfl); have HL1 : Hid (Lc w rh s 96 #[.string ⟨#[]⟩, .int .i64 0] #[.string x1, .int .i64 0] a1 (w1.setCell ⟨w.heap.size + 1, 0, none⟩ (.string x1))) := (L1.set 0 (.string x1)); clear HE0 HL0 hr hb hR hq L1 hA0)
    | (go_at_call 62; refine (rnum_ok HL1.out.box hA1 hs).mono ?_; rintro e w2 hr; refine RdP.split hr ?_ ?_; (rintro q c hq rfl hb; exact ⟨rfl, RdP.err (by rw [HE1.out, hq]; rfl) (HL1.out.bx.trans hb)⟩); rintro x2 a2 u2 hq rfl rfl hR hb; have hA2 : a2 ≤ s.size := ((good_num).back s a1 x2 a2 hA1 hq).2.2.1; have HE2 : Hid _ := HE1.out; rw [hq, bnd_ok] at HE2; have L2 := HL1.out.call hb hR; have f2_1 := L2.fr 1; have g2_1 : w2.cell? ⟨w.heap.size + 1, 1, none⟩ = some (.int .i64 0) := (by rw [L2.cell]; rfl); have HL2 : Hid (Lc w rh s 96 #[.string ⟨#[]⟩, .int .i64 0] #[.string x1, .int .i64 x2] a2 (w2.setCell ⟨w.heap.size + 1, 1, none⟩ (.int .i64 x2))) := (L2.set 1 (.int .i64 x2)); clear HE1 HL1 hr hb hR hq L2 hA1 f1_0 g1_0)
    | (refine wpList_load_row rfl 96 _ rfl (w.heap.size + 1) rfl 96 _ (0, 0) _ HL2.out.loc Tryz.underlying96 rfl infoRFd ?_)
    | (refine wpList_store_row rfl 96 _ _ rfl w.heap.size _ rfl rfl 96 _ HL2.out.res infoRFd rfl (by simp [Value.oneCell']) ?_))
  refine bodyPost_ret (results_cell_row rfl _ _ w.heap.size 96 #[.string x1, .int .i64 x2] (0, 0) _ rfl (setRow_heap _ _ _ _ _ _ HL2.out.res) Tryz.underlying96 rfl infoRFd) rfl ?_
  rw [HE2.out]
  refine HL2.out.done (fun W hB hz => ?_) (fun k hk => setRow_other _ _ _ _ hk) rfl rfl rfl (size_setRow _ _ _)
  exact ⟨_, rfl, rfl⟩
end Go.Proofs.YtajghalljkphiaaGreat
/- Reading a ins. -/
namespace Go.Proofs.YtajghalljkphiaaGreat
open Go.RowKit

theorem infoRIs : (Tryz.prog.info? 67).map (·.size) = some 3 := by kernel_rfl
theorem pIs_eq (s : ByteArray) (a : Nat) : pIs s a = bnd (pNum s a) fun x1 b1 => bnd (pNum s b1) fun x2 b2 => bnd (pNum s b2) fun x3 b3 => .ok (⟨x1, x2, x3⟩, b3) := by
  unfold pIs
  simp only [pMap, pSeq, bnd_assoc, bnd_ok]

set_option maxHeartbeats 4000000 in
set_option maxRecDepth 20000 in
theorem ris_ok {w : World} {rh : Nat} {s : ByteArray} {a : Nat} (H : Rb w rh s a) (ha : a ≤ s.size) (hs : s.size ≤ maxLen) :
    Calls Tryz.prog 101 #[.pointer (some ⟨rh, 0, none⟩)] w (RdP (pIs s a) (Nw kIsU w) s rh w) := by
  have HE0 : Hid _ := pIs_eq s a
  obtain ⟨tot, htot⟩ : ∃ t, pIs s a = t := ⟨_, rfl⟩
  rw [htot] at HE0 ⊢
  have HL0 : Hid (Lc w rh s 67 #[.int .i64 0, .int .i64 0, .int .i64 0] #[.int .i64 0, .int .i64 0, .int .i64 0] a ((w.alloc (.cells #[.int .i64 0, .int .i64 0, .int .i64 0] 67)).alloc (.cells #[.int .i64 0, .int .i64 0, .int .i64 0] 67))) := Lc.start H _ _
  have hA0 := ha
  clear H htot
  go_enter Tryz.func101, Tryz.ntmps101
  go_wp2_with (first
    | (go_at_call 62; refine (rnum_ok HL0.out.box hA0 hs).mono ?_; rintro e w1 hr; refine RdP.split hr ?_ ?_; (rintro q c hq rfl hb; exact ⟨rfl, RdP.err (by rw [HE0.out, hq]; rfl) (HL0.out.bx.trans hb)⟩); rintro x1 a1 u1 hq rfl rfl hR hb; have hA1 : a1 ≤ s.size := ((good_num).back s a x1 a1 hA0 hq).2.2.1; have HE1 : Hid _ := HE0.out; rw [hq, bnd_ok] at HE1; have L1 := HL0.out.call hb hR; have f1_0 := L1.fr 0; have g1_0 : w1.cell? ⟨w.heap.size + 1, 0, none⟩ = some (.int .i64 0) := (by rw [L1.cell]; rfl); have HL1 : Hid (Lc w rh s 67 #[.int .i64 0, .int .i64 0, .int .i64 0] #[.int .i64 x1, .int .i64 0, .int .i64 0] a1 (w1.setCell ⟨w.heap.size + 1, 0, none⟩ (.int .i64 x1))) := (L1.set 0 (.int .i64 x1)); clear HE0 HL0 hr hb hR hq L1 hA0)
    | (go_at_call 62; refine (rnum_ok HL1.out.box hA1 hs).mono ?_; rintro e w2 hr; refine RdP.split hr ?_ ?_; (rintro q c hq rfl hb; exact ⟨rfl, RdP.err (by rw [HE1.out, hq]; rfl) (HL1.out.bx.trans hb)⟩); rintro x2 a2 u2 hq rfl rfl hR hb; have hA2 : a2 ≤ s.size := ((good_num).back s a1 x2 a2 hA1 hq).2.2.1; have HE2 : Hid _ := HE1.out; rw [hq, bnd_ok] at HE2; have L2 := HL1.out.call hb hR; have f2_1 := L2.fr 1; have g2_1 : w2.cell? ⟨w.heap.size + 1, 1, none⟩ = some (.int .i64 0) := (by rw [L2.cell]; rfl); have HL2 : Hid (Lc w rh s 67 #[.int .i64 0, .int .i64 0, .int .i64 0] #[.int .i64 x1, .int .i64 x2, .int .i64 0] a2 (w2.setCell ⟨w.heap.size + 1, 1, none⟩ (.int .i64 x2))) := (L2.set 1 (.int .i64 x2)); clear HE1 HL1 hr hb hR hq L2 hA1 f1_0 g1_0)
    | (go_at_call 62; refine (rnum_ok HL2.out.box hA2 hs).mono ?_; rintro e w3 hr; refine RdP.split hr ?_ ?_; (rintro q c hq rfl hb; exact ⟨rfl, RdP.err (by rw [HE2.out, hq]; rfl) (HL2.out.bx.trans hb)⟩); rintro x3 a3 u3 hq rfl rfl hR hb; have hA3 : a3 ≤ s.size := ((good_num).back s a2 x3 a3 hA2 hq).2.2.1; have HE3 : Hid _ := HE2.out; rw [hq, bnd_ok] at HE3; have L3 := HL2.out.call hb hR; have f3_2 := L3.fr 2; have g3_2 : w3.cell? ⟨w.heap.size + 1, 2, none⟩ = some (.int .i64 0) := (by rw [L3.cell]; rfl); have HL3 : Hid (Lc w rh s 67 #[.int .i64 0, .int .i64 0, .int .i64 0] #[.int .i64 x1, .int .i64 x2, .int .i64 x3] a3 (w3.setCell ⟨w.heap.size + 1, 2, none⟩ (.int .i64 x3))) := (L3.set 2 (.int .i64 x3)); clear HE2 HL2 hr hb hR hq L3 hA2 f2_1 g2_1)
    | (refine wpList_load_row rfl 67 _ rfl (w.heap.size + 1) rfl 67 _ (0, 0) _ HL3.out.loc Tryz.underlying67 rfl infoRIs ?_)
    | (refine wpList_store_row rfl 67 _ _ rfl w.heap.size _ rfl rfl 67 _ HL3.out.res infoRIs rfl (by simp [Value.oneCell']) ?_))
  refine bodyPost_ret (results_cell_row rfl _ _ w.heap.size 67 #[.int .i64 x1, .int .i64 x2, .int .i64 x3] (0, 0) _ rfl (setRow_heap _ _ _ _ _ _ HL3.out.res) Tryz.underlying67 rfl infoRIs) rfl ?_
  rw [HE3.out]
  refine HL3.out.done (fun W hB hz => ?_) (fun k hk => setRow_other _ _ _ _ hk) rfl rfl rfl (size_setRow _ _ _)
  exact ⟨_, rfl, rfl⟩
end Go.Proofs.YtajghalljkphiaaGreat
/- Reading a handler. -/
namespace Go.Proofs.YtajghalljkphiaaGreat
open Go.RowKit

theorem infoRHd : (Tryz.prog.info? 98).map (·.size) = some 4 := by kernel_rfl
theorem pHd_eq (s : ByteArray) (a : Nat) : pHd s a = bnd (pNum s a) fun x1 b1 => bnd (pNum s b1) fun x2 b2 => bnd (pNum s b2) fun x3 b3 => bnd (pNum s b3) fun x4 b4 => .ok (⟨x1, x2, x3, x4⟩, b4) := by
  unfold pHd
  simp only [pMap, pSeq, bnd_assoc, bnd_ok]

set_option maxHeartbeats 4000000 in
set_option maxRecDepth 20000 in
theorem rhd_ok {w : World} {rh : Nat} {s : ByteArray} {a : Nat} (H : Rb w rh s a) (ha : a ≤ s.size) (hs : s.size ≤ maxLen) :
    Calls Tryz.prog 103 #[.pointer (some ⟨rh, 0, none⟩)] w (RdP (pHd s a) (Nw kHdU w) s rh w) := by
  have HE0 : Hid _ := pHd_eq s a
  obtain ⟨tot, htot⟩ : ∃ t, pHd s a = t := ⟨_, rfl⟩
  rw [htot] at HE0 ⊢
  have HL0 : Hid (Lc w rh s 98 #[.int .i64 0, .int .i64 0, .int .i64 0, .int .i64 0] #[.int .i64 0, .int .i64 0, .int .i64 0, .int .i64 0] a ((w.alloc (.cells #[.int .i64 0, .int .i64 0, .int .i64 0, .int .i64 0] 98)).alloc (.cells #[.int .i64 0, .int .i64 0, .int .i64 0, .int .i64 0] 98))) := Lc.start H _ _
  have hA0 := ha
  clear H htot
  go_enter Tryz.func103, Tryz.ntmps103
  go_wp2_with (first
    | (go_at_call 62; refine (rnum_ok HL0.out.box hA0 hs).mono ?_; rintro e w1 hr; refine RdP.split hr ?_ ?_; (rintro q c hq rfl hb; exact ⟨rfl, RdP.err (by rw [HE0.out, hq]; rfl) (HL0.out.bx.trans hb)⟩); rintro x1 a1 u1 hq rfl rfl hR hb; have hA1 : a1 ≤ s.size := ((good_num).back s a x1 a1 hA0 hq).2.2.1; have HE1 : Hid _ := HE0.out; rw [hq, bnd_ok] at HE1; have L1 := HL0.out.call hb hR; have f1_0 := L1.fr 0; have g1_0 : w1.cell? ⟨w.heap.size + 1, 0, none⟩ = some (.int .i64 0) := (by rw [L1.cell]; rfl); have HL1 : Hid (Lc w rh s 98 #[.int .i64 0, .int .i64 0, .int .i64 0, .int .i64 0] #[.int .i64 x1, .int .i64 0, .int .i64 0, .int .i64 0] a1 (w1.setCell ⟨w.heap.size + 1, 0, none⟩ (.int .i64 x1))) := (L1.set 0 (.int .i64 x1)); clear HE0 HL0 hr hb hR hq L1 hA0)
    | (go_at_call 62; refine (rnum_ok HL1.out.box hA1 hs).mono ?_; rintro e w2 hr; refine RdP.split hr ?_ ?_; (rintro q c hq rfl hb; exact ⟨rfl, RdP.err (by rw [HE1.out, hq]; rfl) (HL1.out.bx.trans hb)⟩); rintro x2 a2 u2 hq rfl rfl hR hb; have hA2 : a2 ≤ s.size := ((good_num).back s a1 x2 a2 hA1 hq).2.2.1; have HE2 : Hid _ := HE1.out; rw [hq, bnd_ok] at HE2; have L2 := HL1.out.call hb hR; have f2_1 := L2.fr 1; have g2_1 : w2.cell? ⟨w.heap.size + 1, 1, none⟩ = some (.int .i64 0) := (by rw [L2.cell]; rfl); have HL2 : Hid (Lc w rh s 98 #[.int .i64 0, .int .i64 0, .int .i64 0, .int .i64 0] #[.int .i64 x1, .int .i64 x2, .int .i64 0, .int .i64 0] a2 (w2.setCell ⟨w.heap.size + 1, 1, none⟩ (.int .i64 x2))) := (L2.set 1 (.int .i64 x2)); clear HE1 HL1 hr hb hR hq L2 hA1 f1_0 g1_0)
    | (go_at_call 62; refine (rnum_ok HL2.out.box hA2 hs).mono ?_; rintro e w3 hr; refine RdP.split hr ?_ ?_; (rintro q c hq rfl hb; exact ⟨rfl, RdP.err (by rw [HE2.out, hq]; rfl) (HL2.out.bx.trans hb)⟩); rintro x3 a3 u3 hq rfl rfl hR hb; have hA3 : a3 ≤ s.size := ((good_num).back s a2 x3 a3 hA2 hq).2.2.1; have HE3 : Hid _ := HE2.out; rw [hq, bnd_ok] at HE3; have L3 := HL2.out.call hb hR; have f3_2 := L3.fr 2; have g3_2 : w3.cell? ⟨w.heap.size + 1, 2, none⟩ = some (.int .i64 0) := (by rw [L3.cell]; rfl); have HL3 : Hid (Lc w rh s 98 #[.int .i64 0, .int .i64 0, .int .i64 0, .int .i64 0] #[.int .i64 x1, .int .i64 x2, .int .i64 x3, .int .i64 0] a3 (w3.setCell ⟨w.heap.size + 1, 2, none⟩ (.int .i64 x3))) := (L3.set 2 (.int .i64 x3)); clear HE2 HL2 hr hb hR hq L3 hA2 f2_1 g2_1)
    | (go_at_call 62; refine (rnum_ok HL3.out.box hA3 hs).mono ?_; rintro e w4 hr; refine RdP.split hr ?_ ?_; (rintro q c hq rfl hb; exact ⟨rfl, RdP.err (by rw [HE3.out, hq]; rfl) (HL3.out.bx.trans hb)⟩); rintro x4 a4 u4 hq rfl rfl hR hb; have hA4 : a4 ≤ s.size := ((good_num).back s a3 x4 a4 hA3 hq).2.2.1; have HE4 : Hid _ := HE3.out; rw [hq, bnd_ok] at HE4; have L4 := HL3.out.call hb hR; have f4_3 := L4.fr 3; have g4_3 : w4.cell? ⟨w.heap.size + 1, 3, none⟩ = some (.int .i64 0) := (by rw [L4.cell]; rfl); have HL4 : Hid (Lc w rh s 98 #[.int .i64 0, .int .i64 0, .int .i64 0, .int .i64 0] #[.int .i64 x1, .int .i64 x2, .int .i64 x3, .int .i64 x4] a4 (w4.setCell ⟨w.heap.size + 1, 3, none⟩ (.int .i64 x4))) := (L4.set 3 (.int .i64 x4)); clear HE3 HL3 hr hb hR hq L4 hA3 f3_2 g3_2)
    | (refine wpList_load_row rfl 98 _ rfl (w.heap.size + 1) rfl 98 _ (0, 0) _ HL4.out.loc Tryz.underlying98 rfl infoRHd ?_)
    | (refine wpList_store_row rfl 98 _ _ rfl w.heap.size _ rfl rfl 98 _ HL4.out.res infoRHd rfl (by simp [Value.oneCell']) ?_))
  refine bodyPost_ret (results_cell_row rfl _ _ w.heap.size 98 #[.int .i64 x1, .int .i64 x2, .int .i64 x3, .int .i64 x4] (0, 0) _ rfl (setRow_heap _ _ _ _ _ _ HL4.out.res) Tryz.underlying98 rfl infoRHd) rfl ?_
  rw [HE4.out]
  refine HL4.out.done (fun W hB hz => ?_) (fun k hk => setRow_other _ _ _ _ hk) rfl rfl rfl (size_setRow _ _ _)
  exact ⟨_, rfl, rfl⟩
end Go.Proofs.YtajghalljkphiaaGreat
