/- Reading a stackMap. -/
import Derived.Test.YtajghalljkphiaaGreatMLRec
namespace Go.Proofs.YtajghalljkphiaaGreat
open Go.RowKit

theorem infoRMp : (Tryz.prog.info? 69).map (·.size) = some 3 := by kernel_rfl
theorem pMp_eq (s : ByteArray) (a : Nat) : pMp s a = bnd (pNum s a) fun x1 b1 => bnd (pList 24 pNum s b1) fun x2 b2 => bnd (pList 24 pNum s b2) fun x3 b3 => .ok (⟨x1, x2, x3⟩, b3) := by
  unfold pMp
  simp only [pMap, pSeq, bnd_assoc, bnd_ok]

set_option maxHeartbeats 4000000 in
set_option maxRecDepth 20000 in
theorem rmp_ok {w : World} {rh : Nat} {s : ByteArray} {a : Nat} (H : Rb w rh s a) (ha : a ≤ s.size) (hs : s.size ≤ maxLen) :
    Calls Tryz.prog 105 #[.pointer (some ⟨rh, 0, none⟩)] w (RdP (pMp s a) (Nw kMpU w) s rh w) := by
  have HE0 : Hid _ := pMp_eq s a
  obtain ⟨tot, htot⟩ : ∃ t, pMp s a = t := ⟨_, rfl⟩
  rw [htot] at HE0 ⊢
  have HL0 : Hid (Lc w rh s 69 #[.int .i64 0, .slice none 0 0, .slice none 0 0] #[.int .i64 0, .slice none 0 0, .slice none 0 0] a ((w.alloc (.cells #[.int .i64 0, .slice none 0 0, .slice none 0 0] 69)).alloc (.cells #[.int .i64 0, .slice none 0 0, .slice none 0 0] 69))) := Lc.start H _ _
  have hA0 := ha
  clear H htot
  go_enter Tryz.func105, Tryz.ntmps105
  go_wp2_with (first
    | (go_at_call 62; refine (rnum_ok HL0.out.box hA0 hs).mono ?_; rintro e w1 hr; refine RdP.split hr ?_ ?_; (rintro q c hq rfl hb; exact ⟨rfl, RdP.err (by rw [HE0.out, hq]; rfl) (HL0.out.bx.trans hb)⟩); rintro x1 a1 u1 hq rfl rfl hR hb; have hA1 : a1 ≤ s.size := ((good_num).back s a x1 a1 hA0 hq).2.2.1; have HE1 : Hid _ := HE0.out; rw [hq, bnd_ok] at HE1; have L1 := HL0.out.call hb hR; have f1_0 := L1.fr 0; have g1_0 : w1.cell? ⟨w.heap.size + 1, 0, none⟩ = some (.int .i64 0) := (by rw [L1.cell]; rfl); have HL1 : Hid (Lc w rh s 69 #[.int .i64 0, .slice none 0 0, .slice none 0 0] #[.int .i64 x1, .slice none 0 0, .slice none 0 0] a1 (w1.setCell ⟨w.heap.size + 1, 0, none⟩ (.int .i64 x1))) := (L1.set 0 (.int .i64 x1)); clear HE0 HL0 hr hb hR hq L1 hA0)
    | (go_at_call 80; refine (rlistI_ok 24 (by decide) HL1.out.box hA1 hs).mono ?_; rintro e w2 hr; refine RdP.split hr ?_ ?_; (rintro q c hq rfl hb; exact ⟨rfl, RdP.err (by rw [HE1.out, hq]; rfl) (HL1.out.bx.trans hb)⟩); rintro x2 a2 u2 hq rfl hv hR hb; have hA2 : a2 ≤ s.size := ((good_num.list 24).back s a1 x2 a2 hA1 hq).2.2.1; have HE2 : Hid _ := HE1.out; rw [hq, bnd_ok] at HE2; have L2 := HL1.out.call hb hR; have S2u2 := HL1.out.fresh hv; have q2 : ∃ ao cap, u2 = .slice ao x2.length cap := (by obtain ⟨ao, cap, e1, _⟩ := hv; exact ⟨ao, cap, e1⟩); obtain ⟨ao2, cp2, rfl⟩ := q2; have f2_1 := L2.fr 1; have g2_1 : w2.cell? ⟨w.heap.size + 1, 1, none⟩ = some (.slice none 0 0) := (by rw [L2.cell]; rfl); have HL2 : Hid (Lc w rh s 69 #[.int .i64 0, .slice none 0 0, .slice none 0 0] #[.int .i64 x1, .slice ao2 x2.length cp2, .slice none 0 0] a2 (w2.setCell ⟨w.heap.size + 1, 1, none⟩ (.slice ao2 x2.length cp2))) := (L2.set 1 (.slice ao2 x2.length cp2)); have HS2u2 : Hid _ := (so_set (j := 1) (u := .slice ao2 x2.length cp2) S2u2); clear HE1 HL1 hr hb hR hq L2 hA1 S2u2 hv f1_0 g1_0)
    | (go_at_call 80; refine (rlistI_ok 24 (by decide) HL2.out.box hA2 hs).mono ?_; rintro e w3 hr; refine RdP.split hr ?_ ?_; (rintro q c hq rfl hb; exact ⟨rfl, RdP.err (by rw [HE2.out, hq]; rfl) (HL2.out.bx.trans hb)⟩); rintro x3 a3 u3 hq rfl hv hR hb; have hA3 : a3 ≤ s.size := ((good_num.list 24).back s a2 x3 a3 hA2 hq).2.2.1; have HE3 : Hid _ := HE2.out; rw [hq, bnd_ok] at HE3; have L3 := HL2.out.call hb hR; have S3u2 := HL2.out.on HS2u2.out hb; have S3u3 := HL2.out.fresh hv; have q3 : ∃ ao cap, u3 = .slice ao x3.length cap := (by obtain ⟨ao, cap, e1, _⟩ := hv; exact ⟨ao, cap, e1⟩); obtain ⟨ao3, cp3, rfl⟩ := q3; have f3_2 := L3.fr 2; have g3_2 : w3.cell? ⟨w.heap.size + 1, 2, none⟩ = some (.slice none 0 0) := (by rw [L3.cell]; rfl); have HL3 : Hid (Lc w rh s 69 #[.int .i64 0, .slice none 0 0, .slice none 0 0] #[.int .i64 x1, .slice ao2 x2.length cp2, .slice ao3 x3.length cp3] a3 (w3.setCell ⟨w.heap.size + 1, 2, none⟩ (.slice ao3 x3.length cp3))) := (L3.set 2 (.slice ao3 x3.length cp3)); have HS3u2 : Hid _ := (so_set (j := 2) (u := .slice ao3 x3.length cp3) S3u2); have HS3u3 : Hid _ := (so_set (j := 2) (u := .slice ao3 x3.length cp3) S3u3); clear HE2 HL2 hr hb hR hq L3 hA2 HS2u2 S3u2 S3u3 hv f2_1 g2_1)
    | (refine wpList_load_row rfl 69 _ rfl (w.heap.size + 1) rfl 69 _ (0, 0) _ HL3.out.loc Tryz.underlying69 rfl infoRMp ?_)
    | (refine wpList_store_row rfl 69 _ _ rfl w.heap.size _ rfl rfl 69 _ HL3.out.res infoRMp rfl (by simp [Value.oneCell']) ?_))
  refine bodyPost_ret (results_cell_row rfl _ _ w.heap.size 69 #[.int .i64 x1, .slice ao2 x2.length cp2, .slice ao3 x3.length cp3] (0, 0) _ rfl (setRow_heap _ _ _ _ _ _ HL3.out.res) Tryz.underlying69 rfl infoRMp) rfl ?_
  rw [HE3.out]
  refine HL3.out.done (fun W hB hz => ?_) (fun k hk => setRow_other _ _ _ _ hk) rfl rfl rfl (size_setRow _ _ _)
  exact ⟨_, ⟨_, _, rfl, (sl_end HS3u2.out hB hz), (sl_end HS3u3.out hB hz)⟩, rfl⟩
end Go.Proofs.YtajghalljkphiaaGreat
