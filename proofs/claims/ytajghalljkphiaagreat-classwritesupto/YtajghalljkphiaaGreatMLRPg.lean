/- Reading a program. -/
import Derived.Test.YtajghalljkphiaaGreatMLLC
namespace Go.Proofs.YtajghalljkphiaaGreat
open Go.RowKit

theorem infoRPg : (Tryz.prog.info? 24).map (·.size) = some 2 := by kernel_rfl
theorem pPg_eq (s : ByteArray) (a : Nat) : pPg s a = bnd (pNum s a) fun x1 b1 => bnd (pList 40 pCs s b1) fun x2 b2 => .ok (⟨x1, x2⟩, b2) := by
  unfold pPg
  simp only [pMap, pSeq, bnd_assoc, bnd_ok]

set_option maxHeartbeats 4000000 in
set_option maxRecDepth 20000 in
theorem rpg_ok {w : World} {rh : Nat} {s : ByteArray} {a : Nat} (H : Rb w rh s a) (ha : a ≤ s.size) (hs : s.size ≤ maxLen) :
    Calls Tryz.prog 38 #[.pointer (some ⟨rh, 0, none⟩)] w (RdP (pPg s a) (Nw kPgU w) s rh w) := by
  have HE0 : Hid _ := pPg_eq s a
  obtain ⟨tot, htot⟩ : ∃ t, pPg s a = t := ⟨_, rfl⟩
  rw [htot] at HE0 ⊢
  have HL0 : Hid (Lc w rh s 24 #[.int .i64 0, .slice none 0 0] #[.int .i64 0, .slice none 0 0] a ((w.alloc (.cells #[.int .i64 0, .slice none 0 0] 24)).alloc (.cells #[.int .i64 0, .slice none 0 0] 24))) := Lc.start H _ _
  have hA0 := ha
  clear H htot
  go_enter Tryz.func38, Tryz.ntmps38
  go_wp2_with (first
    | (go_at_call 62; refine (rnum_ok HL0.out.box hA0 hs).mono ?_; rintro e w1 hr; refine RdP.split hr ?_ ?_; (rintro q c hq rfl hb; exact ⟨rfl, RdP.err (by rw [HE0.out, hq]; rfl) (HL0.out.bx.trans hb)⟩); rintro x1 a1 u1 hq rfl rfl hR hb; have hA1 : a1 ≤ s.size := ((good_num).back s a x1 a1 hA0 hq).2.2.1; have HE1 : Hid _ := HE0.out; rw [hq, bnd_ok] at HE1; have L1 := HL0.out.call hb hR; have f1_0 := L1.fr 0; have g1_0 : w1.cell? ⟨w.heap.size + 1, 0, none⟩ = some (.int .i64 0) := (by rw [L1.cell]; rfl); have HL1 : Hid (Lc w rh s 24 #[.int .i64 0, .slice none 0 0] #[.int .i64 x1, .slice none 0 0] a1 (w1.setCell ⟨w.heap.size + 1, 0, none⟩ (.int .i64 x1))) := (L1.set 0 (.int .i64 x1)); clear HE0 HL0 hr hb hR hq L1 hA0)
    | (go_at_call 63; refine (rlistC_ok 40 (by decide) HL1.out.box hA1 hs).mono ?_; rintro e w2 hr; refine RdP.split hr ?_ ?_; (rintro q c hq rfl hb; exact ⟨rfl, RdP.err (by rw [HE1.out, hq]; rfl) (HL1.out.bx.trans hb)⟩); rintro x2 a2 u2 hq rfl hv hR hb; have hA2 : a2 ≤ s.size := ((good_cs.list 40).back s a1 x2 a2 hA1 hq).2.2.1; have HE2 : Hid _ := HE1.out; rw [hq, bnd_ok] at HE2; have L2 := HL1.out.call hb hR; have S2u2 := HL1.out.fresh hv; have q2 : ∃ ao cap, u2 = .slice ao x2.length cap := (by obtain ⟨ao, cap, e1, _⟩ := hv; exact ⟨ao, cap, e1⟩); obtain ⟨ao2, cp2, rfl⟩ := q2; have f2_1 := L2.fr 1; have g2_1 : w2.cell? ⟨w.heap.size + 1, 1, none⟩ = some (.slice none 0 0) := (by rw [L2.cell]; rfl); have HL2 : Hid (Lc w rh s 24 #[.int .i64 0, .slice none 0 0] #[.int .i64 x1, .slice ao2 x2.length cp2] a2 (w2.setCell ⟨w.heap.size + 1, 1, none⟩ (.slice ao2 x2.length cp2))) := (L2.set 1 (.slice ao2 x2.length cp2)); have HS2u2 : Hid _ := (so_set (j := 1) (u := .slice ao2 x2.length cp2) S2u2); clear HE1 HL1 hr hb hR hq L2 hA1 S2u2 hv f1_0 g1_0)
    | (refine wpList_load_row rfl 24 _ rfl (w.heap.size + 1) rfl 24 _ (0, 0) _ HL2.out.loc Tryz.underlying24 rfl infoRPg ?_)
    | (refine wpList_store_row rfl 24 _ _ rfl w.heap.size _ rfl rfl 24 _ HL2.out.res infoRPg rfl (by simp [Value.oneCell']) ?_))
  refine bodyPost_ret (results_cell_row rfl _ _ w.heap.size 24 #[.int .i64 x1, .slice ao2 x2.length cp2] (0, 0) _ rfl (setRow_heap _ _ _ _ _ _ HL2.out.res) Tryz.underlying24 rfl infoRPg) rfl ?_
  rw [HE2.out]
  refine HL2.out.done (fun W hB hz => ?_) (fun k hk => setRow_other _ _ _ _ hk) rfl rfl rfl (size_setRow _ _ _)
  exact ⟨_, ⟨_, rfl, (sl_end HS2u2.out hB hz)⟩, rfl⟩
end Go.Proofs.YtajghalljkphiaaGreat
