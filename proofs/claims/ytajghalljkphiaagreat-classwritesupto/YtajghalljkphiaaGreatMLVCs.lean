/- The visit of a class. -/
import Derived.Test.YtajghalljkphiaaGreatMGLA
import Derived.Test.YtajghalljkphiaaGreatMLAM
namespace Go.Proofs.YtajghalljkphiaaGreat
open Go.RowKit

set_option maxHeartbeats 4000000 in
set_option maxRecDepth 20000 in
theorem vCs_ok {σ : Type} {N0 : Nat} {F : FuncId} {caps : Array Value} {st : σ → Pt → Except Int σ} {I : σ → World → Prop} {own : World → Nat → Prop} {G : Pt → Prop} (V : Vis G N0 F caps st I own) (x : σ) (c : Cs) {cs : List Value} {S : Nat → Prop} (hS : ∀ k, S k → k < N0) (w : World) (h0 : I x w) (hR : kCs.R w S c cs) (hG : ∀ p ∈ gCs c, G p) :
    Calls Tryz.prog 70 #[.func (.func F) #[] caps, .agg cs.toArray] w (FdP own I w (feed st (gCs c) x)) := by
  have HE0 : Hid _ := congrFun (congrArg (feed st) (show gCs c = [ptT c.nm] ++ ([ptN (fl c.face 1 + fl c.fin 2)] ++ ([ptN c.sup] ++ (ptL 8 gN1 c.faces ++ (ptL 24 gFd c.flds ++ (ptL 24 gFd c.stcs ++ (ptL 24 gMd c.mds)))))) from rfl)) x
  simp only [feed_app] at HE0
  have HG : Hid (∀ p ∈ [ptT c.nm] ++ ([ptN (fl c.face 1 + fl c.fin 2)] ++ ([ptN c.sup] ++ (ptL 8 gN1 c.faces ++ (ptL 24 gFd c.flds ++ (ptL 24 gFd c.stcs ++ (ptL 24 gMd c.mds)))))), G p) := hG
  clear hG
  obtain ⟨v1, v2, v3, v4, rfl, hv1, hv2, hv3, hv4⟩ := hR
  have HDv1 : Hid (Sl kI w S v1 c.faces) := hv1
  obtain ⟨ao1, cp1, rfl, -⟩ := hv1
  have HDv2 : Hid (Sl kFd w S v2 c.flds) := hv2
  obtain ⟨ao2, cp2, rfl, -⟩ := hv2
  have HDv3 : Hid (Sl kFd w S v3 c.stcs) := hv3
  obtain ⟨ao3, cp3, rfl, -⟩ := hv3
  have HDv4 : Hid (Sl kMd w S v4 c.mds) := hv4
  obtain ⟨ao4, cp4, rfl, -⟩ := hv4
  obtain ⟨tot, htot⟩ : ∃ t, feed st (gCs c) x = t := ⟨_, rfl⟩
  rw [htot] at HE0 ⊢
  have HL0 : Hid (Vs I own w 53 #[.string c.nm, .bool c.face, .bool c.fin, .int .i64 c.sup, .slice ao1 c.faces.length cp1, .slice ao2 c.flds.length cp2, .slice ao3 c.stcs.length cp3, .slice ao4 c.mds.length cp4] x (w.alloc (.cells #[.string c.nm, .bool c.face, .bool c.fin, .int .i64 c.sup, .slice ao1 c.faces.length cp1, .slice ao2 c.flds.length cp2, .slice ao3 c.stcs.length cp3, .slice ao4 c.mds.length cp4] 53))) := Vs.start V h0 _ _ (by decide)
  clear htot
  go_enter Tryz.func70, Tryz.ntmps70
  go_wp2_with (first
    | (go_at_call 85; refine (vname_ok V x c.nm _ HL0.out.inv (fun p hp => HG.out p (List.mem_append.2 (.inl hp)))).mono ?_; rintro e w1 hr; refine FdP.split hr ?_ ?_; (rintro c hq rfl hb; exact ⟨rfl, FdP.err (HE0.out.trans (by rw [hq]; exact fbnd_err _ _)) (HL0.out.fb.trans hb)⟩); rintro x1 hq rfl hI hb; have HE1 : Hid _ := HE0.out; rw [hq, fbnd_ok] at HE1; have HL1 : Hid (Vs I own w 53 #[.string c.nm, .bool c.face, .bool c.fin, .int .i64 c.sup, .slice ao1 c.faces.length cp1, .slice ao2 c.flds.length cp2, .slice ao3 c.stcs.length cp3, .slice ao4 c.mds.length cp4] x1 w1) := HL0.out.call hb hI; have g1_1 : w1.cell? ⟨w.heap.size, 1, none⟩ = some (.bool c.face) := (by rw [HL1.out.cell]; rfl); have g1_2 : w1.cell? ⟨w.heap.size, 2, none⟩ = some (.bool c.fin) := (by rw [HL1.out.cell]; rfl); have hlt2 : w.heap.size < w1.heap.size := (Array.getElem?_eq_some_iff.1 HL1.out.box).1; clear HE0 HL0 hr hb hI hq))
  refine wp_region_still_tail 8 (by kernel_rfl) (by kernel_rfl) ?_
  change wpStill _ _ (World.drew _) (fun a' => wpList _ _ _ _ a' (World.drew _)) _ _
  simp only [List.take_succ_cons, List.take_zero, List.drop_succ_cons, List.drop_zero]
  repeat still_step
  still_call (flagIf_any _ _ _)
  repeat still_step
  still_call (flagIf_any _ _ _)
  repeat still_step
  refine wpStill_nil ?_
  simp only [fl_or]
  have HLd : Hid (Vs I own w 53 #[.string c.nm, .bool c.face, .bool c.fin, .int .i64 c.sup, .slice ao1 c.faces.length cp1, .slice ao2 c.flds.length cp2, .slice ao3 c.stcs.length cp3, .slice ao4 c.mds.length cp4] x1 (World.drew w1)) := HL1.out.drew V
  replace HL1 := HLd
  clear HLd
  go_wp2_with (first
    | (go_at_call 68; refine (vnum_ok V x1 (fl c.face 1 + fl c.fin 2) _ HL1.out.inv (fun p hp => HG.out p (List.mem_append.2 (.inr (List.mem_append.2 (.inl hp)))))).mono ?_; rintro e w2 hr; refine FdP.split hr ?_ ?_; (rintro c hq rfl hb; exact ⟨rfl, FdP.err (HE1.out.trans (by rw [hq]; exact fbnd_err _ _)) (HL1.out.fb.trans hb)⟩); rintro x2 hq rfl hI hb; have HE2 : Hid _ := HE1.out; rw [hq, fbnd_ok] at HE2; have HL2 : Hid (Vs I own w 53 #[.string c.nm, .bool c.face, .bool c.fin, .int .i64 c.sup, .slice ao1 c.faces.length cp1, .slice ao2 c.flds.length cp2, .slice ao3 c.stcs.length cp3, .slice ao4 c.mds.length cp4] x2 w2) := HL1.out.call hb hI; have g2_3 : w2.cell? ⟨w.heap.size, 3, none⟩ = some (.int .i64 c.sup) := (by rw [HL2.out.cell]; rfl); clear HE1 HL1 hr hb hI hq g1_1 g1_2)
    | (go_at_call 68; refine (vnum_ok V x2 c.sup _ HL2.out.inv (fun p hp => HG.out p (List.mem_append.2 (.inr (List.mem_append.2 (.inr (List.mem_append.2 (.inl hp)))))))).mono ?_; rintro e w3 hr; refine FdP.split hr ?_ ?_; (rintro c hq rfl hb; exact ⟨rfl, FdP.err (HE2.out.trans (by rw [hq]; exact fbnd_err _ _)) (HL2.out.fb.trans hb)⟩); rintro x3 hq rfl hI hb; have HE3 : Hid _ := HE2.out; rw [hq, fbnd_ok] at HE3; have HL3 : Hid (Vs I own w 53 #[.string c.nm, .bool c.face, .bool c.fin, .int .i64 c.sup, .slice ao1 c.faces.length cp1, .slice ao2 c.flds.length cp2, .slice ao3 c.stcs.length cp3, .slice ao4 c.mds.length cp4] x3 w3) := HL2.out.call hb hI; have g3_4 : w3.cell? ⟨w.heap.size, 4, none⟩ = some (.slice ao1 c.faces.length cp1) := (by rw [HL3.out.cell]; rfl); clear HE2 HL2 hr hb hI hq g2_3)
    | (go_at_call 87; refine (vallI_ok V x3 c.faces 8 hS _ HL3.out.inv ((HDv1.out).keep (Fb.data V HL3.out.fb h0 hS)) (fun p hp => HG.out p (List.mem_append.2 (.inr (List.mem_append.2 (.inr (List.mem_append.2 (.inr (List.mem_append.2 (.inl hp)))))))))).mono ?_; rintro e w4 hr; refine FdP.split hr ?_ ?_; (rintro c hq rfl hb; exact ⟨rfl, FdP.err (HE3.out.trans (by rw [hq]; exact fbnd_err _ _)) (HL3.out.fb.trans hb)⟩); rintro x4 hq rfl hI hb; have HE4 : Hid _ := HE3.out; rw [hq, fbnd_ok] at HE4; have HL4 : Hid (Vs I own w 53 #[.string c.nm, .bool c.face, .bool c.fin, .int .i64 c.sup, .slice ao1 c.faces.length cp1, .slice ao2 c.flds.length cp2, .slice ao3 c.stcs.length cp3, .slice ao4 c.mds.length cp4] x4 w4) := HL3.out.call hb hI; have g4_5 : w4.cell? ⟨w.heap.size, 5, none⟩ = some (.slice ao2 c.flds.length cp2) := (by rw [HL4.out.cell]; rfl); clear HE3 HL3 hr hb hI hq g3_4)
    | (go_at_call 88; refine (vallF_ok V x4 c.flds 24 hS _ HL4.out.inv ((HDv2.out).keep (Fb.data V HL4.out.fb h0 hS)) (fun p hp => HG.out p (List.mem_append.2 (.inr (List.mem_append.2 (.inr (List.mem_append.2 (.inr (List.mem_append.2 (.inr (List.mem_append.2 (.inl hp)))))))))))).mono ?_; rintro e w5 hr; refine FdP.split hr ?_ ?_; (rintro c hq rfl hb; exact ⟨rfl, FdP.err (HE4.out.trans (by rw [hq]; exact fbnd_err _ _)) (HL4.out.fb.trans hb)⟩); rintro x5 hq rfl hI hb; have HE5 : Hid _ := HE4.out; rw [hq, fbnd_ok] at HE5; have HL5 : Hid (Vs I own w 53 #[.string c.nm, .bool c.face, .bool c.fin, .int .i64 c.sup, .slice ao1 c.faces.length cp1, .slice ao2 c.flds.length cp2, .slice ao3 c.stcs.length cp3, .slice ao4 c.mds.length cp4] x5 w5) := HL4.out.call hb hI; have g5_6 : w5.cell? ⟨w.heap.size, 6, none⟩ = some (.slice ao3 c.stcs.length cp3) := (by rw [HL5.out.cell]; rfl); clear HE4 HL4 hr hb hI hq g4_5)
    | (go_at_call 88; refine (vallF_ok V x5 c.stcs 24 hS _ HL5.out.inv ((HDv3.out).keep (Fb.data V HL5.out.fb h0 hS)) (fun p hp => HG.out p (List.mem_append.2 (.inr (List.mem_append.2 (.inr (List.mem_append.2 (.inr (List.mem_append.2 (.inr (List.mem_append.2 (.inr (List.mem_append.2 (.inl hp)))))))))))))).mono ?_; rintro e w6 hr; refine FdP.split hr ?_ ?_; (rintro c hq rfl hb; exact ⟨rfl, FdP.err (HE5.out.trans (by rw [hq]; exact fbnd_err _ _)) (HL5.out.fb.trans hb)⟩); rintro x6 hq rfl hI hb; have HE6 : Hid _ := HE5.out; rw [hq, fbnd_ok] at HE6; have HL6 : Hid (Vs I own w 53 #[.string c.nm, .bool c.face, .bool c.fin, .int .i64 c.sup, .slice ao1 c.faces.length cp1, .slice ao2 c.flds.length cp2, .slice ao3 c.stcs.length cp3, .slice ao4 c.mds.length cp4] x6 w6) := HL5.out.call hb hI; have g6_7 : w6.cell? ⟨w.heap.size, 7, none⟩ = some (.slice ao4 c.mds.length cp4) := (by rw [HL6.out.cell]; rfl); clear HE5 HL5 hr hb hI hq g5_6)
    | (go_at_call 90; refine (vallM_ok V x6 c.mds 24 hS _ HL6.out.inv ((HDv4.out).keep (Fb.data V HL6.out.fb h0 hS)) (fun p hp => HG.out p (List.mem_append.2 (.inr (List.mem_append.2 (.inr (List.mem_append.2 (.inr (List.mem_append.2 (.inr (List.mem_append.2 (.inr (List.mem_append.2 (.inr (hp))))))))))))))).mono ?_; rintro e w7 hr; refine FdP.split hr ?_ ?_; (rintro c hq rfl hb; exact ⟨rfl, FdP.err (HE6.out.trans hq) (HL6.out.fb.trans hb)⟩); rintro x7 hq rfl hI hb; have HE7 : Hid _ := HE6.out.trans hq; have HL7 : Hid (Vs I own w 53 #[.string c.nm, .bool c.face, .bool c.fin, .int .i64 c.sup, .slice ao1 c.faces.length cp1, .slice ao2 c.flds.length cp2, .slice ao3 c.stcs.length cp3, .slice ao4 c.mds.length cp4] x7 w7) := HL6.out.call hb hI; clear HE6 HL6 hr hb hI hq g6_7))
  go_end0
  exact FdP.ok HE7.out HL7.out.fb HL7.out.inv
end Go.Proofs.YtajghalljkphiaaGreat
