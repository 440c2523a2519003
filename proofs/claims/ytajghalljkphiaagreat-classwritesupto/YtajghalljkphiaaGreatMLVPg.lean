/- The visit of a program. -/
import Derived.Test.YtajghalljkphiaaGreatMLAC
namespace Go.Proofs.YtajghalljkphiaaGreat
open Go.RowKit

set_option maxHeartbeats 4000000 in
set_option maxRecDepth 20000 in
theorem vPg_ok {σ : Type} {N0 : Nat} {F : FuncId} {caps : Array Value} {st : σ → Pt → Except Int σ} {I : σ → World → Prop} {own : World → Nat → Prop} {G : Pt → Prop} (V : Vis G N0 F caps st I own) (x : σ) (c : Pg) {cs : List Value} {S : Nat → Prop} (hS : ∀ k, S k → k < N0) (w : World) (h0 : I x w) (hR : kPg.R w S c cs) (hG : ∀ p ∈ gPg c, G p) :
    Calls Tryz.prog 46 #[.func (.func F) #[] caps, .agg cs.toArray] w (FdP own I w (feed st (gPg c) x)) := by
  have HE0 : Hid _ := congrFun (congrArg (feed st) (show gPg c = [ptN c.main] ++ (ptL 40 gCs c.cls) from rfl)) x
  simp only [feed_app] at HE0
  have HG : Hid (∀ p ∈ [ptN c.main] ++ (ptL 40 gCs c.cls), G p) := hG
  clear hG
  obtain ⟨v1, rfl, hv1⟩ := hR
  have HDv1 : Hid (Sl kCs w S v1 c.cls) := hv1
  obtain ⟨ao1, cp1, rfl, -⟩ := hv1
  obtain ⟨tot, htot⟩ : ∃ t, feed st (gPg c) x = t := ⟨_, rfl⟩
  rw [htot] at HE0 ⊢
  have HL0 : Hid (Vs I own w 24 #[.int .i64 c.main, .slice ao1 c.cls.length cp1] x (w.alloc (.cells #[.int .i64 c.main, .slice ao1 c.cls.length cp1] 24))) := Vs.start V h0 _ _ (by decide)
  clear htot
  go_enter Tryz.func46, Tryz.ntmps46
  go_wp2_with (first
    | (go_at_call 68; refine (vnum_ok V x c.main _ HL0.out.inv (fun p hp => HG.out p (List.mem_append.2 (.inl hp)))).mono ?_; rintro e w1 hr; refine FdP.split hr ?_ ?_; (rintro c hq rfl hb; exact ⟨rfl, FdP.err (HE0.out.trans (by rw [hq]; exact fbnd_err _ _)) (HL0.out.fb.trans hb)⟩); rintro x1 hq rfl hI hb; have HE1 : Hid _ := HE0.out; rw [hq, fbnd_ok] at HE1; have HL1 : Hid (Vs I own w 24 #[.int .i64 c.main, .slice ao1 c.cls.length cp1] x1 w1) := HL0.out.call hb hI; have g1_1 : w1.cell? ⟨w.heap.size, 1, none⟩ = some (.slice ao1 c.cls.length cp1) := (by rw [HL1.out.cell]; rfl); clear HE0 HL0 hr hb hI hq)
    | (go_at_call 69; refine (vallC_ok V x1 c.cls 40 hS _ HL1.out.inv ((HDv1.out).keep (Fb.data V HL1.out.fb h0 hS)) (fun p hp => HG.out p (List.mem_append.2 (.inr (hp))))).mono ?_; rintro e w2 hr; refine FdP.split hr ?_ ?_; (rintro c hq rfl hb; exact ⟨rfl, FdP.err (HE1.out.trans hq) (HL1.out.fb.trans hb)⟩); rintro x2 hq rfl hI hb; have HE2 : Hid _ := HE1.out.trans hq; have HL2 : Hid (Vs I own w 24 #[.int .i64 c.main, .slice ao1 c.cls.length cp1] x2 w2) := HL1.out.call hb hI; clear HE1 HL1 hr hb hI hq g1_1))
  go_end0
  exact FdP.ok HE2.out HL2.out.fb HL2.out.inv
end Go.Proofs.YtajghalljkphiaaGreat
