/- The visit of a stackMap. -/
import Derived.Test.YtkngcaodfhocjaaMLAI
namespace Go.Proofs.Ytkngcaodfhocjaa
open Go.RowKit

set_option maxHeartbeats 4000000 in
set_option maxRecDepth 20000 in
theorem vMp_ok {σ : Type} {N0 : Nat} {F : FuncId} {caps : Array Value} {st : σ → Pt → Except Int σ} {I : σ → World → Prop} {own : World → Nat → Prop} {G : Pt → Prop} (V : Vis G N0 F caps st I own) (x : σ) (c : Mp) {cs : List Value} {S : Nat → Prop} (hS : ∀ k, S k → k < N0) (w : World) (h0 : I x w) (hR : kMp.R w S c cs) (hG : ∀ p ∈ gMp c, G p) :
    Calls Try.prog 85 #[.func (.func F) #[] caps, .agg cs.toArray] w (FdP own I w (feed st (gMp c) x)) := by
  have HE0 : Hid _ := congrFun (congrArg (feed st) (show gMp c = [ptN c.at_] ++ (ptL 24 gN1 c.lo ++ (ptL 24 gN1 c.st)) from rfl)) x
  simp only [feed_app] at HE0
  have HG : Hid (∀ p ∈ [ptN c.at_] ++ (ptL 24 gN1 c.lo ++ (ptL 24 gN1 c.st)), G p) := hG
  clear hG
  obtain ⟨v1, v2, rfl, hv1, hv2⟩ := hR
  have HDv1 : Hid (Sl kI w S v1 c.lo) := hv1
  obtain ⟨ao1, cp1, rfl, -⟩ := hv1
  have HDv2 : Hid (Sl kI w S v2 c.st) := hv2
  obtain ⟨ao2, cp2, rfl, -⟩ := hv2
  obtain ⟨tot, htot⟩ : ∃ t, feed st (gMp c) x = t := ⟨_, rfl⟩
  rw [htot] at HE0 ⊢
  have HL0 : Hid (Vs I own w 90 #[.int .i64 c.at_, .slice ao1 c.lo.length cp1, .slice ao2 c.st.length cp2] x (w.alloc (.cells #[.int .i64 c.at_, .slice ao1 c.lo.length cp1, .slice ao2 c.st.length cp2] 90))) := Vs.start V h0 _ _ (by decide)
  clear htot
  go_enter Try.func85, Try.ntmps85
  go_wp2_with (first
    | (go_at_call 42; refine (vnum_ok V x c.at_ _ HL0.out.inv (fun p hp => HG.out p (List.mem_append.2 (.inl hp)))).mono ?_; rintro e w1 hr; refine FdP.split hr ?_ ?_; (rintro c hq rfl hb; exact ⟨rfl, FdP.err (HE0.out.trans (by rw [hq]; exact fbnd_err _ _)) (HL0.out.fb.trans hb)⟩); rintro x1 hq rfl hI hb; have HE1 : Hid _ := HE0.out; rw [hq, fbnd_ok] at HE1; have HL1 : Hid (Vs I own w 90 #[.int .i64 c.at_, .slice ao1 c.lo.length cp1, .slice ao2 c.st.length cp2] x1 w1) := HL0.out.call hb hI; have g1_1 : w1.cell? ⟨w.heap.size, 1, none⟩ = some (.slice ao1 c.lo.length cp1) := (by rw [HL1.out.cell]; rfl); clear HE0 HL0 hr hb hI hq)
    | (go_at_call 60; refine (vallI_ok V x1 c.lo 24 hS _ HL1.out.inv ((HDv1.out).keep (Fb.data V HL1.out.fb h0 hS)) (fun p hp => HG.out p (List.mem_append.2 (.inr (List.mem_append.2 (.inl hp)))))).mono ?_; rintro e w2 hr; refine FdP.split hr ?_ ?_; (rintro c hq rfl hb; exact ⟨rfl, FdP.err (HE1.out.trans (by rw [hq]; exact fbnd_err _ _)) (HL1.out.fb.trans hb)⟩); rintro x2 hq rfl hI hb; have HE2 : Hid _ := HE1.out; rw [hq, fbnd_ok] at HE2; have HL2 : Hid (Vs I own w 90 #[.int .i64 c.at_, .slice ao1 c.lo.length cp1, .slice ao2 c.st.length cp2] x2 w2) := HL1.out.call hb hI; have g2_2 : w2.cell? ⟨w.heap.size, 2, none⟩ = some (.slice ao2 c.st.length cp2) := (by rw [HL2.out.cell]; rfl); clear HE1 HL1 hr hb hI hq g1_1)
    | (go_at_call 60; refine (vallI_ok V x2 c.st 24 hS _ HL2.out.inv ((HDv2.out).keep (Fb.data V HL2.out.fb h0 hS)) (fun p hp => HG.out p (List.mem_append.2 (.inr (List.mem_append.2 (.inr (hp))))))).mono ?_; rintro e w3 hr; refine FdP.split hr ?_ ?_; (rintro c hq rfl hb; exact ⟨rfl, FdP.err (HE2.out.trans hq) (HL2.out.fb.trans hb)⟩); rintro x3 hq rfl hI hb; have HE3 : Hid _ := HE2.out.trans hq; have HL3 : Hid (Vs I own w 90 #[.int .i64 c.at_, .slice ao1 c.lo.length cp1, .slice ao2 c.st.length cp2] x3 w3) := HL2.out.call hb hI; clear HE2 HL2 hr hb hI hq g2_2))
  go_end0
  exact FdP.ok HE3.out HL3.out.fb HL3.out.inv
end Go.Proofs.Ytkngcaodfhocjaa
