/- The visit of a stackMap. -/
import Derived.Test.YtajghalljkphiaaGreatMGLA
namespace Go.Proofs.YtajghalljkphiaaGreat
open Go.RowKit

set_option maxHeartbeats 4000000 in
set_option maxRecDepth 20000 in
theorem vMp_ok {σ : Type} {N0 : Nat} {F : FuncId} {caps : Array Value} {st : σ → Pt → Except Int σ} {I : σ → World → Prop} {own : World → Nat → Prop} {G : Pt → Prop} (V : Vis G N0 F caps st I own) (x : σ) (c : Mp) {cs : List Value} {S : Nat → Prop} (hS : ∀ k, S k → k < N0) (w : World) (h0 : I x w) (hR : kMp.R w S c cs) (hG : ∀ p ∈ gMp c, G p) :
    Calls Tryz.prog 112 #[.func (.func F) #[] caps, .agg cs.toArray] w (FdP own I w (feed st (gMp c) x)) := by
  have HE0 : Hid _ := congrFun (congrArg (feed st) (show gMp c = [ptN c.at_] ++ (ptL 24 gN1 c.lo ++ (ptL 24 gN1 c.st)) from rfl)) x
  simp only [feed_app] at HE0
  have HG : Hid (∀ p ∈ [ptN c.at_] ++ (ptL 24 gN1 c.lo ++ (ptL 24 gN1 c.st)), G p) := hG
  clear hG
  obtain ⟨v1, v2, rfl, hv1, hv2⟩ := hR
  have HDv1 : Hid (Sl kI w S v1 c.lo) := hv1
  obtain ⟨ao1, cp1, rfl, -⟩ := hv1
  have HDv2 : Hid (Sl kI w S v2 c.st) := hv2
  obtain ⟨ao2, cp2, rfl, -⟩ := hv2
  obtain ⟨tot, htot⟩ : ∃ t, feed st (gMp c) x = t := ⟨_, rfl⟩
  rw [htot] at HE0 ⊢
  have HL0 : Hid (Vs I own w 69 #[.int .i64 c.at_, .slice ao1 c.lo.length cp1, .slice ao2 c.st.length cp2] x (w.alloc (.cells #[.int .i64 c.at_, .slice ao1 c.lo.length cp1, .slice ao2 c.st.length cp2] 69))) := Vs.start V h0 _ _ (by decide)
  clear htot
  go_enter Tryz.func112, Tryz.ntmps112
  go_wp2_with (first
    | (go_at_call 68; refine (vnum_ok V x c.at_ _ HL0.out.inv (fun p hp => HG.out p (List.mem_append.2 (.inl hp)))).mono ?_; rintro e w1 hr; refine FdP.split hr ?_ ?_; (rintro c hq rfl hb; exact ⟨rfl, FdP.err (HE0.out.trans (by rw [hq]; exact fbnd_err _ _)) (HL0.out.fb.trans hb)⟩); rintro x1 hq rfl hI hb; have HE1 : Hid _ := HE0.out; rw [hq, fbnd_ok] at HE1; have HL1 : Hid (Vs I own w 69 #[.int .i64 c.at_, .slice ao1 c.lo.length cp1, .slice ao2 c.st.length cp2] x1 w1) := HL0.out.call hb hI; have g1_1 : w1.cell? ⟨w.heap.size, 1, none⟩ = some (.slice ao1 c.lo.length cp1) := (by rw [HL1.out.cell]; rfl); clear HE0 HL0 hr hb hI hq)
    | (go_at_call 87; refine (vallI_ok V x1 c.lo 24 hS _ HL1.out.inv ((HDv1.out).keep (Fb.data V HL1.out.fb h0 hS)) (fun p hp => HG.out p (List.mem_append.2 (.inr (List.mem_append.2 (.inl hp)))))).mono ?_; rintro e w2 hr; refine FdP.split hr ?_ ?_; (rintro c hq rfl hb; exact ⟨rfl, FdP.err (HE1.out.trans (by rw [hq]; exact fbnd_err _ _)) (HL1.out.fb.trans hb)⟩); rintro x2 hq rfl hI hb; have HE2 : Hid _ := HE1.out; rw [hq, fbnd_ok] at HE2; have HL2 : Hid (Vs I own w 69 #[.int .i64 c.at_, .slice ao1 c.lo.length cp1, .slice ao2 c.st.length cp2] x2 w2) := HL1.out.call hb hI; have g2_2 : w2.cell? ⟨w.heap.size, 2, none⟩ = some (.slice ao2 c.st.length cp2) := (by rw [HL2.out.cell]; rfl); clear HE1 HL1 hr hb hI hq g1_1)
    | (go_at_call 87; refine (vallI_ok V x2 c.st 24 hS _ HL2.out.inv ((HDv2.out).keep (Fb.data V HL2.out.fb h0 hS)) (fun p hp => HG.out p (List.mem_append.2 (.inr (List.mem_append.2 (.inr (hp))))))).mono ?_; rintro e w3 hr; refine FdP.split hr ?_ ?_; (rintro c hq rfl hb; exact ⟨rfl, FdP.err (HE2.out.trans hq) (HL2.out.fb.trans hb)⟩); rintro x3 hq rfl hI hb; have HE3 : Hid _ := HE2.out.trans hq; have HL3 : Hid (Vs I own w 69 #[.int .i64 c.at_, .slice ao1 c.lo.length cp1, .slice ao2 c.st.length cp2] x3 w3) := HL2.out.call hb hI; clear HE2 HL2 hr hb hI hq g2_2))
  go_end0
  exact FdP.ok HE3.out HL3.out.fb HL3.out.inv
end Go.Proofs.YtajghalljkphiaaGreat
/- The loop that shows a list of api.Maps. -/
namespace Go.Proofs.YtajghalljkphiaaGreat
open Go.RowKit

set_option maxHeartbeats 4000000 in
set_option maxRecDepth 20000 in
theorem vallP_ok {σ : Type} {N0 : Nat} {F : FuncId} {caps : Array Value} {st : σ → Pt → Except Int σ} {I : σ → World → Prop} {own : World → Nat → Prop} {G : Pt → Prop} (V : Vis G N0 F caps st I own) (x : σ) (xs : List Mp) (most : Int) {S : Nat → Prop} {v : Value} (hS : ∀ k, S k → k < N0) (w : World) (h0 : I x w) (hD : Sl kMp w S v xs) (hG : ∀ p ∈ ptL most gMp xs, G p) :
    Calls Tryz.prog 111 #[.func (.func F) #[] caps, v, .int .i64 most, .func (.func 112) #[] #[]] w (FdP own I w (feed st (ptL most gMp xs) x)) := by
  have hC := V.call x w (ptC xs.length most) h0 (hG _ List.mem_cons_self)
  have HG : Hid (∀ i c, xs[i]? = some c → ∀ p ∈ gMp c, G p) := fun i c hc p hp => hG p (List.mem_cons_of_mem _ (List.mem_flatMap.2 ⟨c, List.mem_of_getElem? hc, hp⟩))
  clear hG
  have hF := V.enters
  have HE0 : Hid (feed st (ptL most gMp xs) x = fbnd (st x (ptC xs.length most)) (feed st (xs.flatMap gMp))) := rfl
  obtain ⟨tot, htot⟩ : ∃ t, feed st (ptL most gMp xs) x = t := ⟨_, rfl⟩
  rw [htot] at HE0 ⊢
  have HD : Hid (Sl kMp w S v xs) := hD
  obtain ⟨ao, cap, rfl, hmx, hcells⟩ := hD
  unfold maxLen at hmx
  have HC : Hid (∀ wr, Fb own w wr → ∀ i c, xs[i]? = some c → ∃ b o, ao = some ⟨b, o, none⟩ ∧ ∃ cs, kMp.R wr S c cs ∧ ∀ j u, cs[j]? = some u → wr.cell? ⟨b, o + (i * 3 + j), none⟩ = some u) := fun wr hfb i c hc => by
    obtain ⟨ao2, cap2, e, _, hh⟩ := HD.out.keep (Fb.data V hfb h0 hS)
    injection e with e1 e2 e3
    rcases hh with q | ⟨b, o, q1, q2, q3, q4⟩
    · rw [q] at hc; simp at hc
    · obtain ⟨cs, r1, r2⟩ := q4 i c hc
      exact ⟨b, o, e1.trans q1, cs, r1, r2⟩
  clear htot hcells HD
  rcases hq : st x (ptC xs.length most) with c | y
  · rw [hq] at hC
    have HE1 : Hid (tot = .error c) := HE0.out.trans (by rw [hq]; rfl)
    clear HE0 hq HC
    go_enter Tryz.func111, Tryz.ntmps111
    go_wp2
    refine hC.mono ?_
    rintro e w1 ⟨hb, rfl⟩
    exact ⟨rfl, FdP.err HE1.out hb⟩
  · rw [hq] at hC
    have HE1 : Hid (tot = feed st (xs.flatMap gMp) y) := HE0.out.trans (by rw [hq]; rfl)
    clear HE0 hq
    go_enter Tryz.func111, Tryz.ntmps111
    go_wp2
    refine hC.mono ?_
    rintro e w1 ⟨hb, rfl, hI⟩
    have HI : Hid (VIn I own st gMp w xs tot 0 w1) := ⟨y, hI, hb, HE1.out⟩
    clear hC hb hI HE1
    go_wp2
    go_loopg [18] (xs.length + 1) (fun kx s18 wr => ∃ i : Nat, s18 = .int .i64 i ∧ i ≤ xs.length ∧ xs.length - i ≤ kx ∧ Hid (VIn I own st gMp w xs tot i wr))
    case atStart => exact ⟨0, rfl, by omega, by omega, HI⟩
    case round =>
      clear HI
      obtain ⟨i, rfl, hi, hk, HL⟩ := hrel
      by_cases hlt : i < xs.length
      · obtain ⟨c, hc⟩ : ∃ c, xs[i]? = some c := ⟨_, List.getElem?_eq_getElem hlt⟩
        obtain ⟨y, hy, l2, l3, l4⟩ := HL.out.next hc
        have hGc := HG.out i c hc
        have HGc : Hid (∀ p ∈ gMp c, G p) := hGc
        clear hGc
        obtain ⟨b, o, rfl, cs, hR, hcs⟩ := HC.out wr l2 i c hc
        have HR : Hid (kMp.R wr S c cs) := hR
        obtain ⟨v1, v2, rfl, hv1, hv2⟩ := hR
        obtain ⟨ao1, cp1, rfl, -⟩ := hv1
        obtain ⟨ao2, cp2, rfl, -⟩ := hv2
        have e0 : wr.cell? ⟨b, o + i * 3, none⟩ = some (.int .i64 c.at_) := by have := hcs 0 _ rfl; rw [show o + (i * 3 + 0) = o + i * 3 by omega] at this; exact this
        have e1 : wr.cell? ⟨b, o + i * 3 + 1, none⟩ = some (.slice ao1 c.lo.length cp1) := by have := hcs 1 _ rfl; rw [show o + (i * 3 + 1) = o + i * 3 + 1 by omega] at this; exact this
        have e2 : wr.cell? ⟨b, o + i * 3 + 2, none⟩ = some (.slice ao2 c.st.length cp2) := by have := hcs 2 _ rfl; rw [show o + (i * 3 + 2) = o + i * 3 + 2 by omega] at this; exact this
        have HB : Hid (Vs I own wr 69 #[.int .i64 c.at_, .slice ao1 c.lo.length cp1, .slice ao2 c.st.length cp2] y (wr.alloc (.cells #[.int .i64 c.at_, .slice ao1 c.lo.length cp1, .slice ao2 c.st.length cp2] 69))) := Vs.start V hy _ _ (by decide)
        have hl2 : (i : Int) < (xs.length : Int) := by omega
        clear HL hcs HC
        go_wp2_with (first
          | (go_at_call 112; refine (vMp_ok V y c hS _ HB.out.inv (kMp.keep (Fb.data V HB.out.fb hy hS) HR.out) HGc.out).mono ?_; rintro e w2 hr; refine FdP.split hr ?_ ?_; (rintro c hq rfl hb; exact ⟨rfl, FdP.err (l3 _ hq) (l2.trans (HB.out.fb.trans hb))⟩); rintro z hq rfl hI hb; have HN : Hid _ := l4 z w2 hq hI (HB.out.fb.trans hb); clear hr hq hI hb l3 l4))
        go_roundg (xs.length - (i + 1))
        case measure => omega
        case rel => exact ⟨i + 1, by go_num, by omega, by omega, HN⟩
      · have hn : i = xs.length := by omega
        subst hn
        have hl : ¬ ((xs.length : Nat) : Int) < ((xs.length : Nat) : Int) := by omega
        have HF := HL.out.fin
        clear HL HC
        go_wp2
        go_end0
        exact HF
end Go.Proofs.YtajghalljkphiaaGreat
