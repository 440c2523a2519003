/- The loop that shows a list of api.Classs. -/
import Derived.Test.YtajghalljkphiaaGreatMLVCs
namespace Go.Proofs.YtajghalljkphiaaGreat
open Go.RowKit

set_option maxHeartbeats 4000000 in
set_option maxRecDepth 20000 in
theorem vallC_ok {σ : Type} {N0 : Nat} {F : FuncId} {caps : Array Value} {st : σ → Pt → Except Int σ} {I : σ → World → Prop} {own : World → Nat → Prop} {G : Pt → Prop} (V : Vis G N0 F caps st I own) (x : σ) (xs : List Cs) (most : Int) {S : Nat → Prop} {v : Value} (hS : ∀ k, S k → k < N0) (w : World) (h0 : I x w) (hD : Sl kCs w S v xs) (hG : ∀ p ∈ ptL most gCs xs, G p) :
    Calls Tryz.prog 69 #[.func (.func F) #[] caps, v, .int .i64 most, .func (.func 70) #[] #[]] w (FdP own I w (feed st (ptL most gCs xs) x)) := by
  have hC := V.call x w (ptC xs.length most) h0 (hG _ List.mem_cons_self)
  have HG : Hid (∀ i c, xs[i]? = some c → ∀ p ∈ gCs c, G p) := fun i c hc p hp => hG p (List.mem_cons_of_mem _ (List.mem_flatMap.2 ⟨c, List.mem_of_getElem? hc, hp⟩))
  clear hG
  have hF := V.enters
  have HE0 : Hid (feed st (ptL most gCs xs) x = fbnd (st x (ptC xs.length most)) (feed st (xs.flatMap gCs))) := rfl
  obtain ⟨tot, htot⟩ : ∃ t, feed st (ptL most gCs xs) x = t := ⟨_, rfl⟩
  rw [htot] at HE0 ⊢
  have HD : Hid (Sl kCs w S v xs) := hD
  obtain ⟨ao, cap, rfl, hmx, hcells⟩ := hD
  unfold maxLen at hmx
  have HC : Hid (∀ wr, Fb own w wr → ∀ i c, xs[i]? = some c → ∃ b o, ao = some ⟨b, o, none⟩ ∧ ∃ cs, kCs.R wr S c cs ∧ ∀ j u, cs[j]? = some u → wr.cell? ⟨b, o + (i * 8 + j), none⟩ = some u) := fun wr hfb i c hc => by
    obtain ⟨ao2, cap2, e, _, hh⟩ := HD.out.keep (Fb.data V hfb h0 hS)
    injection e with e1 e2 e3
    rcases hh with q | ⟨b, o, q1, q2, q3, q4⟩
    · rw [q] at hc; simp at hc
    · obtain ⟨cs, r1, r2⟩ := q4 i c hc
      exact ⟨b, o, e1.trans q1, cs, r1, r2⟩
  clear htot hcells HD
  rcases hq : st x (ptC xs.length most) with c | y
  · rw [hq] at hC
    have HE1 : Hid (tot = .error c) := HE0.out.trans (by rw [hq]; rfl)
    clear HE0 hq HC
    go_enter Tryz.func69, Tryz.ntmps69
    go_wp2
    refine hC.mono ?_
    rintro e w1 ⟨hb, rfl⟩
    exact ⟨rfl, FdP.err HE1.out hb⟩
  · rw [hq] at hC
    have HE1 : Hid (tot = feed st (xs.flatMap gCs) y) := HE0.out.trans (by rw [hq]; rfl)
    clear HE0 hq
    go_enter Tryz.func69, Tryz.ntmps69
    go_wp2
    refine hC.mono ?_
    rintro e w1 ⟨hb, rfl, hI⟩
    have HI : Hid (VIn I own st gCs w xs tot 0 w1) := ⟨y, hI, hb, HE1.out⟩
    clear hC hb hI HE1
    go_wp2
    go_loopg [18] (xs.length + 1) (fun kx s18 wr => ∃ i : Nat, s18 = .int .i64 i ∧ i ≤ xs.length ∧ xs.length - i ≤ kx ∧ Hid (VIn I own st gCs w xs tot i wr))
    case atStart => exact ⟨0, rfl, by omega, by omega, HI⟩
    case round =>
      clear HI
      obtain ⟨i, rfl, hi, hk, HL⟩ := hrel
      by_cases hlt : i < xs.length
      · obtain ⟨c, hc⟩ : ∃ c, xs[i]? = some c := ⟨_, List.getElem?_eq_getElem hlt⟩
        obtain ⟨y, hy, l2, l3, l4⟩ := HL.out.next hc
        have hGc := HG.out i c hc
        have HGc : Hid (∀ p ∈ gCs c, G p) := hGc
        clear hGc
        obtain ⟨b, o, rfl, cs, hR, hcs⟩ := HC.out wr l2 i c hc
        have HR : Hid (kCs.R wr S c cs) := hR
        obtain ⟨v1, v2, v3, v4, rfl, hv1, hv2, hv3, hv4⟩ := hR
        obtain ⟨ao1, cp1, rfl, -⟩ := hv1
        obtain ⟨ao2, cp2, rfl, -⟩ := hv2
        obtain ⟨ao3, cp3, rfl, -⟩ := hv3
        obtain ⟨ao4, cp4, rfl, -⟩ := hv4
        have e0 : wr.cell? ⟨b, o + i * 8, none⟩ = some (.string c.nm) := by have := hcs 0 _ rfl; rw [show o + (i * 8 + 0) = o + i * 8 by omega] at this; exact this
        have e1 : wr.cell? ⟨b, o + i * 8 + 1, none⟩ = some (.bool c.face) := by have := hcs 1 _ rfl; rw [show o + (i * 8 + 1) = o + i * 8 + 1 by omega] at this; exact this
        have e2 : wr.cell? ⟨b, o + i * 8 + 2, none⟩ = some (.bool c.fin) := by have := hcs 2 _ rfl; rw [show o + (i * 8 + 2) = o + i * 8 + 2 by omega] at this; exact this
        have e3 : wr.cell? ⟨b, o + i * 8 + 3, none⟩ = some (.int .i64 c.sup) := by have := hcs 3 _ rfl; rw [show o + (i * 8 + 3) = o + i * 8 + 3 by omega] at this; exact this
        have e4 : wr.cell? ⟨b, o + i * 8 + 4, none⟩ = some (.slice ao1 c.faces.length cp1) := by have := hcs 4 _ rfl; rw [show o + (i * 8 + 4) = o + i * 8 + 4 by omega] at this; exact this
        have e5 : wr.cell? ⟨b, o + i * 8 + 5, none⟩ = some (.slice ao2 c.flds.length cp2) := by have := hcs 5 _ rfl; rw [show o + (i * 8 + 5) = o + i * 8 + 5 by omega] at this; exact this
        have e6 : wr.cell? ⟨b, o + i * 8 + 6, none⟩ = some (.slice ao3 c.stcs.length cp3) := by have := hcs 6 _ rfl; rw [show o + (i * 8 + 6) = o + i * 8 + 6 by omega] at this; exact this
        have e7 : wr.cell? ⟨b, o + i * 8 + 7, none⟩ = some (.slice ao4 c.mds.length cp4) := by have := hcs 7 _ rfl; rw [show o + (i * 8 + 7) = o + i * 8 + 7 by omega] at this; exact this
        have HB : Hid (Vs I own wr 53 #[.string c.nm, .bool c.face, .bool c.fin, .int .i64 c.sup, .slice ao1 c.faces.length cp1, .slice ao2 c.flds.length cp2, .slice ao3 c.stcs.length cp3, .slice ao4 c.mds.length cp4] y (wr.alloc (.cells #[.string c.nm, .bool c.face, .bool c.fin, .int .i64 c.sup, .slice ao1 c.faces.length cp1, .slice ao2 c.flds.length cp2, .slice ao3 c.stcs.length cp3, .slice ao4 c.mds.length cp4] 53))) := Vs.start V hy _ _ (by decide)
        have hl2 : (i : Int) < (xs.length : Int) := by omega
        clear HL hcs HC
        go_wp2_with (first
          | (go_at_call 70; refine (vCs_ok V y c hS _ HB.out.inv (kCs.keep (Fb.data V HB.out.fb hy hS) HR.out) HGc.out).mono ?_; rintro e w2 hr; refine FdP.split hr ?_ ?_; (rintro c hq rfl hb; exact ⟨rfl, FdP.err (l3 _ hq) (l2.trans (HB.out.fb.trans hb))⟩); rintro z hq rfl hI hb; have HN : Hid _ := l4 z w2 hq hI (HB.out.fb.trans hb); clear hr hq hI hb l3 l4))
        go_roundg (xs.length - (i + 1))
        case measure => omega
        case rel => exact ⟨i + 1, by go_num, by omega, by omega, HN⟩
      · have hn : i = xs.length := by omega
        subst hn
        have hl : ¬ ((xs.length : Nat) : Int) < ((xs.length : Nat) : Int) := by omega
        have HF := HL.out.fin
        clear HL HC
        go_wp2
        go_end0
        exact HF
end Go.Proofs.YtajghalljkphiaaGreat
