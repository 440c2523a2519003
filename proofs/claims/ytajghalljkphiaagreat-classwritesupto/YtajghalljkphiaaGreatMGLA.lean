/- The loop that shows a list of ints. -/
import Derived.Test.YtajghalljkphiaaGreatMGV0
import Derived.Test.YtajghalljkphiaaGreatMGV1
namespace Go.Proofs.YtajghalljkphiaaGreat
open Go.RowKit

set_option maxHeartbeats 4000000 in
set_option maxRecDepth 20000 in
theorem vallI_ok {σ : Type} {N0 : Nat} {F : FuncId} {caps : Array Value} {st : σ → Pt → Except Int σ} {I : σ → World → Prop} {own : World → Nat → Prop} {G : Pt → Prop} (V : Vis G N0 F caps st I own) (x : σ) (xs : List Int) (most : Int) {S : Nat → Prop} {v : Value} (hS : ∀ k, S k → k < N0) (w : World) (h0 : I x w) (hD : Sl kI w S v xs) (hG : ∀ p ∈ ptL most gN1 xs, G p) :
    Calls Tryz.prog 87 #[.func (.func F) #[] caps, v, .int .i64 most, .func (.func 68) #[] #[]] w (FdP own I w (feed st (ptL most gN1 xs) x)) := by
  have hC := V.call x w (ptC xs.length most) h0 (hG _ List.mem_cons_self)
  have HG : Hid (∀ i c, xs[i]? = some c → ∀ p ∈ gN1 c, G p) := fun i c hc p hp => hG p (List.mem_cons_of_mem _ (List.mem_flatMap.2 ⟨c, List.mem_of_getElem? hc, hp⟩))
  clear hG
  have hF := V.enters
  have HE0 : Hid (feed st (ptL most gN1 xs) x = fbnd (st x (ptC xs.length most)) (feed st (xs.flatMap gN1))) := rfl
  obtain ⟨tot, htot⟩ : ∃ t, feed st (ptL most gN1 xs) x = t := ⟨_, rfl⟩
  rw [htot] at HE0 ⊢
  have HD : Hid (Sl kI w S v xs) := hD
  obtain ⟨ao, cap, rfl, hmx, hcells⟩ := hD
  unfold maxLen at hmx
  have HC : Hid (∀ wr, Fb own w wr → ∀ i c, xs[i]? = some c → ∃ b o, ao = some ⟨b, o, none⟩ ∧ ∃ cs, kI.R wr S c cs ∧ ∀ j u, cs[j]? = some u → wr.cell? ⟨b, o + (i * 1 + j), none⟩ = some u) := fun wr hfb i c hc => by
    obtain ⟨ao2, cap2, e, _, hh⟩ := HD.out.keep (Fb.data V hfb h0 hS)
    injection e with e1 e2 e3
    rcases hh with q | ⟨b, o, q1, q2, q3, q4⟩
    · rw [q] at hc; simp at hc
    · obtain ⟨cs, r1, r2⟩ := q4 i c hc
      exact ⟨b, o, e1.trans q1, cs, r1, r2⟩
  clear htot hcells HD
  rcases hq : st x (ptC xs.length most) with c | y
  · rw [hq] at hC
    have HE1 : Hid (tot = .error c) := HE0.out.trans (by rw [hq]; rfl)
    clear HE0 hq HC
    go_enter Tryz.func87, Tryz.ntmps87
    go_wp2
    refine hC.mono ?_
    rintro e w1 ⟨hb, rfl⟩
    exact ⟨rfl, FdP.err HE1.out hb⟩
  · rw [hq] at hC
    have HE1 : Hid (tot = feed st (xs.flatMap gN1) y) := HE0.out.trans (by rw [hq]; rfl)
    clear HE0 hq
    go_enter Tryz.func87, Tryz.ntmps87
    go_wp2
    refine hC.mono ?_
    rintro e w1 ⟨hb, rfl, hI⟩
    have HI : Hid (VIn I own st gN1 w xs tot 0 w1) := ⟨y, hI, hb, HE1.out⟩
    clear hC hb hI HE1
    go_wp2
    go_loopg [18] (xs.length + 1) (fun kx s18 wr => ∃ i : Nat, s18 = .int .i64 i ∧ i ≤ xs.length ∧ xs.length - i ≤ kx ∧ Hid (VIn I own st gN1 w xs tot i wr))
    case atStart => exact ⟨0, rfl, by omega, by omega, HI⟩
    case round =>
      clear HI
      obtain ⟨i, rfl, hi, hk, HL⟩ := hrel
      by_cases hlt : i < xs.length
      · obtain ⟨c, hc⟩ : ∃ c, xs[i]? = some c := ⟨_, List.getElem?_eq_getElem hlt⟩
        obtain ⟨y, hy, l2, l3, l4⟩ := HL.out.next hc
        have hGc := HG.out i c hc
        
        
        obtain ⟨b, o, rfl, cs, hR, hcs⟩ := HC.out wr l2 i c hc
        obtain rfl := hR
        have e0 : wr.cell? ⟨b, o + i, none⟩ = some (.int .i64 c) := by have := hcs 0 _ rfl; rw [show o + (i * 1 + 0) = o + i by omega] at this; exact this
        have hl2 : (i : Int) < (xs.length : Int) := by omega
        clear HL hcs HC
        go_wp2_with (first
          | (go_at_call 68; refine (vnum_ok V y c _ hy hGc).mono ?_; rintro e w2 hr; refine FdP.split hr ?_ ?_; (rintro c hq rfl hb; exact ⟨rfl, FdP.err (l3 _ hq) (l2.trans hb)⟩); rintro z hq rfl hI hb; have HN : Hid _ := l4 z w2 hq hI hb; clear hr hq hI hb l3 l4))
        go_roundg (xs.length - (i + 1))
        case measure => omega
        case rel => exact ⟨i + 1, by go_num, by omega, by omega, HN⟩
      · have hn : i = xs.length := by omega
        subst hn
        have hl : ¬ ((xs.length : Nat) : Int) < ((xs.length : Nat) : Int) := by omega
        have HF := HL.out.fin
        clear HL HC
        go_wp2
        go_end0
        exact HF
end Go.Proofs.YtajghalljkphiaaGreat
/- The loop that shows a list of api.Fields. -/
namespace Go.Proofs.YtajghalljkphiaaGreat
open Go.RowKit

set_option maxHeartbeats 4000000 in
set_option maxRecDepth 20000 in
theorem vallF_ok {σ : Type} {N0 : Nat} {F : FuncId} {caps : Array Value} {st : σ → Pt → Except Int σ} {I : σ → World → Prop} {own : World → Nat → Prop} {G : Pt → Prop} (V : Vis G N0 F caps st I own) (x : σ) (xs : List Fd) (most : Int) {S : Nat → Prop} {v : Value} (hS : ∀ k, S k → k < N0) (w : World) (h0 : I x w) (hD : Sl kFd w S v xs) (hG : ∀ p ∈ ptL most gFd xs, G p) :
    Calls Tryz.prog 88 #[.func (.func F) #[] caps, v, .int .i64 most, .func (.func 89) #[] #[]] w (FdP own I w (feed st (ptL most gFd xs) x)) := by
  have hC := V.call x w (ptC xs.length most) h0 (hG _ List.mem_cons_self)
  have HG : Hid (∀ i c, xs[i]? = some c → ∀ p ∈ gFd c, G p) := fun i c hc p hp => hG p (List.mem_cons_of_mem _ (List.mem_flatMap.2 ⟨c, List.mem_of_getElem? hc, hp⟩))
  clear hG
  have hF := V.enters
  have HE0 : Hid (feed st (ptL most gFd xs) x = fbnd (st x (ptC xs.length most)) (feed st (xs.flatMap gFd))) := rfl
  obtain ⟨tot, htot⟩ : ∃ t, feed st (ptL most gFd xs) x = t := ⟨_, rfl⟩
  rw [htot] at HE0 ⊢
  have HD : Hid (Sl kFd w S v xs) := hD
  obtain ⟨ao, cap, rfl, hmx, hcells⟩ := hD
  unfold maxLen at hmx
  have HC : Hid (∀ wr, Fb own w wr → ∀ i c, xs[i]? = some c → ∃ b o, ao = some ⟨b, o, none⟩ ∧ ∃ cs, kFd.R wr S c cs ∧ ∀ j u, cs[j]? = some u → wr.cell? ⟨b, o + (i * 2 + j), none⟩ = some u) := fun wr hfb i c hc => by
    obtain ⟨ao2, cap2, e, _, hh⟩ := HD.out.keep (Fb.data V hfb h0 hS)
    injection e with e1 e2 e3
    rcases hh with q | ⟨b, o, q1, q2, q3, q4⟩
    · rw [q] at hc; simp at hc
    · obtain ⟨cs, r1, r2⟩ := q4 i c hc
      exact ⟨b, o, e1.trans q1, cs, r1, r2⟩
  clear htot hcells HD
  rcases hq : st x (ptC xs.length most) with c | y
  · rw [hq] at hC
    have HE1 : Hid (tot = .error c) := HE0.out.trans (by rw [hq]; rfl)
    clear HE0 hq HC
    go_enter Tryz.func88, Tryz.ntmps88
    go_wp2
    refine hC.mono ?_
    rintro e w1 ⟨hb, rfl⟩
    exact ⟨rfl, FdP.err HE1.out hb⟩
  · rw [hq] at hC
    have HE1 : Hid (tot = feed st (xs.flatMap gFd) y) := HE0.out.trans (by rw [hq]; rfl)
    clear HE0 hq
    go_enter Tryz.func88, Tryz.ntmps88
    go_wp2
    refine hC.mono ?_
    rintro e w1 ⟨hb, rfl, hI⟩
    have HI : Hid (VIn I own st gFd w xs tot 0 w1) := ⟨y, hI, hb, HE1.out⟩
    clear hC hb hI HE1
    go_wp2
    go_loopg [18] (xs.length + 1) (fun kx s18 wr => ∃ i : Nat, s18 = .int .i64 i ∧ i ≤ xs.length ∧ xs.length - i ≤ kx ∧ Hid (VIn I own st gFd w xs tot i wr))
    case atStart => exact ⟨0, rfl, by omega, by omega, HI⟩
    case round =>
      clear HI
      obtain ⟨i, rfl, hi, hk, HL⟩ := hrel
      by_cases hlt : i < xs.length
      · obtain ⟨c, hc⟩ : ∃ c, xs[i]? = some c := ⟨_, List.getElem?_eq_getElem hlt⟩
        obtain ⟨y, hy, l2, l3, l4⟩ := HL.out.next hc
        have hGc := HG.out i c hc
        have HGc : Hid (∀ p ∈ gFd c, G p) := hGc
        clear hGc
        obtain ⟨b, o, rfl, cs, hR, hcs⟩ := HC.out wr l2 i c hc
        have HR : Hid (kFd.R wr S c cs) := hR
        obtain rfl := hR
        have e0 : wr.cell? ⟨b, o + i * 2, none⟩ = some (.string c.nm) := by have := hcs 0 _ rfl; rw [show o + (i * 2 + 0) = o + i * 2 by omega] at this; exact this
        have e1 : wr.cell? ⟨b, o + i * 2 + 1, none⟩ = some (.int .i64 c.ty) := by have := hcs 1 _ rfl; rw [show o + (i * 2 + 1) = o + i * 2 + 1 by omega] at this; exact this
        have HB : Hid (Vs I own wr 96 #[.string c.nm, .int .i64 c.ty] y (wr.alloc (.cells #[.string c.nm, .int .i64 c.ty] 96))) := Vs.start V hy _ _ (by decide)
        have hl2 : (i : Int) < (xs.length : Int) := by omega
        clear HL hcs HC
        go_wp2_with (first
          | (go_at_call 89; refine (vFd_ok V y c hS _ HB.out.inv (kFd.keep (Fb.data V HB.out.fb hy hS) HR.out) HGc.out).mono ?_; rintro e w2 hr; refine FdP.split hr ?_ ?_; (rintro c hq rfl hb; exact ⟨rfl, FdP.err (l3 _ hq) (l2.trans (HB.out.fb.trans hb))⟩); rintro z hq rfl hI hb; have HN : Hid _ := l4 z w2 hq hI (HB.out.fb.trans hb); clear hr hq hI hb l3 l4))
        go_roundg (xs.length - (i + 1))
        case measure => omega
        case rel => exact ⟨i + 1, by go_num, by omega, by omega, HN⟩
      · have hn : i = xs.length := by omega
        subst hn
        have hl : ¬ ((xs.length : Nat) : Int) < ((xs.length : Nat) : Int) := by omega
        have HF := HL.out.fin
        clear HL HC
        go_wp2
        go_end0
        exact HF
end Go.Proofs.YtajghalljkphiaaGreat
/- The loop that shows a list of api.Inss. -/
namespace Go.Proofs.YtajghalljkphiaaGreat
open Go.RowKit

set_option maxHeartbeats 4000000 in
set_option maxRecDepth 20000 in
theorem vallS_ok {σ : Type} {N0 : Nat} {F : FuncId} {caps : Array Value} {st : σ → Pt → Except Int σ} {I : σ → World → Prop} {own : World → Nat → Prop} {G : Pt → Prop} (V : Vis G N0 F caps st I own) (x : σ) (xs : List Is) (most : Int) {S : Nat → Prop} {v : Value} (hS : ∀ k, S k → k < N0) (w : World) (h0 : I x w) (hD : Sl kIs w S v xs) (hG : ∀ p ∈ ptL most gIs xs, G p) :
    Calls Tryz.prog 107 #[.func (.func F) #[] caps, v, .int .i64 most, .func (.func 108) #[] #[]] w (FdP own I w (feed st (ptL most gIs xs) x)) := by
  have hC := V.call x w (ptC xs.length most) h0 (hG _ List.mem_cons_self)
  have HG : Hid (∀ i c, xs[i]? = some c → ∀ p ∈ gIs c, G p) := fun i c hc p hp => hG p (List.mem_cons_of_mem _ (List.mem_flatMap.2 ⟨c, List.mem_of_getElem? hc, hp⟩))
  clear hG
  have hF := V.enters
  have HE0 : Hid (feed st (ptL most gIs xs) x = fbnd (st x (ptC xs.length most)) (feed st (xs.flatMap gIs))) := rfl
  obtain ⟨tot, htot⟩ : ∃ t, feed st (ptL most gIs xs) x = t := ⟨_, rfl⟩
  rw [htot] at HE0 ⊢
  have HD : Hid (Sl kIs w S v xs) := hD
  obtain ⟨ao, cap, rfl, hmx, hcells⟩ := hD
  unfold maxLen at hmx
  have HC : Hid (∀ wr, Fb own w wr → ∀ i c, xs[i]? = some c → ∃ b o, ao = some ⟨b, o, none⟩ ∧ ∃ cs, kIs.R wr S c cs ∧ ∀ j u, cs[j]? = some u → wr.cell? ⟨b, o + (i * 3 + j), none⟩ = some u) := fun wr hfb i c hc => by
    obtain ⟨ao2, cap2, e, _, hh⟩ := HD.out.keep (Fb.data V hfb h0 hS)
    injection e with e1 e2 e3
    rcases hh with q | ⟨b, o, q1, q2, q3, q4⟩
    · rw [q] at hc; simp at hc
    · obtain ⟨cs, r1, r2⟩ := q4 i c hc
      exact ⟨b, o, e1.trans q1, cs, r1, r2⟩
  clear htot hcells HD
  rcases hq : st x (ptC xs.length most) with c | y
  · rw [hq] at hC
    have HE1 : Hid (tot = .error c) := HE0.out.trans (by rw [hq]; rfl)
    clear HE0 hq HC
    go_enter Tryz.func107, Tryz.ntmps107
    go_wp2
    refine hC.mono ?_
    rintro e w1 ⟨hb, rfl⟩
    exact ⟨rfl, FdP.err HE1.out hb⟩
  · rw [hq] at hC
    have HE1 : Hid (tot = feed st (xs.flatMap gIs) y) := HE0.out.trans (by rw [hq]; rfl)
    clear HE0 hq
    go_enter Tryz.func107, Tryz.ntmps107
    go_wp2
    refine hC.mono ?_
    rintro e w1 ⟨hb, rfl, hI⟩
    have HI : Hid (VIn I own st gIs w xs tot 0 w1) := ⟨y, hI, hb, HE1.out⟩
    clear hC hb hI HE1
    go_wp2
    go_loopg [18] (xs.length + 1) (fun kx s18 wr => ∃ i : Nat, s18 = .int .i64 i ∧ i ≤ xs.length ∧ xs.length - i ≤ kx ∧ Hid (VIn I own st gIs w xs tot i wr))
    case atStart => exact ⟨0, rfl, by omega, by omega, HI⟩
    case round =>
      clear HI
      obtain ⟨i, rfl, hi, hk, HL⟩ := hrel
      by_cases hlt : i < xs.length
      · obtain ⟨c, hc⟩ : ∃ c, xs[i]? = some c := ⟨_, List.getElem?_eq_getElem hlt⟩
        obtain ⟨y, hy, l2, l3, l4⟩ := HL.out.next hc
        have hGc := HG.out i c hc
        have HGc : Hid (∀ p ∈ gIs c, G p) := hGc
        clear hGc
        obtain ⟨b, o, rfl, cs, hR, hcs⟩ := HC.out wr l2 i c hc
        have HR : Hid (kIs.R wr S c cs) := hR
        obtain rfl := hR
        have e0 : wr.cell? ⟨b, o + i * 3, none⟩ = some (.int .i64 c.op) := by have := hcs 0 _ rfl; rw [show o + (i * 3 + 0) = o + i * 3 by omega] at this; exact this
        have e1 : wr.cell? ⟨b, o + i * 3 + 1, none⟩ = some (.int .i64 c.a) := by have := hcs 1 _ rfl; rw [show o + (i * 3 + 1) = o + i * 3 + 1 by omega] at this; exact this
        have e2 : wr.cell? ⟨b, o + i * 3 + 2, none⟩ = some (.int .i64 c.b) := by have := hcs 2 _ rfl; rw [show o + (i * 3 + 2) = o + i * 3 + 2 by omega] at this; exact this
        have HB : Hid (Vs I own wr 67 #[.int .i64 c.op, .int .i64 c.a, .int .i64 c.b] y (wr.alloc (.cells #[.int .i64 c.op, .int .i64 c.a, .int .i64 c.b] 67))) := Vs.start V hy _ _ (by decide)
        have hl2 : (i : Int) < (xs.length : Int) := by omega
        clear HL hcs HC
        go_wp2_with (first
          | (go_at_call 108; refine (vIs_ok V y c hS _ HB.out.inv (kIs.keep (Fb.data V HB.out.fb hy hS) HR.out) HGc.out).mono ?_; rintro e w2 hr; refine FdP.split hr ?_ ?_; (rintro c hq rfl hb; exact ⟨rfl, FdP.err (l3 _ hq) (l2.trans (HB.out.fb.trans hb))⟩); rintro z hq rfl hI hb; have HN : Hid _ := l4 z w2 hq hI (HB.out.fb.trans hb); clear hr hq hI hb l3 l4))
        go_roundg (xs.length - (i + 1))
        case measure => omega
        case rel => exact ⟨i + 1, by go_num, by omega, by omega, HN⟩
      · have hn : i = xs.length := by omega
        subst hn
        have hl : ¬ ((xs.length : Nat) : Int) < ((xs.length : Nat) : Int) := by omega
        have HF := HL.out.fin
        clear HL HC
        go_wp2
        go_end0
        exact HF
end Go.Proofs.YtajghalljkphiaaGreat
/- The loop that shows a list of api.Handlers. -/
namespace Go.Proofs.YtajghalljkphiaaGreat
open Go.RowKit

set_option maxHeartbeats 4000000 in
set_option maxRecDepth 20000 in
theorem vallH_ok {σ : Type} {N0 : Nat} {F : FuncId} {caps : Array Value} {st : σ → Pt → Except Int σ} {I : σ → World → Prop} {own : World → Nat → Prop} {G : Pt → Prop} (V : Vis G N0 F caps st I own) (x : σ) (xs : List Hd) (most : Int) {S : Nat → Prop} {v : Value} (hS : ∀ k, S k → k < N0) (w : World) (h0 : I x w) (hD : Sl kHd w S v xs) (hG : ∀ p ∈ ptL most gHd xs, G p) :
    Calls Tryz.prog 109 #[.func (.func F) #[] caps, v, .int .i64 most, .func (.func 110) #[] #[]] w (FdP own I w (feed st (ptL most gHd xs) x)) := by
  have hC := V.call x w (ptC xs.length most) h0 (hG _ List.mem_cons_self)
  have HG : Hid (∀ i c, xs[i]? = some c → ∀ p ∈ gHd c, G p) := fun i c hc p hp => hG p (List.mem_cons_of_mem _ (List.mem_flatMap.2 ⟨c, List.mem_of_getElem? hc, hp⟩))
  clear hG
  have hF := V.enters
  have HE0 : Hid (feed st (ptL most gHd xs) x = fbnd (st x (ptC xs.length most)) (feed st (xs.flatMap gHd))) := rfl
  obtain ⟨tot, htot⟩ : ∃ t, feed st (ptL most gHd xs) x = t := ⟨_, rfl⟩
  rw [htot] at HE0 ⊢
  have HD : Hid (Sl kHd w S v xs) := hD
  obtain ⟨ao, cap, rfl, hmx, hcells⟩ := hD
  unfold maxLen at hmx
  have HC : Hid (∀ wr, Fb own w wr → ∀ i c, xs[i]? = some c → ∃ b o, ao = some ⟨b, o, none⟩ ∧ ∃ cs, kHd.R wr S c cs ∧ ∀ j u, cs[j]? = some u → wr.cell? ⟨b, o + (i * 4 + j), none⟩ = some u) := fun wr hfb i c hc => by
    obtain ⟨ao2, cap2, e, _, hh⟩ := HD.out.keep (Fb.data V hfb h0 hS)
    injection e with e1 e2 e3
    rcases hh with q | ⟨b, o, q1, q2, q3, q4⟩
    · rw [q] at hc; simp at hc
    · obtain ⟨cs, r1, r2⟩ := q4 i c hc
      exact ⟨b, o, e1.trans q1, cs, r1, r2⟩
  clear htot hcells HD
  rcases hq : st x (ptC xs.length most) with c | y
  · rw [hq] at hC
    have HE1 : Hid (tot = .error c) := HE0.out.trans (by rw [hq]; rfl)
    clear HE0 hq HC
    go_enter Tryz.func109, Tryz.ntmps109
    go_wp2
    refine hC.mono ?_
    rintro e w1 ⟨hb, rfl⟩
    exact ⟨rfl, FdP.err HE1.out hb⟩
  · rw [hq] at hC
    have HE1 : Hid (tot = feed st (xs.flatMap gHd) y) := HE0.out.trans (by rw [hq]; rfl)
    clear HE0 hq
    go_enter Tryz.func109, Tryz.ntmps109
    go_wp2
    refine hC.mono ?_
    rintro e w1 ⟨hb, rfl, hI⟩
    have HI : Hid (VIn I own st gHd w xs tot 0 w1) := ⟨y, hI, hb, HE1.out⟩
    clear hC hb hI HE1
    go_wp2
    go_loopg [18] (xs.length + 1) (fun kx s18 wr => ∃ i : Nat, s18 = .int .i64 i ∧ i ≤ xs.length ∧ xs.length - i ≤ kx ∧ Hid (VIn I own st gHd w xs tot i wr))
    case atStart => exact ⟨0, rfl, by omega, by omega, HI⟩
    case round =>
      clear HI
      obtain ⟨i, rfl, hi, hk, HL⟩ := hrel
      by_cases hlt : i < xs.length
      · obtain ⟨c, hc⟩ : ∃ c, xs[i]? = some c := ⟨_, List.getElem?_eq_getElem hlt⟩
        obtain ⟨y, hy, l2, l3, l4⟩ := HL.out.next hc
        have hGc := HG.out i c hc
        have HGc : Hid (∀ p ∈ gHd c, G p) := hGc
        clear hGc
        obtain ⟨b, o, rfl, cs, hR, hcs⟩ := HC.out wr l2 i c hc
        have HR : Hid (kHd.R wr S c cs) := hR
        obtain rfl := hR
        have e0 : wr.cell? ⟨b, o + i * 4, none⟩ = some (.int .i64 c.fr) := by have := hcs 0 _ rfl; rw [show o + (i * 4 + 0) = o + i * 4 by omega] at this; exact this
        have e1 : wr.cell? ⟨b, o + i * 4 + 1, none⟩ = some (.int .i64 c.to) := by have := hcs 1 _ rfl; rw [show o + (i * 4 + 1) = o + i * 4 + 1 by omega] at this; exact this
        have e2 : wr.cell? ⟨b, o + i * 4 + 2, none⟩ = some (.int .i64 c.at_) := by have := hcs 2 _ rfl; rw [show o + (i * 4 + 2) = o + i * 4 + 2 by omega] at this; exact this
        have e3 : wr.cell? ⟨b, o + i * 4 + 3, none⟩ = some (.int .i64 c.cl) := by have := hcs 3 _ rfl; rw [show o + (i * 4 + 3) = o + i * 4 + 3 by omega] at this; exact this
        have HB : Hid (Vs I own wr 98 #[.int .i64 c.fr, .int .i64 c.to, .int .i64 c.at_, .int .i64 c.cl] y (wr.alloc (.cells #[.int .i64 c.fr, .int .i64 c.to, .int .i64 c.at_, .int .i64 c.cl] 98))) := Vs.start V hy _ _ (by decide)
        have hl2 : (i : Int) < (xs.length : Int) := by omega
        clear HL hcs HC
        go_wp2_with (first
          | (go_at_call 110; refine (vHd_ok V y c hS _ HB.out.inv (kHd.keep (Fb.data V HB.out.fb hy hS) HR.out) HGc.out).mono ?_; rintro e w2 hr; refine FdP.split hr ?_ ?_; (rintro c hq rfl hb; exact ⟨rfl, FdP.err (l3 _ hq) (l2.trans (HB.out.fb.trans hb))⟩); rintro z hq rfl hI hb; have HN : Hid _ := l4 z w2 hq hI (HB.out.fb.trans hb); clear hr hq hI hb l3 l4))
        go_roundg (xs.length - (i + 1))
        case measure => omega
        case rel => exact ⟨i + 1, by go_num, by omega, by omega, HN⟩
      · have hn : i = xs.length := by omega
        subst hn
        have hl : ¬ ((xs.length : Nat) : Int) < ((xs.length : Nat) : Int) := by omega
        have HF := HL.out.fin
        clear HL HC
        go_wp2
        go_end0
        exact HF
end Go.Proofs.YtajghalljkphiaaGreat
