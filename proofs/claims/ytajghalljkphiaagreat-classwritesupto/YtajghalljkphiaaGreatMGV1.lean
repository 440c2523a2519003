/- The visit of a field. -/
import Derived.Test.YtajghalljkphiaaGreatMGV0
namespace Go.Proofs.YtajghalljkphiaaGreat
open Go.RowKit

set_option maxHeartbeats 4000000 in
set_option maxRecDepth 20000 in
theorem vFd_ok {σ : Type} {N0 : Nat} {F : FuncId} {caps : Array Value} {st : σ → Pt → Except Int σ} {I : σ → World → Prop} {own : World → Nat → Prop} {G : Pt → Prop} (V : Vis G N0 F caps st I own) (x : σ) (c : Fd) {cs : List Value} {S : Nat → Prop} (_hS : ∀ k, S k → k < N0) (w : World) (h0 : I x w) (hR : kFd.R w S c cs) (hG : ∀ p ∈ gFd c, G p) :
    Calls Tryz.prog 89 #[.func (.func F) #[] caps, .agg cs.toArray] w (FdP own I w (feed st (gFd c) x)) := by
  have HE0 : Hid _ := congrFun (congrArg (feed st) (show gFd c = [ptT c.nm] ++ ([ptN c.ty]) from rfl)) x
  simp only [feed_app] at HE0
  have HG : Hid (∀ p ∈ [ptT c.nm] ++ ([ptN c.ty]), G p) := hG
  clear hG
  obtain rfl := hR
  obtain ⟨tot, htot⟩ : ∃ t, feed st (gFd c) x = t := ⟨_, rfl⟩
  rw [htot] at HE0 ⊢
  have HL0 : Hid (Vs I own w 96 #[.string c.nm, .int .i64 c.ty] x (w.alloc (.cells #[.string c.nm, .int .i64 c.ty] 96))) := Vs.start V h0 _ _ (by decide)
  clear htot
  go_enter Tryz.func89, Tryz.ntmps89
  go_wp2_with (first
    | (go_at_call 85; refine (vname_ok V x c.nm _ HL0.out.inv (fun p hp => HG.out p (List.mem_append.2 (.inl hp)))).mono ?_; rintro e w1 hr; refine FdP.split hr ?_ ?_; (rintro c hq rfl hb; exact ⟨rfl, FdP.err (HE0.out.trans (by rw [hq]; exact fbnd_err _ _)) (HL0.out.fb.trans hb)⟩); rintro x1 hq rfl hI hb; have HE1 : Hid _ := HE0.out; rw [hq, fbnd_ok] at HE1; have HL1 : Hid (Vs I own w 96 #[.string c.nm, .int .i64 c.ty] x1 w1) := HL0.out.call hb hI; have g1_1 : w1.cell? ⟨w.heap.size, 1, none⟩ = some (.int .i64 c.ty) := (by rw [HL1.out.cell]; rfl); clear HE0 HL0 hr hb hI hq)
    | (go_at_call 68; refine (vnum_ok V x1 c.ty _ HL1.out.inv (fun p hp => HG.out p (List.mem_append.2 (.inr (hp))))).mono ?_; rintro e w2 hr; refine FdP.split hr ?_ ?_; (rintro c hq rfl hb; exact ⟨rfl, FdP.err (HE1.out.trans hq) (HL1.out.fb.trans hb)⟩); rintro x2 hq rfl hI hb; have HE2 : Hid _ := HE1.out.trans hq; have HL2 : Hid (Vs I own w 96 #[.string c.nm, .int .i64 c.ty] x2 w2) := HL1.out.call hb hI; clear HE1 HL1 hr hb hI hq g1_1))
  go_end0
  exact FdP.ok HE2.out HL2.out.fb HL2.out.inv
end Go.Proofs.YtajghalljkphiaaGreat
/- The visit of a ins. -/
namespace Go.Proofs.YtajghalljkphiaaGreat
open Go.RowKit

set_option maxHeartbeats 4000000 in
set_option maxRecDepth 20000 in
theorem vIs_ok {σ : Type} {N0 : Nat} {F : FuncId} {caps : Array Value} {st : σ → Pt → Except Int σ} {I : σ → World → Prop} {own : World → Nat → Prop} {G : Pt → Prop} (V : Vis G N0 F caps st I own) (x : σ) (c : Is) {cs : List Value} {S : Nat → Prop} (_hS : ∀ k, S k → k < N0) (w : World) (h0 : I x w) (hR : kIs.R w S c cs) (hG : ∀ p ∈ gIs c, G p) :
    Calls Tryz.prog 108 #[.func (.func F) #[] caps, .agg cs.toArray] w (FdP own I w (feed st (gIs c) x)) := by
  have HE0 : Hid _ := congrFun (congrArg (feed st) (show gIs c = [ptN c.op] ++ ([ptN c.a] ++ ([ptN c.b])) from rfl)) x
  simp only [feed_app] at HE0
  have HG : Hid (∀ p ∈ [ptN c.op] ++ ([ptN c.a] ++ ([ptN c.b])), G p) := hG
  clear hG
  obtain rfl := hR
  obtain ⟨tot, htot⟩ : ∃ t, feed st (gIs c) x = t := ⟨_, rfl⟩
  rw [htot] at HE0 ⊢
  have HL0 : Hid (Vs I own w 67 #[.int .i64 c.op, .int .i64 c.a, .int .i64 c.b] x (w.alloc (.cells #[.int .i64 c.op, .int .i64 c.a, .int .i64 c.b] 67))) := Vs.start V h0 _ _ (by decide)
  clear htot
  go_enter Tryz.func108, Tryz.ntmps108
  go_wp2_with (first
    | (go_at_call 68; refine (vnum_ok V x c.op _ HL0.out.inv (fun p hp => HG.out p (List.mem_append.2 (.inl hp)))).mono ?_; rintro e w1 hr; refine FdP.split hr ?_ ?_; (rintro c hq rfl hb; exact ⟨rfl, FdP.err (HE0.out.trans (by rw [hq]; exact fbnd_err _ _)) (HL0.out.fb.trans hb)⟩); rintro x1 hq rfl hI hb; have HE1 : Hid _ := HE0.out; rw [hq, fbnd_ok] at HE1; have HL1 : Hid (Vs I own w 67 #[.int .i64 c.op, .int .i64 c.a, .int .i64 c.b] x1 w1) := HL0.out.call hb hI; have g1_1 : w1.cell? ⟨w.heap.size, 1, none⟩ = some (.int .i64 c.a) := (by rw [HL1.out.cell]; rfl); clear HE0 HL0 hr hb hI hq)
    | (go_at_call 68; refine (vnum_ok V x1 c.a _ HL1.out.inv (fun p hp => HG.out p (List.mem_append.2 (.inr (List.mem_append.2 (.inl hp)))))).mono ?_; rintro e w2 hr; refine FdP.split hr ?_ ?_; (rintro c hq rfl hb; exact ⟨rfl, FdP.err (HE1.out.trans (by rw [hq]; exact fbnd_err _ _)) (HL1.out.fb.trans hb)⟩); rintro x2 hq rfl hI hb; have HE2 : Hid _ := HE1.out; rw [hq, fbnd_ok] at HE2; have HL2 : Hid (Vs I own w 67 #[.int .i64 c.op, .int .i64 c.a, .int .i64 c.b] x2 w2) := HL1.out.call hb hI; have g2_2 : w2.cell? ⟨w.heap.size, 2, none⟩ = some (.int .i64 c.b) := (by rw [HL2.out.cell]; rfl); clear HE1 HL1 hr hb hI hq g1_1)
    | (go_at_call 68; refine (vnum_ok V x2 c.b _ HL2.out.inv (fun p hp => HG.out p (List.mem_append.2 (.inr (List.mem_append.2 (.inr (hp))))))).mono ?_; rintro e w3 hr; refine FdP.split hr ?_ ?_; (rintro c hq rfl hb; exact ⟨rfl, FdP.err (HE2.out.trans hq) (HL2.out.fb.trans hb)⟩); rintro x3 hq rfl hI hb; have HE3 : Hid _ := HE2.out.trans hq; have HL3 : Hid (Vs I own w 67 #[.int .i64 c.op, .int .i64 c.a, .int .i64 c.b] x3 w3) := HL2.out.call hb hI; clear HE2 HL2 hr hb hI hq g2_2))
  go_end0
  exact FdP.ok HE3.out HL3.out.fb HL3.out.inv
end Go.Proofs.YtajghalljkphiaaGreat
/- The visit of a handler. -/
namespace Go.Proofs.YtajghalljkphiaaGreat
open Go.RowKit

set_option maxHeartbeats 4000000 in
set_option maxRecDepth 20000 in
theorem vHd_ok {σ : Type} {N0 : Nat} {F : FuncId} {caps : Array Value} {st : σ → Pt → Except Int σ} {I : σ → World → Prop} {own : World → Nat → Prop} {G : Pt → Prop} (V : Vis G N0 F caps st I own) (x : σ) (c : Hd) {cs : List Value} {S : Nat → Prop} (_hS : ∀ k, S k → k < N0) (w : World) (h0 : I x w) (hR : kHd.R w S c cs) (hG : ∀ p ∈ gHd c, G p) :
    Calls Tryz.prog 110 #[.func (.func F) #[] caps, .agg cs.toArray] w (FdP own I w (feed st (gHd c) x)) := by
  have HE0 : Hid _ := congrFun (congrArg (feed st) (show gHd c = [ptN c.fr] ++ ([ptN c.to] ++ ([ptN c.at_] ++ ([ptN c.cl]))) from rfl)) x
  simp only [feed_app] at HE0
  have HG : Hid (∀ p ∈ [ptN c.fr] ++ ([ptN c.to] ++ ([ptN c.at_] ++ ([ptN c.cl]))), G p) := hG
  clear hG
  obtain rfl := hR
  obtain ⟨tot, htot⟩ : ∃ t, feed st (gHd c) x = t := ⟨_, rfl⟩
  rw [htot] at HE0 ⊢
  have HL0 : Hid (Vs I own w 98 #[.int .i64 c.fr, .int .i64 c.to, .int .i64 c.at_, .int .i64 c.cl] x (w.alloc (.cells #[.int .i64 c.fr, .int .i64 c.to, .int .i64 c.at_, .int .i64 c.cl] 98))) := Vs.start V h0 _ _ (by decide)
  clear htot
  go_enter Tryz.func110, Tryz.ntmps110
  go_wp2_with (first
    | (go_at_call 68; refine (vnum_ok V x c.fr _ HL0.out.inv (fun p hp => HG.out p (List.mem_append.2 (.inl hp)))).mono ?_; rintro e w1 hr; refine FdP.split hr ?_ ?_; (rintro c hq rfl hb; exact ⟨rfl, FdP.err (HE0.out.trans (by rw [hq]; exact fbnd_err _ _)) (HL0.out.fb.trans hb)⟩); rintro x1 hq rfl hI hb; have HE1 : Hid _ := HE0.out; rw [hq, fbnd_ok] at HE1; have HL1 : Hid (Vs I own w 98 #[.int .i64 c.fr, .int .i64 c.to, .int .i64 c.at_, .int .i64 c.cl] x1 w1) := HL0.out.call hb hI; have g1_1 : w1.cell? ⟨w.heap.size, 1, none⟩ = some (.int .i64 c.to) := (by rw [HL1.out.cell]; rfl); clear HE0 HL0 hr hb hI hq)
    | (go_at_call 68; refine (vnum_ok V x1 c.to _ HL1.out.inv (fun p hp => HG.out p (List.mem_append.2 (.inr (List.mem_append.2 (.inl hp)))))).mono ?_; rintro e w2 hr; refine FdP.split hr ?_ ?_; (rintro c hq rfl hb; exact ⟨rfl, FdP.err (HE1.out.trans (by rw [hq]; exact fbnd_err _ _)) (HL1.out.fb.trans hb)⟩); rintro x2 hq rfl hI hb; have HE2 : Hid _ := HE1.out; rw [hq, fbnd_ok] at HE2; have HL2 : Hid (Vs I own w 98 #[.int .i64 c.fr, .int .i64 c.to, .int .i64 c.at_, .int .i64 c.cl] x2 w2) := HL1.out.call hb hI; have g2_2 : w2.cell? ⟨w.heap.size, 2, none⟩ = some (.int .i64 c.at_) := (by rw [HL2.out.cell]; rfl); clear HE1 HL1 hr hb hI hq g1_1)
    | (go_at_call 68; refine (vnum_ok V x2 c.at_ _ HL2.out.inv (fun p hp => HG.out p (List.mem_append.2 (.inr (List.mem_append.2 (.inr (List.mem_append.2 (.inl hp)))))))).mono ?_; rintro e w3 hr; refine FdP.split hr ?_ ?_; (rintro c hq rfl hb; exact ⟨rfl, FdP.err (HE2.out.trans (by rw [hq]; exact fbnd_err _ _)) (HL2.out.fb.trans hb)⟩); rintro x3 hq rfl hI hb; have HE3 : Hid _ := HE2.out; rw [hq, fbnd_ok] at HE3; have HL3 : Hid (Vs I own w 98 #[.int .i64 c.fr, .int .i64 c.to, .int .i64 c.at_, .int .i64 c.cl] x3 w3) := HL2.out.call hb hI; have g3_3 : w3.cell? ⟨w.heap.size, 3, none⟩ = some (.int .i64 c.cl) := (by rw [HL3.out.cell]; rfl); clear HE2 HL2 hr hb hI hq g2_2)
    | (go_at_call 68; refine (vnum_ok V x3 c.cl _ HL3.out.inv (fun p hp => HG.out p (List.mem_append.2 (.inr (List.mem_append.2 (.inr (List.mem_append.2 (.inr (hp))))))))).mono ?_; rintro e w4 hr; refine FdP.split hr ?_ ?_; (rintro c hq rfl hb; exact ⟨rfl, FdP.err (HE3.out.trans hq) (HL3.out.fb.trans hb)⟩); rintro x4 hq rfl hI hb; have HE4 : Hid _ := HE3.out.trans hq; have HL4 : Hid (Vs I own w 98 #[.int .i64 c.fr, .int .i64 c.to, .int .i64 c.at_, .int .i64 c.cl] x4 w4) := HL3.out.call hb hI; clear HE3 HL3 hr hb hI hq g3_3))
  go_end0
  exact FdP.ok HE4.out HL4.out.fb HL4.out.inv
end Go.Proofs.YtajghalljkphiaaGreat
