/- A table of monitors: Notify. -/
import Derived.Test.YtdkbdmlodngneaaMNLeave
namespace Go.Proofs.Ytdkbdmlodngneaa
open Go.RowKit

/-- The waiter at i is notified. -/
def Mt.noted (M : Mt) (i : Nat) : Mt where
  N := M.N
  ow := M.ow
  bk := M.bk
  wt := M.wt.eraseIdx i
  st := fun j => if j = (M.wt.getD i (0, 0)).1.toNat then 1 else M.st j
/-- At most f waiters are notified: how many, and what is left. -/
def ntN (obj : Int) : Nat → Mt → Nat × Mt
  | 0, M => (0, M)
  | f + 1, M => match plW M.wt obj with
    | none => (0, M)
    | some i => ((ntN obj f (M.noted i)).1 + 1, (ntN obj f (M.noted i)).2)
theorem ntN_none {obj : Int} {M : Mt} (h : plW M.wt obj = none) : ∀ f, ntN obj f M = (0, M)
  | 0 => rfl
  | f + 1 => by unfold ntN; rw [h]
/-- Those that wait are threads. -/
def WtOk (M : Mt) : Prop := ∀ x ∈ M.wt, ∃ u : Nat, x.1 = (u : Int) ∧ u < M.N
theorem WtOk.noted {M : Mt} (h : WtOk M) (i : Nat) : WtOk (M.noted i) := fun x hx => h x (List.mem_of_mem_eraseIdx hx)
section
variable {B : Nat} {w w' : World} {s bs mo mb : Nat} {wv : Value} {M : Mt} {c : Nat}
/-- What stands in Notify's loop, n notified. -/
structure NtJ (B : Nat) (w : World) (s bs mo mb : Nat) (M : Mt) (c : Nat) (obj : Int) (F : Nat) (al : Bool) (n : Nat) (wr : World) (M' : Mt) (wv : Value) : Prop where
  mn : MnC B wr s bs mo mb wv M' c
  N : M'.N = M.N
  wt : WtOk M'
  run : ntN obj (F - n) M' = ((ntN obj F M).1 - n, (ntN obj F M).2)
  le : n ≤ (ntN obj F M).1 ∧ n ≤ F
  fa : al = true → F - n = M'.wt.length
  fo : al = false → F = 1
  bx : wr.heap[w.heap.size]? = some (.cells #[.int .i64 obj] 3 (0, 0))
  bel : Below B w wr
  sz : w.heap.size < wr.heap.size
  ap : s < w.heap.size ∧ bs < w.heap.size ∧ ∀ j, wv.ownBlock = some j → j < w.heap.size
theorem NtJ.stop {F n : Nat} {al : Bool} {obj : Int} {wr : World} {M' : Mt} (h : NtJ B w s bs mo mb M c obj F al n wr M' wv) (hp : plW M'.wt obj = none) : (ntN obj F M).1 = n ∧ (ntN obj F M).2 = M' := by
  have h1 := h.run
  rw [ntN_none hp] at h1
  injection h1 with h1 h2
  have := h.le.1
  exact ⟨by omega, h2.symm⟩
theorem NtJ.enough {F n : Nat} {obj : Int} {wr : World} {M' : Mt} (h : NtJ B w s bs mo mb M c obj F false n wr M' wv) (hn : n ≠ 0) : (ntN obj F M).1 = n ∧ (ntN obj F M).2 = M' := by
  have h1 := h.run
  have hF := h.fo rfl
  have hl := h.le
  rw [show F - n = 0 by omega] at h1
  injection h1 with h1 h2
  exact ⟨by omega, h2.symm⟩
theorem NtJ.next {F n : Nat} {al : Bool} {obj : Int} {wr w2 : World} {M' : Mt} {v : Value} {i u : Nat} {x : Int × Int} (h : NtJ B w s bs mo mb M c obj F al n wr M' wv) (hg : n = 0 ∨ al = true) (hp : plW M'.wt obj = some i) (hx : M'.wt[i]? = some x) (hu : x.1 = (u : Int)) (m2 : MnC B w2 s bs mo mb v { M' with wt := M'.wt.eraseIdx i } c) (hbx : w2.heap[w.heap.size]? = some (.cells #[.int .i64 obj] 3 (0, 0))) (hb : Below B wr w2) (hz : w.heap.size < w2.heap.size) (hv : ∀ j, v.ownBlock = some j → j < w.heap.size) :
    NtJ B w s bs mo mb M c obj F al (n + 1) (w2.setCell ⟨bs, u, none⟩ (.int .i64 1)) (M'.noted i) v := by
  have hi : i < M'.wt.length := (List.getElem?_eq_some_iff.1 hx).1
  have hrun := h.run
  have hle := h.le
  have hF : n < F := by
    rcases hg with e | e
    · subst e
      rcases ha : al with _ | _
      · have := h.fo ha; omega
      · have := h.fa ha; omega
    · have := h.fa e; omega
  have hm : M'.noted i = { ({ M' with wt := M'.wt.eraseIdx i } : Mt) with st := fun j => if j = u then 1 else M'.st j } := by
    unfold Mt.noted
    have : (M'.wt.getD i (0, 0)).1.toNat = u := by rw [List.getD_eq_getElem?_getD, hx]; simp [hu]
    rw [this]
  rw [show F - n = (F - (n + 1)) + 1 by omega, ntN, hp] at hrun
  injection hrun with r1 r2
  refine ⟨?_, h.N, h.wt.noted i, ?_, ?_, fun ha => ?_, h.fo, ?_, below_set (h.bel.trans hb) h.mn.hB.2.1, by simpa [World.setCell] using hz, ⟨h.ap.1, h.ap.2.1, hv⟩⟩
  · rw [hm]; exact m2.set u 1
  · exact Prod.ext (by show (ntN obj (F - (n + 1)) (M'.noted i)).1 = _; omega) r2
  · exact ⟨by omega, by omega⟩
  · have := h.fa ha
    show F - (n + 1) = (M'.wt.eraseIdx i).length
    rw [List.length_eraseIdx, if_pos hi]; omega
  · rw [heap_put _ _ (show w.heap.size ≠ bs by have := h.ap.2.1; omega)]; exact hbx
theorem NtJ.took {F n : Nat} {al : Bool} {obj : Int} {wr w2 : World} {M' : Mt} {i : Nat} {e : Ending} (h : NtJ B w s bs mo mb M c obj F al n wr M' wv) (hg : n = 0 ∨ al = true) (hp : plW M'.wt obj = some i) (hT : TkP B wr s bs mo mb wv M' c obj e w2) :
    ∃ (u : Nat) (x2 : Int) (U2 : World), u < M.N ∧ e = .returned (.tuple #[.agg #[.int .i64 u, .int .i64 x2], .bool true]) ∧ U2 = w2.alloc (.cells #[.int .i64 u, .int .i64 x2] 53) ∧ (U2.cell? ⟨s, 0, none⟩ = some (.slice (some ⟨bs, 0, none⟩) M.N M.N) ∧ (∃ y, U2.cell? ⟨bs, u, none⟩ = some (.int .i64 y)) ∧ U2.frozen? ⟨bs, u, none⟩ = false ∧ U2.cell? ⟨w2.heap.size, 0, none⟩ = some (.int .i64 u)) ∧
      Hid (∃ M2 v, NtJ B w s bs mo mb M c obj F al (n + 1) (U2.drew.setCell ⟨bs, u, none⟩ (.int .i64 1)) M2 v) := by
  unfold TkP at hT
  rw [hp] at hT
  obtain ⟨⟨hkz, hkp⟩, hb, x, v, hx, rfl, m2, hv⟩ := hT
  obtain ⟨u, hu, hul⟩ := h.wt x (List.mem_of_getElem? hx)
  have hN := h.N
  have hsz := h.sz
  have hap := h.ap
  have hxx : x = ((u : Int), x.2) := Prod.ext hu rfl
  have m3 : MnC B (w2.alloc (.cells #[.int .i64 u, .int .i64 x.2] 53)) s bs mo mb v { M' with wt := M'.wt.eraseIdx i } c := m2.below ((Below.refl _ w2).alloc (Nat.le_refl _) _)
  have hnew : (w2.alloc (.cells #[.int .i64 u, .int .i64 x.2] 53)).heap[w2.heap.size]? = some (.cells #[.int .i64 u, .int .i64 x.2] 53 (0, 0)) := Array.getElem?_push_size
  have hsz2 : (w2.alloc (.cells #[.int .i64 u, .int .i64 x.2] 53)).heap.size = w2.heap.size + 1 := Array.size_push _
  refine ⟨u, x.2, _, by omega, by rw [hu], rfl, ⟨by have := m3.cells.1; rw [show ({ M' with wt := M'.wt.eraseIdx i } : Mt).N = M.N from hN] at this; exact this, ⟨_, m3.hst.cell (show u < M'.N by omega)⟩, m3.hst.frozen _, (box2c hnew).1⟩, ⟨M'.noted i, v, ?_⟩⟩
  have hown : ∀ j, v.ownBlock = some j → j < w.heap.size := fun j hj => hap.2.2 j (by rw [← hv]; exact hj)
  refine h.next hg hp hx hu (m3.of_blocks (w' := (w2.alloc (.cells #[.int .i64 u, .int .i64 x.2] 53)).drew) rfl rfl rfl rfl (fun _ _ => rfl)) ?_ ((hb.alloc (by have := h.mn.Bw; omega) _).drew) (by show w.heap.size < (w2.alloc _).heap.size; omega) hown
  show (w2.alloc _).heap[w.heap.size]? = _
  rw [Below.heap_alloc _ _ _ (by omega), hkp w.heap.size hsz (by omega) (fun e => by have := hap.2.2 _ e; omega)]
  exact h.bx
set_option maxRecDepth 20000 in
set_option maxHeartbeats 4000000 in
theorem nnot_ok (hm : Mn B w s M c) {t : Nat} (ht : t < M.N) (hs : M.st t ≠ 2) {obj d : Int} (hk : okI obj) (ho : M.ow obj = some ((t : Int), d)) (hW : WtOk M) (al : Bool) {F : Nat} (hF : F = if al then M.wt.length else 1) :
    Calls Try.prog 10 #[.pointer (some ⟨s, 0, none⟩), .int .i64 t, .int .i64 obj, .bool al] w (MnP B w s (ntN obj F M).2 c (.tuple #[.int .i64 (ntN obj F M).1, .int .i64 0])) := by
  obtain ⟨bs, mo, mb, wv, h⟩ := hm
  obtain ⟨U, hU⟩ : ∃ U, U = w.alloc (.cells #[.int .i64 obj] 3) := ⟨_, rfl⟩
  have b0 : Below w.heap.size w U := by rw [hU]; exact (Below.refl _ w).alloc (Nat.le_refl _) _
  have hbU : U.heap[w.heap.size]? = some (.cells #[.int .i64 obj] 3 (0, 0)) := by rw [hU]; exact Array.getElem?_push_size
  have hzU : U.heap.size = w.heap.size + 1 := by rw [hU]; exact Array.size_push _
  have h1 := h.below b0
  have hO := nowns_ok h1 ht hs hk
  rw [ownA_yes ho] at hO
  have x0 : U.cell? ⟨w.heap.size, 0, none⟩ = some (.int .i64 obj) := by simp [World.cell?, hbU]
  have hwl := h.wl
  have hcc := h.hc
  have H0 : Hid (∀ w1, Below U.heap.size U w1 → NtJ B w s bs mo mb M c obj F al 0 w1 M wv) := fun w1 hb => by
    have hz := hb.size
    refine ⟨h.below (b0.trans (hb.mono (by omega))), rfl, hW, rfl, ⟨Nat.zero_le _, Nat.zero_le _⟩, fun ha => by rw [hF, ha]; rfl, fun ha => by rw [hF, ha]; rfl, (hb.block _ (by omega)).trans hbU, (b0.trans (hb.mono (by omega))).mono h.Bw, by omega, ⟨h.lt.1, h.lt.2.1, fun j hj => (h.hw.lt hj).2⟩⟩
  have hFl : F ≤ 1000001 := by rw [hF]; split <;> omega
  clear h h1 hs hk ht ho b0 hbU hF hW
  go_enter Try.func10, Try.ntmps10
  go_upto_region 1 with fail
  rw [← hU]
  clear hU
  go_wp2_with (go_at_call 17; refine hO.mono ?_; rintro e w1 ⟨rfl, hb⟩; have HJ0 : Hid _ := H0.out w1 hb; clear hb hO H0)
  go_loopg [13] (F + 1) (fun kx v13 wr => ∃ n : Nat, v13 = .int .i64 n ∧ n ≤ F ∧ F - n ≤ kx ∧ Hid (∃ M' wv', NtJ B w s bs mo mb M c obj F al n wr M' wv'))
  case atStart => exact ⟨0, rfl, by omega, by omega, ⟨_, _, HJ0.out⟩⟩
  case round =>
    obtain ⟨n, rfl, hn, hk, HJ⟩ := hrel
    obtain ⟨M', wv', hJ⟩ := HJ.out
    have HJJ : Hid (NtJ B w s bs mo mb M c obj F al n wr M' wv') := hJ
    by_cases hg : n = 0 ∨ al = true
    · have hbx : wr.cell? ⟨w.heap.size, 0, none⟩ = some (.int .i64 obj) := by have := hJ.bx; simp [World.cell?, this]
      have e0 : n = 0 ∨ (((n : Int) == 0) = false ∧ al = true) := by
        rcases hg with e | e
        · exact .inl e
        · by_cases hn0 : n = 0
          · exact .inl hn0
          · exact .inr ⟨by simp [hn0], e⟩
      rcases hp : plW M'.wt obj with _ | i
      · have hT := nwho_no hJ.mn hbx hp
        unfold TkP at hT
        rw [hp] at hT
        have HS : Hid _ := hJ.stop hp
        have HB : Hid (∀ w2, Below B wr w2 → Below B w w2) := fun w2 hb => hJ.bel.trans hb
        clear hJ hbx hp HJ HJ0
        rcases e0 with rfl | ⟨e0, rfl⟩
        · go_wp2_with (go_at_call 20; refine hT.mono ?_; rintro e w2 ⟨hkp, hb, rfl, hmn⟩; have HE : Hid _ := (⟨hmn, hb⟩ : _ ∧ Below B wr w2); clear hkp hb hmn hT)
          go_ret2
          obtain ⟨r1, r2⟩ := HS.out
          refine ⟨by rw [r1]; rfl, ?_, (HB.out _ HE.out.2).alloc (by have := HE.out.1.Bw; omega) _⟩
          rw [r2]
          exact ⟨_, _, _, _, HE.out.1.below ((Below.refl _ _).alloc (Nat.le_refl _) _)⟩
        · go_wp2_with (go_at_call 20; refine hT.mono ?_; rintro e w2 ⟨hkp, hb, rfl, hmn⟩; have HE : Hid _ := (⟨hmn, hb⟩ : _ ∧ Below B wr w2); clear hkp hb hmn hT)
          go_ret2
          obtain ⟨r1, r2⟩ := HS.out
          refine ⟨by rw [r1]; rfl, ?_, (HB.out _ HE.out.2).alloc (by have := HE.out.1.Bw; omega) _⟩
          rw [r2]
          exact ⟨_, _, _, _, HE.out.1.below ((Below.refl _ _).alloc (Nat.le_refl _) _)⟩
      · have hT := nwho_yes hJ.mn hbx hp
        have HK : Hid (∀ e w2, TkP B wr s bs mo mb wv' M' c obj e w2 → _) := fun e w2 hT2 => hJ.took hg hp hT2
        have hnF : n < F := by
          have h1 := hJ.le
          have h2 := hJ.fa
          have h3 := hJ.fo
          have hil : i < M'.wt.length := by unfold plW at hp; exact (List.findIdx?_eq_some_iff_getElem.1 hp).1
          rcases hg with e | e
          · subst e
            rcases ha : al with _ | _
            · have := h3 ha; omega
            · have := h2 ha; omega
          · have := h2 e; omega
        clear hJ hbx hp HJ HJ0
        rcases e0 with rfl | ⟨e0, rfl⟩
        · go_upto_region 8 with (go_at_call 20; refine hT.mono ?_; rintro e w2 hT2; obtain ⟨u, x2, U2, hu, rfl, hU2, ⟨q0, ⟨y, q1⟩, q2, q3⟩, HN⟩ := HK.out e w2 hT2; clear hT2 hT HK)
          rw [← hU2]
          clear hU2
          have hu1 : (u : Int) < (M.N : Int) := by omega
          go_wp2
          go_region
          go_wp2
          go_roundg (F - (0 + 1))
          case rel => exact ⟨0 + 1, by go_num, by have := HN.out; obtain ⟨_, _, hh⟩ := this; exact hh.le.2, Nat.le_refl _, HN.out⟩
          case measure => omega
        · go_upto_region 8 with (go_at_call 20; refine hT.mono ?_; rintro e w2 hT2; obtain ⟨u, x2, U2, hu, rfl, hU2, ⟨q0, ⟨y, q1⟩, q2, q3⟩, HN⟩ := HK.out e w2 hT2; clear hT2 hT HK)
          rw [← hU2]
          clear hU2
          have hu1 : (u : Int) < (M.N : Int) := by omega
          go_wp2
          go_region
          go_wp2
          go_roundg (F - (n + 1))
          case rel => exact ⟨n + 1, by go_num, by have := HN.out; obtain ⟨_, _, hh⟩ := this; exact hh.le.2, Nat.le_refl _, HN.out⟩
          case measure => omega
    · obtain ⟨hn0, hal⟩ : n ≠ 0 ∧ al = false := by
        refine ⟨fun e => hg (.inl e), ?_⟩
        rcases ha : al with _ | _
        · rfl
        · exact absurd (.inr ha) hg
      subst hal
      have HS : Hid _ := hJ.enough hn0
      have HE : Hid (Mn B wr s M' c ∧ Below B w wr) := ⟨⟨_, _, _, _, hJ.mn⟩, hJ.bel⟩
      have e0 : ((n : Int) == 0) = false := by simp [hn0]
      clear hJ HJ HJ0 hg
      go_wp2
      go_ret2
      obtain ⟨r1, r2⟩ := HS.out
      exact ⟨by rw [r1]; rfl, by rw [r2]; exact HE.out.1, HE.out.2⟩
end
end Go.Proofs.Ytdkbdmlodngneaa
