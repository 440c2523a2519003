/- (*play).step: the document's answer of a Step, and the stack's. -/
import Derived.Test.YtpajdopdbdflnaaSPbeginp
import Derived.BigRegion
namespace Go.Proofs.Ytpajdopdbdflnaa
open Go.RowKit

def PlayPost (B : Nat) (w0 : World) (s : Nat) (b : Zone) (k c : Nat) (T : Int) (y qb cb : Nat) (e : Ending) (w' : World) : Prop :=
  e = .returned (.bool true) ∧ ∃ P' cs' ops' T' xs' vi' busy', Py B w0 w' P' s b k c cs' ops' T' xs' y vi' xs' qb cb busy' ∧ T' ≤ T + 1 ∧ ∀ a, a < k → busy' a = (ops' a).busy c
theorem Mine.slice {w : World} {B : Nat} {v : Value} {n : Nat} {f : Nat → Int} (h : Mine w B v n f) : ∃ ao cap, v = .slice ao n cap := by
  obtain ⟨ao, cap, e, _⟩ := h.ints
  exact ⟨ao, cap, e⟩

theorem Mine.cut {w : World} {B p n c : Nat} {f : Nat → Int} (h : Mine w B (.slice (some ⟨p, 0, none⟩) (n + 1) c) (n + 1) f) : Mine w B (.slice (some ⟨p, 0, none⟩) n c) n f := by
  obtain ⟨h1, ⟨e, _⟩ | ⟨g, cap, cur, e, a1, a2, a3, a4, a5, a6⟩⟩ := h
  · cases e
  · cases e
    refine ⟨by rw [cellsOf_length, Nat.mul_one], .inr ⟨p, c, cur, rfl, a1, a2, by omega, a4, a5, ?_⟩⟩
    rw [Nat.mul_one] at a6 ⊢
    have := congrArg (List.take n) a6
    rw [List.take_take, Nat.min_eq_left (by omega)] at this
    rw [this]
    unfold cellsOf
    rw [← List.map_take, List.take_range, Nat.min_eq_left (by omega)]
section
variable {B : Nat} {w0 u : World} {P : Nat → Prop} {s : Nat} {b : Zone} {k c : Nat} {cs : Nat → Int} {ops : Nat → Op} {T : Int} {xs : List Int} {y : Nat} {vi : Value} {qb cb : Nat} {busy : Nat → Int}
set_option maxRecDepth 20000 in
set_option maxHeartbeats 4000000 in
theorem pstep_agent (h : Py B w0 u P s b k c cs ops T xs y vi xs qb cb busy) (hst : ∀ a, a < k → busy a = (ops a).busy c) (A : Int) (hA : ¬ (0 ≤ A ∧ A < k)) :
    Calls Try.prog 10 #[.pointer (some ⟨y, 0, none⟩), .int .i64 A] u (PlayPost B w0 s b k c T y qb cb) := by
  obtain ⟨y0, y1, y2, y3, y4, yf⟩ := cell5 h.blk
  have hs := g_steps_out h.good A hA
  have hp := g_step_agent h.good A hA
  have HP : Hid _ := h
  have Hst : Hid _ := hst
  clear h hst
  go_enter Try.func10, Try.ntmps10
  by_cases hA0 : A < 0
  · go_wp2_with (first | (go_at_call 24; refine hs.mono ?_; rintro e w1 ⟨rfl, rfl⟩) | (go_at_call 21; refine hp.mono ?_; rintro e w1 ⟨rfl, rfl⟩) | (go_at_call 17; refine (num_any _ _).mono ?_; rintro e w6 ⟨rfl, rfl⟩))
    go_ret
    exact ⟨rfl, P, cs, ops, T, xs, vi, busy, HP.out, by omega, Hst.out⟩
  · have hA1 : (k : Int) ≤ A := by omega
    have hA2 : decide (A < 0) = false := by simpa using hA0
    go_wp2_with (first | (go_at_call 24; refine hs.mono ?_; rintro e w1 ⟨rfl, rfl⟩) | (go_at_call 21; refine hp.mono ?_; rintro e w1 ⟨rfl, rfl⟩) | (go_at_call 17; refine (num_any _ _).mono ?_; rintro e w6 ⟨rfl, rfl⟩))
    go_ret
    exact ⟨rfl, P, cs, ops, T, xs, vi, busy, HP.out, by omega, Hst.out⟩
set_option maxRecDepth 20000 in
set_option maxHeartbeats 4000000 in
theorem pstep_idle (h : Py B w0 u P s b k c cs ops T xs y vi xs qb cb busy) (hst : ∀ a, a < k → busy a = (ops a).busy c) (a : Nat) (ha : a < k) (hb : ops a = .idle) :
    Calls Try.prog 10 #[.pointer (some ⟨y, 0, none⟩), .int .i64 (a : Int)] u (PlayPost B w0 s b k c T y qb cb) := by
  obtain ⟨y0, y1, y2, y3, y4, yf⟩ := cell5 h.blk
  have hs := g_steps_in h.good a ha
  have hp := g_step_idle h.good a ha hb
  have hbc := h.rb.cell ha
  have hb0 : busy a = -1 := by rw [hst a ha, hb]; rfl
  rw [hb0] at hbc
  have hA0 : decide ((a : Int) < 0) = false := by simp
  have hA1 : decide ((k : Int) ≤ (a : Int)) = false := by simp; omega
  have hA2 : (a : Int) < (k : Int) := by omega
  have HP : Hid _ := h
  have Hst : Hid _ := hst
  clear h hst
  go_enter Try.func10, Try.ntmps10
  go_wp2_with (first | (go_at_call 24; refine hs.mono ?_; rintro e w1 ⟨rfl, rfl⟩) | (go_at_call 21; refine hp.mono ?_; rintro e w1 ⟨rfl, rfl⟩) | (go_at_call 17; refine (num_any _ _).mono ?_; rintro e w6 ⟨rfl, rfl⟩))
  go_ret
  exact ⟨rfl, P, cs, ops, T, xs, vi, busy, HP.out, by omega, Hst.out⟩
set_option maxRecDepth 20000 in
set_option maxHeartbeats 4000000 in
theorem pstep_push (h : Py B w0 u P s b k c cs ops T xs y vi xs qb cb busy) (hst : ∀ a, a < k → busy a = (ops a).busy c) (hT : T ≤ 1000000000) (a : Nat) (ha : a < k) {item n t i : Int} (hop : ops a = .push item n t i) :
    Calls Try.prog 10 #[.pointer (some ⟨y, 0, none⟩), .int .i64 (a : Int)] u (PlayPost B w0 s b k c T y qb cb) := by
  obtain ⟨y0, y1, y2, y3, y4, yf⟩ := cell5 h.blk
  have hs := g_steps_in h.good a ha
  have hp := g_step h.good hT a ha (by rw [hop]; intro q; cases q)
  rw [hop] at hp
  have hbc := h.rb.cell ha
  have hb1 := hst a ha
  rw [hop] at hb1
  simp only [Op.busy] at hb1
  rw [hb1] at hbc
  have hbl := h.good.range
  have hA0 : decide ((a : Int) < 0) = false := by simp
  have hA1 : decide ((k : Int) ≤ (a : Int)) = false := by simp; omega
  have hA2 : (a : Int) < (k : Int) := by omega
  have hit := h.good.ok_push hop
  have hi0 : decide (item - 1 < 0) = false := by simp; omega
  have hi1 : decide (item - 1 < c) = true := by simp; omega
  have HP : Hid _ := h
  have Hst : Hid _ := hst
  clear h hst
  go_enter Try.func10, Try.ntmps10
  go_wp2_with (go_at_call 24; refine hs.mono ?_; rintro e w1 ⟨rfl, rfl⟩)
  refine hp.mono ?_
  rintro e w3 ⟨done, v', ok, op', T', xs', rfl, hG3, hB3, hE⟩
  clear hs hp y0 y1 y2 y3 y4 yf hbc
  have hP3 := HP.out.call hG3 hB3 (Wider.refl _ _)
  have hs3 := g_steps_in hG3 a ha
  rw [upd_at] at hs3
  obtain ⟨z0, z1, z2, z3, z4, zf⟩ := cell5 hP3.blk
  have hbc := hP3.rb.cell ha
  have hfq := hP3.rb.frozen a
  rw [hb1] at hbc
  have hyq := hP3.ne
  have HP3 : Hid _ := hP3
  clear hP3 hG3 hB3 HP
  cases hE with
  | pushOn hr =>
    go_wp2_with (first | (go_at_call 24; refine hs3.mono ?_; rintro e w4 ⟨rfl, rfl⟩) | (go_at_call 17; refine (num_any _ _).mono ?_; rintro e w6 ⟨rfl, rfl⟩))
    go_ret
    exact ⟨rfl, P, _, _, T, xs, vi, busy, HP3.out, by omega, busy_same Hst.out (by rw [hop]; rfl)⟩
  | pushed =>
    have hP4 := HP3.out.set a (-1)
    obtain ⟨p, cp, w', hrun, hM, hg, hat⟩ := app1 hP4.it (item - 1) hP4.big (by omega)
    have hP5 := hP4.items (zs' := item :: xs) hg (hM.congr (itm_push item xs)) (fun g e => (by
      have e' : p = g := by simpa [Value.ownBlock] using e
      subst e'; exact hat))
    obtain ⟨v0, v1, v2, v3, v4, vf⟩ := cell5 hP4.blk
    obtain ⟨x0, x1, x2, x3, x4, xf⟩ := cell5 ((hg.block y (box_lt hP4.blk) (fun e => hP4.nei e.symm rfl)).trans hP4.blk)
    have HP5 : Hid _ := hP5
    have hsz : (w3.setCell ⟨qb, a, none⟩ (.int .i64 (-1))).heap.size = w3.heap.size := by simp [World.setCell]
    rw [hsz] at hrun
    clear hM hg hat hP5 hP4 hsz
    go_wp2_with (first | (at_builtin; refine wpList_app _ _ hrun rfl rfl rfl rfl rfl ?_; clear hrun) | (go_at_call 24; refine hs3.mono ?_; rintro e w4 ⟨rfl, rfl⟩) | (go_at_call 17; refine (num_any _ _).mono ?_; rintro e w6 ⟨rfl, rfl⟩))
    go_ret
    exact ⟨rfl, P, _, _, T + 1, _, _, _, HP5.out, by omega, busy_upd Hst.out rfl⟩
set_option maxRecDepth 20000 in
set_option maxHeartbeats 4000000 in
theorem pstep_pop (h : Py B w0 u P s b k c cs ops T xs y vi xs qb cb busy) (hst : ∀ a, a < k → busy a = (ops a).busy c) (hT : T ≤ 1000000000) (a : Nat) (ha : a < k) {n t i d : Int} (hop : ops a = .pop n t i d) :
    Calls Try.prog 10 #[.pointer (some ⟨y, 0, none⟩), .int .i64 (a : Int)] u (PlayPost B w0 s b k c T y qb cb) := by
  obtain ⟨y0, y1, y2, y3, y4, yf⟩ := cell5 h.blk
  have hs := g_steps_in h.good a ha
  have hp := g_step h.good hT a ha (by rw [hop]; intro q; cases q)
  rw [hop] at hp
  have hbc := h.rb.cell ha
  have hb1 := hst a ha
  rw [hop] at hb1
  simp only [Op.busy] at hb1
  rw [hb1] at hbc
  have hbl := h.good.range
  have hA0 : decide ((a : Int) < 0) = false := by simp
  have hA1 : decide ((k : Int) ≤ (a : Int)) = false := by simp; omega
  have hA2 : (a : Int) < (k : Int) := by omega
  have hi0 : decide ((c : Int) < 0) = false := by simp
  have hi1 : decide ((c : Int) < c) = false := by simp
  have HP : Hid _ := h
  have Hst : Hid _ := hst
  clear h hst
  go_enter Try.func10, Try.ntmps10
  go_wp2_with (go_at_call 24; refine hs.mono ?_; rintro e w1 ⟨rfl, rfl⟩)
  refine hp.mono ?_
  rintro e w3 ⟨done, v', ok, op', T', xs', rfl, hG3, hB3, hE⟩
  clear hs hp y0 y1 y2 y3 y4 yf hbc
  have hP3 := HP.out.call hG3 hB3 (Wider.refl _ _)
  have hs3 := g_steps_in hG3 a ha
  rw [upd_at] at hs3
  obtain ⟨z0, z1, z2, z3, z4, zf⟩ := cell5 hP3.blk
  have hbc := hP3.rb.cell ha
  have hfq := hP3.rb.frozen a
  rw [hb1] at hbc
  have hyq := hP3.ne
  have HP3 : Hid _ := hP3
  clear hP3 hG3 hB3 HP
  cases hE with
  | popOn hr =>
    go_wp2_with (first | (go_at_call 24; refine hs3.mono ?_; rintro e w4 ⟨rfl, rfl⟩) | (go_at_call 17; refine (num_any _ _).mono ?_; rintro e w6 ⟨rfl, rfl⟩))
    go_ret
    exact ⟨rfl, P, _, _, T, xs, vi, busy, HP3.out, by omega, busy_same Hst.out (by rw [hop]; rfl)⟩
  | popped hx =>
    rename_i x
    subst hx
    have hP4 := HP3.out.set a (-1)
    obtain ⟨p, cp, rfl, hBp, hncp, hplt, cur, hcur, hcsz, hcm, hcell⟩ := hP4.it.shape (by simp)
    have hR : Row _ p (x :: xs').length (itm (x :: xs')) := ⟨cur, hcur, hcell⟩
    have hct := hR.cell (i := xs'.length) (by simp)
    rw [itm_top] at hct
    have HP4 : Hid _ := hP4
    obtain ⟨v0, v1, v2, v3, v4, vf⟩ := cell5 hP4.blk
    have hlen : (x :: xs').length = xs'.length + 1 := rfl
    rw [hlen] at v3 z3
    clear hP4 hcell hcur hR
    go_wp2_with (first | (go_at_call 24; refine hs3.mono ?_; rintro e w4 ⟨rfl, rfl⟩) | (go_at_call 17; refine (num_any _ _).mono ?_; rintro e w6 ⟨rfl, rfl⟩))
    go_quiet (fail)
    go_wp2
    generalize hU : World.drewN (World.setCell _ _ _) _ = U
    have hPU : Py B w0 U P s b k c (upd cs a (wrap64 (cs a + 1))) (updOp ops a .idle) (T + 1) xs' y (.slice (some ⟨p, 0, none⟩) (xs'.length + 1) cp) (x :: xs') qb cb (upd busy a (-1)) := by rw [← hU]; exact HP4.out.drewN _
    clear v0 v1 v2 v3 v4 vf z0 z1 z2 z3 z4 zf hU HP4 HP3 hct hplt hbc hfq
    have hP5 := hPU.items (zs' := xs') ⟨rfl, rfl, rfl, Nat.le_refl _, fun _ _ _ => rfl⟩ (hPU.it.cut.congr (itm_pop x xs')) (fun g e => .inl e)
    obtain ⟨v0, v1, v2, v3, v4, vf⟩ := cell5 hPU.blk
    have HP5 : Hid _ := hP5
    clear hPU hP5
    go_region
    go_wp2
    go_ret
    exact ⟨rfl, P, _, _, T + 1, _, _, _, HP5.out.drew', by omega, busy_upd Hst.out rfl⟩
  | nothing hx =>
    subst hx
    have hP4 := HP3.out.set a (-1)
    obtain ⟨ai, ci, rfl⟩ := hP4.it.slice
    obtain ⟨v0, v1, v2, v3, v4, vf⟩ := cell5 hP4.blk
    have HP4 : Hid _ := hP4
    clear hP4
    go_wp2_with (first | (go_at_call 24; refine hs3.mono ?_; rintro e w4 ⟨rfl, rfl⟩) | (go_at_call 17; refine (num_any _ _).mono ?_; rintro e w6 ⟨rfl, rfl⟩))
    go_ret
    exact ⟨rfl, P, _, _, T, _, _, _, HP4.out, by omega, busy_upd Hst.out rfl⟩
theorem pstep_any (h : Py B w0 u P s b k c cs ops T xs y vi xs qb cb busy) (hst : ∀ a, a < k → busy a = (ops a).busy c) (hT : T ≤ 1000000000) (_ : c ≤ 32) (A : Int) :
    Calls Try.prog 10 #[.pointer (some ⟨y, 0, none⟩), .int .i64 A] u (PlayPost B w0 s b k c T y qb cb) := by
  by_cases hA : 0 ≤ A ∧ A < k
  · obtain ⟨a, rfl⟩ : ∃ a : Nat, A = a := ⟨A.toNat, by omega⟩
    have ha : a < k := by omega
    cases hop : ops a with
    | idle => exact pstep_idle h hst a ha hop
    | push item n t i => exact pstep_push h hst hT a ha hop
    | pop n t i d => exact pstep_pop h hst hT a ha hop
  · exact pstep_agent h hst A hA
end
end Go.Proofs.Ytpajdopdbdflnaa
