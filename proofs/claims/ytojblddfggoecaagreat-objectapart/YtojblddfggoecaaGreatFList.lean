/- A stack in an arena that holds other words beside it; a whole operation by one agent. -/
import Derived.Test.YtojblddfggoecaaGreatFFull
namespace Go.Proofs.YtojblddfggoecaaGreat
open Go.RowKit

/-- No agent has anything under way. -/
abbrev calm : Nat → Op := fun _ => .idle
theorem calm_upd (g : Nat) (op : Op) : updOp (updOp calm g op) g .idle = calm := by rw [updOp_twice]; exact updOp_idle rfl
theorem Inv.beside {base cap : Nat} {ws : Nat → Int} {T : Int} {xs : List Int} (h : Inv base cap ws calm T xs) {a : Nat} {v : Int} (ha : a < base ∨ base + cap < a) : Inv base cap (upd ws a v) calm T xs :=
  ⟨h.t0, by rw [upd_else _ _ (by omega)]; exact h.top, h.chain.other fun x hx => by have := h.range x hx; omega, h.range, h.nodup, fun _ => trivial, h.diff⟩
theorem Good.beside {w w' : World} {P : Nat → Prop} {s : Nat} {b W base G cap bw bs bt bu bl : Nat} {ws cs cs' old : Nat → Int} {ob : Nat → Nat} {T : Int} {xs : List Int} {a : Nat} {v : Int}
    (hS : Stk w P s b bw bs bt bu bl W G base cap ws cs calm ob) (hI : Inv base cap ws calm T xs) (hO : ∀ a, a < base ∨ base + cap < a → ws a = old a) (ha : a < base ∨ base + cap < a)
    (hA : Ar w' b bw bs W G (upd ws a v) cs') (hB : But bw bs w w') : Good w' P s ⟨b, W, base, upd old a v⟩ G cap cs' calm T xs ∧ Bt P w w' := by
  refine ⟨⟨bw, bs, bt, bu, bl, _, ob, hS.rows hA hB, hI.beside ha, fun j hj => ?_⟩, Bt.of_but hB hS.foot.2.2.1 hS.foot.2.2.2.1⟩
  by_cases e : j = a
  · subst e; show upd ws j v j = upd old j v j; rw [upd_at, upd_at]
  · show upd ws a v j = upd old a v j; rw [upd_else _ _ e, upd_else _ _ e]; exact hO j hj

section
variable {w : World} {P : Nat → Prop} {s b W base G cap : Nat} {old cs : Nat → Int} {T : Int} {xs : List Int}
theorem gi_store (h : Good w P s ⟨b, W, base, old⟩ G cap cs calm T xs) (g a : Nat) (v : Int) (hg : g < G) (hW : a < W) (ha : a < base ∨ base + cap < a) :
    Calls Tryz.prog 59 #[.pointer (some ⟨b, 0, none⟩), .int .i64 g, .int .i64 a, .int .i64 v] w fun e w' => e = .returned (.int .i64 0) ∧ Good w' P s ⟨b, W, base, upd old a v⟩ G cap (upd cs g (wrap64 (cs g + 1))) calm T xs ∧ Bt P w w' := by
  obtain ⟨bw, bs, bt, bu, bl, ws, ob, hS, hI, hO⟩ := h
  refine (store_ok hS.ar g a v hg hW).mono ?_
  rintro e w' ⟨rfl, hA, hB⟩
  exact ⟨rfl, Good.beside hS hI hO ha hA hB⟩
theorem gi_load (h : Good w P s ⟨b, W, base, old⟩ G cap cs calm T xs) (g a : Nat) (hg : g < G) (hW : a < W) :
    Calls Tryz.prog 61 #[.pointer (some ⟨b, 0, none⟩), .int .i64 g, .int .i64 a] w fun e w' => ∃ v, e = .returned (.tuple #[.int .i64 v, .int .i64 0]) ∧ (a < base ∨ base + cap < a → v = old a) ∧ Good w' P s ⟨b, W, base, old⟩ G cap (upd cs g (wrap64 (cs g + 1))) calm T xs ∧ Bt P w w' := by
  obtain ⟨bw, bs, bt, bu, bl, ws, ob, hS, hI, hO⟩ := h
  refine (load_ok hS.ar g a hg hW).mono ?_
  rintro e w' ⟨rfl, hA, hB⟩
  exact ⟨_, rfl, fun ha => hO a ha, ⟨bw, bs, bt, bu, bl, _, ob, hS.rows hA hB, hI, hO⟩, Bt.of_but hB hS.foot.2.2.1 hS.foot.2.2.2.1⟩
theorem gi_cstore {bc : Nat} (h : Good w P s ⟨b, W, base, old⟩ G cap cs calm T xs) (g a : Nat) (v : Int) (hg : g < G) (hW : a < W) (ha : a < base ∨ base + cap < a) :
    Calls Tryz.prog 72 #[.agg #[.pointer (some ⟨b, 0, none⟩), .func (.func 62) #[] #[.pointer (some ⟨bc, 0, none⟩)], .func (.func 63) #[] #[]], .int .i64 g, .int .i64 a, .int .i64 v] w fun e w' => e = .returned (.int .i64 0) ∧ Good w' P s ⟨b, W, base, upd old a v⟩ G cap (upd cs g (wrap64 (cs g + 1))) calm T xs ∧ Bt P w w' := by
  obtain ⟨bw, bs, bt, bu, bl, ws, ob, hS, hI, hO⟩ := h
  refine (cStore_ok hS.ar g a v hg hW).mono ?_
  rintro e w' ⟨rfl, hA, hB⟩
  exact ⟨rfl, Good.beside hS hI hO ha hA hB⟩
theorem gi_cpeek {bc : Nat} (h : Good w P s ⟨b, W, base, old⟩ G cap cs calm T xs) (hc : w.heap[bc]? = some (.cells #[.int .i64 3] 77 (0, 0))) (a : Nat) (hW : a < W) (ha : a < base ∨ base + cap < a) (h0 : 0 ≤ old a) (h3 : old a ≤ 3) :
    Calls Tryz.prog 53 #[.agg #[.pointer (some ⟨b, 0, none⟩), .func (.func 62) #[] #[.pointer (some ⟨bc, 0, none⟩)], .func (.func 63) #[] #[]], .int .i64 a] w fun e w' => e = .returned (.tuple #[.int .i64 (old a), .int .i64 0]) ∧ Below w.heap.size w w' := by
  obtain ⟨bw, bs, bt, bu, bl, ws, ob, hS, hI, hO⟩ := h
  have e := hO a ha
  simp only at e
  rw [← e] at h0 h3 ⊢
  exact cPeek_ok hS.ar hc a hW h0 h3
theorem gi_has (h : Good w P s ⟨b, W, base, old⟩ G cap cs calm T xs) (x : Int) (r : Bool) (hr : decide (0 ≤ x ∧ x < (G : Int)) = r) :
    Calls Tryz.prog 54 #[.pointer (some ⟨b, 0, none⟩), .int .i64 x] w fun e w' => e = .returned (.bool r) ∧ w' = w := by
  obtain ⟨bw, bs, bt, bu, bl, ws, ob, hS, hI, hO⟩ := h
  subst hr
  by_cases q : 0 ≤ x ∧ x < (G : Int)
  · rw [decide_eq_true q]; exact hasAgent_yes hS.ar x q.1 q.2
  · rw [decide_eq_false q]; exact hasAgent_no hS.ar x q
theorem gi_steps (h : Good w P s ⟨b, W, base, old⟩ G cap cs calm T xs) (g : Nat) (hg : g < G) :
    Calls Tryz.prog 45 #[.pointer (some ⟨b, 0, none⟩), .int .i64 g] w fun e w' => e = .returned (.int .i64 (cs g)) ∧ w' = w := by
  obtain ⟨bw, bs, bt, bu, bl, ws, ob, hS, hI, hO⟩ := h
  exact steps_in hS.ar g hg
theorem gi_steps_out (h : Good w P s ⟨b, W, base, old⟩ G cap cs calm T xs) (g : Int) (hg : ¬ (0 ≤ g ∧ g < G)) :
    Calls Tryz.prog 45 #[.pointer (some ⟨b, 0, none⟩), .int .i64 g] w fun e w' => e = .returned (.int .i64 0) ∧ w' = w := by
  obtain ⟨bw, bs, bt, bu, bl, ws, ob, hS, hI, hO⟩ := h
  exact steps_out hS.ar g hg
/-- No agent has taken more steps than K. -/
def Few (K : Int) (cs : Nat → Int) : Prop := ∀ j, 0 ≤ cs j ∧ cs j ≤ K
/-- At most k steps more, as long as they are few. -/
def Grew (cs cs' : Nat → Int) (k : Nat) : Prop := ∀ K : Int, 0 ≤ K → K + k ≤ 1000000000 → Few K cs → Few (K + k) cs'
theorem Grew.mono {cs cs' : Nat → Int} {k k' : Nat} (h : Grew cs cs' k) (hk : k ≤ k') : Grew cs cs' k' := fun K h0 h1 hf j => by
  have := h K h0 (by omega) hf j; omega
theorem Grew.refl (cs : Nat → Int) (k : Nat) : Grew cs cs k := fun K h0 h1 hf j => by have := hf j; omega
theorem Grew.trans {cs cs' cs'' : Nat → Int} {k k' : Nat} (h : Grew cs cs' k) (h' : Grew cs' cs'' k') : Grew cs cs'' (k + k') := fun K h0 h1 hf j => by
  have h2 := h' (K + k) (by omega) (by omega) (h K h0 (by omega) hf) j
  omega
theorem Grew.tick {cs cs' : Nat → Int} {k : Nat} (h : Grew cs cs' k) (g : Nat) : Grew cs (upd cs' g (wrap64 (cs' g + 1))) (k + 1) := fun K h0 h1 hf j => by
  have h2 := h K h0 (by omega) hf
  by_cases e : j = g
  · subst e
    have := h2 j
    rw [upd_at, IntWalk.wrap64_in _ (by omega)]
    omega
  · rw [upd_else _ _ e]
    have := h2 j
    omega
/-- What a whole operation leaves. -/
def Done (cs : Nat → Int) (w : World) (P : Nat → Prop) (s b W base G cap : Nat) (old : Nat → Int) (T : Int) (xs : List Int) (w' : World) : Prop :=
  ∃ (P' : Nat → Prop) (cs' : Nat → Int), Good w' P' s ⟨b, W, base, old⟩ G cap cs' calm T xs ∧ Bt P w w' ∧ Wider P P' w ∧ Grew cs cs' 5
set_option maxRecDepth 20000 in
set_option maxHeartbeats 1000000 in
theorem perform_push (h : Good w P s ⟨b, W, base, old⟩ G cap cs calm T xs) (hT : T ≤ 1000000000) (g : Nat) (v : Int) (hg : g < G) (hm : May cap calm xs v) :
    Calls Tryz.prog 73 #[.pointer (some ⟨s, 0, none⟩), .int .i64 g, .int .i64 0, .int .i64 v] w fun e w' => e = .returned (.int .i64 0) ∧ Done cs w P s b W base G cap old (T + 1) ((v + 1) :: xs) w' := by
  have hbeg := g_begin_push h hT g v hg rfl hm
  go_enter Tryz.func73, Tryz.ntmps73
  go_wp2_with (go_at_call 95; refine hbeg.mono ?_; rintro e w1 ⟨rfl, P', hG1, hB1, hW1⟩)
  go_loopg [] 5 (fun r wr => ∃ (op : Op) (cs' : Nat → Int), (∃ n t j, op = .push (v + 1) n t j) ∧ Good wr P' s ⟨b, W, base, old⟩ G cap cs' (updOp calm g op) T xs ∧ Bt P w wr ∧ rank T xs op ≤ r ∧ r ≤ 5 ∧ Grew cs cs' (5 - r))
  case atStart => exact ⟨.push (v + 1) 0 0 0, _, ⟨0, 0, 0, rfl⟩, hG1, hB1, by simp [rank], Nat.le_refl _, Grew.refl _ _⟩
  case round =>
    obtain ⟨op, cs', ⟨n, t, j, rfl⟩, hGr, hBr, hrk, hr5, hgr⟩ := hrel
    have hpos := rank_pos (T := T) (xs := xs) (op := .push (v + 1) n t j) (by simp)
    have hst := g_step hGr hT g hg (by rw [updOp_at]; simp)
    rw [updOp_at] at hst
    clear hbeg hG1 hB1 hm
    go_wp2_with fail
    refine hst.mono ?_
    rintro e w3 ⟨done, v', ok, op', T', xs', rfl, hG3, hB3, hE⟩
    rw [updOp_twice] at hG3
    clear hst
    cases hE with
    | pushOn hr =>
      go_wp2
      go_roundg (gk - 1)
      case rel => exact ⟨_, _, ⟨_, _, _, rfl⟩, hG3, hBr.wide hB3 hW1, by omega, by omega, by rw [show 5 - (gk - 1) = 5 - gk + 1 by omega]; exact hgr.tick g⟩
      case measure => omega
    | pushed =>
      rw [updOp_idle rfl] at hG3
      go_wp2
      go_ret
      exact ⟨rfl, _, _, hG3, hBr.wide hB3 hW1, hW1, (hgr.tick g).mono (by omega)⟩
set_option maxRecDepth 20000 in
set_option maxHeartbeats 1000000 in
theorem perform_pop {x : Int} (h : Good w P s ⟨b, W, base, old⟩ G cap cs calm T (x :: xs)) (hT : T ≤ 1000000000) (g : Nat) (v : Int) (hg : g < G) :
    Calls Tryz.prog 73 #[.pointer (some ⟨s, 0, none⟩), .int .i64 g, .int .i64 1, .int .i64 v] w fun e w' => e = .returned (.int .i64 (x - 1)) ∧ Done cs w P s b W base G cap old (T + 1) xs w' := by
  have hbeg := g_begin_pop h g v hg rfl
  go_enter Tryz.func73, Tryz.ntmps73
  go_wp2_with (go_at_call 95; refine hbeg.mono ?_; rintro e w1 ⟨rfl, P', hG1, hB1, hW1⟩)
  go_loopg [] 5 (fun r wr => ∃ (op : Op) (cs' : Nat → Int), (∃ n t j d, op = .pop n t j d) ∧ Good wr P' s ⟨b, W, base, old⟩ G cap cs' (updOp calm g op) T (x :: xs) ∧ Bt P w wr ∧ rank T (x :: xs) op ≤ r ∧ r ≤ 5 ∧ Grew cs cs' (5 - r))
  case atStart => exact ⟨.pop 0 0 0 0, _, ⟨0, 0, 0, 0, rfl⟩, hG1, hB1, by simp [rank], Nat.le_refl _, Grew.refl _ _⟩
  case round =>
    obtain ⟨op, cs', ⟨n, t, j, d, rfl⟩, hGr, hBr, hrk, hr5, hgr⟩ := hrel
    have hpos := rank_pos (T := T) (xs := x :: xs) (op := .pop n t j d) (by simp)
    have hst := g_step hGr hT g hg (by rw [updOp_at]; simp)
    rw [updOp_at] at hst
    clear hbeg hG1 hB1
    go_wp2_with fail
    refine hst.mono ?_
    rintro e w3 ⟨done, v', ok, op', T', xs', rfl, hG3, hB3, hE⟩
    rw [updOp_twice] at hG3
    clear hst
    cases hE with
    | popOn hr =>
      go_wp2
      go_roundg (gk - 1)
      case rel => exact ⟨_, _, ⟨_, _, _, _, rfl⟩, hG3, hBr.wide hB3 hW1, by omega, by omega, by rw [show 5 - (gk - 1) = 5 - gk + 1 by omega]; exact hgr.tick g⟩
      case measure => omega
    | popped hx =>
      obtain ⟨rfl, rfl⟩ := List.cons.inj hx
      rw [updOp_idle rfl] at hG3
      go_wp2
      go_ret
      exact ⟨rfl, _, _, hG3, hBr.wide hB3 hW1, hW1, (hgr.tick g).mono (by omega)⟩
    | nothing hx => exact absurd hx (by simp)
end
end Go.Proofs.YtojblddfggoecaaGreat
