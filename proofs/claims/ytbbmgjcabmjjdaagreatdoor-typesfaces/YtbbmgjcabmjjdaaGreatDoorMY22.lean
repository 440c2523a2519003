/- A range over an iterator that keeps a state: the iterator and the body share one invariant; a round may leave by a return. -/
import Derived.Test.YtbbmgjcabmjjdaaGreatDoorMQIdx
import Derived.Test.YtbbmgjcabmjjdaaGreatDoorMY21
import Derived.Test.YtbbmgjcabmjjdaaGreatDoorMY18
import Derived.Test.YtbbmgjcabmjjdaaGreatDoorMY15
import Derived.Test.YtbbmgjcabmjjdaaGreatDoorMY20
import Derived.RangeFuncNested
import Derived.RangeFuncBound
import Derived.RangeFuncCalls
import Derived.RangeFuncLeaves
import Derived.RangeFuncBox
import Derived.RangeFuncFrom
import Derived.Shelf.Abstract
import Derived.Shelf.RegionOpen
import Derived.WalkKit
import Derived.OwnWalkIn
import Derived.LoopNIn
import Derived.LoopIn
import Derived.Maps.AppendAt
import Derived.Sort.LoopGhostIn
namespace Go.Proofs.YtbbmgjcabmjjdaaGreatDoor
open Go.RowKit

/-- A fault that is thrown. -/
abbrev FltI (q c : Int) : Ending := .panicked [{ v := .iface 61 (.agg #[.int .i64 q, .int .i64 c]), recovered := false }]
/-- What a rule's check leaves: it is kept, or the first fault is thrown. -/
def ChkP (bad : Nat → Bool) (code : Int) (n : Nat) (w : World) (e : Ending) (w' : World) : Prop := Below w.heap.size w w' ∧ (((∃ v, e = .returned v) ∧ ∀ i, i < n → bad i = false) ∨ ∃ i : Nat, i < n ∧ e = FltI (11 + (i : Int)) code ∧ bad i = true ∧ ∀ j, j < i → bad j = false)
theorem ChkP.run {bad : Nat → Bool} {code : Int} {n : Nat} {w : World} {e : Ending} {w' : World} (h : ChkP bad code n w e w') (hc : code ≠ 0) : Below w.heap.size w w' ∧ (((∃ v, e = .returned v) ∧ runJ bad code (0, 0) n = (0, 0)) ∨ (e = FltI (runJ bad code (0, 0) n).2 (runJ bad code (0, 0) n).1 ∧ (runJ bad code (0, 0) n).1 ≠ 0)) := by
  have h0 : ∀ m : Nat, (∀ i, i < m → bad i = false) → runJ bad code (0, 0) m = (0, 0) := fun m => by
    induction m with
    | zero => intro _; rfl
    | succ m ih =>
      intro hm
      show ftJ (runJ bad code (0, 0) m) (bad m) code _ = _
      rw [ih fun i hi => hm i (by omega), hm m (by omega), ftJ_false]
  refine ⟨h.1, ?_⟩
  rcases h.2 with ⟨hv, hb⟩ | ⟨i, hi, he, hb, hj⟩
  · exact .inl ⟨hv, h0 n hb⟩
  · have h1 : runJ bad code (0, 0) (i + 1) = (code, 11 + (i : Int)) := by
      show ftJ (runJ bad code (0, 0) i) (bad i) code _ = _
      rw [h0 i hj, hb]; rfl
    have h2 : runJ bad code (0, 0) n = runJ bad code (0, 0) (i + 1) := runJ_stop (by rw [h1]; exact hc) hi
    rw [h2, h1]
    exact .inr ⟨he, hc⟩
set_option maxHeartbeats 4000000 in
set_option maxRecDepth 20000 in
theorem check_ok {F : Nat} (he : Ent F) {pre post : Array Value} {w : World} {ao : Option Addr} {cap n : Nat} {bad : Nat → Bool} {code : Int} (hn : n ≤ 1048576)
    (hF : ∀ (u : World) (i : Nat), Below w.heap.size w u → i < n → Calls Tryz.prog F (pre.push (.int .i64 (11 + (i : Int))) ++ post) u fun e u' => e = .returned (.bool (bad i)) ∧ Below w.heap.size u u') :
    Calls Tryz.prog 28 #[.slice ao (11 + n) cap, .int .i64 code, .func (.func F) pre post] w (ChkP bad code n w) := by
  unfold Ent at he
  have HF : Hid _ := hF
  clear hF
  go_enter Tryz.func28, Tryz.ntmps28
  go_wp2
  go_loopg [6] (n + 1) (fun kx s6 wr => ∃ i : Nat, s6 = .int .i64 (11 + (i : Int)) ∧ i ≤ n ∧ n - i ≤ kx ∧ Hid (Below w.heap.size w wr) ∧ Hid (∀ j, j < i → bad j = false))
  case atStart => exact ⟨0, rfl, by omega, by omega, Below.refl _ _, fun j hj => absurd hj (by omega)⟩
  case round =>
    obtain ⟨i, rfl, hi, hk, HM, HJ⟩ := hrel
    by_cases hlt : i < n
    · have hC := HF.out wr i HM.out hlt
      have hl : 11 + (i : Int) < ((11 + n : Nat) : Int) := by omega
      clear HF
      rcases hb : bad i with _ | _
      · rw [hb] at hC
        have HB0 : Hid (bad i = false) := hb
        clear hb
        go_wp2_with (go_at_fn F; refine hC.mono ?_; rintro e u1 ⟨rfl, hb⟩; have HB : Hid (Below w.heap.size w u1) := HM.out.trans hb; clear hC hb)
        go_roundg (n - (i + 1))
        case measure => omega
        case rel =>
          refine ⟨i + 1, by go_num, by omega, by omega, HB.out, fun j hj => ?_⟩
          by_cases hji : j < i
          · exact HJ.out j hji
          · obtain rfl : j = i := by omega
            exact HB0.out
      · rw [hb] at hC
        have HB0 : Hid (bad i = true) := hb
        clear hb
        go_wp2_with (first | (go_at_fn F; refine hC.mono ?_; rintro e u1 ⟨rfl, hb⟩; have HB : Hid (Below w.heap.size w u1) := HM.out.trans hb; clear hC hb) | (go_at_call 40; refine (throw_any _ _ _).mono ?_; rintro e w8 ⟨rfl, hw⟩; replace hw := hw.symm; subst hw))
        exact ⟨rfl, HB.out, Or.inr ⟨i, hlt, rfl, HB0.out, HJ.out⟩⟩
    · have hl : ¬ 11 + (i : Int) < ((11 + n : Nat) : Int) := by omega
      obtain rfl : i = n := by omega
      clear HF
      go_wp2
      refine bodyPost_ret (results_none rfl _ _ _) rfl ?_
      exact ⟨HM.out, Or.inl ⟨⟨_, rfl⟩, HJ.out⟩⟩
end Go.Proofs.YtbbmgjcabmjjdaaGreatDoor
namespace Go.Proofs.YtbbmgjcabmjjdaaGreatDoor
open Go.RowKit

theorem chk_pass {F : Nat} (he : Ent F) {pre post : Array Value} {w : World} {ao : Option Addr} {cap n : Nat} {bad : Nat → Bool} {code : Int} (hn : n ≤ 1048576) (hc : code ≠ 0)
    (hF : ∀ (u : World) (i : Nat), Below w.heap.size w u → i < n → Calls Tryz.prog F (pre.push (.int .i64 (11 + (i : Int))) ++ post) u fun e u' => e = .returned (.bool (bad i)) ∧ Below w.heap.size u u') (h0 : (runJ bad code (0, 0) n).1 = 0) :
    Calls Tryz.prog 28 #[.slice ao (11 + n) cap, .int .i64 code, .func (.func F) pre post] w fun e w' => (∃ v, e = .returned v) ∧ Below w.heap.size w w' :=
  (check_ok he hn hF).mono fun e w' h => by
    obtain ⟨hb, h2⟩ := h.run hc
    rcases h2 with ⟨hv, -⟩ | ⟨-, h2⟩
    · exact ⟨hv, hb⟩
    · exact absurd h0 h2
theorem chk_fail {F : Nat} (he : Ent F) {pre post : Array Value} {w : World} {ao : Option Addr} {cap n : Nat} {bad : Nat → Bool} {code : Int} (hn : n ≤ 1048576) (hc : code ≠ 0)
    (hF : ∀ (u : World) (i : Nat), Below w.heap.size w u → i < n → Calls Tryz.prog F (pre.push (.int .i64 (11 + (i : Int))) ++ post) u fun e u' => e = .returned (.bool (bad i)) ∧ Below w.heap.size u u') (h0 : (runJ bad code (0, 0) n).1 ≠ 0) :
    Calls Tryz.prog 28 #[.slice ao (11 + n) cap, .int .i64 code, .func (.func F) pre post] w fun e w' => e = FltI (runJ bad code (0, 0) n).2 (runJ bad code (0, 0) n).1 ∧ Below w.heap.size w w' :=
  (check_ok he hn hF).mono fun e w' h => by
    obtain ⟨hb, h2⟩ := h.run hc
    rcases h2 with ⟨-, h2⟩ | ⟨h2, -⟩
    · exact absurd (by rw [h2]) h0
    · exact ⟨h2, hb⟩
set_option maxHeartbeats 2000000 in
set_option maxRecDepth 20000 in
theorem lo1_ok {u : World} {S T : Nat → Prop} {v vl : Value} {p : Pg} {bp bl : Nat} (hT : Tb u S v p bp) (hbl : u.cell? ⟨bl, 0, none⟩ = some vl) (hL : Sl kLy u T vl (allJ p)) (lT : ∀ k, T k → k < u.heap.size) {i : Nat} (hi : i < p.cls.length) (hab : ∀ a ∈ (lyJ p (11 + (i : Int))).abv, isJ p a = true) : Calls Tryz.prog 35 #[.int .i64 (11 + (i : Int)), .pointer (some ⟨bp, 0, none⟩), .pointer (some ⟨bl, 0, none⟩)] u fun e u' => e = .returned (.bool (bad6 p i)) ∧ Below u.heap.size u u' := by
  have hk : isJ p (11 + (i : Int)) = true := by simp [isJ]; omega
  have hy : (allJ p)[11 + i]? = some (lyJ p (11 + (i : Int))) := by
    have h := lyQ_at (ls := allJ p) (n := 11 + i) (by rw [all_len]; omega)
    rw [h, show (((11 + i : Nat)) : Int) = 11 + (i : Int) by omega, lyQ_all hk]
  have hC := lof_ok hT.tr hT.lo hL lT (all_len p) hi hy hab
  rw [lofQ_eq hi hab] at hC
  have hv := hT.tr
  obtain ⟨ao, cap, rfl, -⟩ := hv
  have hl := hL
  obtain ⟨al, cl, rfl, -⟩ := hl
  have b0 := hT.box
  generalize bad6 p i = B at *
  clear hT hL lT hi hab hk hy
  go_enter Tryz.func35, Tryz.ntmps35
  go_wp2_with (go_at_call 36; refine hC.mono ?_; rintro e u1 ⟨rfl, hb⟩; have HB : Hid (Below u.heap.size u u1) := hb; clear hC hb)
  go_ret
  exact ⟨rfl, HB.out⟩
set_option maxHeartbeats 2000000 in
set_option maxRecDepth 20000 in
theorem lo2_ok {u : World} {S T : Nat → Prop} {v vl : Value} {p : Pg} {bp bl : Nat} (hT : Tb u S v p bp) (hbl : u.cell? ⟨bl, 0, none⟩ = some vl) (hL : Sl kLy u T vl (allJ p)) (lT : ∀ k, T k → k < u.heap.size) {i : Nat} (hi : i < p.cls.length) : Calls Tryz.prog 37 #[.int .i64 (11 + (i : Int)), .pointer (some ⟨bp, 0, none⟩), .pointer (some ⟨bl, 0, none⟩)] u fun e u' => e = .returned (.bool (bad7 p i)) ∧ Below u.heap.size u u' := by
  have hk : isJ p (11 + (i : Int)) = true := by simp [isJ]; omega
  have hy : (allJ p)[11 + i]? = some (lyJ p (11 + (i : Int))) := by
    have h := lyQ_at (ls := allJ p) (n := 11 + i) (by rw [all_len]; omega)
    rw [h, show (((11 + i : Nat)) : Int) = 11 + (i : Int) by omega, lyQ_all hk]
  have hC := fin_ok hT.tr hL lT hi hy
  change Calls _ _ _ _ fun e w' => e = .returned (.bool (bad7 p i)) ∧ _ at hC
  have hv := hT.tr
  obtain ⟨ao, cap, rfl, -⟩ := hv
  have hl := hL
  obtain ⟨al, cl, rfl, -⟩ := hl
  have b0 := hT.box
  generalize bad7 p i = B at *
  clear hT hL lT hi hk hy
  go_enter Tryz.func37, Tryz.ntmps37
  go_wp2_with (go_at_call 38; refine hC.mono ?_; rintro e u1 ⟨rfl, hb⟩; have HB : Hid (Below u.heap.size u u1) := hb; clear hC hb)
  go_ret
  exact ⟨rfl, HB.out⟩
end Go.Proofs.YtbbmgjcabmjjdaaGreatDoor
namespace Go.Proofs.YtbbmgjcabmjjdaaGreatDoor
open Go.RowKit

/-- What hasEqual is to answer of fields, of methods. -/
def HqF : Prop := ∀ (S : Nat → Prop) (u : World) (v : Value) (xs : List Fd), Sl kFd u S v xs → (∀ k, S k → k < u.heap.size) → xs.length ≤ 1048576 → Calls Tryz.prog 74 #[v, .func (.func 69) #[] #[]] u fun e u' => e = .returned (.bool (namedJ xs)) ∧ Below u.heap.size u u'
def HqM : Prop := ∀ (S : Nat → Prop) (u : World) (v : Value) (xs : List Md), Sl kMd u S v xs → (∀ k, S k → k < u.heap.size) → xs.length ≤ 1048576 → Calls Tryz.prog 75 #[v, .func (.func 71) #[] #[]] u fun e u' => e = .returned (.bool (pairJ likeM xs xs.length)) ∧ Below u.heap.size u u'
set_option maxHeartbeats 4000000 in
set_option maxRecDepth 20000 in
theorem otw_ok (hF : HqF) (hM : HqM) {w : World} {S : Nat → Prop} {v : Value} {p : Pg} (h : Sl kCs w S v (trQ p)) (lS : ∀ k, S k → k < w.heap.size) {i : Nat} (hi : i < p.cls.length) (n1 : (ofJ p (11 + (i : Int))).flds.length ≤ 1048576) (n2 : (ofJ p (11 + (i : Int))).stcs.length ≤ 1048576) (n3 : (ofJ p (11 + (i : Int))).mds.length ≤ 1048576) : Calls Tryz.prog 33 #[v, .int .i64 (11 + (i : Int))] w fun e w' => e = .returned (.bool (bad5 p i)) ∧ Below w.heap.size w w' := by
  have hv := h
  obtain ⟨ao, cap, rfl, hmx, -⟩ := hv
  unfold maxLen at hmx
  have hk : isJ p (11 + (i : Int)) = true := by simp [isJ]; omega
  obtain ⟨i1, sb, so, f1, f2, f3, f4, g1, g2, g3, g4, e1, hi1, rfl, -, ⟨-, -, -, -, -, t5, t6, t7⟩, HS⟩ := tq_get h hk
  rw [cl_user (by omega)] at t5 t6 t7 HS
  have HS : Hid _ := HS
  have hb : bad5 p i = ((namedJ (ofJ p (11 + (i : Int))).flds || namedJ (ofJ p (11 + (i : Int))).stcs) || pairJ likeM (ofJ p (11 + (i : Int))).mds (ofJ p (11 + (i : Int))).mds.length) := rfl
  rw [hb]
  have hl : (i1 : Int) < ((trQ p).length : Int) := by omega
  rw [e1] at n1 n2 n3 t5 t6 t7 HS ⊢
  have HS : Hid _ := HS
  generalize ofJ p (i1 : Int) = c at *
  have c1 := hF S w _ _ HS.out.2.1 lS n1
  have C2 : Hid (∀ u, Below w.heap.size w u → Calls Tryz.prog 74 #[.slice f3 c.stcs.length g3, .func (.func 69) #[] #[]] u fun e u' => e = .returned (.bool (namedJ c.stcs)) ∧ Below u.heap.size u u') := fun u hb => hF S u _ _ (HS.out.2.2.1.keep fun b q => hb.block b (lS b q)) (fun b q => Nat.lt_of_lt_of_le (lS b q) hb.size) n2
  have C3 : Hid (∀ u, Below w.heap.size w u → Calls Tryz.prog 75 #[.slice f4 c.mds.length g4, .func (.func 71) #[] #[]] u fun e u' => e = .returned (.bool (pairJ likeM c.mds c.mds.length)) ∧ Below u.heap.size u u') := fun u hb => hM S u _ _ (HS.out.2.2.2.keep fun b q => hb.block b (lS b q)) (fun b q => Nat.lt_of_lt_of_le (lS b q) hb.size) n3
  generalize namedJ c.flds = A1 at *
  generalize namedJ c.stcs = A2 at *
  generalize pairJ likeM c.mds c.mds.length = A3 at *
  clear h hb hF hM hk e1 lS n1 n2 n3 HS
  rcases A1 with _ | _
  · rcases A2 with _ | _
    · go_enter Tryz.func33, Tryz.ntmps33
      go_wp2_with (first
        | (go_at_call 74; refine c1.mono ?_; rintro e u1 ⟨rfl, hb⟩; have HB1 : Hid (Below w.heap.size w u1) := hb; have x6 := cell_keep t6 hb; have x7 := cell_keep t7 hb; have c2 := C2.out u1 hb; clear c1 hb t5 t6 t7)
        | (go_at_call 74; refine c2.mono ?_; rintro e u2 ⟨rfl, hb⟩; have HB2 : Hid (Below w.heap.size w u2) := HB1.out.trans (hb.mono HB1.out.size); have y7 := cell_keep x7 hb; have c3 := C3.out u2 HB2.out; clear c2 hb x6 x7)
        | (go_at_call 75; refine c3.mono ?_; rintro e u3 ⟨rfl, hb⟩; have HB3 : Hid (Below w.heap.size w u3) := HB2.out.trans (hb.mono HB2.out.size); clear c3 hb y7))
      go_ret
      exact ⟨by first | rfl | simp, HB3.out⟩
    · go_enter Tryz.func33, Tryz.ntmps33
      go_wp2_with (first
        | (go_at_call 74; refine c1.mono ?_; rintro e u1 ⟨rfl, hb⟩; have HB1 : Hid (Below w.heap.size w u1) := hb; have x6 := cell_keep t6 hb; have x7 := cell_keep t7 hb; have c2 := C2.out u1 hb; clear c1 hb t5 t6 t7)
        | (go_at_call 74; refine c2.mono ?_; rintro e u2 ⟨rfl, hb⟩; have HB2 : Hid (Below w.heap.size w u2) := HB1.out.trans (hb.mono HB1.out.size); clear c2 hb x6 x7))
      go_ret
      exact ⟨by first | rfl | simp, HB2.out⟩
  · go_enter Tryz.func33, Tryz.ntmps33
    go_wp2_with (go_at_call 74; refine c1.mono ?_; rintro e u1 ⟨rfl, hb⟩; have HB1 : Hid (Below w.heap.size w u1) := hb; clear c1 hb t5 t6 t7)
    go_ret
    exact ⟨by first | rfl | simp, HB1.out⟩
end Go.Proofs.YtbbmgjcabmjjdaaGreatDoor
namespace Go.Proofs.YtbbmgjcabmjjdaaGreatDoor
open Go.RowKit
/-- What looks at blocks that are no cells, and at nothing else. -/
def BookQ (Bk : World → Prop) : Prop := ∀ A B : World, Bk A → (∀ (k : Nat) (o : Obj), A.heap[k]? = some o → o.isCells = false → B.heap[k]? = some o) → Bk B
/-- The iterator's contract, with the invariant I of the state, M where x is handed over, St where a round has left. -/
def JointQ {α σ : Type} (F : Fence) (n : Nat) (P : Program) (g : Nat) (lb : Array Value) (encs : α → Array Value) (I : σ → World → Prop) (M : σ → α → World → Prop) (nx : σ → α → σ) (E : σ → Prop) (s0 : σ) : Prop :=
  ∀ (l : Nat) (Bk St : World → Prop) (W : World), BookQ Bk →
    (∀ s x W1, M s x W1 → Bk W1 → YieldAt F (n - 1) P l (encs x) W1 fun e W' => (e = .returned (.bool true) ∧ I (nx s x) W' ∧ Bk W') ∨ (e = .returned (.bool false) ∧ St W')) →
    I s0 W → Bk W →
    CallsIn F n P g (#[.func (.yield l) #[] #[]] ++ lb) W fun e W' => (∃ v, e = .returned v) ∧ ((∃ s, E s ∧ I s W' ∧ Bk W') ∨ St W')
/-- Where a body goes on, or leaves by a return. -/
abbrev goesQ (B : Nat) (I X : World → Prop) (W : World) : Exit → Act → World → Prop := ownPostG B (fun _ _ => True) (fun _ : List Unit => I) (fun c _ W' => c = .ret ∧ X W') [] W
theorem range_jointQ {F : Fence} {n : Nat} {P : Program} {α σ : Type} {g : Operand} {ps : Array Tmp} {assign body : Code} {Q : Exit → Act → World → Prop} {a : Act} {w : World}
    (hro : F.round = none) (h1 : 1 ≤ n) {gf : Nat} {lb : Array Value} (hg : a.eval g = .func (.func gf) #[] lb) (hFg : F.fn gf) (eg : ∀ args w, (callFunc gf args).run P w = .ok (.enter gf args) w)
    {encs : α → Array Value} {I : σ → World → Prop} {M : σ → α → World → Prop} {nx : σ → α → σ} {E : σ → Prop} {s0 : σ} (X : World → Prop) (hseq : JointQ F (n - 1) P gf lb encs I M nx E s0) (hps : ∀ x, (encs x).size = ps.size)
    (hI : OwnFrom w.heap.size I) (hX : OwnFrom w.heap.size (fun _ : Unit => X)) (hM : ∀ x, OwnFrom w.heap.size (fun s => M s x)) (h0 : I s0 w) (a₁ : α → Act)
    (hassign : ∀ (l : Nat) (x : α) (W : World) (K : Act → World → Prop), K (a₁ x) W →
      assign.wpIn (F.inRound l) (n - 1 - 1) P (Exit.then K (fun _ _ _ => False)) { tmps := (ps.zip (encs x)).foldl (fun t (p, v) => t.setIfInBounds p v) a.tmps, defers := [] } W)
    (hbody : ∀ (l : Nat) (s : σ) (x : α) (W : World), M s x W → body.wpIn (F.inRound l) (n - 1 - 1) P (goesQ w.heap.size (I (nx s x)) X W) (a₁ x) W)
    (hdone : ∀ (D : Nat) (s : σ) (W : World), w.heap.size ≤ D → E s → I s W → W.heap[D]? = some (.deferred (some [])) → Q .normal { a with defers := { target := .collected D, args := #[] } :: a.defers } W)
    (hstop : ∀ (D : Nat) (W : World), w.heap.size ≤ D → X W → W.heap[D]? = some (.deferred (some [])) → Code.ret.wpIn F n P Q { a with defers := { target := .collected D, args := #[] } :: a.defers } W) :
    (Code.rangeFunc g ps assign body).wpIn F n P Q a w := by
  refine wpIn_rangeFunc fun fn hfn => ?_
  rw [hro]
  -- the record in its states
  let rec_ : LoopState → Option Code → Loop := fun st pe => { state := st, pending := pe, fn := fn, tmps := a.tmps, params := ps, assign := assign, body := body, defers := w.heap.size }
  let W1 := (w.alloc (.deferred (some []))).alloc (.loop (rec_ .ready none))
  have hL : W1.heap[w.heap.size + 1]? = some (.loop (rec_ .ready none)) := by
    have := World.alloc_heap_new (w.alloc (.deferred (some []))) (.loop (rec_ .ready none)); rwa [World.size_alloc] at this
  have hD : W1.heap[w.heap.size]? = some (.deferred (some [])) := (Below.heap_alloc _ _ _ (by simp)).trans (World.alloc_heap_new w _)
  refine ⟨w.heap.size + 1, [{ target := .collected w.heap.size, args := #[] }], W1, { target := .fn (.func gf) lb, args := #[.func (.yield (w.heap.size + 1)) #[] #[]] }, W1, gf, #[.func (.yield (w.heap.size + 1)) #[] #[]] ++ lb, W1,
    run_enterLoop_outer _ _ _ _ _, by simp only [resolve, hg]; simp [go_sem], fun f' hf' => by simp [Target.leads] at hf'; subst hf'; exact hFg, by simp [invoke, go_sem, eg], fun _ => h1, ?_⟩
  refine (hseq (w.heap.size + 1) (fun W => W.heap[w.heap.size + 1]? = some (.loop (rec_ .ready none)) ∧ W.heap[w.heap.size]? = some (.deferred (some [])))
    (fun W => X W ∧ W.heap[w.heap.size + 1]? = some (.loop (rec_ .done (some .ret))) ∧ W.heap[w.heap.size]? = some (.deferred (some []))) W1
    (fun A B hA k => ⟨k _ _ hA.1 rfl, k _ _ hA.2 rfl⟩) (fun s x W hm hb => ?_) (hI.alloc _ (hI.alloc _ h0)) ⟨hL, hD⟩).mono ?_
  · obtain ⟨hl, hd⟩ := hb
    have hy := run_yield (P := P) (args := encs x) hl (hps x)
    refine ⟨fn, _, assign, body, hy, roundIn_of_wpIn hfn (hassign _ x W _ ⟨_, run_beginRound hl rfl, ?_⟩)⟩
    have hl2 : (W.putObj (w.heap.size + 1) (.loop (rec_ .busy none))).heap[w.heap.size + 1]? = some (.loop (rec_ .busy none)) := World.putObj_heap_same (Array.getElem?_eq_some_iff.1 hl).1
    have hd2 : (W.putObj (w.heap.size + 1) (.loop (rec_ .busy none))).heap[w.heap.size]? = some (.deferred (some [])) := (World.putObj_heap_other (by omega)).trans hd
    refine wpIn_mono (hbody _ s x _ ((hM x).putObj _ hm (by omega) hl rfl)) ?_
    rintro e a3 W3 hp
    cases e with
    | normal =>
      obtain ⟨hk, _, hi⟩ := hp
      have hl3 := hk.same _ _ (by omega) hl2 rfl
      exact ⟨_, _, run_endRound (P := P) none hl3, .inl ⟨rfl, hI.putObj _ hi (by omega) hl3 rfl, World.putObj_heap_same (Array.getElem?_eq_some_iff.1 hl3).1, (World.putObj_heap_other (by omega)).trans (hk.same _ _ (Nat.le_refl _) hd2 rfl)⟩⟩
    | ret =>
      obtain ⟨hk, _, hx⟩ := hp
      have hl3 := hk.same _ _ (by omega) hl2 rfl
      exact ⟨_, _, run_endRound (P := P) (some .ret) hl3, .inr ⟨rfl, hX.putObj (s := ()) _ hx (by omega) hl3 rfl, World.putObj_heap_same (Array.getElem?_eq_some_iff.1 hl3).1, (World.putObj_heap_other (by omega)).trans (hk.same _ _ (Nat.le_refl _) hd2 rfl)⟩⟩
    | exit id => exact Code.noConfusion hp.2.1
    | goto t => exact Code.noConfusion hp.2.1
    | panic ch => exact hp.elim
    | outgrown => exact hp.elim
  · rintro e W2 ⟨⟨v, rfl⟩, ⟨s, hE, hi, hl, hd⟩ | ⟨hx, hl, hd⟩⟩
    · exact ⟨none, _, run_endLoop (P := P) hl (by simp [rec_]), hdone _ s _ (Nat.le_refl _) hE (hI.putObj _ hi (by omega) hl rfl) ((World.putObj_heap_other (by omega)).trans hd)⟩
    · exact ⟨some .ret, _, run_endLoop (P := P) hl (by simp [rec_]), hstop _ _ (Nat.le_refl _) (hX.putObj (s := ()) _ hx (by omega) hl rfl) ((World.putObj_heap_other (by omega)).trans hd)⟩
end Go.Proofs.YtbbmgjcabmjjdaaGreatDoor
