/- A law's own store of objects: New, begun, and each call. -/
import Derived.Test.YtojblddfggoecaaGreatORefs
import Derived.Test.YtojblddfggoecaaGreatONew
namespace Go.Proofs.YtojblddfggoecaaGreat
open Go.RowKit
theorem onew_nil (w : World) : Calls Tryz.prog 19 #[.pointer none] w fun e w' => e = .returned (.tuple #[.pointer none, .int .i64 1]) ∧ w' = w := by
  go_enter Tryz.func19, Tryz.ntmps19
  go_wp2
  go_ret2
  exact ⟨rfl, rfl⟩
/-- A law's own store: all that is its lies from block B on; m counts its calls. -/
structure Ev (B : Nat) (w0 w : World) (P : Nat → Prop) (so p b W N m : Nat) (cs ws : Nat → Int) (O : List Ob) : Prop where
  sto : ∃ mb T xs nn D, Sto w P so mb p b W 0 N 3 cs T xs ws nn D O ∧ T ≤ 20 * (m : Int) ∧ nn ≤ m
  few : Few (400 * (m : Int)) cs
  own : ∀ k, P k → B ≤ k
  bel : Below B w0 w
  size : B ≤ w.heap.size
/-- What a call leaves. -/
def EvT (B : Nat) (w0 w : World) (P : Nat → Prop) (so p b W N m : Nat) (cs ws : Nat → Int) (O : List Ob) (w' : World) : Prop :=
  ∃ P', Ev B w0 w' P' so p b W N m cs ws O ∧ Bt P w w' ∧ Wider P P' w
section
variable {B : Nat} {w0 w : World} {P : Nat → Prop} {so p b W N m : Nat} {cs ws : Nat → Int} {O : List Ob}
theorem Ev.below {w' : World} (h : Ev B w0 w P so p b W N m cs ws O) (hb : Below w.heap.size w w') : Ev B w0 w' P so p b W N m cs ws O := by
  obtain ⟨mb, T, xs, nn, D, h1, h2⟩ := h.sto
  exact ⟨⟨mb, T, xs, nn, D, h1.below hb, h2⟩, h.few, h.own, h.bel.trans (hb.mono h.size), Nat.le_trans h.size hb.size⟩
theorem Ev.keep {w' : World} (h : Ev B w0 w P so p b W N m cs ws O) (e : ∀ k, P k → w'.heap[k]? = w.heap[k]?) (hs : w.heap.size ≤ w'.heap.size) (hb : Below B w0 w') : Ev B w0 w' P so p b W N m cs ws O := by
  obtain ⟨mb, T, xs, nn, D, h1, h2⟩ := h.sto
  exact ⟨⟨mb, T, xs, nn, D, ⟨h1.raw.keep e hs, h1.inv, h1.mp⟩, h2⟩, h.few, h.own, hb, Nat.le_trans h.size hs⟩
theorem Ev.lt (h : Ev B w0 w P so p b W N m cs ws O) : ∀ k, P k → k < w.heap.size := by
  obtain ⟨mb, T, xs, nn, D, h1, _⟩ := h.sto
  exact h1.raw.lt
theorem Ev.turn {w' : World} {P' : Nat → Prop} {m' : Nat} {cs' ws' : Nat → Int} {O' : List Ob} (h : Ev B w0 w P so p b W N m cs ws O) (hs : ∃ mb T xs nn D, Sto w' P' so mb p b W 0 N 3 cs' T xs ws' nn D O' ∧ T ≤ 20 * (m' : Int) ∧ nn ≤ m') (hf : Few (400 * (m' : Int)) cs') (hB : Bt P w w') (hW : Wider P P' w) :
    EvT B w0 w P so p b W N m' cs' ws' O' w' :=
  ⟨P', ⟨hs, hf, fun k hk => (hW k hk).elim (h.own k) (fun q => Nat.le_trans h.size q), Bt.under h.bel h.size h.own hB, Nat.le_trans h.size hB.size⟩, hB, hW⟩
theorem Ev.inv (h : Ev B w0 w P so p b W N m cs ws O) : ∃ len, OInv ws 0 N len O ∧ len + tot O = N := by
  obtain ⟨mb, T, xs, nn, D, h1, _⟩ := h.sto
  exact ⟨_, h1.inv, by have := h1.inv.sum; omega⟩
theorem Ev.fit (h : Ev B w0 w P so p b W N m cs ws O) : N ≤ 1000 := by
  obtain ⟨mb, T, xs, nn, D, h1, _⟩ := h.sto
  exact h1.raw.fit
theorem v_make (h : Ev B w0 w P so p b W N m cs ws O) (hm : m ≤ 10000) (g n : Nat) (hg : g < 3) (hn : n ≤ 64) (hf : 1 + (n + 5) / 6 + tot O ≤ N) :
    Calls Tryz.prog 14 #[.pointer (some ⟨so, 0, none⟩), .int .i64 g, .int .i64 n] w fun e w' => ∃ (c : Nat → Nat) (cs' ws' : Nat → Int), e = .returned (.tuple #[.int .i64 ((c 0 : Int) + 1), .int .i64 0]) ∧ Chn 0 N ws ws' (frg n) c ∧ EvT B w0 w P so p b W N (m + 1) cs' ws' (O ++ [⟨n, c⟩]) w' := by
  obtain ⟨mb, T, xs, nn, D, h1, h2, h3⟩ := h.sto
  have hs := h1.inv.sum
  refine (make_ok h1 g n hg hn (by omega) (by omega) (by omega)).mono ?_
  rintro e w' ⟨c, xs', cs', ws', D', P', rfl, hC, hl, hgr, hS, hB, hW⟩
  have h9 := frg_nine hn
  exact ⟨c, cs', ws', rfl, hC, h.turn ⟨mb, _, xs', _, D', hS, by omega, by omega⟩ ((hgr _ (by omega) (by omega) h.few).mono (by omega)) hB hW⟩
theorem v_none (h : Ev B w0 w P so p b W N m cs ws O) (hm : m ≤ 10000) (A : Int) (n : Nat) (hA : 0 ≤ A ∧ A < 3) (hn : n ≤ 64) (hf : ¬ 1 + (n + 5) / 6 + tot O ≤ N) :
    Calls Tryz.prog 14 #[.pointer (some ⟨so, 0, none⟩), .int .i64 A, .int .i64 n] w fun e w' => e = .returned (.tuple #[.int .i64 0, .int .i64 801]) ∧ Below w.heap.size w w' := by
  obtain ⟨mb, T, xs, nn, D, h1, h2, h3⟩ := h.sto
  have hs := h1.inv.sum
  exact make_none h1.raw A n hA hn (by omega) (by omega)
theorem v_agent (h : Ev B w0 w P so p b W N m cs ws O) (A n : Int) (hA : ¬ (0 ≤ A ∧ A < 3)) :
    Calls Tryz.prog 14 #[.pointer (some ⟨so, 0, none⟩), .int .i64 A, .int .i64 n] w fun e w' => e = .returned (.tuple #[.int .i64 0, .int .i64 803]) ∧ w' = w := by
  obtain ⟨mb, T, xs, nn, D, h1, _⟩ := h.sto
  exact make_agent h1.raw A n hA
theorem v_size (h : Ev B w0 w P so p b W N m cs ws O) (A n : Int) (hA : 0 ≤ A ∧ A < 3) (hn : ¬ (0 ≤ n ∧ n ≤ 64)) :
    Calls Tryz.prog 14 #[.pointer (some ⟨so, 0, none⟩), .int .i64 A, .int .i64 n] w fun e w' => e = .returned (.tuple #[.int .i64 0, .int .i64 800]) ∧ w' = w := by
  obtain ⟨mb, T, xs, nn, D, h1, _⟩ := h.sto
  exact make_size h1.raw A n hA hn
theorem v_load (h : Ev B w0 w P so p b W N m cs ws O) (hm : m ≤ 10000) {o : Ob} (ho : o ∈ O) (g i : Nat) (hg : g < 3) (hi : i < o.n) :
    Calls Tryz.prog 16 #[.pointer (some ⟨so, 0, none⟩), .int .i64 g, .int .i64 o.ref, .int .i64 i] w fun e w' => e = .returned (.tuple #[.int .i64 (ws (o.ad 0 i)), .int .i64 0]) ∧ ∃ cs', cs' g = cs g + (hop i o.n + 1 : Nat) ∧ EvT B w0 w P so p b W N (m + 1) cs' ws O w' := by
  obtain ⟨mb, T, xs, nn, D, h1, h2, h3⟩ := h.sto
  refine (load_ok8 h1 ho g i hg hi).mono ?_
  rintro e w' ⟨rfl, cs', P', htk, hS, hB, hW⟩
  have h8 := hop_nine (i := i) h1.inv ho
  have hf := h.few g
  exact ⟨rfl, cs', htk.2 hf.1 (by omega), h.turn ⟨mb, T, xs, nn, D, hS, by omega, by omega⟩ ((htk.grew _ (by omega) (by omega) h.few).mono (by omega)) hB hW⟩
theorem v_load_no (h : Ev B w0 w P so p b W N m cs ws O) (A ref i : Int) (hw : (Lit.int .i64 ref).wf = true) (hb : Bad 3 O A ref) :
    Calls Tryz.prog 16 #[.pointer (some ⟨so, 0, none⟩), .int .i64 A, .int .i64 ref, .int .i64 i] w fun e w' => e = .returned (.tuple #[.int .i64 0, .int .i64 803]) ∧ w' = w := by
  obtain ⟨mb, T, xs, nn, D, h1, h2, h3⟩ := h.sto
  exact load_no h1 A ref i hw hb
theorem v_load_bounds (h : Ev B w0 w P so p b W N m cs ws O) {o : Ob} (ho : o ∈ O) (g : Nat) (hg : g < 3) (i : Int) (hi : ¬ (0 ≤ i ∧ i < o.n)) :
    Calls Tryz.prog 16 #[.pointer (some ⟨so, 0, none⟩), .int .i64 g, .int .i64 o.ref, .int .i64 i] w fun e w' => e = .returned (.tuple #[.int .i64 0, .int .i64 802]) ∧ w' = w := by
  obtain ⟨mb, T, xs, nn, D, h1, h2, h3⟩ := h.sto
  exact load_bounds h1 ho g hg i hi
theorem v_put (h : Ev B w0 w P so p b W N m cs ws O) (hm : m ≤ 10000) {a : Nat} {o : Ob} (ha : O[a]? = some o) (g i : Nat) (v : Int) (hg : g < 3) (hi : i < o.n) :
    Calls Tryz.prog 15 #[.pointer (some ⟨so, 0, none⟩), .int .i64 g, .int .i64 o.ref, .int .i64 i, .int .i64 v] w fun e w' => e = .returned (.int .i64 0) ∧ ∃ cs', cs' g = cs g + (hop i o.n + 1 : Nat) ∧ EvT B w0 w P so p b W N (m + 1) cs' (upd ws (o.ad 0 i) v) O w' := by
  obtain ⟨mb, T, xs, nn, D, h1, h2, h3⟩ := h.sto
  refine (put_ok8 h1 ha g i v hg hi).mono ?_
  rintro e w' ⟨rfl, cs', P', htk, hS, hB, hW⟩
  have h8 := hop_nine (i := i) h1.inv (List.mem_of_getElem? ha)
  have hf := h.few g
  exact ⟨rfl, cs', htk.2 hf.1 (by omega), h.turn ⟨mb, T, xs, nn, D, hS, by omega, by omega⟩ ((htk.grew _ (by omega) (by omega) h.few).mono (by omega)) hB hW⟩
theorem v_put_no (h : Ev B w0 w P so p b W N m cs ws O) (A ref i v : Int) (hw : (Lit.int .i64 ref).wf = true) (hb : Bad 3 O A ref) :
    Calls Tryz.prog 15 #[.pointer (some ⟨so, 0, none⟩), .int .i64 A, .int .i64 ref, .int .i64 i, .int .i64 v] w fun e w' => e = .returned (.int .i64 803) ∧ w' = w := by
  obtain ⟨mb, T, xs, nn, D, h1, h2, h3⟩ := h.sto
  exact put_no h1 A ref i v hw hb
theorem v_put_bounds (h : Ev B w0 w P so p b W N m cs ws O) {o : Ob} (ho : o ∈ O) (g : Nat) (hg : g < 3) (i v : Int) (hi : ¬ (0 ≤ i ∧ i < o.n)) :
    Calls Tryz.prog 15 #[.pointer (some ⟨so, 0, none⟩), .int .i64 g, .int .i64 o.ref, .int .i64 i, .int .i64 v] w fun e w' => e = .returned (.int .i64 802) ∧ w' = w := by
  obtain ⟨mb, T, xs, nn, D, h1, h2, h3⟩ := h.sto
  exact put_bounds h1 ho g hg i v hi
theorem v_free (h : Ev B w0 w P so p b W N m cs ws O) (hm : m ≤ 10000) {a : Nat} {o : Ob} (ha : O[a]? = some o) (g : Nat) (hg : g < 3) :
    Calls Tryz.prog 10 #[.pointer (some ⟨so, 0, none⟩), .int .i64 g, .int .i64 o.ref] w fun e w' => e = .returned (.int .i64 0) ∧ ∃ cs', EvT B w0 w P so p b W N (m + 1) cs' (freed 0 N ws o.c (frg o.n)) (O.eraseIdx a) w' := by
  obtain ⟨mb, T, xs, nn, D, h1, h2, h3⟩ := h.sto
  refine (gone_ok h1 ha g hg (by omega)).mono ?_
  rintro e w' ⟨rfl, xs', cs', D', P', hgr, hl, hS, hB, hW⟩
  have h9 := frg_nine (h1.inv.size o (List.mem_of_getElem? ha))
  exact ⟨rfl, cs', h.turn ⟨mb, _, xs', nn, D', hS, by omega, by omega⟩ ((hgr _ (by omega) (by omega) h.few).mono (by omega)) hB hW⟩
theorem v_free_no (h : Ev B w0 w P so p b W N m cs ws O) (A ref : Int) (hw : (Lit.int .i64 ref).wf = true) (hb : Bad 3 O A ref) :
    Calls Tryz.prog 10 #[.pointer (some ⟨so, 0, none⟩), .int .i64 A, .int .i64 ref] w fun e w' => e = .returned (.int .i64 803) ∧ w' = w := by
  obtain ⟨mb, T, xs, nn, D, h1, h2, h3⟩ := h.sto
  exact gone_no h1 A ref hw hb
theorem v_sz (h : Ev B w0 w P so p b W N m cs ws O) {o : Ob} (ho : o ∈ O) :
    Calls Tryz.prog 23 #[.pointer (some ⟨so, 0, none⟩), .int .i64 o.ref] w fun e w' => e = .returned (.tuple #[.int .i64 o.n, .int .i64 0]) ∧ w' = w := by
  obtain ⟨mb, T, xs, nn, D, h1, h2, h3⟩ := h.sto
  exact size_yes h1.raw o.ref (h1.wf ho).1 o.n (h1.mp.at_ o ho) (h1.yes ho)
theorem v_sz_no (h : Ev B w0 w P so p b W N m cs ws O) {ref : Int} (hw : (Lit.int .i64 ref).wf = true) (hn : ∀ o ∈ O, o.ref ≠ ref) :
    Calls Tryz.prog 23 #[.pointer (some ⟨so, 0, none⟩), .int .i64 ref] w fun e w' => e = .returned (.tuple #[.int .i64 0, .int .i64 803]) ∧ w' = w := by
  obtain ⟨mb, T, xs, nn, D, h1, h2, h3⟩ := h.sto
  exact size_no h1.raw ref hw (h1.no hn)
theorem v_refs (h : Ev B w0 w P so p b W N m cs ws O) : Calls Tryz.prog 7 #[.pointer (some ⟨so, 0, none⟩)] w (RefsPost w O) := by
  obtain ⟨mb, T, xs, nn, D, h1, h2, h3⟩ := h.sto
  exact refs_ok h1
/-- What Used leaves. -/
def UsedPost (w : World) (n : Nat) (e : Ending) (w' : World) : Prop := ∃ ao k, e = .returned (.slice ao n k) ∧ Below w.heap.size w w'
theorem v_used (h : Ev B w0 w P so p b W N m cs ws O) : Calls Tryz.prog 12 #[.pointer (some ⟨p, 0, none⟩)] w (UsedPost w (tot O)) := by
  obtain ⟨mb, T, xs, nn, D, h1, h2, h3⟩ := h.sto
  obtain ⟨P0, hP, _⟩ := h1.raw.pl
  obtain ⟨_, _, _, _, hc, _, hn, hr⟩ := hP.facts
  have e1 := cnt_free (C := fun f => ws (0 + 8 * N + f)) (n := N) (fun f hf => (hc f hf).2.2) hn hr
  have e2 : cnt (fun f => ws (0 + 8 * N + f)) N = tot O := by have := h1.inv.sum; omega
  refine (used_ok hP).mono ?_
  rintro e w' ⟨v, F, rfl, hM, _, hb⟩
  rw [e2] at hM
  obtain ⟨ao, k, rfl, _⟩ := hM.ints
  exact ⟨ao, k, rfl, hb⟩
theorem v_steps (h : Ev B w0 w P so p b W N m cs ws O) (g : Nat) (hg : g < 3) : Calls Tryz.prog 45 #[.pointer (some ⟨b, 0, none⟩), .int .i64 g] w fun e w' => e = .returned (.int .i64 (cs g)) ∧ w' = w := by
  obtain ⟨mb, T, xs, nn, D, h1, h2, h3⟩ := h.sto
  obtain ⟨P0, ⟨Q, s, bc, pl, k, hP⟩, _⟩ := h1.raw.pl
  exact gi_steps hP.good g hg
theorem v_steps_no (h : Ev B w0 w P so p b W N m cs ws O) (A : Int) (hA : ¬ (0 ≤ A ∧ A < 3)) : Calls Tryz.prog 45 #[.pointer (some ⟨b, 0, none⟩), .int .i64 A] w fun e w' => e = .returned (.int .i64 0) ∧ w' = w := by
  obtain ⟨mb, T, xs, nn, D, h1, h2, h3⟩ := h.sto
  obtain ⟨P0, ⟨Q, s, bc, pl, k, hP⟩, _⟩ := h1.raw.pl
  exact gi_steps_out hP.good A (by omega)
end
set_option maxRecDepth 20000 in
theorem begun8_ok (n : Nat) (w : World) (n1 : 1 ≤ n) (n2 : n ≤ 1000) :
    Calls Tryz.prog 5 #[.int .i64 n] w fun e w' => ∃ (so p b : Nat) (P : Nat → Prop), e = .returned (.tuple #[.pointer (some ⟨so, 0, none⟩), .pointer (some ⟨p, 0, none⟩), .pointer (some ⟨b, 0, none⟩), .bool true]) ∧ Ev w.heap.size w w' P so p b (14 * n + 64) n 0 (fun _ => 0) (fun _ => 0) [] := by
  have hz : zap (fun _ => 0) (0 + 8 * n) n = fun _ => 0 := by funext j; unfold zap; split <;> rfl
  have HI : Hid (OInv (fun _ => 0) 0 n (up n 1).length []) := by rw [up_len]; exact OInv.none _ _ _
  go_enter Tryz.func5, Tryz.ntmps5
  go_wp2_with (first
    | (go_at_call 17; refine (new_at _ _ (14 * n + 64) 3 _ (by omega) rfl (by omega) (by omega) (by omega) (by omega)).mono ?_; rintro e w1 ⟨b, bw, bs, rfl, hA, hb1, l0, l1, l2⟩)
    | (go_at_call 18; refine (pnew_ok hA _ _ 0 n rfl rfl n1 n2 (by omega) (by omega) (by omega)).mono ?_; rintro e w2 ⟨p, P, rfl, hP, hB, hQ⟩; rw [hz] at hP; have hnw := onew_ok hP HI.out)
    | (go_at_call 19; refine hnw.mono ?_; rintro e w3 ⟨so, mb, rfl, hS, hb3, q1, q2⟩)
    | (go_at_call 11; refine (num_any _ _).mono ?_; rintro e w9 ⟨rfl, hw9⟩; replace hw9 := hw9.symm; subst hw9))
  have hb2 : Below w.heap.size w w2 := Bt.under hb1 hb1.size (fun j hj => by rcases hj with e | e <;> omega) hB
  refine bodyPost_ret (results_tmp4 rfl _ _) rfl ⟨so, p, b, _, rfl, ⟨mb, 0, _, 0, _, hS, by omega, by omega⟩, fun j => by simp, fun k hk => ?_, hb2.trans (hb3.mono hb2.size), Nat.le_trans hb2.size hb3.size⟩
  have := hb1.size
  have := hb2.size
  rcases hk with r | rfl | rfl
  · rcases hQ k r with e | e | e | e <;> omega
  · omega
  · omega
end Go.Proofs.YtojblddfggoecaaGreat
