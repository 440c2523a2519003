/- ObjectActs: free. -/
import Derived.Test.YtojblddfggoecaaGreatOWd
import Derived.BigRegion
import Derived.BigQuiet
namespace Go.Proofs.YtojblddfggoecaaGreat
open Go.RowKit
theorem row_form {w : World} {B : Nat} {e : TypeId} {v : Value} {R : List Value} (h : Rw w B e v R) (hn : 0 < R.length) : ∃ p cap, v = .slice (some ⟨p, 0, none⟩) R.length cap ∧ R.length ≤ cap ∧ cap ≤ maxLen := by
  obtain ⟨ao, cap, rfl⟩ := h.form
  obtain ⟨p, rfl, h1, h2, _⟩ := h.cells hn
  exact ⟨p, cap, rfl, h1, h2⟩
/-- A new row of all but the k-th: what the two appends do. x2: where the second slice lies. -/
theorem del_row {t e : TypeId} {z : Value} {bytes : Nat} (hu : Tryz.prog.underlying t = some (.slice e)) (hinf : (Tryz.prog.info? e).map (fun i => (i.zero, i.size, i.bytes)) = some (some z, 1, bytes)) (hz : z.cells.size = 1) (hby : bytes ≤ 24) {w : World} {B p cap : Nat} {R : List Value} (h : Rw w B e (.slice (some ⟨p, 0, none⟩) R.length cap) R) (h1 : ∀ u ∈ R, u.oneCell' = true) (hB : B ≤ w.heap.size) {k : Nat} (hk : k < R.length) (hn : R.length ≤ 1000) (x2 : Addr) (hx2 : x2 = ⟨p, k + 1, none⟩ ∨ k + 1 = R.length) (c2 : Nat) :
    ∃ v1 w1 v2 w2, (Builtin.append_ #[t, t] t #[.slice (some ⟨w.heap.size, 0, none⟩) 0 0, .slice (some ⟨p, 0, none⟩) k cap]).run Tryz.prog (w.alloc (.cells #[] e)).drew = .ok v1 w1 ∧
      (Builtin.append_ #[t, t] t #[v1, .slice (some x2) (R.length - (k + 1)) c2]).run Tryz.prog w1 = .ok v2 w2 ∧ Rw w2 B e v2 (R.eraseIdx k) ∧ w.grownBy w2 none ∧ w.grownBy w1 none ∧ (∀ j, v2.ownBlock = some j → w.heap.size ≤ j) := by
  have hb0 : Below w.heap.size w (w.alloc (.cells #[] e)).drew := ((Below.refl _ _).alloc (Nat.le_refl _) _).drew
  have hp : p < w.heap.size := (h.lt rfl).2
  obtain ⟨p', ep, _, _, _, hc⟩ := h.cells (by omega)
  simp only [Option.some.injEq, Addr.mk.injEq, and_true] at ep
  subst ep
  have hz0 : Rw (w.alloc (.cells #[] e)) w.heap.size e (.slice (some ⟨w.heap.size, 0, none⟩) 0 0) [] := World.ownsRow_made w #[] 0 (Nat.le_refl _) (by decide) rfl
  have hsz : (w.alloc (.cells #[] e)).heap.size = w.heap.size + 1 := Go.Deep.nblk_alloc _ _
  have hcell : ∀ (W : World), W.heap[p]? = w.heap[p]? → ∀ i u, R[i]? = some u → W.cell? ⟨p, i, none⟩ = some u := fun W e i u hu => (World.cell?_of_block (a := ⟨p, i, none⟩) e).trans (hc i u hu)
  obtain ⟨v1, w1, hr1, hR1, hg1, hat1, hs1⟩ := Rw.add hu hinf hz hby hz0 ((Below.refl _ _).drew) (by omega) ⟨p, 0, none⟩ k cap (R.take k) (by rw [List.length_take]; omega) (by
    intro j u hj
    rw [add_lit, Nat.zero_add]
    have hj2 : R[j]? = some u := by
      rw [List.getElem?_take] at hj
      split at hj
      · exact hj
      · cases hj
    exact hcell _ (hb0.block p hp) j u hj2) (fun u hu => h1 u (List.mem_of_mem_take hu)) (by simp; omega)
  rw [List.nil_append] at hR1
  have g1 : w.grownBy w1 none := ⟨hg1.os, hg1.tape, hg1.output, by have := hg1.size; rw [hsz] at this; omega, fun j hj _ => (hg1.block j (by rw [hsz]; omega) (fun r => by simp only [Value.ownBlock, Option.some.injEq] at r; omega)).trans (Below.heap_alloc _ _ j hj)⟩
  obtain ⟨v2, w2, hr2, hR2, hg2, hat2, hs2⟩ := Rw.add hu hinf hz hby hR1 (Below.refl _ _) (by have := g1.size; omega) x2 (R.length - (k + 1)) c2 (R.drop (k + 1)) (by rw [List.length_drop]) (by
    intro j u hj
    have hj2 : R[k + 1 + j]? = some u := by rw [List.getElem?_drop] at hj; exact hj
    rcases hx2 with rfl | q
    · rw [add_lit]
      exact hcell w1 (g1.block p hp (by simp)) _ u hj2
    · have := (List.getElem?_eq_some_iff.1 hj2).1; omega) (fun u hu => h1 u (List.mem_of_mem_drop hu)) (by rw [List.length_take]; omega)
  have own1 : ∀ j, v1.ownBlock = some j → w.heap.size ≤ j := fun j hj => (hR1.lt hj).1
  refine ⟨v1, w1, v2, w2, hr1, hr2, ?_, ⟨hg2.os.trans g1.os, hg2.tape.trans g1.tape, hg2.output.trans g1.output, Nat.le_trans g1.size hg2.size, fun j hj _ => (hg2.block j (Nat.lt_of_lt_of_le hj g1.size) (fun r => by have := own1 j r.symm; omega)).trans (g1.block j hj (by simp))⟩, g1, fun j hj => (hR2.lt hj).1⟩
  have hR3 : Rw w2 w.heap.size e v2 (R.eraseIdx k) := by rw [List.eraseIdx_eq_take_drop_succ]; exact hR2
  refine ⟨hR3.1, ?_⟩
  rcases hR3.2 with r | ⟨g, cap', cur, rfl, q1, q2⟩
  · exact .inl r
  · exact .inr ⟨g, cap', cur, rfl, Nat.le_trans hB q1, q2⟩
attribute [local go_sem ↓] app_O
section
variable {B : Nat} {w0 w : World} {P : Nat → Prop} {so p b W N m : Nat} {cs ws : Nat → Int} {O : List Ob} {y : Nat} {vr vo : Value} {L : List Rc}
theorem map_erase {α β : Type} (g : α → β) : ∀ (L : List α) (k : Nat), (L.map g).eraseIdx k = (L.eraseIdx k).map g
  | [], k => rfl
  | a :: r, 0 => rfl
  | a :: r, k + 1 => by simp only [List.map_cons, List.eraseIdx_cons_succ, map_erase g r k]
theorem Agr8.gone {len : Nat} (h : Agr8 ws O L) (hI : OInv ws 0 N len O) {i : Nat} {x : Rc} : Agr8 (freed 0 N ws x.o.c (frg x.o.n)) (O.eraseIdx i) (L.eraseIdx i) := by
  refine ⟨by rw [h.1, map_erase], fun z hz j hj => ?_⟩
  have hz' : z ∈ L := List.mem_of_mem_eraseIdx hz
  rw [hI.free_old _ (by rw [h.1]; exact List.mem_map.2 ⟨z, hz', rfl⟩)]
  exact h.2 z hz' j hj
theorem rowR_erase (L : List Rc) (k : Nat) : (rowR L).eraseIdx k = rowR (L.eraseIdx k) := by unfold rowR; rw [map_erase]
theorem rowO_erase (L : List Rc) (k : Nat) : (rowO L).eraseIdx k = rowO (L.eraseIdx k) := by unfold rowO; rw [map_erase]
set_option maxRecDepth 20000 in
set_option maxHeartbeats 4000000 in
theorem free8_no (h : Play8 B w0 w P so p b W N m cs ws O y vr vo (rowR L) L) (hA : Agr8 ws O L) (hL : L.length ≤ 1000) (K A q I n t : Int) (hw : (Lit.int .i64 t).wf = true) (R : Int) (hR : Fnd L t R) (hn : ¬ ((0 ≤ A ∧ A < 3) ∧ ¬ R < 0)) :
    Calls Tryz.prog 22 #[.pointer (some ⟨y, 0, none⟩), .agg #[.int .i64 K, .int .i64 A, .int .i64 q, .int .i64 I, .int .i64 n], .int .i64 t] w (ActPost8 B w0 so p b W N (m + 1) y) := by
  have hx0 := Pb8.start h K A q I n
  have HA : Hid (Agr8 ws O L) := hA
  have hat := at8_ok hx0.play hL t R hR
  have hbad : Bad 3 O A t := by
    by_cases hag : 0 ≤ A ∧ A < 3
    · exact hA.bad (hR.miss (Classical.byContradiction fun r => hn ⟨hag, r⟩)).2
    · exact fun r => hag r.1
  have hF : ∀ u, Pb8 B w0 u P so p b W N m cs ws O y vr vo (rowR L) L w.heap.size K A q I n → Calls Tryz.prog 10 #[.pointer (some ⟨so, 0, none⟩), .int .i64 A, .int .i64 t] u fun e w' => e = .returned (.int .i64 803) ∧ w' = u := fun u hu => v_free_no hu.play.ev A t hw hbad
  have HF : Hid (∀ u, Pb8 B w0 u P so p b W N m cs ws O y vr vo (rowR L) L w.heap.size K A q I n → Calls Tryz.prog 10 #[.pointer (some ⟨so, 0, none⟩), .int .i64 A, .int .i64 t] u fun e w' => e = .returned (.int .i64 803) ∧ w' = u) := hF
  have HR : Hid (R < 0 → R = -1) := fun r => (hR.miss r).1
  clear h hR hw hbad hA hF
  go_enter Tryz.func22, Tryz.ntmps22
  go_wp2_with (go_at_call 8; refine hat.mono ?_; rintro e w9 ⟨rfl, hw9⟩; replace hw9 := hw9.symm; subst hw9)
  clear hat
  generalize World.alloc _ _ = W1 at *
  have c1 := hx0.play.cells
  have f1 := hx0.five
  have hd := hx0.below (below_drewN W1 1 _)
  have hG := HF.out _ hd
  go_region_held3 (fun w' => w'.cell? ⟨y, 0, none⟩ = some (.pointer (some ⟨so, 0, none⟩)) ∧ w'.cell? ⟨w.heap.size, 1, none⟩ = some (.int .i64 A)) (go_keep) ((go_at_call 10; refine hG.mono ?_; rintro e w6 ⟨rfl, hw6⟩; have hx6 : Pb8 B w0 w6 P so p b W N m cs ws O y vr vo (rowR L) L w.heap.size K A q I n := hw6 ▸ hd; have c6 := hx6.play.cells; have f6 := hx6.five; clear hw6))
  clear hx0 hd c1 f1 hG HF
  by_cases a0 : A < 0
  · clear hn
    go_wp2_with (go_at_call 11; refine (num_any _ _).mono ?_; rintro e w9 ⟨rfl, hw9⟩; replace hw9 := hw9.symm; subst hw9)
    go_ret
    exact ⟨rfl, Edge8.same hx6.play HA.out⟩
  · have a2 : decide (A < 0) = false := by simp; omega
    by_cases a1 : 3 ≤ A
    · clear hn
      go_wp2_with (go_at_call 11; refine (num_any _ _).mono ?_; rintro e w9 ⟨rfl, hw9⟩; replace hw9 := hw9.symm; subst hw9)
      go_ret
      exact ⟨rfl, Edge8.same hx6.play HA.out⟩
    · have a3 : decide (3 ≤ A) = false := by simp; omega
      have hR1 := HR.out (by omega)
      subst hR1
      clear hn
      go_wp2_with (go_at_call 11; refine (num_any _ _).mono ?_; rintro e w9 ⟨rfl, hw9⟩; replace hw9 := hw9.symm; subst hw9)
      go_ret
      exact ⟨rfl, Edge8.same hx6.play HA.out⟩
set_option maxRecDepth 20000 in
set_option maxHeartbeats 4000000 in
theorem free8_ok (h : Play8 B w0 w P so p b W N m cs ws O y vr vo (rowR L) L) (hA : Agr8 ws O L) (hL : L.length ≤ 1000) (hm : m ≤ 5000) (K A q I n : Int) (ha : 0 ≤ A ∧ A < 3) {i : Nat} {x : Rc} (hx : L[i]? = some x) (hR : Fnd L x.o.ref i) :
    Calls Tryz.prog 22 #[.pointer (some ⟨y, 0, none⟩), .agg #[.int .i64 K, .int .i64 A, .int .i64 q, .int .i64 I, .int .i64 n], .int .i64 x.o.ref] w (ActPost8 B w0 so p b W N (m + 1) y) := by
  have hx0 := Pb8.start h K A q I n
  have HA : Hid (Agr8 ws O L) := hA
  have hat := at8_ok hx0.play hL x.o.ref i hR
  have hO := hA.get hx
  have hiN : i < L.length := (List.getElem?_eq_some_iff.1 hx).1
  have HI : Hid (∃ len, OInv ws 0 N len O ∧ len + tot O = N) := h.ev.inv
  have a2 : decide (A < 0) = false := by simp; omega
  have a3 : decide (3 ≤ A) = false := by simp; omega
  have hi0 : decide ((i : Int) < 0) = false := by simp
  obtain ⟨pr, cr, evr, lr, mr⟩ := row_form h.refs (by rw [rowR_len]; omega)
  obtain ⟨po, co, evo, lo, mo⟩ := row_form h.objs (by rw [rowO_len]; omega)
  rw [rowR_len] at evr lr
  rw [rowO_len] at evo lo
  subst evr evo
  clear h hR hA
  go_enter Tryz.func22, Tryz.ntmps22
  go_wp2_with (go_at_call 8; refine hat.mono ?_; rintro e w9 ⟨rfl, hw9⟩; replace hw9 := hw9.symm; subst hw9)
  clear hat
  generalize World.alloc _ _ = W1 at *
  have c1 := hx0.play.cells
  have f1 := hx0.five
  have hd := hx0.below (below_drewN W1 1 _)
  have hG := x_free hd.play.ev (by omega) hO A ha
  go_region_held3 (fun w' => w'.cell? ⟨y, 0, none⟩ = some (.pointer (some ⟨so, 0, none⟩)) ∧ w'.cell? ⟨w.heap.size, 1, none⟩ = some (.int .i64 A)) (go_keep) ((go_at_call 10; refine hG.mono ?_; rintro e w6 ⟨rfl, cs6, hT6⟩; obtain ⟨P6, hx6⟩ := hd.turn hT6; have c6 := hx6.play.cells; have f6 := hx6.five; clear hT6))
  clear hx0 hd c1 f1 hG
  go_wp2_with fail
  have HP6 : Hid (Play8 B w0 w6 P6 so p b W N (m + 1) cs6 (freed 0 N ws x.o.c (frg x.o.n)) (O.eraseIdx i) y (.slice (some ⟨pr, 0, none⟩) L.length cr) (.slice (some ⟨po, 0, none⟩) L.length co) (rowR L) L) := hx6.play
  have hrr : Rw w6 B 3 (.slice (some ⟨pr, 0, none⟩) (rowR L).length cr) (rowR L) := by rw [rowR_len]; exact HP6.out.refs
  have g6 := HP6.out.frozen 4
  clear hx6 f6
  replace c6 := c6.2.2.2.2.1
  have HG : Hid (Agr8 (freed 0 N ws x.o.c (frg x.o.n)) (O.eraseIdx i) (L.eraseIdx i)) := by
    obtain ⟨len, e, _⟩ := HI.out
    exact HA.out.gone e
  generalize freed 0 N ws x.o.c (frg x.o.n) = wsf at *
  go_cut [] from 35 to 53 (fun wx => ∃ v9, Play8 B w0 wx P6 so p b W N (m + 1) cs6 wsf (O.eraseIdx i) y v9 (.slice (some ⟨po, 0, none⟩) L.length co) (rowR (L.eraseIdx i)) L)
  case first =>
    by_cases hcap : cr = i + 1
    · subst hcap
      obtain ⟨v1, w7, v2, w8, hr1, hr2, hR8, hg8, hg7, hown8⟩ := del_row Tryz.underlying29 infoI rfl (by omega) hrr (rowR_one L) HP6.out.ev.size (k := i) (by rw [rowR_len]; exact hiN) (by rw [rowR_len]; exact hL) ⟨pr, 0, none⟩ (.inr (by rw [rowR_len]; omega)) 0
      rw [rowR_len, show L.length - (i + 1) = 0 by omega, app_O] at hr2
      rw [app_O] at hr1
      rw [rowR_erase] at hR8
      obtain ⟨ao8, c8, rfl⟩ := hR8.form
      have hP9 := HP6.out.refs_set (r := none) hg8 (by simp) hR8 (fun k hk => .inr (hown8 k hk))
      have y7 : w7.cell? ⟨y, 4, none⟩ = some (.slice (some ⟨pr, 0, none⟩) L.length (i + 1)) := (World.cell?_of_block (a := ⟨y, 4, none⟩) (hg7.block y HP6.out.y_lt (by simp))).trans c6
      have y8 : w8.cell? ⟨y, 4, none⟩ = some (.slice (some ⟨pr, 0, none⟩) L.length (i + 1)) := (World.cell?_of_block (a := ⟨y, 4, none⟩) (hg8.block y HP6.out.y_lt (by simp))).trans c6
      have z8 : w8.frozen? ⟨y, 4, none⟩ = false := (World.frozen?_of_block (a := ⟨y, 4, none⟩) (hg8.block y HP6.out.y_lt (by simp))).trans g6
      have ya : ∀ ob, (w6.alloc ob).cell? ⟨y, 4, none⟩ = some (.slice (some ⟨pr, 0, none⟩) L.length (i + 1)) := fun ob => cell_alloc c6 ob
      have HP9 : Hid _ := hP9
      clear hP9 hR8 hg8 hg7 hown8
      as_aux_lemma =>
        go_region
        go_wp2_with fail
        go_meet
        exact ⟨_, HP9.out⟩
    · have hc0 : ¬ cr = 0 := by omega
      obtain ⟨v1, w7, v2, w8, hr1, hr2, hR8, hg8, hg7, hown8⟩ := del_row Tryz.underlying29 infoI rfl (by omega) hrr (rowR_one L) HP6.out.ev.size (k := i) (by rw [rowR_len]; exact hiN) (by rw [rowR_len]; exact hL) ⟨pr, i + 1, none⟩ (.inl rfl) (cr - (i + 1))
      rw [rowR_len, app_O] at hr2
      rw [app_O] at hr1
      rw [rowR_erase] at hR8
      obtain ⟨ao8, c8, rfl⟩ := hR8.form
      have hP9 := HP6.out.refs_set (r := none) hg8 (by simp) hR8 (fun k hk => .inr (hown8 k hk))
      have y7 : w7.cell? ⟨y, 4, none⟩ = some (.slice (some ⟨pr, 0, none⟩) L.length cr) := (World.cell?_of_block (a := ⟨y, 4, none⟩) (hg7.block y HP6.out.y_lt (by simp))).trans c6
      have y8 : w8.cell? ⟨y, 4, none⟩ = some (.slice (some ⟨pr, 0, none⟩) L.length cr) := (World.cell?_of_block (a := ⟨y, 4, none⟩) (hg8.block y HP6.out.y_lt (by simp))).trans c6
      have z8 : w8.frozen? ⟨y, 4, none⟩ = false := (World.frozen?_of_block (a := ⟨y, 4, none⟩) (hg8.block y HP6.out.y_lt (by simp))).trans g6
      have ya : ∀ ob, (w6.alloc ob).cell? ⟨y, 4, none⟩ = some (.slice (some ⟨pr, 0, none⟩) L.length cr) := fun ob => cell_alloc c6 ob
      have HP9 : Hid _ := hP9
      clear hP9 hR8 hg8 hg7 hown8
      as_aux_lemma =>
        go_region
        go_wp2_with fail
        go_meet
        exact ⟨_, HP9.out⟩
  case rest =>
  clear c6 g6 hrr HP6
  obtain ⟨v9, hP6⟩ := hcut
  have HP6 : Hid (Play8 B w0 wc P6 so p b W N (m + 1) cs6 wsf (O.eraseIdx i) y v9 (.slice (some ⟨po, 0, none⟩) L.length co) (rowR (L.eraseIdx i)) L) := hP6
  have hrr : Rw wc B 29 (.slice (some ⟨po, 0, none⟩) (rowO L).length co) (rowO L) := by rw [rowO_len]; exact HP6.out.objs
  have g6 := HP6.out.frozen 5
  have c6 := hP6.cells.2.2.2.2.2
  have c66 := hP6.cells
  clear hP6
  go_wp2_with fail
  by_cases hcap : co = i + 1
  · subst hcap
    obtain ⟨v1, w7, v2, w8, hr1, hr2, hR8, hg8, hg7, hown8⟩ := del_row Tryz.underlying30 infoII rfl (by omega) hrr (rowO_one L) HP6.out.ev.size (k := i) (by rw [rowO_len]; exact hiN) (by rw [rowO_len]; exact hL) ⟨po, 0, none⟩ (.inr (by rw [rowO_len]; omega)) 0
    rw [rowO_len, show L.length - (i + 1) = 0 by omega, app_O] at hr2
    rw [app_O] at hr1
    rw [rowO_erase] at hR8
    obtain ⟨ao8, c8, rfl⟩ := hR8.form
    have hP9 := HP6.out.objs_set (r := none) hg8 (by simp) hR8 (fun k hk => .inr (hown8 k hk)) (fun x hx => .inl (List.mem_of_mem_eraseIdx hx)) (HP6.out.apart.sublist (List.eraseIdx_sublist ..))
    have y7 : w7.cell? ⟨y, 5, none⟩ = some (.slice (some ⟨po, 0, none⟩) L.length (i + 1)) := (World.cell?_of_block (a := ⟨y, 5, none⟩) (hg7.block y HP6.out.y_lt (by simp))).trans c6
    have y8 : w8.cell? ⟨y, 5, none⟩ = some (.slice (some ⟨po, 0, none⟩) L.length (i + 1)) := (World.cell?_of_block (a := ⟨y, 5, none⟩) (hg8.block y HP6.out.y_lt (by simp))).trans c6
    have z8 : w8.frozen? ⟨y, 5, none⟩ = false := (World.frozen?_of_block (a := ⟨y, 5, none⟩) (hg8.block y HP6.out.y_lt (by simp))).trans g6
    have ya : ∀ ob, (wc.alloc ob).cell? ⟨y, 5, none⟩ = some (.slice (some ⟨po, 0, none⟩) L.length (i + 1)) := fun ob => cell_alloc c6 ob
    have HP9 : Hid _ := hP9
    clear hP9 hR8 hg8 hg7 hown8
    as_aux_lemma =>
      go_region
      go_wp2_with (go_at_call 11; refine (num_any _ _).mono ?_; rintro e w9 ⟨rfl, hw9⟩; replace hw9 := hw9.symm; subst hw9)
      go_ret
      exact ⟨rfl, P6, cs6, _, _, _, _, _, HP9.out, HG.out⟩
  · have hc0 : ¬ co = 0 := by omega
    obtain ⟨v1, w7, v2, w8, hr1, hr2, hR8, hg8, hg7, hown8⟩ := del_row Tryz.underlying30 infoII rfl (by omega) hrr (rowO_one L) HP6.out.ev.size (k := i) (by rw [rowO_len]; exact hiN) (by rw [rowO_len]; exact hL) ⟨po, i + 1, none⟩ (.inl rfl) (co - (i + 1))
    rw [rowO_len, app_O] at hr2
    rw [app_O] at hr1
    rw [rowO_erase] at hR8
    obtain ⟨ao8, c8, rfl⟩ := hR8.form
    have hP9 := HP6.out.objs_set (r := none) hg8 (by simp) hR8 (fun k hk => .inr (hown8 k hk)) (fun x hx => .inl (List.mem_of_mem_eraseIdx hx)) (HP6.out.apart.sublist (List.eraseIdx_sublist ..))
    have y7 : w7.cell? ⟨y, 5, none⟩ = some (.slice (some ⟨po, 0, none⟩) L.length co) := (World.cell?_of_block (a := ⟨y, 5, none⟩) (hg7.block y HP6.out.y_lt (by simp))).trans c6
    have y8 : w8.cell? ⟨y, 5, none⟩ = some (.slice (some ⟨po, 0, none⟩) L.length co) := (World.cell?_of_block (a := ⟨y, 5, none⟩) (hg8.block y HP6.out.y_lt (by simp))).trans c6
    have z8 : w8.frozen? ⟨y, 5, none⟩ = false := (World.frozen?_of_block (a := ⟨y, 5, none⟩) (hg8.block y HP6.out.y_lt (by simp))).trans g6
    have ya : ∀ ob, (wc.alloc ob).cell? ⟨y, 5, none⟩ = some (.slice (some ⟨po, 0, none⟩) L.length co) := fun ob => cell_alloc c6 ob
    have HP9 : Hid _ := hP9
    clear hP9 hR8 hg8 hg7 hown8
    as_aux_lemma =>
      go_region
      go_wp2_with (go_at_call 11; refine (num_any _ _).mono ?_; rintro e w9 ⟨rfl, hw9⟩; replace hw9 := hw9.symm; subst hw9)
      go_ret
      exact ⟨rfl, P6, cs6, _, _, _, _, _, HP9.out, HG.out⟩
end
end Go.Proofs.YtojblddfggoecaaGreat
