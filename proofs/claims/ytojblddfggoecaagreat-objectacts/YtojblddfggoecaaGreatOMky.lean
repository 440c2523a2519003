/- ObjectActs: make, where there is room. -/
import Derived.Test.YtojblddfggoecaaGreatOMk
namespace Go.Proofs.YtojblddfggoecaaGreat
open Go.RowKit
def appO (ats : Array TypeId) (ty : TypeId) (args : Array Value) : Sem Value := Builtin.append_ ats ty args
theorem app_O (ats : Array TypeId) (ty : TypeId) (args : Array Value) : Builtin.append_ ats ty args = appO ats ty args := rfl
section
variable {B : Nat} {w0 w : World} {P : Nat → Prop} {so p b W N m : Nat} {cs ws : Nat → Int} {O : List Ob} {y : Nat} {vr vo : Value} {L : List Rc}
theorem rowR_len (L : List Rc) : (rowR L).length = L.length := by simp [rowR]
theorem rowO_len (L : List Rc) : (rowO L).length = L.length := by simp [rowO]
theorem Pb8.apart {Rr : List Value} {x : Nat} {K A q I n : Int} (h : Pb8 B w0 w P so p b W N m cs ws O y vr vo Rr L x K A q I n) : x < w.heap.size ∧ x ≠ y ∧ vr.ownBlock ≠ some x := by
  refine ⟨(Array.getElem?_eq_some_iff.1 h.box).1, ?_, fun r => ?_⟩
  · rintro rfl
    have h1 := h.box
    rw [h.play.here] at h1; simp at h1
  · obtain ⟨cur, hc⟩ := h.play.refs.kind r
    have h1 := h.box
    rw [hc] at h1; simp at h1
/-- A number more. -/
theorem Play8.add_ref {Rr : List Value} (h : Play8 B w0 w P so p b W N m cs ws O y vr vo Rr L) (ref : Int) (hn : Rr.length ≤ 1000) : ∃ p1 c1 w1, (Builtin.append_ #[29, 29] 29 #[vr, .slice (some ⟨w.heap.size, 0, none⟩) 1 1]).run Tryz.prog (w.alloc (.cells #[.int .i64 ref] 3)) = .ok (.slice (some ⟨p1, 0, none⟩) (Rr.length + 1) c1) w1 ∧
    (∀ k, k < w.heap.size → vr.ownBlock ≠ some k → w1.heap[k]? = w.heap[k]?) ∧ Play8 B w0 (w1.setCell ⟨y, 4, none⟩ (.slice (some ⟨p1, 0, none⟩) (Rr.length + 1) c1)) P so p b W N m cs ws O y (.slice (some ⟨p1, 0, none⟩) (Rr.length + 1) c1) vo (Rr ++ [.int .i64 ref]) L := by
  obtain ⟨v1, w1, hrun, hR, hg, hat, hsh⟩ := Rw.add Tryz.underlying29 infoI rfl (by omega) h.refs ((Below.refl _ _).alloc (Nat.le_refl _) (.cells #[.int .i64 ref] 3)) h.ev.size ⟨w.heap.size, 0, none⟩ 1 1 [.int .i64 ref] rfl (by
    intro j u hu
    rw [add_lit, Nat.zero_add]
    have e := heap_alloc_new w (.cells #[.int .i64 ref] 3)
    simp only [World.cell?, e]
    simpa using hu) (by simp [Value.oneCell']) (by omega)
  obtain ⟨p1, c1, rfl⟩ := hsh (by omega)
  refine ⟨p1, c1, w1, hrun, fun k hk q => hg.block k hk (fun r => q r.symm), h.refs_set hg h.of_r hR fun k hk => ?_⟩
  rcases hat with q | ⟨j, q, hj⟩
  · exact .inl (q ▸ hk)
  · rw [q] at hk; simp at hk; subst hk; exact .inr hj
/-- A row more, of n words 0. -/
theorem Play8.add_row {Rr : List Value} (h : Play8 B w0 w P so p b W N m cs ws O y vr vo Rr L) (o : Ob) (hn : L.length ≤ 1000) : ∃ p1 c1 w1, (Builtin.append_ #[30, 30] 30 #[vo, .slice (some ⟨w.heap.size + 1, 0, none⟩) 1 1]).run Tryz.prog (((w.alloc (.cells (madeCells #[.int .i64 0] o.n) 3)).alloc (.cells #[.slice (some ⟨w.heap.size, 0, none⟩) o.n o.n] 29)).drew) = .ok (.slice (some ⟨p1, 0, none⟩) (L.length + 1) c1) w1 ∧
    w1.heap[y]? = w.heap[y]? ∧ Play8 B w0 (w1.setCell ⟨y, 5, none⟩ (.slice (some ⟨p1, 0, none⟩) (L.length + 1) c1)) P so p b W N m cs ws O y vr (.slice (some ⟨p1, 0, none⟩) (L.length + 1) c1) Rr (L ++ [⟨o, w.heap.size, fun _ => 0⟩]) := by
  have ha := (Below.refl w.heap.size w).alloc (Nat.le_refl _) (.cells (madeCells #[.int .i64 0] o.n) 3)
  have h1 := h.below ha
  have hsz : (w.alloc (.cells (madeCells #[.int .i64 0] o.n) 3)).heap.size = w.heap.size + 1 := Go.Deep.nblk_alloc _ _
  have hrow := World.rowIs_made w (.int .i64 0) o.n 3
  generalize w.alloc (.cells (madeCells #[.int .i64 0] o.n) 3) = W1 at *
  obtain ⟨v1, w1, hrun, hR, hg, hat, hsh⟩ := Rw.add Tryz.underlying30 infoII rfl (by omega) h1.objs (((Below.refl _ _).alloc (Nat.le_refl _) (.cells #[.slice (some ⟨w.heap.size, 0, none⟩) o.n o.n] 29)).drew) h1.ev.size ⟨W1.heap.size, 0, none⟩ 1 1 [.slice (some ⟨w.heap.size, 0, none⟩) o.n o.n] rfl (by
    intro j u hu
    rw [add_lit, Nat.zero_add]
    have e : (W1.alloc (.cells #[.slice (some ⟨w.heap.size, 0, none⟩) o.n o.n] 29)).drew.heap[W1.heap.size]? = _ := heap_alloc_new W1 (.cells #[.slice (some ⟨w.heap.size, 0, none⟩) o.n o.n] 29)
    simp only [World.cell?, e]
    simpa using hu) (by simp [Value.oneCell']) (by rw [rowO_len]; omega)
  obtain ⟨p1, c1, rfl⟩ := hsh (by omega)
  rw [hsz, rowO_len] at hrun
  rw [rowO_len] at hR hat
  have hnP : ¬ P w.heap.size := fun r => by have := h.ev.lt _ r; omega
  refine ⟨p1, c1, w1, hrun, (hg.block y h1.y_lt (fun q => h1.y_o q.symm rfl)).trans (ha.block y h.y_lt), h1.objs_set hg h1.of_o (by unfold rowO; rw [List.map_append]; exact hR) (fun k hk => ?_) (fun x hx => ?_) ?_⟩
  · rcases hat with q | ⟨j, q, hj⟩
    · exact .inl (q ▸ hk)
    · rw [q] at hk; simp at hk; subst hk; exact .inr hj
  · rcases List.mem_append.1 hx with hx | hx
    · exact .inl hx
    · rw [List.mem_singleton.1 hx]
      refine .inr ⟨hrow.of_block (hg.block _ (by omega) (fun q => by have := (h.objs.lt q.symm).2; omega)), hnP, h.ev.size, fun q => by have q' : vr.ownBlock = some w.heap.size := q; have := (h.refs.lt q').2; omega, fun q => ?_⟩
      have q' : w.heap.size = y := q
      have := h.y_lt
      omega
  · refine List.pairwise_append.2 ⟨h.apart, List.pairwise_singleton _ _, fun x hx z hz => ?_⟩
    rw [List.mem_singleton.1 hz]
    have := (h.words x hx).1.lt
    show x.blk ≠ w.heap.size
    omega
end
attribute [local go_sem ↓] app_O
section
variable {B : Nat} {w0 w : World} {P : Nat → Prop} {so p b W N m : Nat} {cs ws : Nat → Int} {O : List Ob} {y : Nat} {vr vo : Value} {L : List Rc}
theorem Agr8.made {o : Ob} {ws' : Nat → Int} {len blk : Nat} (h : Agr8 ws O L) (hI : OInv ws 0 N len O) (hC : Chn 0 N ws ws' (frg o.n) o.c) : Agr8 ws' (O ++ [o]) (L ++ [⟨o, blk, fun _ => 0⟩]) := by
  refine ⟨by rw [List.map_append, ← h.1]; rfl, fun x hx j hj => ?_⟩
  rcases List.mem_append.1 hx with hx | hx
  · rw [hI.make_old hC (by rw [h.1]; exact List.mem_map.2 ⟨x, hx, rfl⟩)]
    exact h.2 x hx j hj
  · rw [List.mem_singleton.1 hx] at hj ⊢
    exact hC.field (n := o.n) (c := o.c)
set_option maxRecDepth 20000 in
set_option maxHeartbeats 4000000 in
theorem mk8_ok (h : Play8 B w0 w P so p b W N m cs ws O y vr vo (rowR L) L) (hA : Agr8 ws O L) (hm : m ≤ 5000) (K A q I : Int) (n : Nat) (ha : 0 ≤ A ∧ A < 3) (hn : n ≤ 64) (hf : 1 + (n + 5) / 6 + tot O ≤ N) :
    Calls Tryz.prog 20 #[.pointer (some ⟨y, 0, none⟩), .agg #[.int .i64 K, .int .i64 A, .int .i64 q, .int .i64 I, .int .i64 n]] w (ActPost8 B w0 so p b W N (m + 1) y) := by
  have hx0 := Pb8.start h K A q I n
  have HA : Hid (Agr8 ws O L) := hA
  have hfit := h.ev.fit
  have htN : tot O ≤ N := by obtain ⟨_, _, e⟩ := h.ev.inv; omega
  have hnd := need_ok n (by omega)
  have a2 : decide (A < 0) = false := by simp; omega
  have a3 : decide (3 ≤ A) = false := by simp; omega
  have n2 : decide ((n : Int) < 0) = false := by simp
  have n3 : decide (64 < (n : Int)) = false := by simp; omega
  have Hf : Hid (1 + (n + 5) / 6 + tot O ≤ N) := hf
  have HL : Hid (L.length ≤ 1000) := by
    have h1 := tot_len O
    rw [hA.1, List.length_map, ← hA.1] at h1
    exact (show L.length ≤ 1000 by omega)
  obtain ⟨nd, hndE⟩ : ∃ nd, nd = 1 + (n + 5) / 6 := ⟨_, rfl⟩
  have Hnd : Hid (nd = 1 + (n + 5) / 6) := hndE
  rw [← hndE] at hnd
  have hndb : nd ≤ 1000 := by omega
  have hlt2 : ¬ (N : Int) - (tot O : Nat) < (nd : Int) := by omega
  clear h hf hndE
  go_enter Tryz.func20, Tryz.ntmps20
  go_wp2
  generalize World.alloc _ _ = W1 at *
  have c1 := hx0.play.cells
  have hd := hx0.below (below_drewN W1 1 _)
  have hU := v_used hd.play.ev
  go_region_held3 (fun w' => w'.cell? ⟨y, 1, none⟩ = some (.pointer (some ⟨p, 0, none⟩)) ∧ w'.cell? ⟨y, 3, none⟩ = some (.int .i64 N)) (go_keep) ((go_at_call 12; refine hU.mono ?_; rintro e w2 ⟨ao2, k2, rfl, hb2⟩; have hx2 := hd.below hb2; have c2 := hx2.play.cells; have f2 := hx2.five; clear hb2))
  clear hx0 hd c1 hU
  have hd2 := hx2.below (below_drewN w2 1 _)
  have hM2 := x_make hd2.play.ev (by omega) A n ha (by omega) (by have := Hf.out; omega)
  go_wp2
  go_region_held3 (fun w' => w'.cell? ⟨y, 0, none⟩ = some (.pointer (some ⟨so, 0, none⟩)) ∧ w'.cell? ⟨w.heap.size, 1, none⟩ = some (.int .i64 A) ∧ w'.cell? ⟨w.heap.size, 4, none⟩ = some (.int .i64 n)) (go_keep) ((go_at_call 14; refine hM2.mono ?_; rintro e w6 ⟨o, cs6, ws6, rfl, hn6, hC6, hT6⟩; obtain ⟨P6, hx6⟩ := hd2.turn hT6; have f6 := hx6.five; have c6 := hx6.play.cells; have HC : Hid (o.n = n ∧ Chn 0 N ws ws6 (frg o.n) o.c) := ⟨by omega, hC6⟩; clear hn6 hC6 hT6))
  have HI : Hid (∃ len, OInv ws 0 N len O) := by
    obtain ⟨len, e, _⟩ := hx2.play.ev.inv
    exact ⟨len, e⟩
  clear hx2 hd2 c2 f2 hM2
  have ht1 : Hid (tot (O ++ [o]) = tot O + frg o.n) := (show _ = _ by rw [tot_append]; rfl)
  have htN1 : tot (O ++ [o]) ≤ N := by obtain ⟨_, _, e⟩ := hx6.play.ev.inv; omega
  have hd6 := hx6.below (below_drewN w6 1 _)
  have hU6 := v_used hd6.play.ev
  have Hle : Hid (tot (O ++ [o]) ≤ tot O + nd) := by
    have e1 := ht1.out
    have e2 := frg_le o.n
    have e3 := Hnd.out
    have e4 := HC.out.1
    rw [e4] at e1 e2
    exact (show tot (O ++ [o]) ≤ tot O + nd by omega)
  generalize tot (O ++ [o]) = t1 at *
  generalize tot O = t0 at *
  have ew0 : IntKind.i64.wrap ((N : Int) - t0) = (N : Int) - t0 := by rw [IntKind.wrap_i64]; omega
  have ew1 : IntKind.i64.wrap ((N : Int) - t1) = (N : Int) - t1 := by rw [IntKind.wrap_i64]; omega
  have ew2 : IntKind.i64.wrap ((N : Int) - t0 - ((N : Int) - t1)) = (N : Int) - t0 - ((N : Int) - t1) := by rw [IntKind.wrap_i64]; omega
  go_wp2_with (first
    | (go_at_call 11; refine (num_any _ _).mono ?_; rintro e w9 ⟨rfl, hw9⟩; replace hw9 := hw9.symm; subst hw9)
    | (go_at_call 44; refine (hnd _).mono ?_; rintro e w9 ⟨rfl, hw9⟩; replace hw9 := hw9.symm; subst hw9))
  go_region_held3 (fun w' => w'.cell? ⟨y, 1, none⟩ = some (.pointer (some ⟨p, 0, none⟩)) ∧ w'.cell? ⟨y, 3, none⟩ = some (.int .i64 N)) (go_keep) ((go_at_call 12; refine hU6.mono ?_; rintro e w7 ⟨ao7, k7, rfl, hb7⟩; have hx7 := hd6.below hb7; have c7 := hx7.play.cells; have f7 := hx7.five; clear hb7))
  clear hx6 hd6 c6 f6 hU6
  have hr1 : decide (o.ref < 1) = false := by unfold Ob.ref; simp; omega
  have hFn : Fnd L o.ref (-1) := .inr ⟨fun x hx => by
    obtain ⟨len, e⟩ := HI.out
    exact e.make_ref HC.out.2 (by rw [HA.out.1]; exact List.mem_map.2 ⟨x, hx, rfl⟩), rfl⟩
  have hat := at8_ok hx7.play HL.out o.ref (-1) hFn
  have hle := Hle.out
  have hle2 : decide ((nd : Int) < (N : Int) - t0 - ((N : Int) - t1)) = false := by simp; omega
  obtain ⟨p8, c8, w8, hrun8, hk8, hP8⟩ := hx7.play.add_ref o.ref (by rw [rowR_len]; exact HL.out)
  rw [rowR_len] at hrun8 hP8
  have hyr : vr.ownBlock ≠ some y := fun r => hx7.play.y_r r rfl
  have hy8 := hk8 y hx7.play.y_lt hyr
  have hq8 : w8.cell? ⟨y, 4, none⟩ = some vr := (World.cell?_of_block (a := ⟨y, 4, none⟩) hy8).trans c7.2.2.2.2.1
  have hz8 : w8.frozen? ⟨y, 4, none⟩ = false := (World.frozen?_of_block (a := ⟨y, 4, none⟩) hy8).trans (hx7.play.frozen 4)
  have HI2 : Hid (∃ len, OInv ws 0 N len O) := HI.out
  clear Hle HI hFn ht1
  have HP8 : Hid (Play8 B w0 (w8.setCell ⟨y, 4, none⟩ (.slice (some ⟨p8, 0, none⟩) (L.length + 1) c8)) P6 so p b W N (m + 1) cs6 ws6 (O ++ [o]) y (.slice (some ⟨p8, 0, none⟩) (L.length + 1) c8) vo (rowR L ++ [.int .i64 o.ref]) L) := hP8
  have hX8 : (w8.setCell ⟨y, 4, none⟩ (.slice (some ⟨p8, 0, none⟩) (L.length + 1) c8)).cell? ⟨w.heap.size, 4, none⟩ = some (.int .i64 n) := by
    obtain ⟨q1, q2, q3⟩ := hx7.apart
    exact (World.cell?_of_block (a := ⟨w.heap.size, 4, none⟩) ((Below.heap_setCell _ _ _ _ q2).trans (hk8 _ q1 q3))).trans f7.2.2.2.2
  clear hP8 hy8 hk8 hyr
  go_wp2_with (first
    | (at_builtin; refine wpList_app _ _ hrun8 rfl rfl rfl rfl rfl ?_; clear hrun8)
    | (go_at_call 11; refine (num_any _ _).mono ?_; rintro e w9 ⟨rfl, hw9⟩; replace hw9 := hw9.symm; subst hw9)
    | (go_at_call 8; refine hat.mono ?_; rintro e w9 ⟨rfl, hw9⟩; replace hw9 := hw9.symm; subst hw9)
    | (go_at_call 44; refine (hnd _).mono ?_; rintro e w9 ⟨rfl, hw9⟩; replace hw9 := hw9.symm; subst hw9))
  generalize w8.setCell ⟨y, 4, none⟩ (.slice (some ⟨p8, 0, none⟩) (L.length + 1) c8) = w9 at HP8 hX8 ⊢
  obtain ⟨p10, c10, w10, hrun10, hy10, hP10⟩ := HP8.out.add_row o HL.out
  rw [HC.out.1, app_O] at hrun10
  have c9 := HP8.out.cells
  have k5 : w10.cell? ⟨y, 5, none⟩ = some vo := (World.cell?_of_block (a := ⟨y, 5, none⟩) hy10).trans c9.2.2.2.2.2
  have z5 : w10.frozen? ⟨y, 5, none⟩ = false := (World.frozen?_of_block (a := ⟨y, 5, none⟩) hy10).trans (HP8.out.frozen 5)
  have y5 : ∀ ob, (w9.alloc ob).cell? ⟨y, 5, none⟩ = some vo := fun ob => cell_alloc c9.2.2.2.2.2 ob
  have y55 : ∀ ob ob', ((w9.alloc ob).alloc ob').cell? ⟨y, 5, none⟩ = some vo := fun ob ob' => cell_alloc (y5 ob) ob'
  have hmk := run_make_row' (P := Tryz.prog) 29 3 (.int .i64 0) 8 Tryz.underlying29 infoI rfl .i64 .i64 n (by omega) (by omega)
  have HP10 : Hid _ := hP10
  clear hP10 hy10 HP8 hq8 hz8 hat hx7 c7 f7
  go_region
  go_wp2
  go_ret
  have h9 := HP10.out
  rw [show rowR L ++ [.int .i64 o.ref] = rowR (L ++ [⟨o, w9.heap.size, fun _ => 0⟩]) by unfold rowR; rw [List.map_append]; rfl] at h9
  obtain ⟨len, e⟩ := HI2.out
  exact ⟨rfl, P6, cs6, ws6, O ++ [o], _, _, _, h9, HA.out.made e HC.out.2⟩
end
end Go.Proofs.YtojblddfggoecaaGreat
