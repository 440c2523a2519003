/- Black: the black ones, rising, in a new slice. -/
import Derived.Test.YtcafmloinmdeeaaMReset
import Derived.Deep.Upon
namespace Go.Proofs.Ytcafmloinmdeeaa
open Go.RowKit Go.Shelf
attribute [local go_sem] Oper.semAt_some
/-- An append, by a name that the walk does not open. -/
def apM (ats : Array TypeId) (ty : TypeId) (args : Array Value) : Sem Value := Builtin.append_ ats ty args
theorem ap_M (ats : Array TypeId) (ty : TypeId) (args : Array Value) : Builtin.append_ ats ty args = apM ats ty args := rfl
attribute [local go_sem ↓] ap_M
def vals3 (L : List Nat) : List Value := L.map fun x : Nat => Value.int .i64 (x : Int)
theorem vals3_snoc (L : List Nat) (x : Nat) : vals3 (L ++ [x]) = vals3 L ++ [.int .i64 (x : Int)] := by simp [vals3]
theorem mt2_of {I : Nat → World → Prop} {B bc N : Nat} (hI : OwnFrom B I) (hl : ∀ i W, I i W → bc < W.heap.size) (hb : bc < B) (x : Nat) : OwnFrom B (fun i => Mt2 I bc N i x) := by
  rintro i A A' row ⟨h1, h2, h3, h4⟩ hg hr
  exact ⟨h1, h2, (World.cell?_of_block (a := ⟨bc, i, none⟩) (hg.block bc (hl i A h4) fun e => by have := (hr bc e.symm).1; omega)).trans h3, hI i A A' row h4 hg hr⟩
/-- The box at B holds the black ones below i. -/
def It3 (w : World) (n₀ B : Nat) (c : Nat → Int) (i : Nat) (W : World) : Prop :=
  (∃ v, Boxed W B 29 v ∧ W.ownsRow n₀ 3 1 v (blk c i).length (vals3 (blk c i)) ∧ (v = .slice none 0 0 ↔ blk c i = [])) ∧ Below n₀ w W
theorem it3_own {w : World} {n₀ B C : Nat} {c : Nat → Int} (h1 : n₀ ≤ w.heap.size) (h2 : n₀ ≤ C) : OwnFrom C (It3 w n₀ B c) :=
  OwnFrom.and (Own.from (holdsRow_own n₀ B 29 3 1 (fun i => (blk c i).length) (fun i => vals3 (blk c i)) (fun i v => v = .slice none 0 0 ↔ blk c i = [])) _) (ownFrom_below h1 h2)
section
variable {w w' : World} {s bc bi N : Nat} {c : Nat → Int} {q : List Nat}
def SeqPost (w : World) (c : Nat → Int) (N : Nat) (e : Ending) (w' : World) : Prop :=
  ∃ v, e = .returned v ∧ w'.ownsRow w.heap.size 3 1 v (blk c N).length (vals3 (blk c N)) ∧ (v = .slice none 0 0 ↔ blk c N = []) ∧ Below w.heap.size w w'
set_option maxRecDepth 100000 in
set_option maxHeartbeats 4000000 in
theorem appendSeq_ok (h : Mk w s bc bi N c q) (b1 b2 : Nat) (h1 : Boxed w b1 29 (.slice (some ⟨bc, 0, none⟩) N N)) (h2 : Boxed w b2 3 (.int .i64 3)) :
    Calls Try.prog 25 #[.slice none 0 0, .func (.func 24) #[] #[.pointer (some ⟨b1, 0, none⟩), .pointer (some ⟨b2, 0, none⟩)]] w (SeqPost w c N) := by
  obtain ⟨i0, hi, hz0, hz1, hz2⟩ := info_parts minfo3
  have hfew := h.few
  have l1 := h1.lt
  have l2 := h2.lt
  have lc := h.col.lt
  have HM : Hid (w.rowIs bc 3 N (fun i => .int .i64 (c i))) := h.col
  have hB0 : Below w.heap.size w (w.alloc (.cells #[.slice none 0 0] 29)) := (Below.refl _ w).alloc (Nat.le_refl _) _
  have H0 : Hid (It3 w w.heap.size w.heap.size c 0 (w.alloc (.cells #[.slice none 0 0] 29))) := ⟨⟨_, Boxed.new w 29 (.slice none 0 0), (show World.ownsRow _ _ 3 1 (.slice none 0 0) 0 [] from World.ownsRow_nil _ _ _ _), by simp [blk]⟩, hB0⟩
  have hbox : ∀ i W, It3 w w.heap.size w.heap.size c i W → W.cell? ⟨b1, 0, none⟩ = some (.slice (some ⟨bc, 0, none⟩) N N) ∧ W.cell? ⟨b2, 0, none⟩ = some (.int .i64 3) := fun i W k =>
    ⟨(World.cell?_of_block (a := ⟨b1, 0, none⟩) (k.2.block b1 l1)).trans h1.cell, (World.cell?_of_block (a := ⟨b2, 0, none⟩) (k.2.block b2 l2)).trans h2.cell⟩
  have hrd : ∀ i W, It3 w w.heap.size w.heap.size c i W → i < N → ∃ v : Int, W.cell? ⟨bc, i, none⟩ = some (.int .i64 v) ∧ (v ≠ 3 → It3 w w.heap.size w.heap.size c (i + 1) W) := fun i W k hi =>
    ⟨c i, (World.cell?_of_block (a := ⟨bc, i, none⟩) (k.2.block bc lc)).trans (HM.out.cell hi), fun hv => by unfold It3; rw [blk_no hv]; exact k⟩
  have HJ := places_joint (I := It3 w w.heap.size w.heap.size c) (N := N) (bc := bc) hfew.2 hbox hrd 4 (by decide)
  clear h h1 h2 hbox hrd hB0
  refine (callsIn_wide (n := 5)).1 ?_
  refine callsIn_of_wp_marks Try.func25 rfl trivial ?_ rfl
  simp only [Try.ntmps25, List.size_toArray, List.length_cons, List.length_nil, Nat.reduceAdd, Nat.reduceSub, Array.replicate_succ, Array.replicate_zero, List.push_toArray, List.append_toArray, List.nil_append, List.cons_append]
  gi_wp2
  refine range_joint (F := Fence.wide) (n := 5) rfl (by decide) (gf := 24) (lb := #[.pointer (some ⟨b1, 0, none⟩), .pointer (some ⟨b2, 0, none⟩)]) rfl trivial (enters_of Try.func24 (by kernel_rfl) rfl)
    HJ (fun _ => rfl) (it3_own (Nat.le_refl _) (by simp)) (mt2_of (it3_own (Nat.le_refl _) (by simp)) (fun i W k => Nat.lt_of_lt_of_le lc k.2.size) (by simp; omega)) H0.out
    (fun x => { tmps := #[.slice none 0 0, .func (.func 24) #[] #[.pointer (some ⟨b1, 0, none⟩), .pointer (some ⟨b2, 0, none⟩)], .pointer (some ⟨w.heap.size, 0, none⟩), undef, .slice none 0 0, .int .i64 x, .func (.func 24) #[] #[.pointer (some ⟨b1, 0, none⟩), .pointer (some ⟨b2, 0, none⟩)], .int .i64 x, undef, undef, undef, undef, undef], defers := [] }) ?assign ?body ?done
  case assign =>
    intro l x W K hK
    gi_wp2
    exact hK
  case body =>
    rintro l i x W ⟨rfl, hx, hc, ⟨v, hv, hrow, hnil⟩, hB⟩
    have hbl := blk_len c x
    have hBs := hB.size
    have hcell := (World.cell?_of_block (a := ⟨bc, x, none⟩) (hB.block bc lc)).trans (HM.out.cell hx)
    have hc3 : c x = 3 := by
      rw [hcell] at hc
      simpa using hc
    have hc0 := hv.cell
    have hc2 := fun o => (hv.alloc o).cell
    obtain ⟨v', w', hrun, hown', hgrow, hn'⟩ := run_append_own (P := Try.prog) (w := W.alloc (.cells #[.int .i64 (x : Int)] 3)) w.heap.size 29 29 3 i0 (.int .i64 0) 1 8 Try.underlying29 hi hz0 hz1 hz2 rfl (by decide) v (blk c x).length (vals3 (blk c x)) (World.ownsRow.alloc (w := W) hrow _) ⟨W.heap.size, 0, none⟩ 1 1 [.int .i64 (x : Int)] rfl (cell_one_new _ _ _) (by simp [Value.oneCell']) (by unfold maxLen; omega) (by omega) (by simp; omega)
    obtain ⟨g', cap', rfl⟩ := ownsRow_succ hown'
    obtain ⟨hv1, hv2, hr2, hk2, hb2⟩ := Boxed.appended (W := W) (tmp := .cells #[.int .i64 (x : Int)] 3) hv (by decide) hrow hBs (Nat.le_refl _) hown' hgrow
    rw [ap_M] at hrun
    have hc1 := hv1.cell
    have hf1 := hv1.frozen
    have hlen : (blk c (x + 1)).length = (blk c x).length + 1 := by rw [blk_yes hc3]; simp
    have HE : Hid (It3 w w.heap.size w.heap.size c (x + 1) (w'.setCell ⟨w.heap.size, 0, none⟩ (.slice (some ⟨g', 0, none⟩) ((blk c x).length + 1) cap'))) := by
      refine ⟨⟨_, hv2, ?_, ?_⟩, hB.trans hb2⟩
      · rw [hlen, blk_yes hc3, vals3_snoc]; exact hr2
      · rw [blk_yes hc3]; simp
    have HK : Hid (KeepsOthers W (w'.setCell ⟨w.heap.size, 0, none⟩ (.slice (some ⟨g', 0, none⟩) ((blk c x).length + 1) cap'))) := hk2
    clear hv hrow hnil hB hv1 hv2 hr2 hk2 hb2 hown' hgrow hn' HJ H0 hcell hc hlen hc3 hbl
    generalize (blk c x).length = m at hrun HE HK ⊢
    gi_wp2
    exact ⟨HK.out.from _, trivial, HE.out⟩
  case done =>
    rintro D i W hD rfl ⟨⟨v, hv, hrow, hnil⟩, hB⟩ hK
    have hc := hv.cell
    gi_wp2
    refine ⟨by simp, .inl ⟨_, _, rfl, run_takeDeferred hK, ?_⟩⟩
    exact ⟨_, results_tmp rfl _ _ _, v, rfl, ownsRow_putObj hrow _ hK rfl, hnil, hB.trans (belowK_b (w := w) (Nat.le_refl _) W D _ _ (by simp at hD; omega) hK rfl rfl)⟩
theorem collect_ok (h : Mk w s bc bi N c q) (b1 b2 : Nat) (h1 : Boxed w b1 29 (.slice (some ⟨bc, 0, none⟩) N N)) (h2 : Boxed w b2 3 (.int .i64 3)) :
    Calls Try.prog 21 #[.func (.func 24) #[] #[.pointer (some ⟨b1, 0, none⟩), .pointer (some ⟨b2, 0, none⟩)]] w (SeqPost w c N) := by
  have ha := appendSeq_ok h b1 b2 h1 h2
  clear h h1 h2
  go_enter Try.func21, Try.ntmps21
  go_wp2_with (go_at_call 25; refine ha.mono ?_; rintro e w1 ⟨v, rfl, hp⟩)
  go_ret
  exact ⟨v, rfl, hp⟩
theorem black_ok (h : Mk w s bc bi N c q) :
    Calls Try.prog 13 #[.pointer (some ⟨s, 0, none⟩)] w (SeqPost w c N) := by
  have c0 := h.c0
  have hb2 : Below w.heap.size w ((w.alloc (.cells #[.slice (some ⟨bc, 0, none⟩) N N] 29)).alloc (.cells #[.int .i64 3] 3)) := ((Below.refl _ w).alloc (Nat.le_refl _) _).alloc (by simp) _
  have bR := (Boxed.new w 29 (.slice (some ⟨bc, 0, none⟩) N N)).alloc (.cells #[.int .i64 3] 3)
  have bI := Boxed.new (w.alloc (.cells #[.slice (some ⟨bc, 0, none⟩) N N] 29)) 3 (.int .i64 3)
  rw [World.size_alloc] at bI
  have hc := collect_ok (h.below hb2) w.heap.size (w.heap.size + 1) bR bI
  have HB : Hid _ := hb2
  clear h bR bI hb2
  go_enter Try.func13, Try.ntmps13
  go_wp2_with (first | (go_at_call 19; refine (places_ok bc N _).mono ?_; rintro e w' ⟨rfl, rfl⟩) | (go_at_call 21; refine hc.mono ?_; rintro e w1 ⟨v, rfl, hr, hn, hb⟩))
  go_ret
  have hs := HB.out.size
  exact ⟨v, rfl, World.ownsRow.mono hr hs, hn, HB.out.trans (hb.mono hs)⟩
end
end Go.Proofs.Ytcafmloinmdeeaa
