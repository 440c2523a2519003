/- slices.AppendSeq, Collect: whatever the iterator. -/
import Derived.Test.YtbbmgjcabmjjdaaGreatDoorMY24
import Derived.Test.YtbbmgjcabmjjdaaGreatDoorMY5
namespace Go.Proofs.YtbbmgjcabmjjdaaGreatDoor
open Go.RowKit Go.Shelf
attribute [local go_sem] Oper.semAt_some
attribute [local go_sem ↓] ap_Q

theorem take_next {α : Type} {U : List α} {i : Nat} {x : α} (h : U[i]? = some x) : U.take (i + 1) = U.take i ++ [x] := by rw [List.take_add_one, h]; rfl
def encI (x : Int) : List Value := [.int .i64 x]
/-- What gathers leaves: a row of its own. -/
def ColP {α : Type} (w : World) (T : TypeId) (k : Nat) (enc : α → List Value) (U : List α) (e : Ending) (w' : World) : Prop :=
  ∃ v, e = .returned v ∧ w'.ownsRow w.heap.size T k v U.length (U.map enc).flatten ∧ (v = .slice none 0 0 ↔ U = []) ∧ Below w.heap.size w w'
/-- The box at B holds the first i. -/
def ItQ {α : Type} (w : World) (n₀ B : Nat) (Ts T : TypeId) (k : Nat) (enc : α → List Value) (U : List α) (i : Nat) (W : World) : Prop :=
  (∃ v, Boxed W B Ts v ∧ W.ownsRow n₀ T k v (U.take i).length ((U.take i).map enc).flatten ∧ (v = .slice none 0 0 ↔ U.take i = [])) ∧ Below n₀ w W
theorem itq_own {α : Type} {w : World} {n₀ B C : Nat} {Ts T : TypeId} {k : Nat} {enc : α → List Value} {U : List α} (h1 : n₀ ≤ w.heap.size) (h2 : n₀ ≤ C) : OwnFrom C (ItQ w n₀ B Ts T k enc U) :=
  OwnFrom.and (Own.from (holdsRow_own n₀ B Ts T k (fun i => (U.take i).length) (fun i => ((U.take i).map enc).flatten) (fun i v => v = .slice none 0 0 ↔ U.take i = [])) _) (ownFrom_below h1 h2)

theorem infoIQ : (Tryz.prog.info? 3).map (fun i => (i.zero, i.size, i.bytes)) = some (some (.int .i64 0), 1, 8) := by kernel_rfl
set_option maxRecDepth 100000 in
set_option maxHeartbeats 4000000 in
theorem appI_ok {gf : Nat} (he : Ent gf) {lb : Array Value} {U : List Int} {w : World} (hU : U.length ≤ 1073741824) (hG : GivesQ w gf lb (fun x : Int => #[Value.int .i64 x]) U) :
    Calls Tryz.prog 105 #[.slice none 0 0, .func (.func gf) #[] lb] w (ColP w 3 1 encI U) := by
  obtain ⟨i0, hi, hz0, hz1, hz2⟩ := info_parts infoIQ
  have hB0 : Below w.heap.size w (w.alloc (.cells #[.slice none 0 0] 26)) := (Below.refl _ w).alloc (Nat.le_refl _) _
  have H0 : Hid (ItQ w w.heap.size w.heap.size 26 3 1 encI U 0 (w.alloc (.cells #[.slice none 0 0] 26))) := ⟨⟨_, Boxed.new w 26 (.slice none 0 0), (show World.ownsRow _ _ 3 1 (.slice none 0 0) 0 [] from World.ownsRow_nil _ _ _ _), by simp⟩, hB0⟩
  have HI : Hid _ := itq_own (w := w) (n₀ := w.heap.size) (B := w.heap.size) (C := (w.alloc (.cells #[.slice none 0 0] 26)).heap.size) (Ts := 26) (T := 3) (k := 1) (enc := encI) (U := U) (Nat.le_refl _) (by simp)
  have HJ := hG (ItQ w w.heap.size w.heap.size 26 3 1 encI U) (fun i W h => h.2) (fun i W o h => (itq_own (w := w) (C := w.heap.size) (Nat.le_refl _) (Nat.le_refl _)).alloc o h)
  have HU : Hid (U.length ≤ 1073741824) := hU
  clear hB0 hG hU
  refine (callsIn_wide (n := 5)).1 ?_
  refine callsIn_of_wp_marks Tryz.func105 rfl trivial ?_ rfl
  simp only [Tryz.ntmps105, List.size_toArray, List.length_cons, List.length_nil, Nat.reduceAdd, Nat.reduceSub, Array.replicate_succ, Array.replicate_zero, List.push_toArray, List.append_toArray, List.nil_append, List.cons_append]
  gi_wp2
  refine range_jointQ (F := Fence.wide) (n := 5) rfl (by decide) (gf := gf) (lb := lb) rfl trivial he (fun _ => False)
    HJ (fun _ => rfl) HI.out (fun _ _ _ _ h _ _ => h) (fun x i A A' row h hg hr => ⟨h.1, HI.out i A A' row h.2 hg hr⟩) H0.out
    (fun x => { tmps := #[.slice none 0 0, .func (.func gf) #[] lb, .pointer (some ⟨w.heap.size, 0, none⟩), undef, .slice none 0 0, .int .i64 x, .func (.func gf) #[] lb, .int .i64 x, undef, undef, undef, undef, undef], defers := [] }) ?assign ?body ?done ?stop
  case assign =>
    intro l x W K hK
    gi_wp2
    exact hK
  case body =>
    rintro l i x W ⟨hx, ⟨v, hv, hrow, hnil⟩, hB⟩
    have hBs := hB.size
    have hc0 := hv.cell
    have hc2 := fun o => (hv.alloc o).cell
    have hil := (List.getElem?_eq_some_iff.1 hx).1
    have htl : (U.take i).length = i := by rw [List.length_take]; omega
    obtain ⟨v', w', hrun, hown', hgrow, hn'⟩ := run_append_own (P := Tryz.prog) (w := W.alloc (.cells #[.int .i64 x] 3)) w.heap.size 26 26 3 i0 (.int .i64 0) 1 8 Tryz.underlying26 hi hz0 hz1 hz2 rfl (by decide) v (U.take i).length ((U.take i).map encI).flatten (World.ownsRow.alloc (w := W) hrow _) ⟨W.heap.size, 0, none⟩ 1 1 [.int .i64 x] rfl (news_at W #[.int .i64 x] 3) (by simp [Value.oneCell']) (by have := HU.out; unfold maxLen; omega) (by have := HU.out; omega) (by simp; omega)
    obtain ⟨g', cap', rfl⟩ := ownsRow_succ hown'
    obtain ⟨hv1, hv2, hr2, hk2, hb2⟩ := Boxed.appended (W := W) (tmp := .cells #[.int .i64 x] 3) hv (by decide) hrow hBs (Nat.le_refl _) hown' hgrow
    rw [ap_Q] at hrun
    have hc1 := hv1.cell
    have hf1 := hv1.frozen
    have HE : Hid (ItQ w w.heap.size w.heap.size 26 3 1 encI U (i + 1) (w'.setCell ⟨w.heap.size, 0, none⟩ (.slice (some ⟨g', 0, none⟩) ((U.take i).length + 1) cap'))) := by
      refine ⟨⟨_, hv2, ?_, ?_⟩, hB.trans hb2⟩
      · rw [take_next hx, List.length_append, List.map_append, List.flatten_append]; exact hr2
      · rw [take_next hx]; simp
    have HK : Hid (KeepsOthers W (w'.setCell ⟨w.heap.size, 0, none⟩ (.slice (some ⟨g', 0, none⟩) ((U.take i).length + 1) cap'))) := hk2
    clear hv hrow hnil hB hv1 hv2 hr2 hk2 hb2 hown' hgrow hn' HJ H0 htl hil hx HI
    generalize (U.take i).length = m at hrun HE HK ⊢
    gi_wp2
    exact ⟨HK.out.from _, trivial, HE.out⟩
  case done =>
    rintro D i W hD rfl ⟨⟨v, hv, hrow, hnil⟩, hB⟩ hK
    rw [List.take_length] at hrow hnil
    have hc := hv.cell
    gi_wp2
    refine ⟨by simp, .inl ⟨_, _, rfl, run_takeDeferred hK, ?_⟩⟩
    exact ⟨_, results_tmp rfl _ _ _, v, rfl, ownsRow_putObj hrow _ hK rfl, hnil, hB.trans (belowK_b (w := w) (Nat.le_refl _) W D _ _ (by simp at hD; omega) hK rfl rfl)⟩
  case stop => exact fun _ _ _ h => h.elim
theorem colI_ok {gf : Nat} (he : Ent gf) {lb : Array Value} {U : List Int} {w : World} (hU : U.length ≤ 1073741824) (hG : GivesQ w gf lb (fun x : Int => #[Value.int .i64 x]) U) :
    Calls Tryz.prog 77 #[.func (.func gf) #[] lb] w (ColP w 3 1 encI U) := by
  have ha := appI_ok he hU hG
  clear hG hU
  go_enter Tryz.func77, Tryz.ntmps77
  go_wp2_with (go_at_call 105; refine ha.mono ?_; rintro e w1 ⟨v, rfl, hp⟩)
  go_ret
  exact ⟨v, rfl, hp⟩

theorem infoFQ : (Tryz.prog.info? 71).map (fun i => (i.zero, i.size, i.bytes)) = some (some (.agg #[.string ⟨#[]⟩, .int .i64 0]), 2, 24) := by kernel_rfl
/-- A round's own variable. -/
def AxFQ (w : World) (gf : Nat) (lb : Array Value) (U : List Fd) (i : Nat) (x : Fd) (a : Act) (W : World) : Prop := ∃ Bx, W.heap[Bx]? = some (.cells #[.string x.nm, .int .i64 x.ty] 71 (0, 0)) ∧ a = { tmps := #[.slice none 0 0, .func (.func gf) #[] lb, .pointer (some ⟨w.heap.size, 0, none⟩), undef, .slice none 0 0, .pointer (some ⟨Bx, 0, none⟩), .func (.func gf) #[] lb, .agg #[.string x.nm, .int .i64 x.ty], undef, undef, undef, undef, undef], defers := [] } ∧ U[i]? = some x ∧ ItQ w w.heap.size w.heap.size 32 71 2 encF U i W
theorem axF_own {w : World} {gf : Nat} {lb : Array Value} {U : List Fd} {C : Nat} (hC : w.heap.size ≤ C) (x : Fd) (a : Act) : OwnFrom C (fun i => AxFQ w gf lb U i x a) := fun i A A' row h hg hr => by
  obtain ⟨Bx, h1, h2, h3, h4⟩ := h
  have hl := (Array.getElem?_eq_some_iff.1 h1).1
  refine ⟨Bx, (hg.block Bx hl fun e => ?_).trans h1, h2, h3, itq_own (Nat.le_refl _) hC i A A' row h4 hg hr⟩
  obtain ⟨_, o, ho, hc⟩ := hr Bx e.symm
  rw [h1] at ho; cases ho; cases hc
set_option maxRecDepth 100000 in
set_option maxHeartbeats 4000000 in
theorem appF_ok {gf : Nat} (he : Ent gf) {lb : Array Value} {U : List Fd} {w : World} (hU : U.length ≤ 1073741824) (hG : GivesQ w gf lb (fun x : Fd => #[Value.agg (encF x).toArray]) U) :
    Calls Tryz.prog 136 #[.slice none 0 0, .func (.func gf) #[] lb] w (ColP w 71 2 encF U) := by
  obtain ⟨i0, hi, hz0, hz1, hz2⟩ := info_parts infoFQ
  have hB0 : Below w.heap.size w (w.alloc (.cells #[.slice none 0 0] 32)) := (Below.refl _ w).alloc (Nat.le_refl _) _
  have H0 : Hid (ItQ w w.heap.size w.heap.size 32 71 2 encF U 0 (w.alloc (.cells #[.slice none 0 0] 32))) := ⟨⟨_, Boxed.new w 32 (.slice none 0 0), (show World.ownsRow _ _ 71 2 (.slice none 0 0) 0 [] from World.ownsRow_nil _ _ _ _), by simp⟩, hB0⟩
  have HI : Hid _ := itq_own (w := w) (n₀ := w.heap.size) (B := w.heap.size) (C := (w.alloc (.cells #[.slice none 0 0] 32)).heap.size) (Ts := 32) (T := 71) (k := 2) (enc := encF) (U := U) (Nat.le_refl _) (by simp)
  have HJ := hG (ItQ w w.heap.size w.heap.size 32 71 2 encF U) (fun i W h => h.2) (fun i W o h => (itq_own (w := w) (C := w.heap.size) (Nat.le_refl _) (Nat.le_refl _)).alloc o h)
  have HU : Hid (U.length ≤ 1073741824) := hU
  clear hB0 hG hU
  refine (callsIn_wide (n := 5)).1 ?_
  refine callsIn_of_wp_marks Tryz.func136 rfl trivial ?_ rfl
  simp only [Tryz.ntmps136, List.size_toArray, List.length_cons, List.length_nil, Nat.reduceAdd, Nat.reduceSub, Array.replicate_succ, Array.replicate_zero, List.push_toArray, List.append_toArray, List.nil_append, List.cons_append]
  gi_wp2
  refine range_jointR (F := Fence.wide) (n := 5) rfl (by decide) (gf := gf) (lb := lb) rfl trivial he (fun _ => False)
    HJ (fun _ => rfl) HI.out (fun _ _ _ _ h _ _ => h) H0.out (AxFQ w gf lb U) (fun x a => axF_own (by simp) x a) ?assign ?body ?done ?stop
  case assign =>
    rintro l i x W K ⟨hx, hI⟩ hK
    have HK : Hid _ := hK
    have HII : Hid _ := hI
    clear hK hI
    unfold encF
    gi_wp2
    exact HK.out _ _ ((KeepsOthers.alloc _ _).from _) ⟨W.heap.size, heap_alloc_new _ _, rfl, hx, OwnFrom.alloc HI.out _ HII.out⟩
  case body =>
    rintro l i x a' W ⟨Bx, hbx, rfl, hx, ⟨v, hv, hrow, hnil⟩, hB⟩
    have b0 : W.cell? ⟨Bx, 0, none⟩ = some (.string x.nm) := bxq_cell hbx rfl
    have b1 : W.cell? ⟨Bx, 1, none⟩ = some (.int .i64 x.ty) := bxq_cell hbx rfl
    have hBs := hB.size
    have hc0 := hv.cell
    have hc2 := fun o => (hv.alloc o).cell
    have hil := (List.getElem?_eq_some_iff.1 hx).1
    have htl : (U.take i).length = i := by rw [List.length_take]; omega
    obtain ⟨v', w', hrun, hown', hgrow, hn'⟩ := run_append_own (P := Tryz.prog) (w := W.alloc (.cells #[.string x.nm, .int .i64 x.ty] 71)) w.heap.size 32 32 71 i0 (.agg #[.string ⟨#[]⟩, .int .i64 0]) 2 24 Tryz.underlying32 hi hz0 hz1 hz2 rfl (by decide) v (U.take i).length ((U.take i).map encF).flatten (World.ownsRow.alloc (w := W) hrow _) ⟨W.heap.size, 0, none⟩ 1 1 [.string x.nm, .int .i64 x.ty] rfl (news_at W #[.string x.nm, .int .i64 x.ty] 71) (by simp [Value.oneCell']) (by have := HU.out; unfold maxLen; omega) (by have := HU.out; omega) (by simp; omega)
    obtain ⟨g', cap', rfl⟩ := ownsRow_succ hown'
    obtain ⟨hv1, hv2, hr2, hk2, hb2⟩ := Boxed.appended (W := W) (tmp := .cells #[.string x.nm, .int .i64 x.ty] 71) hv (by decide) hrow hBs (Nat.le_refl _) hown' hgrow
    rw [ap_Q] at hrun
    have hc1 := hv1.cell
    have hf1 := hv1.frozen
    have HE : Hid (ItQ w w.heap.size w.heap.size 32 71 2 encF U (i + 1) (w'.setCell ⟨w.heap.size, 0, none⟩ (.slice (some ⟨g', 0, none⟩) ((U.take i).length + 1) cap'))) := by
      refine ⟨⟨_, hv2, ?_, ?_⟩, hB.trans hb2⟩
      · rw [take_next hx, List.length_append, List.map_append, List.flatten_append]; exact hr2
      · rw [take_next hx]; simp
    have HK : Hid (KeepsOthers W (w'.setCell ⟨w.heap.size, 0, none⟩ (.slice (some ⟨g', 0, none⟩) ((U.take i).length + 1) cap'))) := hk2
    clear hv hrow hnil hB hv1 hv2 hr2 hk2 hb2 hown' hgrow hn' HJ H0 htl hil hx HI hbx
    generalize (U.take i).length = m at hrun HE HK ⊢
    gi_wp2
    exact ⟨HK.out.from _, trivial, HE.out⟩
  case done =>
    rintro D i W hD rfl ⟨⟨v, hv, hrow, hnil⟩, hB⟩ hK
    rw [List.take_length] at hrow hnil
    have hc := hv.cell
    gi_wp2
    refine ⟨by simp, .inl ⟨_, _, rfl, run_takeDeferred hK, ?_⟩⟩
    exact ⟨_, results_tmp rfl _ _ _, v, rfl, ownsRow_putObj hrow _ hK rfl, hnil, hB.trans (belowK_b (w := w) (Nat.le_refl _) W D _ _ (by simp at hD; omega) hK rfl rfl)⟩
  case stop => exact fun _ _ _ h => h.elim
theorem colF_ok {gf : Nat} (he : Ent gf) {lb : Array Value} {U : List Fd} {w : World} (hU : U.length ≤ 1073741824) (hG : GivesQ w gf lb (fun x : Fd => #[Value.agg (encF x).toArray]) U) :
    Calls Tryz.prog 119 #[.func (.func gf) #[] lb] w (ColP w 71 2 encF U) := by
  have ha := appF_ok he hU hG
  clear hG hU
  go_enter Tryz.func119, Tryz.ntmps119
  go_wp2_with (go_at_call 136; refine ha.mono ?_; rintro e w1 ⟨v, rfl, hp⟩)
  go_ret
  exact ⟨v, rfl, hp⟩

theorem infoMQ : (Tryz.prog.info? 30).map (fun i => (i.zero, i.size, i.bytes)) = some (some (.agg #[.string ⟨#[]⟩, .bool false, .slice none 0 0, .int .i64 0, .int .i64 0, .int .i64 0, .slice none 0 0, .slice none 0 0, .slice none 0 0]), 9, 144) := by kernel_rfl
/-- A round's own variable. -/
def AxMQ (w : World) (gf : Nat) (lb : Array Value) (U : List MdA) (i : Nat) (x : MdA) (a : Act) (W : World) : Prop := ∃ Bx, W.heap[Bx]? = some (.cells #[.string x.m.nm, .bool x.m.stc, .slice x.p1 x.m.args.length x.c1, .int .i64 x.m.ret, .int .i64 x.m.lo, .int .i64 x.m.st, .slice x.p2 x.m.code.length x.c2, .slice x.p3 x.m.tab.length x.c3, .slice x.p4 x.m.maps.length x.c4] 30 (0, 0)) ∧ a = { tmps := #[.slice none 0 0, .func (.func gf) #[] lb, .pointer (some ⟨w.heap.size, 0, none⟩), undef, .slice none 0 0, .pointer (some ⟨Bx, 0, none⟩), .func (.func gf) #[] lb, .agg #[.string x.m.nm, .bool x.m.stc, .slice x.p1 x.m.args.length x.c1, .int .i64 x.m.ret, .int .i64 x.m.lo, .int .i64 x.m.st, .slice x.p2 x.m.code.length x.c2, .slice x.p3 x.m.tab.length x.c3, .slice x.p4 x.m.maps.length x.c4], undef, undef, undef, undef, undef], defers := [] } ∧ U[i]? = some x ∧ ItQ w w.heap.size w.heap.size 31 30 9 encM U i W
theorem axM_own {w : World} {gf : Nat} {lb : Array Value} {U : List MdA} {C : Nat} (hC : w.heap.size ≤ C) (x : MdA) (a : Act) : OwnFrom C (fun i => AxMQ w gf lb U i x a) := fun i A A' row h hg hr => by
  obtain ⟨Bx, h1, h2, h3, h4⟩ := h
  have hl := (Array.getElem?_eq_some_iff.1 h1).1
  refine ⟨Bx, (hg.block Bx hl fun e => ?_).trans h1, h2, h3, itq_own (Nat.le_refl _) hC i A A' row h4 hg hr⟩
  obtain ⟨_, o, ho, hc⟩ := hr Bx e.symm
  rw [h1] at ho; cases ho; cases hc
set_option maxRecDepth 100000 in
set_option maxHeartbeats 4000000 in
theorem appM_ok {gf : Nat} (he : Ent gf) {lb : Array Value} {U : List MdA} {w : World} (hU : U.length ≤ 1073741824) (hG : GivesQ w gf lb (fun x : MdA => #[Value.agg (encM x).toArray]) U) :
    Calls Tryz.prog 139 #[.slice none 0 0, .func (.func gf) #[] lb] w (ColP w 30 9 encM U) := by
  obtain ⟨i0, hi, hz0, hz1, hz2⟩ := info_parts infoMQ
  have hB0 : Below w.heap.size w (w.alloc (.cells #[.slice none 0 0] 31)) := (Below.refl _ w).alloc (Nat.le_refl _) _
  have H0 : Hid (ItQ w w.heap.size w.heap.size 31 30 9 encM U 0 (w.alloc (.cells #[.slice none 0 0] 31))) := ⟨⟨_, Boxed.new w 31 (.slice none 0 0), (show World.ownsRow _ _ 30 9 (.slice none 0 0) 0 [] from World.ownsRow_nil _ _ _ _), by simp⟩, hB0⟩
  have HI : Hid _ := itq_own (w := w) (n₀ := w.heap.size) (B := w.heap.size) (C := (w.alloc (.cells #[.slice none 0 0] 31)).heap.size) (Ts := 31) (T := 30) (k := 9) (enc := encM) (U := U) (Nat.le_refl _) (by simp)
  have HJ := hG (ItQ w w.heap.size w.heap.size 31 30 9 encM U) (fun i W h => h.2) (fun i W o h => (itq_own (w := w) (C := w.heap.size) (Nat.le_refl _) (Nat.le_refl _)).alloc o h)
  have HU : Hid (U.length ≤ 1073741824) := hU
  clear hB0 hG hU
  refine (callsIn_wide (n := 5)).1 ?_
  refine callsIn_of_wp_marks Tryz.func139 rfl trivial ?_ rfl
  simp only [Tryz.ntmps139, List.size_toArray, List.length_cons, List.length_nil, Nat.reduceAdd, Nat.reduceSub, Array.replicate_succ, Array.replicate_zero, List.push_toArray, List.append_toArray, List.nil_append, List.cons_append]
  gi_wp2
  refine range_jointR (F := Fence.wide) (n := 5) rfl (by decide) (gf := gf) (lb := lb) rfl trivial he (fun _ => False)
    HJ (fun _ => rfl) HI.out (fun _ _ _ _ h _ _ => h) H0.out (AxMQ w gf lb U) (fun x a => axM_own (by simp) x a) ?assign ?body ?done ?stop
  case assign =>
    rintro l i x W K ⟨hx, hI⟩ hK
    have HK : Hid _ := hK
    have HII : Hid _ := hI
    clear hK hI
    unfold encM
    gi_wp2
    exact HK.out _ _ ((KeepsOthers.alloc _ _).from _) ⟨W.heap.size, heap_alloc_new _ _, rfl, hx, OwnFrom.alloc HI.out _ HII.out⟩
  case body =>
    rintro l i x a' W ⟨Bx, hbx, rfl, hx, ⟨v, hv, hrow, hnil⟩, hB⟩
    have b0 : W.cell? ⟨Bx, 0, none⟩ = some (.string x.m.nm) := bxq_cell hbx rfl
    have b1 : W.cell? ⟨Bx, 1, none⟩ = some (.bool x.m.stc) := bxq_cell hbx rfl
    have b2 : W.cell? ⟨Bx, 2, none⟩ = some (.slice x.p1 x.m.args.length x.c1) := bxq_cell hbx rfl
    have b3 : W.cell? ⟨Bx, 3, none⟩ = some (.int .i64 x.m.ret) := bxq_cell hbx rfl
    have b4 : W.cell? ⟨Bx, 4, none⟩ = some (.int .i64 x.m.lo) := bxq_cell hbx rfl
    have b5 : W.cell? ⟨Bx, 5, none⟩ = some (.int .i64 x.m.st) := bxq_cell hbx rfl
    have b6 : W.cell? ⟨Bx, 6, none⟩ = some (.slice x.p2 x.m.code.length x.c2) := bxq_cell hbx rfl
    have b7 : W.cell? ⟨Bx, 7, none⟩ = some (.slice x.p3 x.m.tab.length x.c3) := bxq_cell hbx rfl
    have b8 : W.cell? ⟨Bx, 8, none⟩ = some (.slice x.p4 x.m.maps.length x.c4) := bxq_cell hbx rfl
    have hBs := hB.size
    have hc0 := hv.cell
    have hc2 := fun o => (hv.alloc o).cell
    have hil := (List.getElem?_eq_some_iff.1 hx).1
    have htl : (U.take i).length = i := by rw [List.length_take]; omega
    obtain ⟨v', w', hrun, hown', hgrow, hn'⟩ := run_append_own (P := Tryz.prog) (w := W.alloc (.cells #[.string x.m.nm, .bool x.m.stc, .slice x.p1 x.m.args.length x.c1, .int .i64 x.m.ret, .int .i64 x.m.lo, .int .i64 x.m.st, .slice x.p2 x.m.code.length x.c2, .slice x.p3 x.m.tab.length x.c3, .slice x.p4 x.m.maps.length x.c4] 30)) w.heap.size 31 31 30 i0 (.agg #[.string ⟨#[]⟩, .bool false, .slice none 0 0, .int .i64 0, .int .i64 0, .int .i64 0, .slice none 0 0, .slice none 0 0, .slice none 0 0]) 9 144 Tryz.underlying31 hi hz0 hz1 hz2 rfl (by decide) v (U.take i).length ((U.take i).map encM).flatten (World.ownsRow.alloc (w := W) hrow _) ⟨W.heap.size, 0, none⟩ 1 1 [.string x.m.nm, .bool x.m.stc, .slice x.p1 x.m.args.length x.c1, .int .i64 x.m.ret, .int .i64 x.m.lo, .int .i64 x.m.st, .slice x.p2 x.m.code.length x.c2, .slice x.p3 x.m.tab.length x.c3, .slice x.p4 x.m.maps.length x.c4] rfl (news_at W #[.string x.m.nm, .bool x.m.stc, .slice x.p1 x.m.args.length x.c1, .int .i64 x.m.ret, .int .i64 x.m.lo, .int .i64 x.m.st, .slice x.p2 x.m.code.length x.c2, .slice x.p3 x.m.tab.length x.c3, .slice x.p4 x.m.maps.length x.c4] 30) (by simp [Value.oneCell']) (by have := HU.out; unfold maxLen; omega) (by have := HU.out; omega) (by simp; omega)
    obtain ⟨g', cap', rfl⟩ := ownsRow_succ hown'
    obtain ⟨hv1, hv2, hr2, hk2, hb2⟩ := Boxed.appended (W := W) (tmp := .cells #[.string x.m.nm, .bool x.m.stc, .slice x.p1 x.m.args.length x.c1, .int .i64 x.m.ret, .int .i64 x.m.lo, .int .i64 x.m.st, .slice x.p2 x.m.code.length x.c2, .slice x.p3 x.m.tab.length x.c3, .slice x.p4 x.m.maps.length x.c4] 30) hv (by decide) hrow hBs (Nat.le_refl _) hown' hgrow
    rw [ap_Q] at hrun
    have hc1 := hv1.cell
    have hf1 := hv1.frozen
    have HE : Hid (ItQ w w.heap.size w.heap.size 31 30 9 encM U (i + 1) (w'.setCell ⟨w.heap.size, 0, none⟩ (.slice (some ⟨g', 0, none⟩) ((U.take i).length + 1) cap'))) := by
      refine ⟨⟨_, hv2, ?_, ?_⟩, hB.trans hb2⟩
      · rw [take_next hx, List.length_append, List.map_append, List.flatten_append]; exact hr2
      · rw [take_next hx]; simp
    have HK : Hid (KeepsOthers W (w'.setCell ⟨w.heap.size, 0, none⟩ (.slice (some ⟨g', 0, none⟩) ((U.take i).length + 1) cap'))) := hk2
    clear hv hrow hnil hB hv1 hv2 hr2 hk2 hb2 hown' hgrow hn' HJ H0 htl hil hx HI hbx
    generalize (U.take i).length = m at hrun HE HK ⊢
    gi_wp2
    exact ⟨HK.out.from _, trivial, HE.out⟩
  case done =>
    rintro D i W hD rfl ⟨⟨v, hv, hrow, hnil⟩, hB⟩ hK
    rw [List.take_length] at hrow hnil
    have hc := hv.cell
    gi_wp2
    refine ⟨by simp, .inl ⟨_, _, rfl, run_takeDeferred hK, ?_⟩⟩
    exact ⟨_, results_tmp rfl _ _ _, v, rfl, ownsRow_putObj hrow _ hK rfl, hnil, hB.trans (belowK_b (w := w) (Nat.le_refl _) W D _ _ (by simp at hD; omega) hK rfl rfl)⟩
  case stop => exact fun _ _ _ h => h.elim
theorem colM_ok {gf : Nat} (he : Ent gf) {lb : Array Value} {U : List MdA} {w : World} (hU : U.length ≤ 1073741824) (hG : GivesQ w gf lb (fun x : MdA => #[Value.agg (encM x).toArray]) U) :
    Calls Tryz.prog 122 #[.func (.func gf) #[] lb] w (ColP w 30 9 encM U) := by
  have ha := appM_ok he hU hG
  clear hG hU
  go_enter Tryz.func122, Tryz.ntmps122
  go_wp2_with (go_at_call 139; refine ha.mono ?_; rintro e w1 ⟨v, rfl, hp⟩)
  go_ret
  exact ⟨v, rfl, hp⟩
end Go.Proofs.YtbbmgjcabmjjdaaGreatDoor
