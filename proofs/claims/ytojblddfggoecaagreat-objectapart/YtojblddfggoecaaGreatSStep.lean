/- Step of a stack, whatever the access of the agent's operation does. -/
import Derived.Test.YtojblddfggoecaaGreatSStk
namespace Go.Proofs.YtojblddfggoecaaGreat
open Go.RowKit

theorem updOp_twice (ops : Nat → Op) (g : Nat) (x y : Op) : updOp (updOp ops g x) g y = updOp ops g y := by funext j; unfold updOp; split <;> rfl
theorem inv_push (p : Addr) (w : World) : (Go.method 320 160 (.pointer (some p)) "gneiss/stack.step").run Tryz.prog w = .ok (162, .pointer (some p)) w := by kernel_rfl
theorem inv_pop (p : Addr) (w : World) : (Go.method 320 162 (.pointer (some p)) "gneiss/stack.step").run Tryz.prog w = .ok (163, .pointer (some p)) w := by kernel_rfl
set_option maxRecDepth 20000 in
set_option maxHeartbeats 1000000 in
theorem step_push_on {w : World} {P : Nat → Prop} {s b bw bs bt bu bl W G base cap : Nat} {ws cs : Nat → Int} {ops : Nat → Op} {ob : Nat → Nat} (h : Stk w P s b bw bs bt bu bl W G base cap ws cs ops ob) {ws' cs' : Nat → Int} {item n t i n' t' i' v1 : Int} {v2 : Bool} (g : Nat) (hg : g < G) (ho : ops g = Op.push item n t i)
    (hc : ∀ x y z, w.heap[x]? = some (.cells #[.pointer (some ⟨b, 0, none⟩), .func (.func 135) #[] #[.pointer (some ⟨bt, 0, none⟩)], .func (.func 136) #[] #[.pointer (some ⟨bu, 0, none⟩)], .pointer (some ⟨b, 0, none⟩), .func (.func 137) #[] #[.pointer (some ⟨bl, 0, none⟩)], .func (.func 124) #[] #[], .int .i64 base, .int .i64 cap] 123 (0, 0)) → w.heap[y]? = some (.cells #[.int .i64 g] 3 (0, 0)) → y ≠ bw → y ≠ bs → w.heap[z]? = some (.cells #[.int .i64 item] 126 (0, 0)) → ∀ u, Below w.heap.size w u → Calls Tryz.prog 126 #[.agg #[.int .i64 n, .int .i64 t, .int .i64 i], .pointer (some ⟨x, 0, none⟩), .pointer (some ⟨y, 0, none⟩), .pointer (some ⟨z, 0, none⟩)] u fun e w' => e = .returned (.tuple #[.agg #[.int .i64 n', .int .i64 t', .int .i64 i'], .agg #[.bool false, .int .i64 v1, .bool v2]]) ∧ Ar w' b bw bs W G ws' cs' ∧ But bw bs u w') :
    Calls Tryz.prog 96 #[.pointer (some ⟨s, 0, none⟩), .int .i64 g] w fun e w' => e = .returned (.tuple #[.bool false, .int .i64 v1, .bool v2, .int .i64 0]) ∧ Stk w' P s b bw bs bt bu bl W G base cap ws' cs' (updOp ops g (Op.push item n' t' i')) ob ∧ Bt P w w' := by
  have c0 := h.c0
  have g12 : (g : Int) < 12 := by have := h.few; omega
  have g12' : g < 12 := by have := h.few; omega
  have cv := h.cv g g12'
  have hT := h.tk g hg
  rw [ho] at cv hT
  simp only [Op.val] at cv
  obtain ⟨p0, x, y, z, p1, p2, p3, h1, h2, h3, y1, y2, h4⟩ := hT
  have hn := hasAgent_yes h.ar g (by omega) (by omega)
  have hc' := hc x y z h2 h3 y1 y2 h4
  clear hc
  have qx : ¬ (x = bw ∨ x = bs ∨ x = ob g) := fun q => by rcases q with q | q | q; exact ne_row h2 (by decide) h.ar.words q; exact ne_row h2 (by decide) h.ar.steps q; subst q; rw [h1] at h2; simp at h2
  have qy : ¬ (y = bw ∨ y = bs ∨ y = ob g) := fun q => by rcases q with q | q | q; exact y1 q; exact y2 q; subst q; rw [h1] at h3; simp at h3
  have qz : ¬ (z = bw ∨ z = bs ∨ z = ob g) := fun q => by rcases q with q | q | q; exact ne_row h4 (by decide) h.ar.words q; exact ne_row h4 (by decide) h.ar.steps q; subst q; rw [h1] at h4; simp at h4
  have key : ∀ w1, Ar w1 b bw bs W G ws' cs' → w1.heap[ob g]? = some (.cells #[.int .i64 n', .int .i64 t', .int .i64 i', .func (.func 126) #[] #[.pointer (some ⟨x, 0, none⟩), .pointer (some ⟨y, 0, none⟩), .pointer (some ⟨z, 0, none⟩)]] 186 (0, 0)) → Bt (fun k => k = bw ∨ k = bs ∨ k = ob g) w w1 → Stk w1 P s b bw bs bt bu bl W G base cap ws' cs' (updOp ops g (Op.push item n' t' i')) ob := by
    intro w1 hA hO1 hB
    exact h.turn (op := (Op.push item n' t' i')) hg h1 (by decide) (by rw [ho]; simp) (by rw [ho]; rfl) (by rw [ho]; rfl) hA hB ⟨p0, x, y, z, p1, p2, p3, hO1, (hB.block x (box_lt h2) qx).trans h2, (hB.block y (box_lt h3) qy).trans h3, y1, y2, (hB.block z (box_lt h4) qz).trans h4⟩
  have hF := h.foot
  have hbt : ∀ w1, Bt (fun k => k = bw ∨ k = bs ∨ k = ob g) w w1 → Bt P w w1 := fun w1 k => k.mono fun j _ q => by rcases q with q | q | q; exact q ▸ hF.2.2.1; exact q ▸ hF.2.2.2.1; exact q ▸ p0
  have hps : P s := hF.1
  have hst := push_step h.ar h1 hc'
  have kit : Hid (∀ w1, Ar w1 b bw bs W G ws' cs' → w1.heap[ob g]? = some (.cells #[.int .i64 n', .int .i64 t', .int .i64 i', .func (.func 126) #[] #[.pointer (some ⟨x, 0, none⟩), .pointer (some ⟨y, 0, none⟩), .pointer (some ⟨z, 0, none⟩)]] 186 (0, 0)) → Bt (fun k => k = bw ∨ k = bs ∨ k = ob g) w w1 → Stk w1 P s b bw bs bt bu bl W G base cap ws' cs' (updOp ops g (Op.push item n' t' i')) ob ∧ Bt P w w1) := fun w1 a1 a2 a3 => ⟨key w1 a1 a2 a3, hbt w1 a3⟩
  clear key hbt hF hc' qx qy qz p0 p1 p2 p3 h1 h2 h3 h4 y1 y2 ho h
  have hm := inv_push
  go_enter Tryz.func96, Tryz.ntmps96
  go_wp2_with (first | (go_at_call 54; refine hn.mono ?_; rintro e w1 ⟨rfl, rfl⟩) | (go_at_call 162; refine hst.mono ?_; rintro e w1 ⟨rfl, hA, hO1, hB⟩; obtain ⟨hS, hS2⟩ := kit.out _ hA hO1 hB; clear hA hO1 hB hst; have k1 := fun o => (hS.alloc o).cv g g12'; have k2 := fun o => (hS.alloc o).cl g g12'; have k3 := fun o i => (hS.alloc o).here.frozen i; have k4 : w1.heap.size ≠ s := (by have := hS.here.lt; omega)))
  go_quiet (fail)
  go_wp2
  exact bodyPost_ret (results_tmp4 rfl _ _) rfl ⟨rfl, (hS.alloc _).below (below_drewN _ _ _), (hS2.alloc _).trans (Bt.of_below (below_drewN _ _ _))⟩
set_option maxRecDepth 20000 in
set_option maxHeartbeats 1000000 in
theorem step_push_done {w : World} {P : Nat → Prop} {s b bw bs bt bu bl W G base cap : Nat} {ws cs : Nat → Int} {ops : Nat → Op} {ob : Nat → Nat} (h : Stk w P s b bw bs bt bu bl W G base cap ws cs ops ob) {ws' cs' : Nat → Int} {item n t i n' t' i' v1 : Int} {v2 : Bool} (g : Nat) (hg : g < G) (ho : ops g = Op.push item n t i)
    (hc : ∀ x y z, w.heap[x]? = some (.cells #[.pointer (some ⟨b, 0, none⟩), .func (.func 135) #[] #[.pointer (some ⟨bt, 0, none⟩)], .func (.func 136) #[] #[.pointer (some ⟨bu, 0, none⟩)], .pointer (some ⟨b, 0, none⟩), .func (.func 137) #[] #[.pointer (some ⟨bl, 0, none⟩)], .func (.func 124) #[] #[], .int .i64 base, .int .i64 cap] 123 (0, 0)) → w.heap[y]? = some (.cells #[.int .i64 g] 3 (0, 0)) → y ≠ bw → y ≠ bs → w.heap[z]? = some (.cells #[.int .i64 item] 126 (0, 0)) → ∀ u, Below w.heap.size w u → Calls Tryz.prog 126 #[.agg #[.int .i64 n, .int .i64 t, .int .i64 i], .pointer (some ⟨x, 0, none⟩), .pointer (some ⟨y, 0, none⟩), .pointer (some ⟨z, 0, none⟩)] u fun e w' => e = .returned (.tuple #[.agg #[.int .i64 n', .int .i64 t', .int .i64 i'], .agg #[.bool true, .int .i64 v1, .bool v2]]) ∧ Ar w' b bw bs W G ws' cs' ∧ But bw bs u w') :
    Calls Tryz.prog 96 #[.pointer (some ⟨s, 0, none⟩), .int .i64 g] w fun e w' => e = .returned (.tuple #[.bool true, .int .i64 v1, .bool v2, .int .i64 0]) ∧ Stk w' P s b bw bs bt bu bl W G base cap ws' cs' (updOp ops g Op.idle) ob ∧ Bt P w w' := by
  have c0 := h.c0
  have g12 : (g : Int) < 12 := by have := h.few; omega
  have g12' : g < 12 := by have := h.few; omega
  have cv := h.cv g g12'
  have hT := h.tk g hg
  rw [ho] at cv hT
  simp only [Op.val] at cv
  obtain ⟨p0, x, y, z, p1, p2, p3, h1, h2, h3, y1, y2, h4⟩ := hT
  have hn := hasAgent_yes h.ar g (by omega) (by omega)
  have hc' := hc x y z h2 h3 y1 y2 h4
  clear hc
  have qx : ¬ (x = bw ∨ x = bs ∨ x = ob g) := fun q => by rcases q with q | q | q; exact ne_row h2 (by decide) h.ar.words q; exact ne_row h2 (by decide) h.ar.steps q; subst q; rw [h1] at h2; simp at h2
  have qy : ¬ (y = bw ∨ y = bs ∨ y = ob g) := fun q => by rcases q with q | q | q; exact y1 q; exact y2 q; subst q; rw [h1] at h3; simp at h3
  have qz : ¬ (z = bw ∨ z = bs ∨ z = ob g) := fun q => by rcases q with q | q | q; exact ne_row h4 (by decide) h.ar.words q; exact ne_row h4 (by decide) h.ar.steps q; subst q; rw [h1] at h4; simp at h4
  have key : ∀ w1, Ar w1 b bw bs W G ws' cs' → w1.heap[ob g]? = some (.cells #[.int .i64 n', .int .i64 t', .int .i64 i', .func (.func 126) #[] #[.pointer (some ⟨x, 0, none⟩), .pointer (some ⟨y, 0, none⟩), .pointer (some ⟨z, 0, none⟩)]] 186 (0, 0)) → Bt (fun k => k = bw ∨ k = bs ∨ k = ob g) w w1 → Stk w1 P s b bw bs bt bu bl W G base cap ws' cs' (updOp ops g (Op.push item n' t' i')) ob := by
    intro w1 hA hO1 hB
    exact h.turn (op := (Op.push item n' t' i')) hg h1 (by decide) (by rw [ho]; simp) (by rw [ho]; rfl) (by rw [ho]; rfl) hA hB ⟨p0, x, y, z, p1, p2, p3, hO1, (hB.block x (box_lt h2) qx).trans h2, (hB.block y (box_lt h3) qy).trans h3, y1, y2, (hB.block z (box_lt h4) qz).trans h4⟩
  have hF := h.foot
  have hbt : ∀ w1, Bt (fun k => k = bw ∨ k = bs ∨ k = ob g) w w1 → Bt P w w1 := fun w1 k => k.mono fun j _ q => by rcases q with q | q | q; exact q ▸ hF.2.2.1; exact q ▸ hF.2.2.2.1; exact q ▸ p0
  have hps : P s := hF.1
  have hst := push_step h.ar h1 hc'
  have kit : Hid (∀ w1, Ar w1 b bw bs W G ws' cs' → w1.heap[ob g]? = some (.cells #[.int .i64 n', .int .i64 t', .int .i64 i', .func (.func 126) #[] #[.pointer (some ⟨x, 0, none⟩), .pointer (some ⟨y, 0, none⟩), .pointer (some ⟨z, 0, none⟩)]] 186 (0, 0)) → Bt (fun k => k = bw ∨ k = bs ∨ k = ob g) w w1 → Stk w1 P s b bw bs bt bu bl W G base cap ws' cs' (updOp ops g (Op.push item n' t' i')) ob ∧ Bt P w w1) := fun w1 a1 a2 a3 => ⟨key w1 a1 a2 a3, hbt w1 a3⟩
  clear key hbt hF hc' qx qy qz p0 p1 p2 p3 h1 h2 h3 h4 y1 y2 ho h
  have hm := inv_push
  go_enter Tryz.func96, Tryz.ntmps96
  go_wp2_with (first | (go_at_call 54; refine hn.mono ?_; rintro e w1 ⟨rfl, rfl⟩) | (go_at_call 162; refine hst.mono ?_; rintro e w1 ⟨rfl, hA, hO1, hB⟩; obtain ⟨hS, hS2⟩ := kit.out _ hA hO1 hB; clear hA hO1 hB hst; have k1 := fun o => (hS.alloc o).cv g g12'; have k2 := fun o => (hS.alloc o).cl g g12'; have k3 := fun o i => (hS.alloc o).here.frozen i; have k4 : w1.heap.size ≠ s := (by have := hS.here.lt; omega)))
  go_quiet (fail)
  go_wp2
  refine bodyPost_ret (results_tmp4 rfl _ _) rfl ⟨rfl, ?_, ?_⟩
  · have hE := (hS.alloc (.cells #[.bool true, .int .i64 v1, .bool v2] 165)).task (fun _ q => q) (hS.alloc _).lt g hg .idle (ob g) trivial (fun _ _ _ _ q => absurd rfl q)
    rw [updOp_twice, updN_self] at hE
    exact hE.below (below_drewN _ _ _)
  · exact (((hS2.alloc _).set s _ _ (.inl hps)).set s _ _ (.inl hps)).trans (Bt.of_below (below_drewN _ _ _))
set_option maxRecDepth 20000 in
set_option maxHeartbeats 1000000 in
theorem step_pop_on {w : World} {P : Nat → Prop} {s b bw bs bt bu bl W G base cap : Nat} {ws cs : Nat → Int} {ops : Nat → Op} {ob : Nat → Nat} (h : Stk w P s b bw bs bt bu bl W G base cap ws cs ops ob) {ws' cs' : Nat → Int} {n t i d n' t' i' d' v1 : Int} {v2 : Bool} (g : Nat) (hg : g < G) (ho : ops g = Op.pop n t i d)
    (hc : ∀ x y, w.heap[x]? = some (.cells #[.pointer (some ⟨b, 0, none⟩), .func (.func 135) #[] #[.pointer (some ⟨bt, 0, none⟩)], .func (.func 136) #[] #[.pointer (some ⟨bu, 0, none⟩)], .pointer (some ⟨b, 0, none⟩), .func (.func 137) #[] #[.pointer (some ⟨bl, 0, none⟩)], .func (.func 124) #[] #[], .int .i64 base, .int .i64 cap] 123 (0, 0)) → w.heap[y]? = some (.cells #[.int .i64 g] 3 (0, 0)) → y ≠ bw → y ≠ bs → ∀ u, Below w.heap.size w u → Calls Tryz.prog 130 #[.agg #[.int .i64 n, .int .i64 t, .int .i64 i, .int .i64 d], .pointer (some ⟨x, 0, none⟩), .pointer (some ⟨y, 0, none⟩)] u fun e w' => e = .returned (.tuple #[.agg #[.int .i64 n', .int .i64 t', .int .i64 i', .int .i64 d'], .agg #[.bool false, .int .i64 v1, .bool v2]]) ∧ Ar w' b bw bs W G ws' cs' ∧ But bw bs u w') :
    Calls Tryz.prog 96 #[.pointer (some ⟨s, 0, none⟩), .int .i64 g] w fun e w' => e = .returned (.tuple #[.bool false, .int .i64 v1, .bool v2, .int .i64 0]) ∧ Stk w' P s b bw bs bt bu bl W G base cap ws' cs' (updOp ops g (Op.pop n' t' i' d')) ob ∧ Bt P w w' := by
  have c0 := h.c0
  have g12 : (g : Int) < 12 := by have := h.few; omega
  have g12' : g < 12 := by have := h.few; omega
  have cv := h.cv g g12'
  have hT := h.tk g hg
  rw [ho] at cv hT
  simp only [Op.val] at cv
  obtain ⟨p0, x, y, p1, p2, h1, h2, h3, y1, y2⟩ := hT
  have hn := hasAgent_yes h.ar g (by omega) (by omega)
  have hc' := hc x y h2 h3 y1 y2
  clear hc
  have qx : ¬ (x = bw ∨ x = bs ∨ x = ob g) := fun q => by rcases q with q | q | q; exact ne_row h2 (by decide) h.ar.words q; exact ne_row h2 (by decide) h.ar.steps q; subst q; rw [h1] at h2; simp at h2
  have qy : ¬ (y = bw ∨ y = bs ∨ y = ob g) := fun q => by rcases q with q | q | q; exact y1 q; exact y2 q; subst q; rw [h1] at h3; simp at h3
  have key : ∀ w1, Ar w1 b bw bs W G ws' cs' → w1.heap[ob g]? = some (.cells #[.int .i64 n', .int .i64 t', .int .i64 i', .int .i64 d', .func (.func 130) #[] #[.pointer (some ⟨x, 0, none⟩), .pointer (some ⟨y, 0, none⟩)]] 193 (0, 0)) → Bt (fun k => k = bw ∨ k = bs ∨ k = ob g) w w1 → Stk w1 P s b bw bs bt bu bl W G base cap ws' cs' (updOp ops g (Op.pop n' t' i' d')) ob := by
    intro w1 hA hO1 hB
    exact h.turn (op := (Op.pop n' t' i' d')) hg h1 (by decide) (by rw [ho]; simp) (by rw [ho]; rfl) (by rw [ho]; rfl) hA hB ⟨p0, x, y, p1, p2, hO1, (hB.block x (box_lt h2) (qx)).trans h2, (hB.block y (box_lt h3) (qy)).trans h3, y1, y2⟩
  have hF := h.foot
  have hbt : ∀ w1, Bt (fun k => k = bw ∨ k = bs ∨ k = ob g) w w1 → Bt P w w1 := fun w1 k => k.mono fun j _ q => by rcases q with q | q | q; exact q ▸ hF.2.2.1; exact q ▸ hF.2.2.2.1; exact q ▸ p0
  have hps : P s := hF.1
  have hst := pop_step h.ar h1 hc'
  have kit : Hid (∀ w1, Ar w1 b bw bs W G ws' cs' → w1.heap[ob g]? = some (.cells #[.int .i64 n', .int .i64 t', .int .i64 i', .int .i64 d', .func (.func 130) #[] #[.pointer (some ⟨x, 0, none⟩), .pointer (some ⟨y, 0, none⟩)]] 193 (0, 0)) → Bt (fun k => k = bw ∨ k = bs ∨ k = ob g) w w1 → Stk w1 P s b bw bs bt bu bl W G base cap ws' cs' (updOp ops g (Op.pop n' t' i' d')) ob ∧ Bt P w w1) := fun w1 a1 a2 a3 => ⟨key w1 a1 a2 a3, hbt w1 a3⟩
  clear key hbt hF hc' qx qy p0 p1 p2 h1 h2 h3 y1 y2 ho h
  have hm := inv_pop
  go_enter Tryz.func96, Tryz.ntmps96
  go_wp2_with (first | (go_at_call 54; refine hn.mono ?_; rintro e w1 ⟨rfl, rfl⟩) | (go_at_call 163; refine hst.mono ?_; rintro e w1 ⟨rfl, hA, hO1, hB⟩; obtain ⟨hS, hS2⟩ := kit.out _ hA hO1 hB; clear hA hO1 hB hst; have k1 := fun o => (hS.alloc o).cv g g12'; have k2 := fun o => (hS.alloc o).cl g g12'; have k3 := fun o i => (hS.alloc o).here.frozen i; have k4 : w1.heap.size ≠ s := (by have := hS.here.lt; omega)))
  go_quiet (fail)
  go_wp2
  exact bodyPost_ret (results_tmp4 rfl _ _) rfl ⟨rfl, (hS.alloc _).below (below_drewN _ _ _), (hS2.alloc _).trans (Bt.of_below (below_drewN _ _ _))⟩
set_option maxRecDepth 20000 in
set_option maxHeartbeats 1000000 in
theorem step_pop_done {w : World} {P : Nat → Prop} {s b bw bs bt bu bl W G base cap : Nat} {ws cs : Nat → Int} {ops : Nat → Op} {ob : Nat → Nat} (h : Stk w P s b bw bs bt bu bl W G base cap ws cs ops ob) {ws' cs' : Nat → Int} {n t i d n' t' i' d' v1 : Int} {v2 : Bool} (g : Nat) (hg : g < G) (ho : ops g = Op.pop n t i d)
    (hc : ∀ x y, w.heap[x]? = some (.cells #[.pointer (some ⟨b, 0, none⟩), .func (.func 135) #[] #[.pointer (some ⟨bt, 0, none⟩)], .func (.func 136) #[] #[.pointer (some ⟨bu, 0, none⟩)], .pointer (some ⟨b, 0, none⟩), .func (.func 137) #[] #[.pointer (some ⟨bl, 0, none⟩)], .func (.func 124) #[] #[], .int .i64 base, .int .i64 cap] 123 (0, 0)) → w.heap[y]? = some (.cells #[.int .i64 g] 3 (0, 0)) → y ≠ bw → y ≠ bs → ∀ u, Below w.heap.size w u → Calls Tryz.prog 130 #[.agg #[.int .i64 n, .int .i64 t, .int .i64 i, .int .i64 d], .pointer (some ⟨x, 0, none⟩), .pointer (some ⟨y, 0, none⟩)] u fun e w' => e = .returned (.tuple #[.agg #[.int .i64 n', .int .i64 t', .int .i64 i', .int .i64 d'], .agg #[.bool true, .int .i64 v1, .bool v2]]) ∧ Ar w' b bw bs W G ws' cs' ∧ But bw bs u w') :
    Calls Tryz.prog 96 #[.pointer (some ⟨s, 0, none⟩), .int .i64 g] w fun e w' => e = .returned (.tuple #[.bool true, .int .i64 v1, .bool v2, .int .i64 0]) ∧ Stk w' P s b bw bs bt bu bl W G base cap ws' cs' (updOp ops g Op.idle) ob ∧ Bt P w w' := by
  have c0 := h.c0
  have g12 : (g : Int) < 12 := by have := h.few; omega
  have g12' : g < 12 := by have := h.few; omega
  have cv := h.cv g g12'
  have hT := h.tk g hg
  rw [ho] at cv hT
  simp only [Op.val] at cv
  obtain ⟨p0, x, y, p1, p2, h1, h2, h3, y1, y2⟩ := hT
  have hn := hasAgent_yes h.ar g (by omega) (by omega)
  have hc' := hc x y h2 h3 y1 y2
  clear hc
  have qx : ¬ (x = bw ∨ x = bs ∨ x = ob g) := fun q => by rcases q with q | q | q; exact ne_row h2 (by decide) h.ar.words q; exact ne_row h2 (by decide) h.ar.steps q; subst q; rw [h1] at h2; simp at h2
  have qy : ¬ (y = bw ∨ y = bs ∨ y = ob g) := fun q => by rcases q with q | q | q; exact y1 q; exact y2 q; subst q; rw [h1] at h3; simp at h3
  have key : ∀ w1, Ar w1 b bw bs W G ws' cs' → w1.heap[ob g]? = some (.cells #[.int .i64 n', .int .i64 t', .int .i64 i', .int .i64 d', .func (.func 130) #[] #[.pointer (some ⟨x, 0, none⟩), .pointer (some ⟨y, 0, none⟩)]] 193 (0, 0)) → Bt (fun k => k = bw ∨ k = bs ∨ k = ob g) w w1 → Stk w1 P s b bw bs bt bu bl W G base cap ws' cs' (updOp ops g (Op.pop n' t' i' d')) ob := by
    intro w1 hA hO1 hB
    exact h.turn (op := (Op.pop n' t' i' d')) hg h1 (by decide) (by rw [ho]; simp) (by rw [ho]; rfl) (by rw [ho]; rfl) hA hB ⟨p0, x, y, p1, p2, hO1, (hB.block x (box_lt h2) (qx)).trans h2, (hB.block y (box_lt h3) (qy)).trans h3, y1, y2⟩
  have hF := h.foot
  have hbt : ∀ w1, Bt (fun k => k = bw ∨ k = bs ∨ k = ob g) w w1 → Bt P w w1 := fun w1 k => k.mono fun j _ q => by rcases q with q | q | q; exact q ▸ hF.2.2.1; exact q ▸ hF.2.2.2.1; exact q ▸ p0
  have hps : P s := hF.1
  have hst := pop_step h.ar h1 hc'
  have kit : Hid (∀ w1, Ar w1 b bw bs W G ws' cs' → w1.heap[ob g]? = some (.cells #[.int .i64 n', .int .i64 t', .int .i64 i', .int .i64 d', .func (.func 130) #[] #[.pointer (some ⟨x, 0, none⟩), .pointer (some ⟨y, 0, none⟩)]] 193 (0, 0)) → Bt (fun k => k = bw ∨ k = bs ∨ k = ob g) w w1 → Stk w1 P s b bw bs bt bu bl W G base cap ws' cs' (updOp ops g (Op.pop n' t' i' d')) ob ∧ Bt P w w1) := fun w1 a1 a2 a3 => ⟨key w1 a1 a2 a3, hbt w1 a3⟩
  clear key hbt hF hc' qx qy p0 p1 p2 h1 h2 h3 y1 y2 ho h
  have hm := inv_pop
  go_enter Tryz.func96, Tryz.ntmps96
  go_wp2_with (first | (go_at_call 54; refine hn.mono ?_; rintro e w1 ⟨rfl, rfl⟩) | (go_at_call 163; refine hst.mono ?_; rintro e w1 ⟨rfl, hA, hO1, hB⟩; obtain ⟨hS, hS2⟩ := kit.out _ hA hO1 hB; clear hA hO1 hB hst; have k1 := fun o => (hS.alloc o).cv g g12'; have k2 := fun o => (hS.alloc o).cl g g12'; have k3 := fun o i => (hS.alloc o).here.frozen i; have k4 : w1.heap.size ≠ s := (by have := hS.here.lt; omega)))
  go_quiet (fail)
  go_wp2
  refine bodyPost_ret (results_tmp4 rfl _ _) rfl ⟨rfl, ?_, ?_⟩
  · have hE := (hS.alloc (.cells #[.bool true, .int .i64 v1, .bool v2] 165)).task (fun _ q => q) (hS.alloc _).lt g hg .idle (ob g) trivial (fun _ _ _ _ q => absurd rfl q)
    rw [updOp_twice, updN_self] at hE
    exact hE.below (below_drewN _ _ _)
  · exact (((hS2.alloc _).set s _ _ (.inl hps)).set s _ _ (.inl hps)).trans (Bt.of_below (below_drewN _ _ _))
end Go.Proofs.YtojblddfggoecaaGreat
