/- Begin and New of a stack. -/
import Derived.Test.YtojblddfggoecaaGreatSTakes
namespace Go.Proofs.YtojblddfggoecaaGreat
open Go.RowKit

section
variable {w : World} {P : Nat → Prop} {s b bw bs bt bu bl W G base cap : Nat} {ws cs : Nat → Int} {ops : Nat → Op} {ob : Nat → Nat} {T : Int} {xs : List Int}
theorem begin_agent (h : Stk w P s b bw bs bt bu bl W G base cap ws cs ops ob) (g op v : Int) (hg : ¬ (0 ≤ g ∧ g < G)) :
    Calls Tryz.prog 95 #[.pointer (some ⟨s, 0, none⟩), .int .i64 g, .int .i64 op, .int .i64 v] w fun e w' => e = .returned (.int .i64 501) ∧ w' = w := by
  have c0 := h.c0
  have hn := hasAgent_no h.ar g hg
  clear hg
  go_enter Tryz.func95, Tryz.ntmps95
  go_wp2_with (go_at_call 54; refine hn.mono ?_; rintro e w1 ⟨rfl, rfl⟩)
  go_ret
  exact ⟨rfl, rfl⟩
theorem val_busy {op : Op} (h : op ≠ .idle) (o : Nat) : ∃ t a, op.val o = .iface t (.pointer (some a)) := by
  cases op with
  | idle => exact absurd rfl h
  | push _ _ _ _ => exact ⟨_, _, rfl⟩
  | pop _ _ _ _ => exact ⟨_, _, rfl⟩
set_option maxRecDepth 20000 in
theorem begin_busy (h : Stk w P s b bw bs bt bu bl W G base cap ws cs ops ob) (g : Nat) (op v : Int) (hg : g < G) (hb : ops g ≠ .idle) :
    Calls Tryz.prog 95 #[.pointer (some ⟨s, 0, none⟩), .int .i64 g, .int .i64 op, .int .i64 v] w fun e w' => e = .returned (.int .i64 502) ∧ w' = w := by
  have c0 := h.c0
  have g12 : (g : Int) < 12 := by have := h.few; omega
  have cv := h.cv g (by omega)
  obtain ⟨t, a, hv⟩ := val_busy hb (ob g)
  rw [hv] at cv
  have hn := hasAgent_yes h.ar g (by omega) (by omega)
  clear hb hv
  go_enter Tryz.func95, Tryz.ntmps95
  go_wp2_with (go_at_call 54; refine hn.mono ?_; rintro e w1 ⟨rfl, rfl⟩)
  go_ret
  exact ⟨rfl, rfl⟩
set_option maxRecDepth 20000 in
theorem begin_value (h : Stk w P s b bw bs bt bu bl W G base cap ws cs ops ob) (hI : Inv base cap ws ops T xs) (hT : T ≤ 1000000000) (g : Nat) (v : Int) (hg : g < G) (hb : ops g = .idle) (hm : ¬ May cap ops xs v) :
    Calls Tryz.prog 95 #[.pointer (some ⟨s, 0, none⟩), .int .i64 g, .int .i64 0, .int .i64 v] w fun e w' => e = .returned (.int .i64 504) ∧ Below w.heap.size w w' := by
  have c0 := h.c0
  have g12 : (g : Int) < 12 := by have := h.few; omega
  have cv := h.cv g (by omega)
  rw [hb] at cv
  simp only [Op.val] at cv
  have hn := hasAgent_yes h.ar g (by omega) (by omega)
  have ht := takes_no h hI hT v hm
  clear hb hm
  go_enter Tryz.func95, Tryz.ntmps95
  go_wp2_with (first | (go_at_call 54; refine hn.mono ?_; rintro e w1 ⟨rfl, rfl⟩) | (go_at_call 113; refine ht.mono ?_; rintro e w2 ⟨rfl, hb⟩))
  go_ret
  exact ⟨rfl, hb⟩
end
theorem newPush_ok {b bt bu bl base cap : Nat} (g : Nat) (item : Int) (w : World) :
    Calls Tryz.prog 114 #[.agg #[.pointer (some ⟨b, 0, none⟩), .func (.func 135) #[] #[.pointer (some ⟨bt, 0, none⟩)], .func (.func 136) #[] #[.pointer (some ⟨bu, 0, none⟩)], .pointer (some ⟨b, 0, none⟩), .func (.func 137) #[] #[.pointer (some ⟨bl, 0, none⟩)], .func (.func 124) #[] #[], .int .i64 base, .int .i64 cap], .int .i64 g, .int .i64 item] w fun e w' => e = .returned (.pointer (some ⟨w.heap.size + 1 + 1 + 1, 0, none⟩)) ∧
      w' = (((w.alloc (.cells #[.pointer (some ⟨b, 0, none⟩), .func (.func 135) #[] #[.pointer (some ⟨bt, 0, none⟩)], .func (.func 136) #[] #[.pointer (some ⟨bu, 0, none⟩)], .pointer (some ⟨b, 0, none⟩), .func (.func 137) #[] #[.pointer (some ⟨bl, 0, none⟩)], .func (.func 124) #[] #[], .int .i64 base, .int .i64 cap] 123)).alloc (.cells #[.int .i64 g] 3)).alloc (.cells #[.int .i64 item] 126)).alloc (.cells #[.int .i64 0, .int .i64 0, .int .i64 0, .func (.func 126) #[] #[.pointer (some ⟨w.heap.size, 0, none⟩), .pointer (some ⟨w.heap.size + 1, 0, none⟩), .pointer (some ⟨w.heap.size + 1 + 1, 0, none⟩)]] 186) := by
  go_enter Tryz.func114, Tryz.ntmps114
  go_wp2
  go_ret
  exact ⟨rfl, rfl⟩
theorem newPop_ok {b bt bu bl base cap : Nat} (g : Nat) (w : World) :
    Calls Tryz.prog 115 #[.agg #[.pointer (some ⟨b, 0, none⟩), .func (.func 135) #[] #[.pointer (some ⟨bt, 0, none⟩)], .func (.func 136) #[] #[.pointer (some ⟨bu, 0, none⟩)], .pointer (some ⟨b, 0, none⟩), .func (.func 137) #[] #[.pointer (some ⟨bl, 0, none⟩)], .func (.func 124) #[] #[], .int .i64 base, .int .i64 cap], .int .i64 g] w fun e w' => e = .returned (.pointer (some ⟨w.heap.size + 1 + 1, 0, none⟩)) ∧
      w' = ((w.alloc (.cells #[.pointer (some ⟨b, 0, none⟩), .func (.func 135) #[] #[.pointer (some ⟨bt, 0, none⟩)], .func (.func 136) #[] #[.pointer (some ⟨bu, 0, none⟩)], .pointer (some ⟨b, 0, none⟩), .func (.func 137) #[] #[.pointer (some ⟨bl, 0, none⟩)], .func (.func 124) #[] #[], .int .i64 base, .int .i64 cap] 123)).alloc (.cells #[.int .i64 g] 3)).alloc (.cells #[.int .i64 0, .int .i64 0, .int .i64 0, .int .i64 0, .func (.func 130) #[] #[.pointer (some ⟨w.heap.size, 0, none⟩), .pointer (some ⟨w.heap.size + 1, 0, none⟩)]] 193) := by
  go_enter Tryz.func115, Tryz.ntmps115
  go_wp2
  go_ret
  exact ⟨rfl, rfl⟩
theorem cell_off (w : World) (s i j : Nat) (v : Value) (h : i ≠ j) : (w.setCell ⟨s, i, none⟩ v).cell? ⟨s, j, none⟩ = w.cell? ⟨s, j, none⟩ := World.cell?_setCell_other _ _ _ _ (fun e => h (by injection e))
theorem keepW {w : World} {s g : Nat} {x1 x2 x3 x4 x5 x6 x7 x8 u v : Value} (h : w.cell? ⟨s, 1, none⟩ = some x1 ∧ w.cell? ⟨s, 2, none⟩ = some x2 ∧ w.cell? ⟨s, 3, none⟩ = some x3 ∧ w.cell? ⟨s, 4, none⟩ = some x4 ∧ w.cell? ⟨s, 5, none⟩ = some x5 ∧ w.cell? ⟨s, 6, none⟩ = some x6 ∧ w.cell? ⟨s, 7, none⟩ = some x7 ∧ w.cell? ⟨s, 8, none⟩ = some x8) : ((w.setCell ⟨s, 9 + g * 2, none⟩ u).setCell ⟨s, 9 + g * 2 + 1, none⟩ v).cell? ⟨s, 1, none⟩ = some x1 ∧ ((w.setCell ⟨s, 9 + g * 2, none⟩ u).setCell ⟨s, 9 + g * 2 + 1, none⟩ v).cell? ⟨s, 2, none⟩ = some x2 ∧ ((w.setCell ⟨s, 9 + g * 2, none⟩ u).setCell ⟨s, 9 + g * 2 + 1, none⟩ v).cell? ⟨s, 3, none⟩ = some x3 ∧ ((w.setCell ⟨s, 9 + g * 2, none⟩ u).setCell ⟨s, 9 + g * 2 + 1, none⟩ v).cell? ⟨s, 4, none⟩ = some x4 ∧ ((w.setCell ⟨s, 9 + g * 2, none⟩ u).setCell ⟨s, 9 + g * 2 + 1, none⟩ v).cell? ⟨s, 5, none⟩ = some x5 ∧ ((w.setCell ⟨s, 9 + g * 2, none⟩ u).setCell ⟨s, 9 + g * 2 + 1, none⟩ v).cell? ⟨s, 6, none⟩ = some x6 ∧ ((w.setCell ⟨s, 9 + g * 2, none⟩ u).setCell ⟨s, 9 + g * 2 + 1, none⟩ v).cell? ⟨s, 7, none⟩ = some x7 ∧ ((w.setCell ⟨s, 9 + g * 2, none⟩ u).setCell ⟨s, 9 + g * 2 + 1, none⟩ v).cell? ⟨s, 8, none⟩ = some x8 := by
  obtain ⟨h1, h2, h3, h4, h5, h6, h7, h8⟩ := h
  refine ⟨?_, ?_, ?_, ?_, ?_, ?_, ?_, ?_⟩ <;> (rw [cell_off _ _ _ _ _ (by omega), cell_off _ _ _ _ _ (by omega)]; assumption)
/-- A new operation, its blocks letters. -/
theorem newPush_let {b bt bu bl base cap : Nat} (g : Nat) (item : Int) (w : World) :
    Calls Tryz.prog 114 #[.agg #[.pointer (some ⟨b, 0, none⟩), .func (.func 135) #[] #[.pointer (some ⟨bt, 0, none⟩)], .func (.func 136) #[] #[.pointer (some ⟨bu, 0, none⟩)], .pointer (some ⟨b, 0, none⟩), .func (.func 137) #[] #[.pointer (some ⟨bl, 0, none⟩)], .func (.func 124) #[] #[], .int .i64 base, .int .i64 cap], .int .i64 g, .int .i64 item] w fun e w' => ∃ o x y z, e = .returned (.pointer (some ⟨o, 0, none⟩)) ∧ Below w.heap.size w w' ∧ w.heap.size ≤ o ∧ w.heap.size ≤ x ∧ w.heap.size ≤ y ∧ w.heap.size ≤ z ∧
      w'.heap[o]? = some (.cells #[.int .i64 0, .int .i64 0, .int .i64 0, .func (.func 126) #[] #[.pointer (some ⟨x, 0, none⟩), .pointer (some ⟨y, 0, none⟩), .pointer (some ⟨z, 0, none⟩)]] 186 (0, 0)) ∧ w'.heap[x]? = some (.cells #[.pointer (some ⟨b, 0, none⟩), .func (.func 135) #[] #[.pointer (some ⟨bt, 0, none⟩)], .func (.func 136) #[] #[.pointer (some ⟨bu, 0, none⟩)], .pointer (some ⟨b, 0, none⟩), .func (.func 137) #[] #[.pointer (some ⟨bl, 0, none⟩)], .func (.func 124) #[] #[], .int .i64 base, .int .i64 cap] 123 (0, 0)) ∧ w'.heap[y]? = some (.cells #[.int .i64 g] 3 (0, 0)) ∧ w'.heap[z]? = some (.cells #[.int .i64 item] 126 (0, 0)) := by
  refine (newPush_ok g item w).mono ?_
  rintro e w' ⟨rfl, rfl⟩
  have s1 := Go.Deep.nblk_alloc w (.cells #[.pointer (some ⟨b, 0, none⟩), .func (.func 135) #[] #[.pointer (some ⟨bt, 0, none⟩)], .func (.func 136) #[] #[.pointer (some ⟨bu, 0, none⟩)], .pointer (some ⟨b, 0, none⟩), .func (.func 137) #[] #[.pointer (some ⟨bl, 0, none⟩)], .func (.func 124) #[] #[], .int .i64 base, .int .i64 cap] 123)
  have s2 := Go.Deep.nblk_alloc (w.alloc (.cells #[.pointer (some ⟨b, 0, none⟩), .func (.func 135) #[] #[.pointer (some ⟨bt, 0, none⟩)], .func (.func 136) #[] #[.pointer (some ⟨bu, 0, none⟩)], .pointer (some ⟨b, 0, none⟩), .func (.func 137) #[] #[.pointer (some ⟨bl, 0, none⟩)], .func (.func 124) #[] #[], .int .i64 base, .int .i64 cap] 123)) (.cells #[.int .i64 g] 3)
  have s3 := Go.Deep.nblk_alloc ((w.alloc (.cells #[.pointer (some ⟨b, 0, none⟩), .func (.func 135) #[] #[.pointer (some ⟨bt, 0, none⟩)], .func (.func 136) #[] #[.pointer (some ⟨bu, 0, none⟩)], .pointer (some ⟨b, 0, none⟩), .func (.func 137) #[] #[.pointer (some ⟨bl, 0, none⟩)], .func (.func 124) #[] #[], .int .i64 base, .int .i64 cap] 123)).alloc (.cells #[.int .i64 g] 3)) (.cells #[.int .i64 item] 126)
  refine ⟨_, w.heap.size, w.heap.size + 1, w.heap.size + 1 + 1, rfl, ?_, by omega, by omega, by omega, by omega, ?_, ?_, ?_, ?_⟩
  · exact ((((Below.refl _ w).alloc (Nat.le_refl _) _).alloc (by simp) _).alloc (by simp; omega) _).alloc (by simp; omega) _
  · have := heap_alloc_new (((w.alloc (.cells #[.pointer (some ⟨b, 0, none⟩), .func (.func 135) #[] #[.pointer (some ⟨bt, 0, none⟩)], .func (.func 136) #[] #[.pointer (some ⟨bu, 0, none⟩)], .pointer (some ⟨b, 0, none⟩), .func (.func 137) #[] #[.pointer (some ⟨bl, 0, none⟩)], .func (.func 124) #[] #[], .int .i64 base, .int .i64 cap] 123)).alloc (.cells #[.int .i64 g] 3)).alloc (.cells #[.int .i64 item] 126)) (.cells #[.int .i64 0, .int .i64 0, .int .i64 0, .func (.func 126) #[] #[.pointer (some ⟨w.heap.size, 0, none⟩), .pointer (some ⟨w.heap.size + 1, 0, none⟩), .pointer (some ⟨w.heap.size + 1 + 1, 0, none⟩)]] 186)
    rw [s3, s2, s1] at this
    exact this
  · exact box_alloc (box_alloc (box_alloc (heap_alloc_new w _) _) _) _
  · exact box_alloc (box_alloc (new2 _ _) _) _
  · have := heap_alloc_new ((w.alloc (.cells #[.pointer (some ⟨b, 0, none⟩), .func (.func 135) #[] #[.pointer (some ⟨bt, 0, none⟩)], .func (.func 136) #[] #[.pointer (some ⟨bu, 0, none⟩)], .pointer (some ⟨b, 0, none⟩), .func (.func 137) #[] #[.pointer (some ⟨bl, 0, none⟩)], .func (.func 124) #[] #[], .int .i64 base, .int .i64 cap] 123)).alloc (.cells #[.int .i64 g] 3)) (.cells #[.int .i64 item] 126)
    rw [s2, s1] at this
    exact box_alloc this _
theorem newPop_let {b bt bu bl base cap : Nat} (g : Nat) (w : World) :
    Calls Tryz.prog 115 #[.agg #[.pointer (some ⟨b, 0, none⟩), .func (.func 135) #[] #[.pointer (some ⟨bt, 0, none⟩)], .func (.func 136) #[] #[.pointer (some ⟨bu, 0, none⟩)], .pointer (some ⟨b, 0, none⟩), .func (.func 137) #[] #[.pointer (some ⟨bl, 0, none⟩)], .func (.func 124) #[] #[], .int .i64 base, .int .i64 cap], .int .i64 g] w fun e w' => ∃ o x y, e = .returned (.pointer (some ⟨o, 0, none⟩)) ∧ Below w.heap.size w w' ∧ w.heap.size ≤ o ∧ w.heap.size ≤ x ∧ w.heap.size ≤ y ∧
      w'.heap[o]? = some (.cells #[.int .i64 0, .int .i64 0, .int .i64 0, .int .i64 0, .func (.func 130) #[] #[.pointer (some ⟨x, 0, none⟩), .pointer (some ⟨y, 0, none⟩)]] 193 (0, 0)) ∧ w'.heap[x]? = some (.cells #[.pointer (some ⟨b, 0, none⟩), .func (.func 135) #[] #[.pointer (some ⟨bt, 0, none⟩)], .func (.func 136) #[] #[.pointer (some ⟨bu, 0, none⟩)], .pointer (some ⟨b, 0, none⟩), .func (.func 137) #[] #[.pointer (some ⟨bl, 0, none⟩)], .func (.func 124) #[] #[], .int .i64 base, .int .i64 cap] 123 (0, 0)) ∧ w'.heap[y]? = some (.cells #[.int .i64 g] 3 (0, 0)) := by
  refine (newPop_ok g w).mono ?_
  rintro e w' ⟨rfl, rfl⟩
  have s1 := Go.Deep.nblk_alloc w (.cells #[.pointer (some ⟨b, 0, none⟩), .func (.func 135) #[] #[.pointer (some ⟨bt, 0, none⟩)], .func (.func 136) #[] #[.pointer (some ⟨bu, 0, none⟩)], .pointer (some ⟨b, 0, none⟩), .func (.func 137) #[] #[.pointer (some ⟨bl, 0, none⟩)], .func (.func 124) #[] #[], .int .i64 base, .int .i64 cap] 123)
  have s2 := Go.Deep.nblk_alloc (w.alloc (.cells #[.pointer (some ⟨b, 0, none⟩), .func (.func 135) #[] #[.pointer (some ⟨bt, 0, none⟩)], .func (.func 136) #[] #[.pointer (some ⟨bu, 0, none⟩)], .pointer (some ⟨b, 0, none⟩), .func (.func 137) #[] #[.pointer (some ⟨bl, 0, none⟩)], .func (.func 124) #[] #[], .int .i64 base, .int .i64 cap] 123)) (.cells #[.int .i64 g] 3)
  refine ⟨_, w.heap.size, w.heap.size + 1, rfl, ?_, by omega, by omega, by omega, ?_, ?_, ?_⟩
  · exact (((Below.refl _ w).alloc (Nat.le_refl _) _).alloc (by simp) _).alloc (by simp; omega) _
  · have := heap_alloc_new ((w.alloc (.cells #[.pointer (some ⟨b, 0, none⟩), .func (.func 135) #[] #[.pointer (some ⟨bt, 0, none⟩)], .func (.func 136) #[] #[.pointer (some ⟨bu, 0, none⟩)], .pointer (some ⟨b, 0, none⟩), .func (.func 137) #[] #[.pointer (some ⟨bl, 0, none⟩)], .func (.func 124) #[] #[], .int .i64 base, .int .i64 cap] 123)).alloc (.cells #[.int .i64 g] 3)) (.cells #[.int .i64 0, .int .i64 0, .int .i64 0, .int .i64 0, .func (.func 130) #[] #[.pointer (some ⟨w.heap.size, 0, none⟩), .pointer (some ⟨w.heap.size + 1, 0, none⟩)]] 193)
    rw [s2, s1] at this
    exact this
  · exact box_alloc (box_alloc (heap_alloc_new w _) _) _
  · exact box_alloc (new2 _ _) _
section
variable {w : World} {P : Nat → Prop} {s b bw bs bt bu bl W G base cap : Nat} {ws cs : Nat → Int} {ops : Nat → Op} {ob : Nat → Nat} {T : Int} {xs : List Int}
/-- What Begin leaves. -/
def BegPost (w : World) (P : Nat → Prop) (s b bw bs bt bu bl W G base cap : Nat) (ws cs : Nat → Int) (ops : Nat → Op) (g : Nat) (op : Op) (e : Ending) (w' : World) : Prop :=
  ∃ P' ob', e = .returned (.int .i64 0) ∧ Stk w' P' s b bw bs bt bu bl W G base cap ws cs (updOp ops g op) ob' ∧ Bt P w w' ∧ ∀ k, P' k → P k ∨ w.heap.size ≤ k
theorem Tk.own {g o : Nat} {op : Op} (h : Tk w P b bw bs bt bu bl base cap g op o) (hb : op ≠ .idle) : P o := by
  cases op with
  | idle => exact absurd rfl hb
  | push _ _ _ _ => exact h.1
  | pop _ _ _ _ => exact h.1
set_option maxRecDepth 20000 in
set_option maxHeartbeats 2000000 in
theorem begin_push (h : Stk w P s b bw bs bt bu bl W G base cap ws cs ops ob) (hI : Inv base cap ws ops T xs) (hT : T ≤ 1000000000) (g : Nat) (v : Int) (hg : g < G) (hb : ops g = .idle) (hm : May cap ops xs v) :
    Calls Tryz.prog 95 #[.pointer (some ⟨s, 0, none⟩), .int .i64 g, .int .i64 0, .int .i64 v] w (BegPost w P s b bw bs bt bu bl W G base cap ws cs ops g (.push (v + 1) 0 0 0)) := by
  have c0 := h.c0
  have g12 : (g : Int) < 12 := by have := h.few; omega
  have g12' : g < 12 := by omega
  have cv := h.cv g g12'
  rw [hb] at cv
  simp only [Op.val] at cv
  have hn := hasAgent_yes h.ar g (by omega) (by omega)
  have ht := takes_yes h hI hT v hm
  have hv0 := hm.1
  have hv1 : v < 100000 := by have := hm.2.1; have := h.cap2; omega
  clear hm
  go_enter Tryz.func95, Tryz.ntmps95
  go_wp2_with (first | (go_at_call 54; refine hn.mono ?_; rintro e w1 ⟨rfl, rfl⟩) | (go_at_call 113; refine ht.mono ?_; rintro e w2 ⟨rfl, hB⟩; have h2 := h.below hB; have cw := h2.cw; have cv2 := h2.cv g g12'; have cl2 := h2.cl g g12'; have fz := h2.here.frozen; clear hn ht c0))
  go_region_held3 (fun w' => w'.cell? ⟨s, 1, none⟩ = some (.pointer (some ⟨b, 0, none⟩)) ∧ w'.cell? ⟨s, 2, none⟩ = some (.func (.func 135) #[] #[.pointer (some ⟨bt, 0, none⟩)]) ∧ w'.cell? ⟨s, 3, none⟩ = some (.func (.func 136) #[] #[.pointer (some ⟨bu, 0, none⟩)]) ∧ w'.cell? ⟨s, 4, none⟩ = some (.pointer (some ⟨b, 0, none⟩)) ∧ w'.cell? ⟨s, 5, none⟩ = some (.func (.func 137) #[] #[.pointer (some ⟨bl, 0, none⟩)]) ∧ w'.cell? ⟨s, 6, none⟩ = some (.func (.func 124) #[] #[]) ∧ w'.cell? ⟨s, 7, none⟩ = some (.int .i64 base) ∧ w'.cell? ⟨s, 8, none⟩ = some (.int .i64 cap)) (first | go_keep | exact keepW cw5)
    (first
      | (go_at_call 105; refine (linkTo_any v _ hv0 hv1).mono ?_; rintro e w5 ⟨rfl, rfl⟩)
      | (go_at_call 114; refine (newPush_let (b := b) (bt := bt) (bu := bu) (bl := bl) (base := base) (cap := cap) g (v + 1) _).mono ?_; rintro e w5 ⟨o, x, y, z, rfl, hb5, l0, l1, l2, l3, b0, b1, b2, b3⟩; have h5 := h2.below (un_drew hb5); have cw5 := h5.cw; have cv5 := h5.cv g g12'; have cl5 := h5.cl g g12'; have fz5 := h5.here.frozen))
  go_wp2
  go_ret
  have hP : ∀ k, P k → P k ∨ w1.heap.size ≤ k ∧ k < w5.heap.size := fun k hk => .inl hk
  have s2 := hB.size
  have s5 := (un_drew hb5).size
  have l0' : w2.heap.size ≤ o := l0
  have l1' : w2.heap.size ≤ x := l1
  have l2' : w2.heap.size ≤ y := l2
  have q1 := h.lt _ h.foot.2.2.1
  have q2 := h.lt _ h.foot.2.2.2.1
  refine ⟨_, _, rfl, h5.task (P' := fun k => P k ∨ w1.heap.size ≤ k ∧ k < w5.heap.size) hP (fun k hk => ?_) g hg (.push (v + 1) 0 0 0) o ⟨.inr ⟨by omega, box_lt b0⟩, x, y, z, .inr ⟨by omega, box_lt b1⟩, .inr ⟨by omega, box_lt b2⟩, .inr ⟨by have l3' : w2.heap.size ≤ z := l3; omega, box_lt b3⟩, b0, b1, b2, by omega, by omega, b3⟩ (fun j hj _ hbj _ => ?_), ((((Bt.of_below hB).trans (Bt.of_below (un_drew hb5))).set s _ _ (.inl h.foot.1)).set s _ _ (.inl h.foot.1)), fun k hk => hk.imp id (·.1)⟩
  · rcases hk with hk | hk
    · exact h5.lt k hk
    · exact hk.2
  · have := h.lt _ ((h.tk j hj).own hbj)
    omega
set_option maxRecDepth 20000 in
set_option maxHeartbeats 2000000 in
theorem begin_pop (h : Stk w P s b bw bs bt bu bl W G base cap ws cs ops ob) (g : Nat) (v : Int) (hg : g < G) (hb : ops g = .idle) :
    Calls Tryz.prog 95 #[.pointer (some ⟨s, 0, none⟩), .int .i64 g, .int .i64 1, .int .i64 v] w (BegPost w P s b bw bs bt bu bl W G base cap ws cs ops g (.pop 0 0 0 0)) := by
  have c0 := h.c0
  have g12 : (g : Int) < 12 := by have := h.few; omega
  have g12' : g < 12 := by omega
  have cv := h.cv g g12'
  rw [hb] at cv
  simp only [Op.val] at cv
  have hn := hasAgent_yes h.ar g (by omega) (by omega)
  go_enter Tryz.func95, Tryz.ntmps95
  have cw := h.cw
  have cl2 := h.cl g g12'
  have fz := h.here.frozen
  go_wp2_with (go_at_call 54; refine hn.mono ?_; rintro e w1 ⟨rfl, rfl⟩)
  go_region_held3 (fun w' => w'.cell? ⟨s, 1, none⟩ = some (.pointer (some ⟨b, 0, none⟩)) ∧ w'.cell? ⟨s, 2, none⟩ = some (.func (.func 135) #[] #[.pointer (some ⟨bt, 0, none⟩)]) ∧ w'.cell? ⟨s, 3, none⟩ = some (.func (.func 136) #[] #[.pointer (some ⟨bu, 0, none⟩)]) ∧ w'.cell? ⟨s, 4, none⟩ = some (.pointer (some ⟨b, 0, none⟩)) ∧ w'.cell? ⟨s, 5, none⟩ = some (.func (.func 137) #[] #[.pointer (some ⟨bl, 0, none⟩)]) ∧ w'.cell? ⟨s, 6, none⟩ = some (.func (.func 124) #[] #[]) ∧ w'.cell? ⟨s, 7, none⟩ = some (.int .i64 base) ∧ w'.cell? ⟨s, 8, none⟩ = some (.int .i64 cap)) (first | go_keep | exact keepW cw5)
    ((go_at_call 115; refine (newPop_let (b := b) (bt := bt) (bu := bu) (bl := bl) (base := base) (cap := cap) g _).mono ?_; rintro e w5 ⟨o, x, y, rfl, hb5, l0, l1, l2, b0, b1, b2⟩; have h5 := h.below (un_drew hb5); have cw5 := h5.cw; have cv5 := h5.cv g g12'; have cl5 := h5.cl g g12'; have fz5 := h5.here.frozen))
  go_wp2
  go_ret
  have hP : ∀ k, P k → P k ∨ w1.heap.size ≤ k ∧ k < w5.heap.size := fun k hk => .inl hk
  have s5 := (un_drew hb5).size
  have l0' : w1.heap.size ≤ o := l0
  have l1' : w1.heap.size ≤ x := l1
  have l2' : w1.heap.size ≤ y := l2
  have q1 := h.lt _ h.foot.2.2.1
  have q2 := h.lt _ h.foot.2.2.2.1
  refine ⟨_, _, rfl, h5.task (P' := fun k => P k ∨ w1.heap.size ≤ k ∧ k < w5.heap.size) hP (fun k hk => ?_) g hg (.pop 0 0 0 0) o ⟨.inr ⟨by omega, box_lt b0⟩, x, y, .inr ⟨by omega, box_lt b1⟩, .inr ⟨by omega, box_lt b2⟩, b0, b1, b2, by omega, by omega⟩ (fun j hj _ hbj _ => ?_), (((Bt.of_below (un_drew hb5)).set s _ _ (.inl h.foot.1)).set s _ _ (.inl h.foot.1)), fun k hk => hk.imp id (·.1)⟩
  · rcases hk with hk | hk
    · exact h5.lt k hk
    · exact hk.2
  · have := h.lt _ ((h.tk j hj).own hbj)
    omega
end
end Go.Proofs.YtojblddfggoecaaGreat
