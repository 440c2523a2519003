/- A table of monitors: who waits for this one longest; Take. -/
import Derived.Test.YtdkbdmlodngneaaMNQue
import Derived.Laws.EntriesVeiled
namespace Go.Proofs.Ytdkbdmlodngneaa
open Go.RowKit

section
variable {B : Nat} {w w' : World} {s bs mo mb : Nat} {wv : Value} {M : Mt} {c : Nat}
/-- The place of the first that waits for obj. -/
def plW (W : List (Int × Int)) (obj : Int) : Option Nat := W.findIdx? fun x => x.2 == obj
theorem here_ok (t o obj : Int) {bx : Nat} (hb : w.cell? ⟨bx, 0, none⟩ = some (.int .i64 obj)) : Calls Try.prog 19 #[.agg #[.int .i64 t, .int .i64 o], .pointer (some ⟨bx, 0, none⟩)] w fun e w' => e = .returned (.bool (o == obj)) ∧ Below w.heap.size w w' := by
  have hb2 : (w.alloc (.cells #[.int .i64 t, .int .i64 o] 53)).cell? ⟨bx, 0, none⟩ = some (.int .i64 obj) := (cell_of1 (Below.heap_alloc _ _ _ (cell_in1 hb))).trans hb
  have HB : Hid (Below w.heap.size w (w.alloc (.cells #[.int .i64 t, .int .i64 o] 53))) := (Below.refl _ w).alloc (Nat.le_refl _) _
  go_enter Try.func19, Try.ntmps19
  go_wp2
  go_ret
  exact ⟨rfl, HB.out⟩
theorem plW_at {W : List (Int × Int)} {obj : Int} {i : Nat} {x : Int × Int} (h : ∀ (j : Nat) (y : Int × Int), j < i → W[j]? = some y → (y.2 == obj) = false) (hx : W[i]? = some x) (hf : (x.2 == obj) = true) : plW W obj = some i := by
  unfold plW
  rw [List.findIdx?_eq_some_iff_getElem]
  obtain ⟨hl, he⟩ := List.getElem?_eq_some_iff.1 hx
  refine ⟨hl, by rw [he]; exact hf, fun j hj => ?_⟩
  rw [h j W[j] hj (List.getElem?_eq_getElem (by omega))]; decide
theorem plW_no {W : List (Int × Int)} {obj : Int} (h : ∀ (j : Nat) (y : Int × Int), W[j]? = some y → (y.2 == obj) = false) : plW W obj = none := by
  unfold plW
  rw [List.findIdx?_eq_none_iff]
  intro x hx
  obtain ⟨j, hj⟩ := List.getElem?_of_mem hx
  exact h j x hj
def plZ (W : List (Int × Int)) (obj : Int) : Int := match plW W obj with
  | some i => i
  | none => -1
set_option maxHeartbeats 1000000 in
set_option maxRecDepth 20000 in
theorem nidx_ok {B : Nat} {w : World} {wv : Value} {W : List (Int × Int)} (h : Rs w B 53 2 wv (W.map encV)) {bx : Nat} {obj : Int} (hb : w.cell? ⟨bx, 0, none⟩ = some (.int .i64 obj)) (hl : W.length ≤ 1000000) :
    Calls Try.prog 23 #[wv, .func (.func 19) #[] #[.pointer (some ⟨bx, 0, none⟩)]] w fun e w' => e = .returned (.int .i64 (plZ W obj)) ∧ Below w.heap.size w w' := by
  obtain ⟨ao, cap, rfl⟩ := h.form
  obtain ⟨R, hR⟩ : ∃ R, plZ W obj = R := ⟨_, rfl⟩
  have HRR : Hid (plZ W obj = R) := hR
  rw [hR]
  have hlen : (W.map encV).length = W.length := List.length_map _
  rw [hlen] at h ⊢
  have HH : Hid (Rs w B 53 2 (.slice ao W.length cap) (W.map encV)) := h
  have HX0 : Hid (w.cell? ⟨bx, 0, none⟩ = some (.int .i64 obj)) := hb
  clear h hb hR hlen
  go_enter Try.func23, Try.ntmps23
  go_wp2
  go_loopg [5, 8] (W.length + 1) (fun kx s5 s8 wr => ∃ i : Nat, s8 = .int .i64 i ∧ i ≤ W.length ∧ W.length - i ≤ kx ∧ Hid (Below w.heap.size w wr) ∧ Hid (∀ (j : Nat) (y : Int × Int), j < i → W[j]? = some y → (y.2 == obj) = false))
  case atStart => exact ⟨0, rfl, by omega, by omega, Below.refl _ _, fun j _ hj => absurd hj (by omega)⟩
  case round =>
    obtain ⟨i, rfl, hi, hk, HM, HJ⟩ := hrel
    by_cases hlt : i < W.length
    · obtain ⟨x, hx⟩ : ∃ x, W[i]? = some x := ⟨_, List.getElem?_eq_getElem hlt⟩
      have HW := HH.out.below HM.out
      obtain ⟨p, rfl, -, -, -, hc⟩ := HW.cells (by rw [List.length_map]; omega)
      have hr := hc i (encV x) (by rw [List.getElem?_map, hx]; rfl)
      have a0 := hr 0 _ rfl
      rw [Nat.add_zero] at a0
      have a1 := hr 1 _ rfl
      have hbx : wr.cell? ⟨bx, 0, none⟩ = some (.int .i64 obj) := (cell_of1 (HM.out.block bx (cell_in1 HX0.out))).trans HX0.out
      have hC := here_ok x.1 x.2 obj hbx
      have HX : Hid (W[i]? = some x) := hx
      have hl2 : (i : Int) < (W.length : Int) := by omega
      clear hc hr HH HW hx hbx
      rcases hf : (x.2 == obj) with _ | _
      · rw [hf] at hC
        have HFX : Hid ((x.2 == obj) = false) := hf
        clear hf
        go_wp2_with (go_at_call 19; refine hC.mono ?_; rintro e u1 ⟨rfl, hb⟩; have HB : Hid (Below w.heap.size w u1) := HM.out.trans (hb.mono HM.out.size); clear hC hb)
        go_roundg (W.length - (i + 1))
        case measure => omega
        case rel =>
          refine ⟨i + 1, by go_num, by omega, by omega, HB.out, fun j y hj hy => ?_⟩
          by_cases hji : j < i
          · exact HJ.out j y hji hy
          · obtain rfl : j = i := by omega
            have := HX.out.symm.trans hy
            injection this with this
            subst this
            exact HFX.out
      · rw [hf] at hC
        obtain rfl : R = (i : Int) := by rw [← HRR.out]; unfold plZ; rw [plW_at HJ.out HX.out hf]
        clear hf
        go_wp2_with (go_at_call 19; refine hC.mono ?_; rintro e u1 ⟨rfl, hb⟩; have HB : Hid (Below w.heap.size w u1) := HM.out.trans (hb.mono HM.out.size); clear hC hb)
        go_ret
        exact ⟨rfl, HB.out⟩
    · obtain rfl : R = -1 := by
        rw [← HRR.out]
        unfold plZ
        rw [plW_no fun j y hy => HJ.out j y (by have := (List.getElem?_eq_some_iff.1 hy).1; omega) hy]
      have hl : ¬ (i : Int) < (W.length : Int) := by omega
      clear HH
      go_wp2
      go_ret
      exact ⟨rfl, HM.out⟩
end
end Go.Proofs.Ytdkbdmlodngneaa
