/- slices.IndexFunc, ContainsFunc at ints, fields, methods, entries, whatever the function that is asked. -/
import Derived.Test.YtbbmgjcabmjjdaaGreatDoorMY15
import Derived.Test.YtbbmgjcabmjjdaaGreatDoorMGJ4
import Derived.Deep.LoopGhost
namespace Go.Proofs.YtbbmgjcabmjjdaaGreatDoor
open Go.RowKit

/-- A function value is entered. -/
def Ent (F : Nat) : Prop := ∀ args w, (callFunc F args).run Tryz.prog w = .ok (.enter F args) w
/-- The first place of what f asks for; -1. -/
def idxF {α : Type} (f : α → Bool) (xs : List α) : Int := match xs.findIdx? f with
  | some i => i
  | none => -1
theorem idxF_no {α : Type} {f : α → Bool} {xs : List α} (h : ∀ (j : Nat) (x : α), xs[j]? = some x → f x = false) : idxF f xs = -1 := by
  have : xs.findIdx? f = none := by
    rw [List.findIdx?_eq_none_iff]
    intro x hx
    obtain ⟨j, hj⟩ := List.getElem?_of_mem hx
    exact h j x hj
  simp [idxF, this]
theorem idxF_at {α : Type} {f : α → Bool} {xs : List α} {i : Nat} {x : α} (h : ∀ (j : Nat) (y : α), j < i → xs[j]? = some y → f y = false) (hx : xs[i]? = some x) (hf : f x = true) : idxF f xs = (i : Int) := by
  have : xs.findIdx? f = some i := by
    rw [List.findIdx?_eq_some_iff_getElem]
    obtain ⟨hl, he⟩ := List.getElem?_eq_some_iff.1 hx
    refine ⟨hl, by rw [he]; exact hf, fun j hj => ?_⟩
    rw [h j xs[j] hj (List.getElem?_eq_getElem (by omega))]; decide
  simp [idxF, this]
theorem idxF_any {α : Type} (f : α → Bool) (xs : List α) : decide (0 ≤ idxF f xs) = xs.any f := by
  unfold idxF
  rcases h : xs.findIdx? f with _ | i
  · rw [List.findIdx?_eq_none_iff] at h
    rw [show xs.any f = false by rw [List.any_eq_false]; intro x hx; rw [h x hx]; decide]
    decide
  · obtain ⟨hl, he, -⟩ := List.findIdx?_eq_some_iff_getElem.1 h
    rw [show xs.any f = true by rw [List.any_eq_true]; exact ⟨xs[i], List.getElem_mem _, he⟩]
    simp
set_option maxHeartbeats 4000000 in
set_option maxRecDepth 20000 in
theorem idxI_ok {F : Nat} (he : Ent F) {post : Array Value} {w : World} {S : Nat → Prop} {v : Value} {xs : List Int} {f : Int → Bool} (h : Sl kI w S v xs) (hS : ∀ k, S k → k < w.heap.size)
    (hF : ∀ (u : World) (x : Int) (cs : List Value), Below w.heap.size w u → x ∈ xs → kI.R u S x cs → Calls Tryz.prog F (#[cs.headD .nilFunc] ++ post) u fun e u' => e = .returned (.bool (f x)) ∧ Below w.heap.size u u') :
    Calls Tryz.prog 92 #[v, .func (.func F) #[] post] w fun e w' => e = .returned (.int .i64 (idxF f xs)) ∧ Below w.heap.size w w' := by
  have hv := h
  obtain ⟨ao, cap, rfl, hmx, -⟩ := hv
  unfold maxLen at hmx
  unfold Ent at he
  have HH : Hid (Sl kI w S (.slice ao xs.length cap) xs) := h
  have HS : Hid (∀ k, S k → k < w.heap.size) := hS
  have HF : Hid _ := hF
  obtain ⟨R, hR⟩ : ∃ R, idxF f xs = R := ⟨_, rfl⟩
  have HR : Hid (idxF f xs = R) := hR
  rw [hR]
  clear hR h hS hF
  go_enter Tryz.func92, Tryz.ntmps92
  go_wp2
  go_loopg [5, 8] (xs.length + 1) (fun kx s5 s8 wr => ∃ i : Nat, s8 = .int .i64 i ∧ i ≤ xs.length ∧ xs.length - i ≤ kx ∧ Hid (Below w.heap.size w wr) ∧ Hid (∀ j y, j < i → xs[j]? = some y → f y = false))
  case atStart => exact ⟨0, rfl, by omega, by omega, Below.refl _ _, fun j _ hj => absurd hj (by omega)⟩
  case round =>
    obtain ⟨i, rfl, hi, hk, HM, HJ⟩ := hrel
    by_cases hlt : i < xs.length
    · obtain ⟨x, hx⟩ : ∃ x, xs[i]? = some x := ⟨_, List.getElem?_eq_getElem hlt⟩
      have HW : Hid (Sl kI wr S (.slice ao xs.length cap) xs) := HH.out.keep fun b hb => HM.out.block b (HS.out b hb)
      obtain ⟨ap, o, rfl, -, cs, r1, hc⟩ := HW.out.atJ hx
      have hC := HF.out wr x cs HM.out (List.mem_of_getElem? hx) r1
      have HX : Hid (xs[i]? = some x) := hx
      have hl2 : (i : Int) < (xs.length : Int) := by omega
      obtain rfl := r1
      have a0 := hc 0 _ rfl
      rw [show o + (i * kI.k + 0) = o + i by show o + (i * 1 + 0) = o + i; omega] at a0
      simp only [List.headD_cons] at hC
      clear hc HH HF HW hx
      rcases hf : f x with _ | _
      · rw [hf] at hC
        have HFX : Hid (f x = false) := hf
        clear hf
        go_wp2_with (go_at_fn F; refine hC.mono ?_; rintro e u1 ⟨rfl, hb⟩; have HB : Hid (Below w.heap.size w u1) := HM.out.trans hb; clear hC hb)
        go_roundg (xs.length - (i + 1))
        case measure => omega
        case rel =>
          refine ⟨i + 1, by go_num, by omega, by omega, HB.out, fun j y hj hy => ?_⟩
          by_cases hji : j < i
          · exact HJ.out j y hji hy
          · obtain rfl : j = i := by omega
            have := HX.out.symm.trans hy
            injection this with this
            subst this
            exact HFX.out
      · rw [hf] at hC
        obtain rfl : R = (i : Int) := HR.out.symm.trans (idxF_at HJ.out HX.out hf)
        clear hf
        go_wp2_with (go_at_fn F; refine hC.mono ?_; rintro e u1 ⟨rfl, hb⟩; have HB : Hid (Below w.heap.size w u1) := HM.out.trans hb; clear hC hb)
        go_ret
        exact ⟨rfl, HB.out⟩
    · obtain rfl : R = -1 := HR.out.symm.trans (idxF_no fun j y hy => HJ.out j y (by have := (List.getElem?_eq_some_iff.1 hy).1; omega) hy)
      have hl : ¬ (i : Int) < (xs.length : Int) := by omega
      clear HF HH
      go_wp2
      go_ret
      exact ⟨rfl, HM.out⟩
set_option maxRecDepth 20000 in
theorem conI_ok {F : Nat} (he : Ent F) {post : Array Value} {w : World} {S : Nat → Prop} {v : Value} {xs : List Int} {f : Int → Bool} (h : Sl kI w S v xs) (hS : ∀ k, S k → k < w.heap.size)
    (hF : ∀ (u : World) (x : Int) (cs : List Value), Below w.heap.size w u → x ∈ xs → kI.R u S x cs → Calls Tryz.prog F (#[cs.headD .nilFunc] ++ post) u fun e u' => e = .returned (.bool (f x)) ∧ Below w.heap.size u u') :
    Calls Tryz.prog 60 #[v, .func (.func F) #[] post] w fun e w' => e = .returned (.bool (xs.any f)) ∧ Below w.heap.size w w' := by
  have hC := idxI_ok he h hS hF
  have hD := idxF_any f xs
  obtain ⟨ao, cap, rfl, -⟩ := h
  generalize idxF f xs = R at *
  generalize xs.any f = B at *
  clear hF hS
  go_enter Tryz.func60, Tryz.ntmps60
  go_wp2_with (go_at_call 92; refine hC.mono ?_; rintro e u1 ⟨rfl, hb⟩; have HB : Hid (Below w.heap.size w u1) := hb; clear hC hb)
  go_ret
  exact ⟨by first | rfl | rw [hD], HB.out⟩
set_option maxHeartbeats 4000000 in
set_option maxRecDepth 20000 in
theorem idxF_ok {F : Nat} (he : Ent F) {post : Array Value} {w : World} {S : Nat → Prop} {v : Value} {xs : List Fd} {f : Fd → Bool} (h : Sl kFd w S v xs) (hS : ∀ k, S k → k < w.heap.size)
    (hF : ∀ (u : World) (x : Fd) (cs : List Value), Below w.heap.size w u → x ∈ xs → kFd.R u S x cs → Calls Tryz.prog F (#[.agg cs.toArray] ++ post) u fun e u' => e = .returned (.bool (f x)) ∧ Below w.heap.size u u') :
    Calls Tryz.prog 94 #[v, .func (.func F) #[] post] w fun e w' => e = .returned (.int .i64 (idxF f xs)) ∧ Below w.heap.size w w' := by
  have hv := h
  obtain ⟨ao, cap, rfl, hmx, -⟩ := hv
  unfold maxLen at hmx
  unfold Ent at he
  have HH : Hid (Sl kFd w S (.slice ao xs.length cap) xs) := h
  have HS : Hid (∀ k, S k → k < w.heap.size) := hS
  have HF : Hid _ := hF
  obtain ⟨R, hR⟩ : ∃ R, idxF f xs = R := ⟨_, rfl⟩
  have HR : Hid (idxF f xs = R) := hR
  rw [hR]
  clear hR h hS hF
  go_enter Tryz.func94, Tryz.ntmps94
  go_wp2
  go_loopg [5, 8] (xs.length + 1) (fun kx s5 s8 wr => ∃ i : Nat, s8 = .int .i64 i ∧ i ≤ xs.length ∧ xs.length - i ≤ kx ∧ Hid (Below w.heap.size w wr) ∧ Hid (∀ j y, j < i → xs[j]? = some y → f y = false))
  case atStart => exact ⟨0, rfl, by omega, by omega, Below.refl _ _, fun j _ hj => absurd hj (by omega)⟩
  case round =>
    obtain ⟨i, rfl, hi, hk, HM, HJ⟩ := hrel
    by_cases hlt : i < xs.length
    · obtain ⟨x, hx⟩ : ∃ x, xs[i]? = some x := ⟨_, List.getElem?_eq_getElem hlt⟩
      have HW : Hid (Sl kFd wr S (.slice ao xs.length cap) xs) := HH.out.keep fun b hb => HM.out.block b (HS.out b hb)
      obtain ⟨ap, o, rfl, -, cs, r1, hc⟩ := HW.out.atJ hx
      have hC := HF.out wr x cs HM.out (List.mem_of_getElem? hx) r1
      have HX : Hid (xs[i]? = some x) := hx
      have hl2 : (i : Int) < (xs.length : Int) := by omega
      obtain rfl := r1
      have a0 := hc 0 _ rfl
      have a1 := hc 1 _ rfl
      rw [show o + (i * kFd.k + 0) = o + i * 2 by show o + (i * 2 + 0) = o + i * 2; omega] at a0
      rw [show o + (i * kFd.k + 1) = o + i * 2 + 1 by show o + (i * 2 + 1) = o + i * 2 + 1; omega] at a1
      clear hc HH HF HW hx
      rcases hf : f x with _ | _
      · rw [hf] at hC
        have HFX : Hid (f x = false) := hf
        clear hf
        go_wp2_with (go_at_fn F; refine hC.mono ?_; rintro e u1 ⟨rfl, hb⟩; have HB : Hid (Below w.heap.size w u1) := HM.out.trans hb; clear hC hb)
        go_roundg (xs.length - (i + 1))
        case measure => omega
        case rel =>
          refine ⟨i + 1, by go_num, by omega, by omega, HB.out, fun j y hj hy => ?_⟩
          by_cases hji : j < i
          · exact HJ.out j y hji hy
          · obtain rfl : j = i := by omega
            have := HX.out.symm.trans hy
            injection this with this
            subst this
            exact HFX.out
      · rw [hf] at hC
        obtain rfl : R = (i : Int) := HR.out.symm.trans (idxF_at HJ.out HX.out hf)
        clear hf
        go_wp2_with (go_at_fn F; refine hC.mono ?_; rintro e u1 ⟨rfl, hb⟩; have HB : Hid (Below w.heap.size w u1) := HM.out.trans hb; clear hC hb)
        go_ret
        exact ⟨rfl, HB.out⟩
    · obtain rfl : R = -1 := HR.out.symm.trans (idxF_no fun j y hy => HJ.out j y (by have := (List.getElem?_eq_some_iff.1 hy).1; omega) hy)
      have hl : ¬ (i : Int) < (xs.length : Int) := by omega
      clear HF HH
      go_wp2
      go_ret
      exact ⟨rfl, HM.out⟩
set_option maxRecDepth 20000 in
theorem conF_ok {F : Nat} (he : Ent F) {post : Array Value} {w : World} {S : Nat → Prop} {v : Value} {xs : List Fd} {f : Fd → Bool} (h : Sl kFd w S v xs) (hS : ∀ k, S k → k < w.heap.size)
    (hF : ∀ (u : World) (x : Fd) (cs : List Value), Below w.heap.size w u → x ∈ xs → kFd.R u S x cs → Calls Tryz.prog F (#[.agg cs.toArray] ++ post) u fun e u' => e = .returned (.bool (f x)) ∧ Below w.heap.size u u') :
    Calls Tryz.prog 64 #[v, .func (.func F) #[] post] w fun e w' => e = .returned (.bool (xs.any f)) ∧ Below w.heap.size w w' := by
  have hC := idxF_ok he h hS hF
  have hD := idxF_any f xs
  obtain ⟨ao, cap, rfl, -⟩ := h
  generalize idxF f xs = R at *
  generalize xs.any f = B at *
  clear hF hS
  go_enter Tryz.func64, Tryz.ntmps64
  go_wp2_with (go_at_call 94; refine hC.mono ?_; rintro e u1 ⟨rfl, hb⟩; have HB : Hid (Below w.heap.size w u1) := hb; clear hC hb)
  go_ret
  exact ⟨by first | rfl | rw [hD], HB.out⟩
set_option maxHeartbeats 4000000 in
set_option maxRecDepth 20000 in
theorem idxM_ok {F : Nat} (he : Ent F) {post : Array Value} {w : World} {S : Nat → Prop} {v : Value} {xs : List Md} {f : Md → Bool} (h : Sl kMd w S v xs) (hS : ∀ k, S k → k < w.heap.size)
    (hF : ∀ (u : World) (x : Md) (cs : List Value), Below w.heap.size w u → x ∈ xs → kMd.R u S x cs → Calls Tryz.prog F (#[.agg cs.toArray] ++ post) u fun e u' => e = .returned (.bool (f x)) ∧ Below w.heap.size u u') :
    Calls Tryz.prog 95 #[v, .func (.func F) #[] post] w fun e w' => e = .returned (.int .i64 (idxF f xs)) ∧ Below w.heap.size w w' := by
  have hv := h
  obtain ⟨ao, cap, rfl, hmx, -⟩ := hv
  unfold maxLen at hmx
  unfold Ent at he
  have HH : Hid (Sl kMd w S (.slice ao xs.length cap) xs) := h
  have HS : Hid (∀ k, S k → k < w.heap.size) := hS
  have HF : Hid _ := hF
  obtain ⟨R, hR⟩ : ∃ R, idxF f xs = R := ⟨_, rfl⟩
  have HR : Hid (idxF f xs = R) := hR
  rw [hR]
  clear hR h hS hF
  go_enter Tryz.func95, Tryz.ntmps95
  go_wp2
  go_loopg [5, 8] (xs.length + 1) (fun kx s5 s8 wr => ∃ i : Nat, s8 = .int .i64 i ∧ i ≤ xs.length ∧ xs.length - i ≤ kx ∧ Hid (Below w.heap.size w wr) ∧ Hid (∀ j y, j < i → xs[j]? = some y → f y = false))
  case atStart => exact ⟨0, rfl, by omega, by omega, Below.refl _ _, fun j _ hj => absurd hj (by omega)⟩
  case round =>
    obtain ⟨i, rfl, hi, hk, HM, HJ⟩ := hrel
    by_cases hlt : i < xs.length
    · obtain ⟨x, hx⟩ : ∃ x, xs[i]? = some x := ⟨_, List.getElem?_eq_getElem hlt⟩
      have HW : Hid (Sl kMd wr S (.slice ao xs.length cap) xs) := HH.out.keep fun b hb => HM.out.block b (HS.out b hb)
      obtain ⟨ap, o, rfl, -, cs, r1, hc⟩ := HW.out.atJ hx
      have hC := HF.out wr x cs HM.out (List.mem_of_getElem? hx) r1
      have HX : Hid (xs[i]? = some x) := hx
      have hl2 : (i : Int) < (xs.length : Int) := by omega
      obtain ⟨v1, v2, v3, v4, rfl, q1, q2, q3, q4⟩ := r1
      obtain ⟨p1, c1, rfl, -⟩ := q1
      obtain ⟨p2, c2, rfl, -⟩ := q2
      obtain ⟨p3, c3, rfl, -⟩ := q3
      obtain ⟨p4, c4, rfl, -⟩ := q4
      have a0 := hc 0 _ rfl
      rw [show o + (i * kMd.k + 0) = o + i * 9 by show o + (i * 9 + 0) = _; omega] at a0
      have a1 := hc 1 _ rfl
      rw [show o + (i * kMd.k + 1) = o + i * 9 + 1 by show o + (i * 9 + 1) = _; omega] at a1
      have a2 := hc 2 _ rfl
      rw [show o + (i * kMd.k + 2) = o + i * 9 + 2 by show o + (i * 9 + 2) = _; omega] at a2
      have a3 := hc 3 _ rfl
      rw [show o + (i * kMd.k + 3) = o + i * 9 + 3 by show o + (i * 9 + 3) = _; omega] at a3
      have a4 := hc 4 _ rfl
      rw [show o + (i * kMd.k + 4) = o + i * 9 + 4 by show o + (i * 9 + 4) = _; omega] at a4
      have a5 := hc 5 _ rfl
      rw [show o + (i * kMd.k + 5) = o + i * 9 + 5 by show o + (i * 9 + 5) = _; omega] at a5
      have a6 := hc 6 _ rfl
      rw [show o + (i * kMd.k + 6) = o + i * 9 + 6 by show o + (i * 9 + 6) = _; omega] at a6
      have a7 := hc 7 _ rfl
      rw [show o + (i * kMd.k + 7) = o + i * 9 + 7 by show o + (i * 9 + 7) = _; omega] at a7
      have a8 := hc 8 _ rfl
      rw [show o + (i * kMd.k + 8) = o + i * 9 + 8 by show o + (i * 9 + 8) = _; omega] at a8
      clear hc HH HF HW hx
      rcases hf : f x with _ | _
      · rw [hf] at hC
        have HFX : Hid (f x = false) := hf
        clear hf
        go_wp2_with (go_at_fn F; refine hC.mono ?_; rintro e u1 ⟨rfl, hb⟩; have HB : Hid (Below w.heap.size w u1) := HM.out.trans hb; clear hC hb)
        go_roundg (xs.length - (i + 1))
        case measure => omega
        case rel =>
          refine ⟨i + 1, by go_num, by omega, by omega, HB.out, fun j y hj hy => ?_⟩
          by_cases hji : j < i
          · exact HJ.out j y hji hy
          · obtain rfl : j = i := by omega
            have := HX.out.symm.trans hy
            injection this with this
            subst this
            exact HFX.out
      · rw [hf] at hC
        obtain rfl : R = (i : Int) := HR.out.symm.trans (idxF_at HJ.out HX.out hf)
        clear hf
        go_wp2_with (go_at_fn F; refine hC.mono ?_; rintro e u1 ⟨rfl, hb⟩; have HB : Hid (Below w.heap.size w u1) := HM.out.trans hb; clear hC hb)
        go_ret
        exact ⟨rfl, HB.out⟩
    · obtain rfl : R = -1 := HR.out.symm.trans (idxF_no fun j y hy => HJ.out j y (by have := (List.getElem?_eq_some_iff.1 hy).1; omega) hy)
      have hl : ¬ (i : Int) < (xs.length : Int) := by omega
      clear HF HH
      go_wp2
      go_ret
      exact ⟨rfl, HM.out⟩
set_option maxRecDepth 20000 in
theorem conM_ok {F : Nat} (he : Ent F) {post : Array Value} {w : World} {S : Nat → Prop} {v : Value} {xs : List Md} {f : Md → Bool} (h : Sl kMd w S v xs) (hS : ∀ k, S k → k < w.heap.size)
    (hF : ∀ (u : World) (x : Md) (cs : List Value), Below w.heap.size w u → x ∈ xs → kMd.R u S x cs → Calls Tryz.prog F (#[.agg cs.toArray] ++ post) u fun e u' => e = .returned (.bool (f x)) ∧ Below w.heap.size u u') :
    Calls Tryz.prog 65 #[v, .func (.func F) #[] post] w fun e w' => e = .returned (.bool (xs.any f)) ∧ Below w.heap.size w w' := by
  have hC := idxM_ok he h hS hF
  have hD := idxF_any f xs
  obtain ⟨ao, cap, rfl, -⟩ := h
  generalize idxF f xs = R at *
  generalize xs.any f = B at *
  clear hF hS
  go_enter Tryz.func65, Tryz.ntmps65
  go_wp2_with (go_at_call 95; refine hC.mono ?_; rintro e u1 ⟨rfl, hb⟩; have HB : Hid (Below w.heap.size w u1) := hb; clear hC hb)
  go_ret
  exact ⟨by first | rfl | rw [hD], HB.out⟩
set_option maxHeartbeats 4000000 in
set_option maxRecDepth 20000 in
theorem idxE_ok {F : Nat} (he : Ent F) {post : Array Value} {w : World} {S : Nat → Prop} {v : Value} {xs : List En} {f : En → Bool} (h : Sl kEn w S v xs) (hS : ∀ k, S k → k < w.heap.size)
    (hF : ∀ (u : World) (x : En) (cs : List Value), Below w.heap.size w u → x ∈ xs → kEn.R u S x cs → Calls Tryz.prog F (#[.agg cs.toArray] ++ post) u fun e u' => e = .returned (.bool (f x)) ∧ Below w.heap.size u u') :
    Calls Tryz.prog 109 #[v, .func (.func F) #[] post] w fun e w' => e = .returned (.int .i64 (idxF f xs)) ∧ Below w.heap.size w w' := by
  have hv := h
  obtain ⟨ao, cap, rfl, hmx, -⟩ := hv
  unfold maxLen at hmx
  unfold Ent at he
  have HH : Hid (Sl kEn w S (.slice ao xs.length cap) xs) := h
  have HS : Hid (∀ k, S k → k < w.heap.size) := hS
  have HF : Hid _ := hF
  obtain ⟨R, hR⟩ : ∃ R, idxF f xs = R := ⟨_, rfl⟩
  have HR : Hid (idxF f xs = R) := hR
  rw [hR]
  clear hR h hS hF
  go_enter Tryz.func109, Tryz.ntmps109
  go_wp2
  go_loopg [5, 8] (xs.length + 1) (fun kx s5 s8 wr => ∃ i : Nat, s8 = .int .i64 i ∧ i ≤ xs.length ∧ xs.length - i ≤ kx ∧ Hid (Below w.heap.size w wr) ∧ Hid (∀ j y, j < i → xs[j]? = some y → f y = false))
  case atStart => exact ⟨0, rfl, by omega, by omega, Below.refl _ _, fun j _ hj => absurd hj (by omega)⟩
  case round =>
    obtain ⟨i, rfl, hi, hk, HM, HJ⟩ := hrel
    by_cases hlt : i < xs.length
    · obtain ⟨x, hx⟩ : ∃ x, xs[i]? = some x := ⟨_, List.getElem?_eq_getElem hlt⟩
      have HW : Hid (Sl kEn wr S (.slice ao xs.length cap) xs) := HH.out.keep fun b hb => HM.out.block b (HS.out b hb)
      obtain ⟨ap, o, rfl, -, cs, r1, hc⟩ := HW.out.atJ hx
      have hC := HF.out wr x cs HM.out (List.mem_of_getElem? hx) r1
      have HX : Hid (xs[i]? = some x) := hx
      have hl2 : (i : Int) < (xs.length : Int) := by omega
      obtain ⟨v1, rfl, q1⟩ := r1
      obtain ⟨p1, c1, rfl, -⟩ := q1
      have a0 := hc 0 _ rfl
      rw [show o + (i * kEn.k + 0) = o + i * 5 by show o + (i * 5 + 0) = _; omega] at a0
      have a1 := hc 1 _ rfl
      rw [show o + (i * kEn.k + 1) = o + i * 5 + 1 by show o + (i * 5 + 1) = _; omega] at a1
      have a2 := hc 2 _ rfl
      rw [show o + (i * kEn.k + 2) = o + i * 5 + 2 by show o + (i * 5 + 2) = _; omega] at a2
      have a3 := hc 3 _ rfl
      rw [show o + (i * kEn.k + 3) = o + i * 5 + 3 by show o + (i * 5 + 3) = _; omega] at a3
      have a4 := hc 4 _ rfl
      rw [show o + (i * kEn.k + 4) = o + i * 5 + 4 by show o + (i * 5 + 4) = _; omega] at a4
      clear hc HH HF HW hx
      rcases hf : f x with _ | _
      · rw [hf] at hC
        have HFX : Hid (f x = false) := hf
        clear hf
        go_wp2_with (go_at_fn F; refine hC.mono ?_; rintro e u1 ⟨rfl, hb⟩; have HB : Hid (Below w.heap.size w u1) := HM.out.trans hb; clear hC hb)
        go_roundg (xs.length - (i + 1))
        case measure => omega
        case rel =>
          refine ⟨i + 1, by go_num, by omega, by omega, HB.out, fun j y hj hy => ?_⟩
          by_cases hji : j < i
          · exact HJ.out j y hji hy
          · obtain rfl : j = i := by omega
            have := HX.out.symm.trans hy
            injection this with this
            subst this
            exact HFX.out
      · rw [hf] at hC
        obtain rfl : R = (i : Int) := HR.out.symm.trans (idxF_at HJ.out HX.out hf)
        clear hf
        go_wp2_with (go_at_fn F; refine hC.mono ?_; rintro e u1 ⟨rfl, hb⟩; have HB : Hid (Below w.heap.size w u1) := HM.out.trans hb; clear hC hb)
        go_ret
        exact ⟨rfl, HB.out⟩
    · obtain rfl : R = -1 := HR.out.symm.trans (idxF_no fun j y hy => HJ.out j y (by have := (List.getElem?_eq_some_iff.1 hy).1; omega) hy)
      have hl : ¬ (i : Int) < (xs.length : Int) := by omega
      clear HF HH
      go_wp2
      go_ret
      exact ⟨rfl, HM.out⟩
set_option maxRecDepth 20000 in
theorem conE_ok {F : Nat} (he : Ent F) {post : Array Value} {w : World} {S : Nat → Prop} {v : Value} {xs : List En} {f : En → Bool} (h : Sl kEn w S v xs) (hS : ∀ k, S k → k < w.heap.size)
    (hF : ∀ (u : World) (x : En) (cs : List Value), Below w.heap.size w u → x ∈ xs → kEn.R u S x cs → Calls Tryz.prog F (#[.agg cs.toArray] ++ post) u fun e u' => e = .returned (.bool (f x)) ∧ Below w.heap.size u u') :
    Calls Tryz.prog 83 #[v, .func (.func F) #[] post] w fun e w' => e = .returned (.bool (xs.any f)) ∧ Below w.heap.size w w' := by
  have hC := idxE_ok he h hS hF
  have hD := idxF_any f xs
  obtain ⟨ao, cap, rfl, -⟩ := h
  generalize idxF f xs = R at *
  generalize xs.any f = B at *
  clear hF hS
  go_enter Tryz.func83, Tryz.ntmps83
  go_wp2_with (go_at_call 109; refine hC.mono ?_; rintro e u1 ⟨rfl, hb⟩; have HB : Hid (Below w.heap.size w u1) := hb; clear hC hb)
  go_ret
  exact ⟨by first | rfl | rw [hD], HB.out⟩
end Go.Proofs.YtbbmgjcabmjjdaaGreatDoor
