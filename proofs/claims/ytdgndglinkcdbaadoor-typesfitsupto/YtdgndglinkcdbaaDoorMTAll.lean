/- types.All and the document's All. -/
import Derived.Test.YtdgndglinkcdbaaDoorMTFdo
import Derived.Test.YtdgndglinkcdbaaDoorMLSame
import Derived.Deep.LoopGhost
namespace Go.Proofs.YtdgndglinkcdbaaDoor
open Go.RowKit

theorem box_cell {u : World} {b j : Nat} {row : Array Value} {T : TypeId} {fr : Nat × Nat} {v : Value} (h : u.heap[b]? = some (.cells row T fr)) (hr : row[j]? = some v) : u.cell? ⟨b, j, none⟩ = some v := by simp [World.cell?, h, hr]
theorem cell_heap {u w : World} (h : u.heap = w.heap) {a : Addr} : u.cell? a = w.cell? a := by simp [World.cell?, h]
/-- Each of the first fits that of the second in its place. -/
def allT (ls : List Ly) : List Int → List Int → Bool
  | [], [] => true
  | x :: xs, y :: ys => fitT ls x y && allT ls xs ys
  | _, _ => false
theorem allT_len {ls : List Ly} : ∀ {xs ys : List Int}, xs.length ≠ ys.length → allT ls xs ys = false
  | [], [], h => absurd rfl h
  | [], _ :: _, _ => rfl
  | _ :: _, [], _ => rfl
  | x :: xs, y :: ys, h => by
    rw [allT, allT_len (xs := xs) (ys := ys) (by simpa using h)]; simp
theorem allT_no {ls : List Ly} : ∀ {xs ys : List Int} {i : Nat} {x y : Int}, xs[i]? = some x → ys[i]? = some y → fitT ls x y = false → allT ls xs ys = false
  | [], _, _, _, _, h, _, _ => by simp at h
  | _ :: _, [], _, _, _, _, h, _ => by simp at h
  | x :: xs, y :: ys, 0, _, _, hx, hy, h => by
    simp at hx hy
    subst hx hy
    rw [allT, h]; rfl
  | x :: xs, y :: ys, i + 1, _, _, hx, hy, h => by
    rw [allT, allT_no (i := i) (by simpa using hx) (by simpa using hy) h]; simp
theorem allT_yes {ls : List Ly} : ∀ {xs ys : List Int}, xs.length = ys.length → (∀ (i : Nat) (x y : Int), xs[i]? = some x → ys[i]? = some y → fitT ls x y = true) → allT ls xs ys = true
  | [], [], _, _ => rfl
  | [], _ :: _, h, _ => by simp at h
  | _ :: _, [], h, _ => by simp at h
  | x :: xs, y :: ys, hl, h => by
    rw [allT, h 0 x y rfl rfl, allT_yes (xs := xs) (ys := ys) (by simpa using hl) (fun i a b ha hb => h (i + 1) a b (by simpa using ha) (by simpa using hb))]; rfl
set_option maxHeartbeats 4000000 in
set_option maxRecDepth 20000 in
theorem docall_ok {S Sa Sb : Nat → Prop} {v va vb : Value} {ls : List Ly} {xs ys : List Int} {w : World} (h : Sl kLy w S v ls) (hA : Sl kI w Sa va xs) (hB : Sl kI w Sb vb ys) (rx : ∀ x ∈ xs, x ≤ 9223372036854775807) (ry : ∀ x ∈ ys, x ≤ 9223372036854775807) :
    Calls Tryd.prog 15 #[v, va, vb] w fun e w' => e = .returned (.bool (allT ls xs ys)) ∧ Below w.heap.size w w' := by
  have hA2 := hA
  have hB2 := hB
  obtain ⟨aa, ca, rfl, hmx, -⟩ := hA2
  obtain ⟨ab, cb, rfl, -, -⟩ := hB2
  unfold maxLen at hmx
  obtain ⟨R, hR⟩ : ∃ R, allT ls xs ys = R := ⟨_, rfl⟩
  have HR : Hid (allT ls xs ys = R) := hR
  rw [hR]
  clear hR
  by_cases hlen : xs.length = ys.length
  · have HL : Hid (xs.length = ys.length) := hlen
    have HF : Hid (∀ (u : World), u.heap = w.heap → ∀ (x y : Int), x ≤ 9223372036854775807 → y ≤ 9223372036854775807 → Calls Tryd.prog 13 #[v, .int .i64 x, .int .i64 y] u fun e w' => e = .returned (.bool (fitT ls x y)) ∧ w' = u) := fun u hu x y hx hy => docfits_ok (h.keep fun _ _ => by rw [hu]) x y hx hy
    have HC : Hid (∀ i x y, xs[i]? = some x → ys[i]? = some y → (∃ b o, aa = some ⟨b, o, none⟩ ∧ w.cell? ⟨b, o + i, none⟩ = some (.int .i64 x)) ∧ (∃ b o, ab = some ⟨b, o, none⟩ ∧ w.cell? ⟨b, o + i, none⟩ = some (.int .i64 y))) := fun i x y hx hy => by
      obtain ⟨b1, o1, e1, cs1, r1, k1⟩ := hA.at_ hx
      obtain ⟨b2, o2, e2, cs2, r2, k2⟩ := hB.at_ hy
      obtain rfl := r1
      obtain rfl := r2
      have a0 := k1 0 _ rfl
      have b0 := k2 0 _ rfl
      rw [show o1 + (i * kI.k + 0) = o1 + i by show o1 + (i * 1 + 0) = o1 + i; omega] at a0
      rw [show o2 + (i * kI.k + 0) = o2 + i by show o2 + (i * 1 + 0) = o2 + i; omega] at b0
      exact ⟨⟨b1, o1, e1, a0⟩, ⟨b2, o2, e2, b0⟩⟩
    have HRX : Hid ((∀ x ∈ xs, x ≤ 9223372036854775807) ∧ ∀ x ∈ ys, x ≤ 9223372036854775807) := ⟨rx, ry⟩
    have hn : ((xs.length : Int) != (ys.length : Int)) = false := by simp [hlen]
    have hny : (ys.length : Int) = (xs.length : Int) := by rw [hlen]
    clear h hA hB rx ry hlen
    go_enter Tryd.func15, Tryd.ntmps15
    go_wp2
    go_loopg [7] (xs.length + 1) (fun kx s7 wr => ∃ i : Nat, s7 = .int .i64 i ∧ i ≤ xs.length ∧ xs.length - i ≤ kx ∧ Hid (wr.heap = w.heap) ∧ Hid (Below w.heap.size w wr) ∧ Hid (∀ (j : Nat) (x y : Int), j < i → xs[j]? = some x → ys[j]? = some y → fitT ls x y = true))
    case atStart => exact ⟨0, rfl, by omega, by omega, rfl, Below.refl _ _, fun j _ _ hj => absurd hj (by omega)⟩
    case round =>
      obtain ⟨i, rfl, hi, hk, HW, HM, HJ⟩ := hrel
      by_cases hlt : i < xs.length
      · obtain ⟨x, hx⟩ : ∃ x, xs[i]? = some x := ⟨_, List.getElem?_eq_getElem hlt⟩
        obtain ⟨y, hy⟩ : ∃ y, ys[i]? = some y := ⟨_, List.getElem?_eq_getElem (by have := HL.out; omega)⟩
        obtain ⟨⟨ap, ao, rfl, a0⟩, ⟨bp, bo, rfl, b0⟩⟩ := HC.out i x y hx hy
        rw [← cell_heap HW.out] at a0 b0
        have hxm := HRX.out.1 x (List.mem_of_getElem? hx)
        have hym := HRX.out.2 y (List.mem_of_getElem? hy)
        have hl2 : (i : Int) < (xs.length : Int) := by omega
        have hl3 : (i : Int) < (ys.length : Int) := by omega
        have hF : ∀ u : World, u.heap = w.heap → Calls Tryd.prog 13 #[v, .int .i64 x, .int .i64 y] u fun e w' => e = .returned (.bool (fitT ls x y)) ∧ w' = u := fun u hu => HF.out u hu x y hxm hym
        have HX : Hid (xs[i]? = some x ∧ ys[i]? = some y) := ⟨hx, hy⟩
        rcases hf : fitT ls x y with _ | _
        · obtain rfl : R = false := HR.out.symm.trans (allT_no hx hy hf)
          rw [hf] at hF
          clear HC hx hy hf HF
          go_wp2_with (fail)
          go_quiet ((go_at_call 13; exact Calls.quiet_of_same (hF _ HW.out)))
          go_wp2
          go_ret
          exact ⟨rfl, HM.out.os, HM.out.tape, HM.out.output, HM.out.size, HM.out.block⟩
        · rw [hf] at hF
          have HFY : Hid (fitT ls x y = true) := hf
          clear HC hx hy hf HF
          go_wp2_with (fail)
          go_quiet ((go_at_call 13; exact Calls.quiet_of_same (hF _ HW.out)))
          go_wp2
          go_roundg (xs.length - (i + 1))
          case measure => omega
          case rel =>
            refine ⟨i + 1, by go_num, by omega, by omega, HW.out, ⟨HM.out.os, HM.out.tape, HM.out.output, HM.out.size, HM.out.block⟩, fun j x' y' hj h1 h2 => ?_⟩
            by_cases hji : j < i
            · exact HJ.out j x' y' hji h1 h2
            · obtain rfl : j = i := by omega
              rw [HX.out.1] at h1
              rw [HX.out.2] at h2
              injection h1 with h1
              injection h2 with h2
              subst h1 h2
              exact HFY.out
      · have hn2 : i = xs.length := by omega
        subst hn2
        obtain rfl : R = true := HR.out.symm.trans (allT_yes HL.out (fun j x y h1 h2 => HJ.out j x y (List.getElem?_eq_some_iff.1 h1).1 h1 h2))
        have hl : ¬ ((xs.length : Nat) : Int) < ((xs.length : Nat) : Int) := by omega
        clear HC HF
        go_wp2
        go_ret
        exact ⟨rfl, HM.out⟩
  · obtain rfl : R = false := HR.out.symm.trans (allT_len hlen)
    have hn : ((xs.length : Int) != (ys.length : Int)) = true := by simp; omega
    clear h hA hB rx ry hlen
    go_enter Tryd.func15, Tryd.ntmps15
    go_wp2
    go_ret
    exact ⟨rfl, Below.refl _ _⟩
/-- The closure of types.All: its layouts lie in a box. -/
theorem allc_ok {S : Nat → Prop} {v : Value} {ls : List Ly} {u : World} {bx : Nat} (hb : u.cell? ⟨bx, 0, none⟩ = some v) (h : Sl kLy u S v ls) (hn : ∀ y ∈ ls, y.abv.length ≤ 9223372036854775806) (x y : Int) (hx : x ≤ 9223372036854775807) (hy : y ≤ 9223372036854775807) :
    Calls Tryd.prog 35 #[.int .i64 x, .int .i64 y, .pointer (some ⟨bx, 0, none⟩)] u fun e w' => e = .returned (.bool (fitT ls x y)) ∧ w' = u := by
  have hF := tfits_ok h hn x y hx hy
  obtain ⟨pa, pc, rfl, -⟩ := h
  go_enter Tryd.func35, Tryd.ntmps35
  go_wp2_with (go_at_call 12; refine hF.mono ?_; rintro e w9 ⟨rfl, hw9⟩; replace hw9 := hw9.symm; subst hw9)
  go_ret
  exact ⟨rfl, rfl⟩
set_option maxHeartbeats 4000000 in
set_option maxRecDepth 20000 in
theorem alli_ok {Sa Sb : Nat → Prop} {va vb : Value} {ls : List Ly} {xs ys : List Int} {w : World} {bx : Nat} (HF : Hid (∀ (u : World), u.heap = w.heap → ∀ (x y : Int), x ≤ 9223372036854775807 → y ≤ 9223372036854775807 → Calls Tryd.prog 35 #[.int .i64 x, .int .i64 y, .pointer (some ⟨bx, 0, none⟩)] u fun e w' => e = .returned (.bool (fitT ls x y)) ∧ w' = u)) (hA : Sl kI w Sa va xs) (hB : Sl kI w Sb vb ys) (rx : ∀ x ∈ xs, x ≤ 9223372036854775807) (ry : ∀ x ∈ ys, x ≤ 9223372036854775807) :
    Calls Tryd.prog 34 #[va, vb, .func (.func 35) #[] #[.pointer (some ⟨bx, 0, none⟩)]] w fun e w' => e = .returned (.bool (allT ls xs ys)) ∧ Below w.heap.size w w' := by
  have hA2 := hA
  have hB2 := hB
  obtain ⟨aa, ca, rfl, hmx, -⟩ := hA2
  obtain ⟨ab, cb, rfl, -, -⟩ := hB2
  unfold maxLen at hmx
  obtain ⟨R, hR⟩ : ∃ R, allT ls xs ys = R := ⟨_, rfl⟩
  have HR : Hid (allT ls xs ys = R) := hR
  rw [hR]
  clear hR
  by_cases hlen : xs.length = ys.length
  · have HL : Hid (xs.length = ys.length) := hlen
    have HC : Hid (∀ i x y, xs[i]? = some x → ys[i]? = some y → (∃ b o, aa = some ⟨b, o, none⟩ ∧ w.cell? ⟨b, o + i, none⟩ = some (.int .i64 x)) ∧ (∃ b o, ab = some ⟨b, o, none⟩ ∧ w.cell? ⟨b, o + i, none⟩ = some (.int .i64 y))) := fun i x y hx hy => by
      obtain ⟨b1, o1, e1, cs1, r1, k1⟩ := hA.at_ hx
      obtain ⟨b2, o2, e2, cs2, r2, k2⟩ := hB.at_ hy
      obtain rfl := r1
      obtain rfl := r2
      have a0 := k1 0 _ rfl
      have b0 := k2 0 _ rfl
      rw [show o1 + (i * kI.k + 0) = o1 + i by show o1 + (i * 1 + 0) = o1 + i; omega] at a0
      rw [show o2 + (i * kI.k + 0) = o2 + i by show o2 + (i * 1 + 0) = o2 + i; omega] at b0
      exact ⟨⟨b1, o1, e1, a0⟩, ⟨b2, o2, e2, b0⟩⟩
    have HRX : Hid ((∀ x ∈ xs, x ≤ 9223372036854775807) ∧ ∀ x ∈ ys, x ≤ 9223372036854775807) := ⟨rx, ry⟩
    have hn : ((xs.length : Int) != (ys.length : Int)) = false := by simp [hlen]
    have hny : (ys.length : Int) = (xs.length : Int) := by rw [hlen]
    clear hA hB rx ry hlen
    go_enter Tryd.func34, Tryd.ntmps34
    go_wp2
    go_loopg [7, 15] (xs.length + 1) (fun kx s7 s15 wr => ∃ i : Nat, s15 = .int .i64 i ∧ i ≤ xs.length ∧ xs.length - i ≤ kx ∧ Hid (wr.heap = w.heap) ∧ Hid (Below w.heap.size w wr) ∧ Hid (∀ (j : Nat) (x y : Int), j < i → xs[j]? = some x → ys[j]? = some y → fitT ls x y = true))
    case atStart => exact ⟨0, rfl, by omega, by omega, rfl, Below.refl _ _, fun j _ _ hj => absurd hj (by omega)⟩
    case round =>
      obtain ⟨i, rfl, hi, hk, HW, HM, HJ⟩ := hrel
      by_cases hlt : i < xs.length
      · obtain ⟨x, hx⟩ : ∃ x, xs[i]? = some x := ⟨_, List.getElem?_eq_getElem hlt⟩
        obtain ⟨y, hy⟩ : ∃ y, ys[i]? = some y := ⟨_, List.getElem?_eq_getElem (by have := HL.out; omega)⟩
        obtain ⟨⟨ap, ao, rfl, a0⟩, ⟨bp, bo, rfl, b0⟩⟩ := HC.out i x y hx hy
        rw [← cell_heap HW.out] at a0 b0
        have hxm := HRX.out.1 x (List.mem_of_getElem? hx)
        have hym := HRX.out.2 y (List.mem_of_getElem? hy)
        have hl2 : (i : Int) < (xs.length : Int) := by omega
        have hl3 : (i : Int) < (ys.length : Int) := by omega
        have hF : ∀ u : World, u.heap = w.heap → Calls Tryd.prog 35 #[.int .i64 x, .int .i64 y, .pointer (some ⟨bx, 0, none⟩)] u fun e w' => e = .returned (.bool (fitT ls x y)) ∧ w' = u := fun u hu => HF.out u hu x y hxm hym
        have HX : Hid (xs[i]? = some x ∧ ys[i]? = some y) := ⟨hx, hy⟩
        rcases hf : fitT ls x y with _ | _
        · obtain rfl : R = false := HR.out.symm.trans (allT_no hx hy hf)
          rw [hf] at hF
          clear HC hx hy hf HF
          go_wp2_with (fail)
          go_quiet ((go_at_call 35; exact Calls.quiet_of_same (hF _ HW.out)))
          go_wp2
          go_ret
          exact ⟨rfl, HM.out.os, HM.out.tape, HM.out.output, HM.out.size, HM.out.block⟩
        · rw [hf] at hF
          have HFY : Hid (fitT ls x y = true) := hf
          clear HC hx hy hf HF
          go_wp2_with (fail)
          go_quiet ((go_at_call 35; exact Calls.quiet_of_same (hF _ HW.out)))
          go_wp2
          go_roundg (xs.length - (i + 1))
          case measure => omega
          case rel =>
            refine ⟨i + 1, by go_num, by omega, by omega, HW.out, ⟨HM.out.os, HM.out.tape, HM.out.output, HM.out.size, HM.out.block⟩, fun j x' y' hj h1 h2 => ?_⟩
            by_cases hji : j < i
            · exact HJ.out j x' y' hji h1 h2
            · obtain rfl : j = i := by omega
              rw [HX.out.1] at h1
              rw [HX.out.2] at h2
              injection h1 with h1
              injection h2 with h2
              subst h1 h2
              exact HFY.out
      · have hn2 : i = xs.length := by omega
        subst hn2
        obtain rfl : R = true := HR.out.symm.trans (allT_yes HL.out (fun j x y h1 h2 => HJ.out j x y (List.getElem?_eq_some_iff.1 h1).1 h1 h2))
        have hl : ¬ ((xs.length : Nat) : Int) < ((xs.length : Nat) : Int) := by omega
        clear HC HF
        go_wp2
        go_ret
        exact ⟨rfl, HM.out⟩
  · obtain rfl : R = false := HR.out.symm.trans (allT_len hlen)
    have hn : ((xs.length : Int) != (ys.length : Int)) = true := by simp; omega
    clear hA hB rx ry hlen
    go_enter Tryd.func34, Tryd.ntmps34
    go_wp2
    go_ret
    exact ⟨rfl, Below.refl _ _⟩
theorem typall_ok {S Sa Sb : Nat → Prop} {v va vb : Value} {ls : List Ly} {xs ys : List Int} {w : World} (h : Sl kLy w S v ls) (hS : ∀ k, S k → k < w.heap.size) (hn : ∀ y ∈ ls, y.abv.length ≤ 9223372036854775806) (hA : Sl kI w Sa va xs) (hSa : ∀ k, Sa k → k < w.heap.size) (hB : Sl kI w Sb vb ys) (hSb : ∀ k, Sb k → k < w.heap.size) (rx : ∀ x ∈ xs, x ≤ 9223372036854775807) (ry : ∀ x ∈ ys, x ≤ 9223372036854775807) :
    Calls Tryd.prog 14 #[v, va, vb] w fun e w' => e = .returned (.bool (allT ls xs ys)) ∧ Below w.heap.size w w' := by
  have hC := alli_ok (w := w.alloc (.cells #[v] 28)) (bx := w.heap.size) (fun u hu x y hx hy => allc_ok (u := u) (box_cell (by rw [hu]; exact heap_alloc_new w (.cells #[v] 28)) rfl) (h.keep (fun b hb => by rw [hu]; exact Below.heap_alloc _ _ _ (hS b hb))) hn x y hx hy) (hA.keep (fun b hb => Below.heap_alloc _ _ _ (hSa b hb))) (hB.keep (fun b hb => Below.heap_alloc _ _ _ (hSb b hb))) rx ry
  have HB : Hid (Below w.heap.size w (w.alloc (.cells #[v] 28))) := (Below.refl _ _).alloc (Nat.le_refl _) _
  obtain ⟨pa, pc, rfl, -⟩ := h
  obtain ⟨aa, ca, rfl, -⟩ := hA
  obtain ⟨ab, cb, rfl, -⟩ := hB
  generalize allT ls xs ys = R at *
  clear hS hSa hSb hn rx ry
  go_enter Tryd.func14, Tryd.ntmps14
  go_wp2_with (go_at_call 34; refine hC.mono ?_; rintro e u1 ⟨rfl, hb⟩; have HB1 : Hid (Below w.heap.size w u1) := HB.out.trans (hb.mono (by simp)); clear hC hb)
  go_ret
  exact ⟨rfl, HB1.out⟩
end Go.Proofs.YtdgndglinkcdbaaDoor
