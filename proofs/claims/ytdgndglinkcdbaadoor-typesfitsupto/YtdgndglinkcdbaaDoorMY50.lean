/- KeptInts: what was lent is as it was. -/
import Derived.Test.YtdgndglinkcdbaaDoorMTLen
namespace Go.Proofs.YtdgndglinkcdbaaDoor
open Go.RowKit
attribute [local go_sem ↓] app_Y

set_option maxHeartbeats 2000000 in
set_option maxRecDepth 20000 in
theorem lend_ok {w : World} {S : Nat → Prop} {v : Value} {xs : List Int} (hv : Sl kI w S v xs) (hl : xs.length ≤ 1048576) : Calls Tryd.prog 7 #[v] w fun e w' => ∃ v', e = .returned v' ∧ Below w.heap.size w w' ∧ Lnt w' w.heap.size v' xs := by
  obtain ⟨i0, hi, hz0, hz1, hz2⟩ := info_parts infoLI
  have hC := copyO_ok hv (by omega)
  obtain ⟨a, c, rfl, -⟩ := hv
  go_enter Tryd.func7, Tryd.ntmps7
  go_wp2_with (first
    | (go_at_call 29; refine hC.mono ?_; rintro e u1 ⟨g, cap, rfl, hb, hown⟩; have HU : Hid (Below w.heap.size w u1) := hb; have HO : Hid (u1.ownsRow w.heap.size 3 1 (.slice (some ⟨g, 0, none⟩) xs.length cap) xs.length (xs.map clI).flatten) := hown; clear hC hb hown)
    | (at_builtin; refine wpList_append_lies _ rfl _ _ 25 rfl w.heap.size 3 i0 (.int .i64 0) 1 8 Tryd.underlying25 hi hz0 hz1 hz2 rfl (by decide) _ xs.length _ rfl (HO.out.alloc _) ⟨u1.heap.size, 0, none⟩ 2 2 [.int .i64 (-7777), .int .i64 (-8888)] rfl rfl (fun j u hu => news_at u1 #[.int .i64 (-7777), .int .i64 (-8888)] 3 j u (by simpa using hu)) (by intro u hu; simp at hu; rcases hu with rfl | rfl <;> rfl) (by decide) (by unfold maxLen; omega) (by omega) (by have := HU.out.size; simp; omega) _ rfl ?_; intro g2 cap2 w2 hown2 hgrow hat _; have HL : Hid (Lnt w2 w.heap.size (.slice (some ⟨g2, 0, none⟩) xs.length cap2) xs) := lnt_of hown2; have HB2 : Hid (Below w.heap.size w w2) := lent_below HU.out (own_ge HO.out) hgrow; have hc1 : xs.length ≤ cap2 := (by obtain ⟨g', c', e, q, -⟩ := HL.out; cases e; omega); have hc2 : (xs.length : Int) ≤ (cap2 : Int) := (by omega); clear hown2 hgrow hat))
  go_ret
  exact ⟨_, rfl, HB2.out, HL.out⟩
end Go.Proofs.YtdgndglinkcdbaaDoor
namespace Go.Proofs.YtdgndglinkcdbaaDoor
open Go.RowKit

set_option maxHeartbeats 2000000 in
set_option maxRecDepth 20000 in
theorem kept_ok {w : World} {S : Nat → Prop} {B : Nat} {vl va : Value} {xs : List Int} (hL : Lnt w B vl xs) (hA : Sl kI w S va xs) : Calls Tryd.prog 16 #[vl, va] w fun e w' => e = .returned (.bool true) ∧ ∃ m, w' = w.drewN m := by
  have hE := fun n : Nat => SameInts_eq (w := w.drewN n) (hL.sl.keep fun _ _ => rfl) (hA.keep fun _ _ => rfl)
  obtain ⟨g, cap, rfl, h1, h2, h3, h4, h5⟩ := hL
  obtain ⟨aa, ca, rfl, hmx, -⟩ := hA
  unfold maxLen at h2 hmx
  have hc1 : ((xs.length : Int) + 2) ≤ (cap : Int) := by omega
  have hc2 : ¬ ((xs.length : Int) + 2 < 0) := by omega
  have hc3 : (cap : Int) ≤ 9223372036854775807 := by omega
  have c1 : w.cell? ⟨g, xs.length, none⟩ = some (.int .i64 (-7777)) := h5 xs.length _ (by simp)
  have c2 : w.cell? ⟨g, xs.length + 1, none⟩ = some (.int .i64 (-8888)) := h5 (xs.length + 1) _ (by simp)
  have hE0 := hE 0
  clear h5 h3 hE
  go_enter Tryd.func16, Tryd.ntmps16
  go_wp2_with (go_at_call 36; refine hE0.mono ?_; rintro e w9 ⟨rfl, m0, rfl⟩; clear hE0)
  go_ret
  exact ⟨rfl, _, rfl⟩
end Go.Proofs.YtdgndglinkcdbaaDoor
