/- SpineActs: cycle, a step under way. -/
import Derived.Test.YtjfjgfkfbbigbaaPCy
namespace Go.Proofs.Ytjfjgfkfbbigbaa
open Go.RowKit
section
variable {B : Nat} {w0 w : World} {P : Nat → Prop} {s b W y : Nat} {half : Int} {v : Value} {bg : Int} {L : List Rec} {q : St} {V : Int → Int → Int} {c : Int → Int}
set_option maxRecDepth 20000 in
set_option maxHeartbeats 1000000 in
theorem pstep_on (h : Play B w0 w P s b W y half v bg true L q V c) (hon : q.c.on = true) (K A p I n : Int) (hK : K ≠ 7) (hA : 0 ≤ A ∧ A < 3) (hc : 0 ≤ c A ∧ c A ≤ 1000000000) (hgi : q.given ≤ 1000000000) (hL : L.length ≤ 100000) :
    Calls Try.prog 25 #[.pointer (some ⟨y, 0, none⟩), .agg #[.int .i64 K, .int .i64 A, .int .i64 p, .int .i64 I, .int .i64 n]] w fun e w' => e = .returned (.bool true) ∧ ∃ q' P' c', Stepped q q' ∧ Ticked c c' A 4 ∧
      ((q'.c.on = true ∧ Play B w0 w' P' s b W y half v bg true L q' V c') ∨ (q'.c.on = false ∧ ∃ v', Play B w0 w' P' s b W y half v' bg false (L.filter (keepR bg)) q' V c')) := by
  have hk7 : (K == 7) = false := by simpa using hK
  have hb := Pb.start h K A p I n
  have a0 : decide (A < 0) = false := by simp; omega
  have a1 : decide (3 ≤ A) = false := by simp; omega
  go_enter Try.func25, Try.ntmps25
  go_wp2
  generalize World.alloc _ _ = W1 at *
  obtain ⟨c1, x0, x1⟩ := hb.cells
  have hd := hb.below (below_drewN W1 1 _)
  have hs1 := hd.play.gd.steps A (by omega)
  go_region_held3 (fun w' => w'.cell? ⟨y, 1, none⟩ = some (.pointer (some ⟨b, 0, none⟩)) ∧ w'.cell? ⟨w.heap.size, 1, none⟩ = some (.int .i64 A)) (go_keep) ((go_at_call 24; refine hs1.mono ?_; rintro e w5 ⟨rfl, hw5⟩; have hb5 : Pb B w0 w5 P s b W y half v bg true L q V c w.heap.size K A p I n := hw5 ▸ hd; obtain ⟨c5, x50, x51⟩ := hb5.cells; clear hw5))
  clear hs1 hd hb c1 x0 x1
  have hd5 := hb5.below (below_drewN w5 1 _)
  have hs2 := sstep_ok hd5.play.gd hon A (by omega) hgi (by rw [IntWalk.wrap64_in _ (by omega)])
  go_wp2
  go_region_held3 (fun w' => w'.cell? ⟨y, 0, none⟩ = some (.pointer (some ⟨s, 0, none⟩)) ∧ w'.cell? ⟨w.heap.size, 1, none⟩ = some (.int .i64 A)) (go_keep) ((go_at_call 19; refine hs2.mono ?_; rintro e w6 ⟨q', c', rfl, hst, htk, hT⟩; have HS : Hid (Stepped q q' ∧ Ticked c c' A 4) := ⟨hst, htk⟩; obtain ⟨P', hb6⟩ := hd5.turn hT; obtain ⟨c6, x60, x61⟩ := hb6.cells; clear hst htk hT))
  have hs6 := fun k => (hb6.below (below_drewN w6 k _)).play.gd.steps A (by omega)
  have hn4 : decide (c A + 4 < c' A) = false := by
    obtain ⟨_, d, d1, d2, d3⟩ := HS.out.2
    rw [IntWalk.wrap64_in _ (by omega)] at d3
    simp; omega
  clear hs2 hd5 hb5 c5 x50 x51
  cases hm : q'.c.on with
  | true =>
    go_wp2
    go_quiet ((first | (go_at_call 12; exact Calls.quiet_of_same (num_any _ _)) | (go_at_call 24; exact Calls.quiet_of_same (hs6 _))))
    go_wp2
    go_ret
    exact ⟨rfl, q', P', c', HS.out.1, HS.out.2, .inl ⟨hm, (hb6.below (below_drewN w6 nq _)).play⟩⟩
  | false =>
    go_wp2
    go_quiet ((first | (go_at_call 12; exact Calls.quiet_of_same (num_any _ _)) | (go_at_call 24; exact Calls.quiet_of_same (hs6 _))))
    have ho := over_ok (hb6.below (below_drewN w6 nq _)).play hL
    go_wp2_with (go_at_call 43; refine ho.mono ?_; rintro e w7 ⟨rfl, v', h7⟩)
    go_ret
    exact ⟨rfl, q', P', c', HS.out.1, HS.out.2, .inr ⟨hm, v', h7⟩⟩
end
end Go.Proofs.Ytjfjgfkfbbigbaa
