/- A table of monitors: Leave, Wait. -/
import Derived.Test.YtdkbdmlodngneaaMNCall
namespace Go.Proofs.Ytdkbdmlodngneaa
open Go.RowKit

section
variable {B : Nat} {w w' : World} {s bs mo mb : Nat} {wv : Value} {M : Mt} {c : Nat}
theorem ownA_yes {t : Nat} {obj d : Int} (ho : M.ow obj = some ((t : Int), d)) : ownA M t obj = (d, 0) := by unfold ownA; rw [ho]; simp
set_option maxRecDepth 20000 in
set_option maxHeartbeats 1000000 in
theorem nleave_no (hm : Mn B w s M c) {t : Nat} (ht : t < M.N) (hs : M.st t ≠ 2) {obj : Int} (hk : okI obj) (ho : ownA M t obj = (0, 2001)) :
    Calls Try.prog 11 #[.pointer (some ⟨s, 0, none⟩), .int .i64 t, .int .i64 obj] w (MnP B w s M c (.int .i64 2001)) := by
  obtain ⟨bs, mo, mb, wv, h⟩ := hm
  have hO := nowns_ok h ht hs hk
  rw [ho] at hO
  have HM : Hid (∀ w', Below w.heap.size w w' → Mn B w' s M c ∧ Below B w w') := fun w' hb => ⟨⟨_, _, _, _, h.below hb⟩, hb.mono h.Bw⟩
  clear h hs hk ht ho
  go_enter Try.func11, Try.ntmps11
  go_wp2_with (go_at_call 17; refine hO.mono ?_; rintro e w9 ⟨rfl, hb⟩; have HB : Hid _ := HM.out w9 hb; clear hb hO)
  go_ret
  exact ⟨rfl, HB.out⟩
set_option maxRecDepth 20000 in
set_option maxHeartbeats 1000000 in
theorem nleave_last (hm : Mn B w s M c) {t : Nat} (ht : t < M.N) (hs : M.st t ≠ 2) {obj : Int} (hk : okI obj) (ho : M.ow obj = some ((t : Int), 1)) :
    Calls Try.prog 11 #[.pointer (some ⟨s, 0, none⟩), .int .i64 t, .int .i64 obj] w (MnP B w s { M with ow := fun z => if z = obj then none else M.ow z } c (.int .i64 0)) := by
  obtain ⟨bs, mo, mb, wv, h⟩ := hm
  have hO := nowns_ok h ht hs hk
  rw [ownA_yes ho] at hO
  have HM : Hid (∀ w1, Below w.heap.size w w1 → w1.cell? ⟨s, 1, none⟩ = some (.map (some mo)) ∧ ∃ w2, (∀ ty, (Builtin.delete_ #[40, 3] ty #[.map (some mo), .int .i64 obj]).run Try.prog w1 = .ok (.tuple #[]) w2) ∧ Hid (Mn B w2 s { M with ow := fun z => if z = obj then none else M.ow z } c ∧ Below B w w2)) := fun w1 hb => by
    have m1 := h.below hb
    obtain ⟨w2, r2, m2, t2⟩ := m1.ho.drop (x := obj) hk 0
    exact ⟨m1.cells.2.1, w2, fun ty => r2, ⟨⟨_, _, _, _, m1.own m2 t2 (Nat.le_refl c) h.hc⟩, below_map (hb.mono h.Bw) t2 h.hB.2.2.1 (by have := hb.size; have := h.Bw; omega)⟩⟩
  clear h hs hk ht ho
  go_enter Try.func11, Try.ntmps11
  go_wp2_with (go_at_call 17; refine hO.mono ?_; rintro e w9 ⟨rfl, hb⟩; obtain ⟨k1, w2, r2, HR⟩ := HM.out w9 hb; clear hb hO)
  go_ret
  exact ⟨rfl, HR.out⟩
set_option maxRecDepth 20000 in
set_option maxHeartbeats 1000000 in
theorem nleave_more (hm : Mn B w s M c) {t : Nat} (ht : t < M.N) (hs : M.st t ≠ 2) {obj d : Int} (hk : okI obj) (ho : M.ow obj = some ((t : Int), d)) (hd : 1 < d ∧ d ≤ 1000) (hc : c < 1000000) :
    Calls Try.prog 11 #[.pointer (some ⟨s, 0, none⟩), .int .i64 t, .int .i64 obj] w (MnP B w s { M with ow := fun z => if z = obj then some ((t : Int), d - 1) else M.ow z } (c + 1) (.int .i64 0)) := by
  obtain ⟨bs, mo, mb, wv, h⟩ := hm
  have hO := nowns_ok h ht hs hk
  rw [ownA_yes ho] at hO
  have HM : Hid (∀ w1, Below w.heap.size w w1 → w1.cell? ⟨s, 1, none⟩ = some (.map (some mo)) ∧ ∃ w2, (Instr.mapUpdate 40 (.map (some mo)) (.int .i64 obj) (.agg #[.int .i64 t, .int .i64 (d - 1)])).run Try.prog w1 = .ok () w2 ∧ Hid (Mn B w2 s { M with ow := fun z => if z = obj then some ((t : Int), d - 1) else M.ow z } (c + 1) ∧ Below B w w2)) := fun w1 hb => by
    have m1 := h.below hb
    obtain ⟨w2, r2, m2, t2⟩ := m1.ho.store (Nat.lt_of_le_of_lt h.hc (by unfold maxLen; omega)) (x := obj) hk ((t : Int), d - 1)
    exact ⟨m1.cells.2.1, w2, r2, ⟨⟨_, _, _, _, m1.own m2 t2 (Nat.le_succ c) (by omega)⟩, below_map (hb.mono h.Bw) t2 h.hB.2.2.1 (by have := hb.size; have := h.Bw; omega)⟩⟩
  have hw : wrap64 (d - 1) = d - 1 := by unfold wrap64; omega
  have e1 : (d == 1) = false := by simp; omega
  clear h hs hk ht ho hd
  go_enter Try.func11, Try.ntmps11
  go_wp2_with (go_at_call 17; refine hO.mono ?_; rintro e w9 ⟨rfl, hb⟩; obtain ⟨k1, w2, r2, HR⟩ := HM.out w9 hb; clear hb hO)
  go_ret
  exact ⟨rfl, HR.out⟩
/-- What Wait makes of a table. -/
def Mt.waits (M : Mt) (t : Nat) (obj d : Int) : Mt where
  N := M.N
  ow := fun z => if z = obj then none else M.ow z
  bk := fun z => if z = ((t : Int), obj) then some d else M.bk z
  wt := M.wt ++ [((t : Int), obj)]
  st := fun i => if i = t then 2 else M.st i
set_option maxRecDepth 20000 in
set_option maxHeartbeats 1000000 in
theorem nwait_ok (hm : Mn B w s M c) {t : Nat} (ht : t < M.N) (hs : M.st t ≠ 2) {obj d : Int} (hk : okI obj) (ho : M.ow obj = some ((t : Int), d)) (hc : c + 2 ≤ 1000000) :
    Calls Try.prog 9 #[.pointer (some ⟨s, 0, none⟩), .int .i64 t, .int .i64 obj] w (MnP B w s (M.waits t obj d) (c + 2) (.int .i64 0)) := by
  obtain ⟨bs, mo, mb, wv, h⟩ := hm
  have hO := nowns_ok h ht hs hk
  rw [ownA_yes ho] at hO
  have hN := h.hN
  have hkt : okI (t : Int) := ⟨by omega, by omega⟩
  have HM : Hid (∀ w1, Below w.heap.size w w1 → w1.cell? ⟨s, 1, none⟩ = some (.map (some mo)) ∧ ∃ w2, (∀ ty, (Builtin.delete_ #[40, 3] ty #[.map (some mo), .int .i64 obj]).run Try.prog w1 = .ok (.tuple #[]) w2) ∧ w2.cell? ⟨s, 3, none⟩ = some (.map (some mb)) ∧ ∃ w3, (Instr.mapUpdate 41 (.map (some mb)) (.agg #[.int .i64 t, .int .i64 obj]) (.int .i64 d)).run Try.prog w2 = .ok () w3 ∧
      Hid (Calls Try.prog 18 #[.pointer (some ⟨s, 2, none⟩), .slice (some ⟨w3.heap.size, 0, none⟩) 1 1] (w3.alloc (.cells #[.int .i64 t, .int .i64 obj] 53)) fun e w4 => e = .returned (.tuple #[]) ∧ (w4.cell? ⟨s, 0, none⟩ = some (.slice (some ⟨bs, 0, none⟩) M.N M.N) ∧ w4.cell? ⟨bs, t, none⟩ = some (.int .i64 (M.st t)) ∧ w4.frozen? ⟨bs, t, none⟩ = false) ∧ Hid (Mn B (w4.setCell ⟨bs, t, none⟩ (.int .i64 2)) s (M.waits t obj d) (c + 2) ∧ Below B w (w4.setCell ⟨bs, t, none⟩ (.int .i64 2))))) := fun w1 hb => by
    have hBw := h.Bw
    have hz1 := hb.size
    have m1 := h.below hb
    obtain ⟨w2, r2, p2, t2⟩ := m1.ho.drop (x := obj) hk 0
    have m2 := m1.own p2 t2 (Nat.le_refl c) h.hc
    have b2 := below_map (hb.mono h.Bw) t2 h.hB.2.2.1 (by omega)
    have hz2 := t2.grown.size
    obtain ⟨w3, r3, p3, t3⟩ := m2.hb.store (Nat.lt_of_le_of_lt h.hc (by unfold maxLen; omega)) (x := ((t : Int), obj)) ⟨hkt, hk⟩ d
    have m3 := m2.bak p3 t3 (Nat.le_succ c) (by omega)
    have b3 := below_map b2 t3 h.hB.2.2.2 (by omega)
    have hz3 := t3.grown.size
    refine ⟨m1.cells.2.1, w2, fun ty => r2, m2.cells.2.2.2, w3, r3, ?_⟩
    have m4 := m3.below ((Below.refl _ w3).alloc (Nat.le_refl _) (.cells #[.int .i64 t, .int .i64 obj] 53))
    have hx : (w3.alloc (.cells #[.int .i64 t, .int .i64 obj] 53)).heap[w3.heap.size]? = some (.cells #[.int .i64 t, .int .i64 obj] 53 (0, 0)) := Array.getElem?_push_size
    refine (nadd_ok m4 ((t : Int), obj) hx (by omega)).mono ?_
    rintro e w4 ⟨rfl, v, m5, b5⟩
    have b4 : Below B w w4 := (b3.alloc (by omega) _).trans b5
    exact ⟨rfl, ⟨m5.cells.1, m5.hst.cell ht, m5.hst.frozen _⟩, ⟨⟨_, _, _, _, m5.set t 2⟩, below_set b4 h.hB.2.1⟩⟩
  have ht1 : (t : Int) < (M.N : Int) := by omega
  have ht0 : (0 : Int) ≤ (t : Int) := by omega
  clear h hs hk ht ho hkt
  generalize M.N = N at *
  go_enter Try.func9, Try.ntmps9
  go_wp2_with (first
    | (go_at_call 17; refine hO.mono ?_; rintro e w9 ⟨rfl, hb⟩; obtain ⟨k1, w2, r2, k3, w3, r3, HA⟩ := HM.out w9 hb; clear hb hO)
    | (go_at_call 18; refine HA.out.mono ?_; rintro e w4 ⟨rfl, ⟨j0, j1, j2⟩, HR⟩; clear HA))
  go_ret
  exact ⟨rfl, HR.out⟩
end
end Go.Proofs.Ytdkbdmlodngneaa
