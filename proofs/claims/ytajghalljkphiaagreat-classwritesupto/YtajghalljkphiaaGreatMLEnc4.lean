/- Encode: whatever the program. -/
import Derived.Test.YtajghalljkphiaaGreatMLEnc3
import Derived.Test.YtajghalljkphiaaGreatMLCau
namespace Go.Proofs.YtajghalljkphiaaGreat
open Go.RowKit

/-- A program in a box of its own. -/
structure Bp (w : World) (pb : Nat) (S : Nat → Prop) (p : Pg) (cs : Array Value) : Prop where
  box : w.heap[pb]? = some (.cells cs 24 (0, 0))
  dat : kPg.R w S p cs.toList
  low : ∀ k, S k → k < w.heap.size
theorem Bp.below {w w' : World} {pb : Nat} {S : Nat → Prop} {p : Pg} {cs : Array Value} (h : Bp w pb S p cs) (hb : Below w.heap.size w w') : Bp w' pb S p cs :=
  ⟨by rw [hb.block _ (Array.getElem?_eq_some_iff.1 h.box).1]; exact h.box, kPg.keep (fun k hk => hb.block k (h.low k hk)) h.dat, fun k hk => Nat.lt_of_lt_of_le (h.low k hk) hb.size⟩

set_option maxHeartbeats 1000000 in
set_option maxRecDepth 20000 in
theorem enc1_any {p : Pg} {S : Nat → Prop} {cs : Array Value} {pb : Nat} {w : World} (h : Bp w pb S p cs) : Calls Tryz.prog 30 #[.pointer (some ⟨pb, 0, none⟩)] w (EcP p w) := by
  have hC := encode_any w h.low h.dat
  obtain ⟨v1, e, hSl⟩ := h.dat
  obtain ⟨ao, cp, rfl, -⟩ := hSl
  have hcs : cs = #[.int .i64 p.main, .slice ao p.cls.length cp] := Array.toList_inj.1 e
  subst hcs
  have HX : Hid (w.heap[pb]? = some (.cells #[.int .i64 p.main, .slice ao p.cls.length cp] 24 (0, 0))) := h.box
  clear h e
  unfold EcP at hC
  rcases hq : encP p with c | b
  · rw [hq] at hC
    have HE : Hid (encP p = .error c) := hq
    clear hq
    go_enter Tryz.func30, Tryz.ntmps30
    go_wp2_with (first
      | (refine wpList_load_row rfl 24 _ rfl pb rfl 24 _ (0, 0) _ HX.out Tryz.underlying24 rfl infoRPg ?_)
      | (go_at_call 31; refine hC.mono ?_; rintro e w2 ⟨hb, rfl⟩))
    exact ⟨rfl, EcP.err HE.out hb⟩
  · rw [hq] at hC
    have HE : Hid (encP p = .ok b) := hq
    clear hq
    go_enter Tryz.func30, Tryz.ntmps30
    go_wp2_with (first
      | (refine wpList_load_row rfl 24 _ rfl pb rfl 24 _ (0, 0) _ HX.out Tryz.underlying24 rfl infoRPg ?_)
      | (go_at_call 31; refine hC.mono ?_; rintro e w2 ⟨hb, rfl⟩))
    go_ret
    unfold EcP
    rw [HE.out]
    exact ⟨hb, rfl⟩

/-- What Caught answers. -/
def CsP (p : Pg) (w : World) (e : Ending) (w' : World) : Prop := Below w.heap.size w w' ∧ match encP p with
  | .ok b => e = .returned (.tuple #[.string b, .int .i64 0, .int .i64 0])
  | .error c => e = .returned (.tuple #[.string ⟨#[]⟩, .int .i64 0, .int .i64 c])
set_option maxHeartbeats 1000000 in
set_option maxRecDepth 20000 in
theorem caughtS_any {p : Pg} {S : Nat → Prop} {cs : Array Value} {pb : Nat} {w : World} (h : Bp w pb S p cs) :
    Calls Tryz.prog 29 #[.func (.func 30) #[] #[.pointer (some ⟨pb, 0, none⟩)]] w (CsP p w) := by
  have hmf : ∀ (fn : Fn) (first cap : Array Value) (w : World), (Instr.makeFunc fn first cap).run Tryz.prog w = .ok (.func fn first cap) w := fun _ _ _ _ => rfl
  have hb0 : Below w.heap.size w ((w.alloc (.cells #[.int .i64 0] 3)).alloc (.cells #[.int .i64 0] 25)) := ((Below.refl _ _).alloc (Nat.le_refl _) _).alloc (by simp) _
  have hz1 : (w.alloc (.cells #[.int .i64 0] 3)).heap.size = w.heap.size + 1 := by simp
  have hz : ((w.alloc (.cells #[.int .i64 0] 3)).alloc (.cells #[.int .i64 0] 25)).heap.size = w.heap.size + 2 := by simp
  have x1 : ((w.alloc (.cells #[.int .i64 0] 3)).alloc (.cells #[.int .i64 0] 25)).heap[w.heap.size]? = some (.cells #[.int .i64 0] 3 (0, 0)) := by rw [Below.heap_alloc _ _ _ (by omega)]; exact heap_alloc_new w _
  have x2 : ((w.alloc (.cells #[.int .i64 0] 3)).alloc (.cells #[.int .i64 0] 25)).heap[w.heap.size + 1]? = some (.cells #[.int .i64 0] 25 (0, 0)) := by
    have := heap_alloc_new (w.alloc (.cells #[.int .i64 0] 3)) (.cells #[.int .i64 0] 25)
    rw [hz1] at this; exact this
  have hC := enc1_any (h.below hb0)
  have HB : Hid (∀ w2, Below ((w.alloc (.cells #[.int .i64 0] 3)).alloc (.cells #[.int .i64 0] 25)).heap.size ((w.alloc (.cells #[.int .i64 0] 3)).alloc (.cells #[.int .i64 0] 25)) w2 → Below w.heap.size w w2 ∧ w2.heap[w.heap.size]? = some (.cells #[.int .i64 0] 3 (0, 0)) ∧ w2.heap[w.heap.size + 1]? = some (.cells #[.int .i64 0] 25 (0, 0)) ∧ w.heap.size + 2 ≤ w2.heap.size) := fun w2 h2 =>
    ⟨hb0.trans (h2.mono (by omega)), by rw [h2.block _ (by omega)]; exact x1, by rw [h2.block _ (by omega)]; exact x2, by have := h2.size; omega⟩
  unfold EcP at hC
  clear h hb0 hz hz1 x1 x2
  rcases hq : encP p with c | b
  · rw [hq] at hC
    have HE : Hid (encP p = .error c) := hq
    clear hq
    go_enter_defers Tryz.func29, Tryz.ntmps29
    go_wp2_with (go_at_call 30; refine hC.mono ?_; rintro e w2 ⟨hb2, rfl⟩)
    refine leaves_cons (f := 44) (args := #[.pointer (some ⟨w.heap.size, 0, none⟩), .pointer (some ⟨w.heap.size + 1, 0, none⟩)]) (by simp) (by simp [go_sem]) ?_
    obtain ⟨q1, q2, q3, q4⟩ := HB.out w2 hb2
    refine (catchS_panicking w.heap.size (w.heap.size + 1) 0 c w2 (by omega) q2 q3).mono ?_
    rintro e u' w3 ⟨rfl, rfl, hw3⟩
    have c1 : w3.cell? ⟨w.heap.size, 0, none⟩ = some (.int .i64 0) := by simp [World.cell?, hw3.at_]
    have c2 : w3.cell? ⟨w.heap.size + 1, 0, none⟩ = some (.int .i64 c) := by simp [World.cell?, hw3.code]
    simp [Leaves, settle, results, Tryz.results29, Result.andThen, asAddr, go_sem, c1, c2]
    unfold CsP
    rw [HE.out]
    exact ⟨q1.trans ⟨hw3.os, hw3.tape, hw3.output, hw3.size, fun k hk => hw3.block k (by have := q1.size; omega) (by omega) (by omega)⟩, rfl⟩
  · rw [hq] at hC
    have HE : Hid (encP p = .ok b) := hq
    clear hq
    go_enter_defers Tryz.func29, Tryz.ntmps29
    go_wp2_with (go_at_call 30; refine hC.mono ?_; rintro e w2 ⟨hb2, rfl⟩; obtain ⟨q1, q2, q3, q4⟩ := HB.out w2 hb2; have z0 : w2.cell? ⟨w.heap.size, 0, none⟩ = some (.int .i64 0) := (by simp [World.cell?, q2]); have z1 : w2.cell? ⟨w.heap.size + 1, 0, none⟩ = some (.int .i64 0) := (by simp [World.cell?, q3]); have y0 : w2.frozen? ⟨w.heap.size, 0, none⟩ = false := (by simp [World.frozen?, q2]); have y1 : w2.frozen? ⟨w.heap.size + 1, 0, none⟩ = false := (by simp [World.frozen?, q3]); have HQ : Hid (Below w.heap.size w w2 ∧ w2.heap[w.heap.size]? = some (.cells #[.int .i64 0] 3 (0, 0)) ∧ w2.heap[w.heap.size + 1]? = some (.cells #[.int .i64 0] 25 (0, 0)) ∧ w.heap.size + 2 ≤ w2.heap.size) := ⟨q1, q2, q3, q4⟩; clear hC hb2 HB q1 q2 q3)
    refine leaves_cons (f := 44) (args := #[.pointer (some ⟨w.heap.size, 0, none⟩), .pointer (some ⟨w.heap.size + 1, 0, none⟩)]) (by simp) (by simp [go_sem]) ?_
    refine (catchS_idle w.heap.size (w.heap.size + 1) _).mono ?_
    rintro e u' w3 ⟨rfl, rfl, hw3⟩
    obtain ⟨q1, q2, q3, -⟩ := HQ.out
    have s1 : ((w2.setCell ⟨w.heap.size, 0, none⟩ (.int .i64 0)).setCell ⟨w.heap.size + 1, 0, none⟩ (.int .i64 0)).heap.size = w2.heap.size := by simp [World.setCell]
    have d1 : w3.heap[w.heap.size]? = some (.cells #[.int .i64 0] 3 (0, 0)) := by
      rw [hw3, Below.heap_alloc _ _ _ (by omega), Below.heap_setCell _ _ _ _ (show w.heap.size ≠ w.heap.size + 1 by omega)]; exact hset q2 _
    have d2 : w3.heap[w.heap.size + 1]? = some (.cells #[.int .i64 0] 25 (0, 0)) := by
      rw [hw3, Below.heap_alloc _ _ _ (by omega)]
      exact hset ((Below.heap_setCell _ _ _ _ (show w.heap.size + 1 ≠ w.heap.size by omega)).trans q3) _
    have c1 : w3.cell? ⟨w.heap.size, 0, none⟩ = some (.int .i64 0) := by simp [World.cell?, d1]
    have c2 : w3.cell? ⟨w.heap.size + 1, 0, none⟩ = some (.int .i64 0) := by simp [World.cell?, d2]
    simp [Leaves, settle, results, Tryz.results29, Result.andThen, asAddr, go_sem, c1, c2]
    unfold CsP
    rw [HE.out]
    refine ⟨⟨by rw [hw3]; exact q1.os, by rw [hw3]; exact q1.tape, by rw [hw3]; exact q1.output, by rw [hw3]; simp [World.setCell]; omega, fun k hk => ?_⟩, rfl⟩
    rw [hw3, Below.heap_alloc _ _ _ (by omega), Below.heap_setCell _ _ _ _ (show k ≠ w.heap.size + 1 by omega), Below.heap_setCell _ _ _ _ (show k ≠ w.heap.size by omega)]
    exact q1.block k hk

/-- What Encode answers. -/
def EnP (p : Pg) (w : World) (e : Ending) (w' : World) : Prop := Below w.heap.size w w' ∧ match encP p with
  | .ok b => e = .returned (.tuple #[.string b, .int .i64 0])
  | .error c => e = .returned (.tuple #[.string ⟨#[]⟩, .int .i64 c])
set_option maxHeartbeats 1000000 in
set_option maxRecDepth 20000 in
theorem Encode_any {p : Pg} {S : Nat → Prop} {cs : List Value} (w : World) (hS : ∀ k, S k → k < w.heap.size) (hR : kPg.R w S p cs) : Calls Tryz.prog 12 #[.agg cs.toArray] w (EnP p w) := by
  have hmf : ∀ (fn : Fn) (first cap : Array Value) (w : World), (Instr.makeFunc fn first cap).run Tryz.prog w = .ok (.func fn first cap) w := fun _ _ _ _ => rfl
  have hD := hR
  obtain ⟨v1, rfl, hSl⟩ := hR
  obtain ⟨ao, cp, rfl, -⟩ := hSl
  have hb0 : Below w.heap.size w (w.alloc (.cells #[.int .i64 p.main, .slice ao p.cls.length cp] 24)) := (Below.refl _ _).alloc (Nat.le_refl _) _
  have hz : (w.alloc (.cells #[.int .i64 p.main, .slice ao p.cls.length cp] 24)).heap.size = w.heap.size + 1 := by simp
  have hC := caughtS_any (w := w.alloc (.cells #[.int .i64 p.main, .slice ao p.cls.length cp] 24)) (pb := w.heap.size) (S := S) (p := p) (cs := #[.int .i64 p.main, .slice ao p.cls.length cp]) ⟨heap_alloc_new w _, kPg.keep (fun k hk => Below.heap_alloc _ _ _ (hS k hk)) hD, fun k hk => by have := hS k hk; omega⟩
  have HB : Hid (∀ w2, Below (w.alloc (.cells #[.int .i64 p.main, .slice ao p.cls.length cp] 24)).heap.size (w.alloc (.cells #[.int .i64 p.main, .slice ao p.cls.length cp] 24)) w2 → Below w.heap.size w w2) := fun w2 h2 => hb0.trans (h2.mono (by omega))
  unfold CsP at hC
  clear hD hb0 hz
  rcases hq : encP p with c | b
  · rw [hq] at hC
    have HE : Hid (encP p = .error c) := hq
    clear hq
    go_enter Tryz.func12, Tryz.ntmps12
    go_wp2_with (go_at_call 29; refine hC.mono ?_; rintro e w2 ⟨hb2, rfl⟩; have H2 : Hid (Below w.heap.size w w2) := HB.out w2 hb2; clear hC hb2 HB)
    go_ret2
    unfold EnP
    rw [HE.out]
    exact ⟨H2.out, rfl⟩
  · rw [hq] at hC
    have HE : Hid (encP p = .ok b) := hq
    clear hq
    go_enter Tryz.func12, Tryz.ntmps12
    go_wp2_with (go_at_call 29; refine hC.mono ?_; rintro e w2 ⟨hb2, rfl⟩; have H2 : Hid (Below w.heap.size w w2) := HB.out w2 hb2; clear hC hb2 HB)
    go_ret2
    unfold EnP
    rw [HE.out]
    exact ⟨H2.out, rfl⟩
end Go.Proofs.YtajghalljkphiaaGreat
