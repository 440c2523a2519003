/- A set of threads' numbers, a map as it lies in memory: has, add, setOf, clear. -/
import Derived.Test.YthkelaeemefnaaaGreatMKFrame
import Derived.Deep.LoopGhost
import Derived.Deep.QuietTactic
import Derived.Deep.DeepCutAuto
namespace Go.Proofs.YthkelaeemefnaaaGreat
open Go.RowKit
theorem kkey : Maps.Keyed Tryz.prog 3 := Maps.int_keyed Tryz.underlying3
theorem klit {t N : Nat} (h : t < N) (hN : N ≤ 4096) : (Lit.int .i64 (t : Int)).wf = true := WalkArith.wf_i64 (by omega)
theorem owns_tight {w : World} {m n : Nat} {D : DataW Unit} (h : w.ownsMap Tryz.prog 3 unitElem m n D) : w.ownsMap Tryz.prog 3 unitElem m (Maps.size D) D := by
  obtain ⟨es, clock, hb, F, _, rfl⟩ := h
  refine ⟨es, clock, hb, F, ?_, rfl⟩
  simp [Maps.size, length_sorted]
theorem owns_clear {w : World} {m n : Nat} {D : DataW Unit} (h : w.ownsMap Tryz.prog 3 unitElem m n D) (t e : TypeId) (ht : Tryz.prog.underlying t = some (.map 3 e)) (ty : TypeId) :
    ∃ w', (Builtin.clear_ #[t] ty #[.map (some m)]).run Tryz.prog w = .ok (.tuple #[]) w' ∧ w'.ownsMap Tryz.prog 3 unitElem m 0 (.map [] : DataW Unit) ∧ w.mapTurned w' m := by
  obtain ⟨es, clock, hb, F, _, rfl⟩ := h
  refine ⟨ChangeMaps.setBlock w m (.map #[] clock), ?_, ⟨#[], clock, ChangeMaps.heap_setBlock_same hb _, ⟨by simp [maxLen], ⟨by simp, by simp, by simp⟩, by simp⟩, Nat.le_refl _, rfl⟩, ⟨es, clock, #[], clock, hb, rfl⟩⟩
  simp [Builtin.clear_, run_underlying ht, MapKept.run_getObj_map hb, MapKept.run_setObj_map _ hb, Result.andThen, ChangeMaps.setBlock]
/-- Block m is a set: of the numbers below N it has those of A. -/
def Tset (w : World) (m N : Nat) (A : Nat → Bool) : Prop :=
  ∃ D : DataW Unit, w.ownsMap Tryz.prog 3 unitElem m N D ∧ (∀ t : Nat, t < N → Maps.has D (.int .i64 (t : Int)) = A t) ∧ Maps.size D = cntB N A
section
variable {w w' : World} {m N : Nat} {A : Nat → Bool}
theorem Tset.of_block (h : Tset w m N A) (e : w'.heap[m]? = w.heap[m]?) : Tset w' m N A := by
  obtain ⟨D, ⟨es, clock, hb, r⟩, h2⟩ := h
  exact ⟨D, ⟨es, clock, e.trans hb, r⟩, h2⟩
theorem Tset.lt (h : Tset w m N A) : m < w.heap.size := let ⟨_, h1, _⟩ := h; h1.lt
theorem Tset.below (h : Tset w m N A) (hb : Below w.heap.size w w') : Tset w' m N A := h.of_block (hb.block m h.lt)
theorem Tset.is_map (h : Tset w m N A) : ∃ es clock, w.heap[m]? = some (.map es clock) := let ⟨_, ⟨es, clock, hb, _⟩, _⟩ := h; ⟨es, clock, hb⟩
theorem Tset.congr {C : Nat → Bool} (h : Tset w m N A) (e : ∀ i, i < N → A i = C i) : Tset w m N C := by
  obtain ⟨D, h1, h2, h3⟩ := h
  exact ⟨D, h1, fun t ht => (h2 t ht).trans (e t ht), h3.trans (cntB_congr N e)⟩
theorem Tset.none (h : w.ownsMap Tryz.prog 3 unitElem m 0 (.map [] : DataW Unit)) : Tset w m N (fun _ => false) :=
  ⟨_, h.mono (Nat.zero_le _), fun _ _ => rfl, by rw [cntB_none]; rfl⟩
theorem Tset.made (w : World) (N : Nat) : Tset (w.alloc (.map #[] 0)) w.heap.size N (fun _ => false) := Tset.none (World.ownsMap_made w Tryz.prog 3 unitElem)
theorem kadd_ok (h : Tset w m N A) (t : Nat) (ht : t < N) (hN : N ≤ 4096) :
    Calls Tryz.prog 108 #[.map (some m), .int .i64 t] w fun e w' => e = .returned (.tuple #[]) ∧ Tset w' m N (setB A t true) ∧ w.mapTurned w' m := by
  obtain ⟨D, h1, h2, h3⟩ := h
  have hl := klit ht hN
  obtain ⟨w1, hrun, ho, hturn⟩ := h1.store kkey Tryz.underlying111 (show N < maxLen by unfold maxLen; omega) (Maps.keyOf_int_mk Tryz.underlying3 hl) (unitElem_mk (H := Unit))
  have HT : Hid (Tset w1 m N (setB A t true) ∧ w.mapTurned w1 m) := by
    refine ⟨?_, hturn⟩
    have hk : WideAt.IsKeyLit (.int .i64 (t : Int)) := trivial
    have hsz : Maps.size (D.put (.int .i64 (t : Int)) (.agg [])) = cntB N (setB A t true) := by
      rw [Maps.size_put (h1.tidy kkey), h2 t ht, h3]
      cases hA : A t with
      | true => rw [setB_same hA]; rfl
      | false => rw [cntB_add N ht hA]; rfl
    refine ⟨_, ((owns_tight ho).mono ?_), fun i hi => ?_, hsz⟩
    · rw [hsz]; exact cntB_le _ _
    · by_cases e : i = t
      · subst e
        rw [Maps.has_put_same h1.isMap hk, setB_at]
      · rw [Maps.has_put_other (by intro q; injection q with _ q; omega), h2 i hi, setB_else e]
  clear h1 h2 h3 ho hturn hl
  go_enter Tryz.func108, Tryz.ntmps108
  go_wp2
  go_end0
  exact ⟨rfl, HT.out⟩
theorem khas_ok (h : Tset w m N A) (t : Nat) (ht : t < N) (hN : N ≤ 4096) :
    Calls Tryz.prog 126 #[.map (some m), .int .i64 t] w fun e w' => e = .returned (.bool (A t)) ∧ Below w.heap.size w w' := by
  obtain ⟨D, h1, h2, h3⟩ := h
  have hz : (zeroValue 172).run Tryz.prog w = .ok (.agg #[]) w := by kernel_rfl
  have hl : (Instr.lookup 111 (.map (some m)) (.int .i64 t) true).run Tryz.prog w = .ok (.tuple #[.agg #[], .bool (A t)]) w := by
    obtain ⟨v, ps, hrun, hv⟩ := h1.look_ok kkey Tryz.underlying111 hz unitElem_mk (Maps.keyOf_int_mk Tryz.underlying3 (klit ht hN))
    obtain ⟨rfl, _⟩ := unitElem_inv hv
    rw [h2 t ht] at hrun
    exact hrun
  generalize A t = x at hl ⊢
  clear h1 h2 h3 hz ht
  have hb := (Below.refl w.heap.size w).alloc (Nat.le_refl _) (.cells #[] 172)
  go_enter Tryz.func126, Tryz.ntmps126
  go_wp2
  go_ret
  exact ⟨rfl, hb⟩
end
end Go.Proofs.YthkelaeemefnaaaGreat
/- Handshakes as they lie in memory: New, Ask, See, Answer, Done, Rounds: a contract a case. -/
namespace Go.Proofs.YthkelaeemefnaaaGreat
open Go.RowKit
theorem kinfo3 : (Tryz.prog.info? 3).map (fun i => (i.zero, i.size, i.bytes)) = some (some (.int .i64 0), 1, 8) := by kernel_rfl
/-- upTo. -/
theorem upTo_ok (n : Nat) (hn : n ≤ 4096) (w : World) :
    Calls Tryz.prog 88 #[.int .i64 n] w fun e w' => ∃ b, e = .returned (.slice (some ⟨b, 0, none⟩) n n) ∧ w'.rowIs b 3 n (fun i => .int .i64 i) ∧ Below w.heap.size w w' := by
  have hmk := run_make_row' (P := Tryz.prog) 32 3 (.int .i64 0) 8 Tryz.underlying32 kinfo3 rfl .i64 .i64 n (by omega) (by omega)
  have HB : Hid (Below w.heap.size w (w.alloc (.cells (madeCells #[.int .i64 0] n) 3))) := (Below.refl w.heap.size w).alloc (Nat.le_refl _) _
  have HR : Hid ((w.alloc (.cells (madeCells #[.int .i64 0] n) 3)).rowIs w.heap.size 3 n (fun _ => .int .i64 0)) := World.rowIs_made w (.int .i64 0) n 3
  go_enter Tryz.func88, Tryz.ntmps88
  go_wp2
  clear hmk
  go_loopg [9] n (fun r i wr => ∃ k : Nat, r = n - k ∧ k ≤ n ∧ i = .int .i64 k ∧ Hid (wr.rowIs w.heap.size 3 n (fun j => if j < k then .int .i64 j else .int .i64 0)) ∧ Hid (Below w.heap.size w wr))
  case atStart => exact ⟨0, rfl, by omega, rfl, HR.out.congr (fun i _ => rfl), HB⟩
  case round =>
    obtain ⟨k, rfl, hk, rfl, hr, hb⟩ := hrel
    by_cases hlt : k < n
    · have c0 := hr.out.cell hlt
      have f0 := hr.out.frozen k
      go_wp2
      go_roundg (n - (k + 1))
      case rel =>
        refine ⟨k + 1, rfl, by omega, by go_num, (hr.out.set k _).congr (fun i _ => ?_), hb.out.setCell (Nat.le_refl _) _⟩
        by_cases e : i = k
        · subst e; simp
        · have : (i < k + 1) = (i < k) := by simp; omega
          simp [e, this]
      case measure => omega
    · obtain rfl : k = n := by omega
      have hlt' : ¬ (k : Int) < (k : Int) := by omega
      go_wp2
      go_ret
      exact ⟨_, rfl, hr.out.congr (fun i hi => by simp [hi]), hb.out⟩
/-- setOf of all. -/
theorem setOf_ok (n b : Nat) (hn : n ≤ 4096) {w : World} (hr : w.rowIs b 3 n (fun i => .int .i64 i)) :
    Calls Tryz.prog 87 #[.slice (some ⟨b, 0, none⟩) n n] w fun e w' => ∃ m, e = .returned (.map (some m)) ∧ Tset w' m n (fun _ => true) ∧ Below w.heap.size w w' ∧ w.heap.size ≤ m := by
  have hmm : ∀ u : World, (Instr.makeMap 111 (some (.int .i64 n))).run Tryz.prog u = .ok (.map (some u.heap.size)) (u.alloc (.map #[] 0)) := by
    intro u
    simp [Instr.makeMap, run_underlying Tryz.underlying111, asInt, asIntOf, Result.andThen]
  have HB : Hid (Below w.heap.size w (w.alloc (.map #[] 0))) := (Below.refl w.heap.size w).alloc (Nat.le_refl _) _
  have HT : Hid (Tset (w.alloc (.map #[] 0)) w.heap.size n (fun _ => false)) := Tset.made w n
  have HR : Hid (w.rowIs b 3 n (fun i => .int .i64 i)) := hr
  clear hr
  go_enter Tryz.func87, Tryz.ntmps87
  go_wp2
  clear hmm
  go_loopg [11] n (fun r i wr => ∃ k : Nat, r = n - k ∧ k ≤ n ∧ i = .int .i64 k ∧ Hid (Tset wr w.heap.size n (fun j => decide (j < k))) ∧ Hid (Below w.heap.size w wr))
  case atStart => exact ⟨0, rfl, by omega, rfl, HT.out.congr (fun i _ => by simp), HB⟩
  case round =>
    obtain ⟨k, rfl, hk, rfl, ht, hb⟩ := hrel
    by_cases hlt : k < n
    · have c0 := (HR.out.of_block (hb.out.block b HR.out.lt)).cell hlt
      have ha := kadd_ok ht.out k hlt hn
      go_wp2_with (go_at_call 108; refine ha.mono ?_; rintro e w2 ⟨rfl, ht2, hu2⟩)
      go_roundg (n - (k + 1))
      case rel =>
        refine ⟨k + 1, rfl, by omega, by go_num, ht2.congr (fun i _ => ?_), Bt.under hb.out hb.out.size (fun j hj => Nat.le_of_eq hj.symm) (Bt.turned (P := fun j => j = w.heap.size) hu2 rfl)⟩
        unfold setB
        split
        · rename_i e; simp [e]
        · rename_i e
          have : (i < k + 1) = (i < k) := by simp; omega
          simp [this]
      case measure => omega
    · obtain rfl : k = n := by omega
      have hlt' : ¬ (k : Int) < (k : Int) := by omega
      go_wp2
      go_ret
      exact ⟨_, rfl, ht.out.congr (fun i hi => by simp [hi]), hb.out, Nat.le_refl _⟩
/-- The struct in block s, the set of those who have answered in block m. -/
structure Sk (w : World) (s m N : Nat) (A : Nat → Bool) (x r : Int) : Prop where
  here : w.heap[s]? = some (.cells #[.int .i64 N, .map (some m), .int .i64 x, .int .i64 r] 115 (0, 0))
  set : Tset w m N A
  few : N ≤ 8
section
variable {w w' : World} {s m N : Nat} {A : Nat → Bool} {x r : Int}
theorem Sk.ne (h : Sk w s m N A x r) : s ≠ m := by
  rintro rfl
  obtain ⟨es, clock, hb⟩ := h.set.is_map
  rw [h.here] at hb; simp at hb
theorem Sk.lt (h : Sk w s m N A x r) : s < w.heap.size := (Array.getElem?_eq_some_iff.1 h.here).1
theorem Sk.below (h : Sk w s m N A x r) (hb : Below w.heap.size w w') : Sk w' s m N A x r := ⟨(hb.block s h.lt).trans h.here, h.set.below hb, h.few⟩
theorem Sk.c0 (h : Sk w s m N A x r) : w.cell? ⟨s, 0, none⟩ = some (.int .i64 N) := by simp [World.cell?, h.here]
theorem Sk.c1 (h : Sk w s m N A x r) : w.cell? ⟨s, 1, none⟩ = some (.map (some m)) := by simp [World.cell?, h.here]
theorem Sk.c2 (h : Sk w s m N A x r) : w.cell? ⟨s, 2, none⟩ = some (.int .i64 x) := by simp [World.cell?, h.here]
theorem Sk.c3 (h : Sk w s m N A x r) : w.cell? ⟨s, 3, none⟩ = some (.int .i64 r) := by simp [World.cell?, h.here]
theorem Sk.congr {C : Nat → Bool} (h : Sk w s m N A x r) (e : ∀ i, i < N → A i = C i) : Sk w s m N C x r := ⟨h.here, h.set.congr e, h.few⟩
/-- The struct's blocks. -/
def Sb (s m : Nat) : Nat → Prop := fun k => k = s ∨ k = m
theorem new_no (n : Int) (w : World) (hn : ¬ (1 ≤ n ∧ n ≤ 8)) :
    Calls Tryz.prog 52 #[.int .i64 n] w fun e w' => e = .returned (.tuple #[.pointer none, .int .i64 1000]) ∧ w' = w := by
  by_cases h1 : n < 1
  · clear hn
    go_enter Tryz.func52, Tryz.ntmps52
    go_wp2
    go_ret2
    exact ⟨rfl, rfl⟩
  · have h2 : 8 < n := by omega
    have h3 : decide (n < 1) = false := by simp; omega
    clear hn h1
    go_enter Tryz.func52, Tryz.ntmps52
    go_wp2
    go_ret2
    exact ⟨rfl, rfl⟩
theorem knew_ok (N : Nat) (w : World) (h1 : 1 ≤ N) (h8 : N ≤ 8) :
    Calls Tryz.prog 52 #[.int .i64 N] w fun e w' => ∃ s m, e = .returned (.tuple #[.pointer (some ⟨s, 0, none⟩), .int .i64 0]) ∧ Sk w' s m N (fun _ => true) 0 0 ∧ Below w.heap.size w w' ∧ w.heap.size ≤ s ∧ w.heap.size ≤ m := by
  have d1 : decide ((N : Int) < 1) = false := by simp; omega
  have d2 : decide ((8 : Int) < (N : Int)) = false := by simp; omega
  have HN : Hid (N ≤ 8) := h8
  go_enter Tryz.func52, Tryz.ntmps52
  go_wp2_with (first
    | (go_at_call 88; refine (upTo_ok N (by omega) _).mono ?_; rintro e w1 ⟨b, rfl, hr1, hb1⟩)
    | (go_at_call 87; refine (setOf_ok N b (by omega) hr1).mono ?_; rintro e w2 ⟨m, rfl, ht2, hb2, hm2⟩))
  go_ret2
  have hb12 := hb1.trans (hb2.mono hb1.size)
  have hb3 := hb12.alloc hb12.size (.cells #[.int .i64 N, .map (some m), .int .i64 0, .int .i64 0] 115)
  refine ⟨_, m, rfl, ⟨heap_alloc_new w2 _, ht2.of_block (Below.heap_alloc _ _ _ ht2.lt), HN.out⟩, hb3, hb12.size, Nat.le_trans hb1.size hm2⟩
theorem hasThread_yes (h : Sk w s m N A x r) (t : Nat) (ht : t < N) :
    Calls Tryz.prog 125 #[.pointer (some ⟨s, 0, none⟩), .int .i64 t] w fun e w' => e = .returned (.bool true) ∧ w' = w := by
  have c0 := h.c0
  have d1 : (0 : Int) ≤ (t : Int) := by omega
  have d2 : (t : Int) < (N : Int) := by omega
  clear h
  go_enter Tryz.func125, Tryz.ntmps125
  go_wp2
  go_ret
  exact ⟨rfl, rfl⟩
theorem hasThread_no (h : Sk w s m N A x r) (t : Int) (ht : ¬ (0 ≤ t ∧ t < N)) :
    Calls Tryz.prog 125 #[.pointer (some ⟨s, 0, none⟩), .int .i64 t] w fun e w' => e = .returned (.bool false) ∧ w' = w := by
  have c0 := h.c0
  clear h
  by_cases d1 : 0 ≤ t
  · have d2 : decide (t < (N : Int)) = false := by simp; omega
    clear ht
    go_enter Tryz.func125, Tryz.ntmps125
    go_wp2
    go_ret
    exact ⟨rfl, rfl⟩
  · have d2 : decide (0 ≤ t) = false := by simp; omega
    clear ht d1
    go_enter Tryz.func125, Tryz.ntmps125
    go_wp2
    go_ret
    exact ⟨rfl, rfl⟩
theorem done_ok (h : Sk w s m N A x r) : Calls Tryz.prog 123 #[.pointer (some ⟨s, 0, none⟩)] w fun e w' => e = .returned (.bool (allB N A)) ∧ ∃ q, w' = w.drewN q := by
  have c0 := h.c0
  have c1 := h.c1
  obtain ⟨D, h1, _, h3⟩ := h.set
  have hl := fun q => World.ownsMap.len (w := w.drewN q) h1 Tryz.underlying111 3
  rw [h3] at hl
  have e : allB N A = (((cntB N A : Nat) : Int) == (N : Int)) := by
    unfold allB
    by_cases q : cntB N A = N
    · simp [q]
    · have : ¬ ((cntB N A : Nat) : Int) = (N : Int) := by omega
      simp [q, this]
  rw [e]
  clear h h1 h3 e
  generalize cntB N A = c at hl ⊢
  go_enter Tryz.func123, Tryz.ntmps123
  go_wp2
  go_quiet (fail)
  go_wp2
  go_ret
  exact ⟨rfl, nq, rfl⟩
theorem Sk.drewN (h : Sk w s m N A x r) (q : Nat) : Sk (w.drewN q) s m N A x r := h.below (below_drewN _ _ _)
/-- Ask. -/
theorem ask_no (h : Sk w s m N A x r) (v : Int) (hA : allB N A = false) :
    Calls Tryz.prog 99 #[.pointer (some ⟨s, 0, none⟩), .int .i64 v] w fun e w' => e = .returned (.int .i64 1001) ∧ Sk w' s m N A x r ∧ Bt (Sb s m) w w' := by
  have hd := done_ok h
  rw [hA] at hd
  have HS : Hid (Sk w s m N A x r) := h
  clear h hA
  go_enter Tryz.func99, Tryz.ntmps99
  go_wp2_with (go_at_call 123; refine hd.mono ?_; rintro e w1 ⟨rfl, q, rfl⟩)
  go_ret
  exact ⟨rfl, HS.out.drewN q, Bt.of_below (below_drewN _ _ _)⟩
theorem Sk.turn (h : Sk w s m N A x r) {C : Nat → Bool} (ht : Tset w' m N C) (hu : w.mapTurned w' m) : Sk w' s m N C x r :=
  ⟨(hu.grown.block s h.lt (fun q => h.ne (by cases q; rfl))).trans h.here, ht, h.few⟩
theorem khere_set {u : World} {b k : Nat} {c : Array Value} {ty : TypeId} {v : Value} (h : u.heap[b]? = some (.cells c ty (0, 0))) : (u.setCell ⟨b, k, none⟩ v).heap[b]? = some (.cells (c.setIfInBounds k v) ty (0, 0)) := by
  simp [World.setCell, Array.getElem?_modify, h]
theorem Sk.put2 (h : Sk w s m N A x r) (v : Int) : Sk (w.setCell ⟨s, 2, none⟩ (.int .i64 v)) s m N A v r :=
  ⟨by rw [khere_set h.here]; rfl, h.set.of_block (Below.heap_setCell _ _ _ _ (fun q => h.ne q.symm)), h.few⟩
theorem Sk.put3 (h : Sk w s m N A x r) (v : Int) : Sk (w.setCell ⟨s, 3, none⟩ (.int .i64 v)) s m N A x v :=
  ⟨by rw [khere_set h.here]; rfl, h.set.of_block (Below.heap_setCell _ _ _ _ (fun q => h.ne q.symm)), h.few⟩
theorem ask_ok (h : Sk w s m N A x r) (v : Int) (hA : allB N A = true) :
    Calls Tryz.prog 99 #[.pointer (some ⟨s, 0, none⟩), .int .i64 v] w fun e w' => e = .returned (.int .i64 0) ∧ Sk w' s m N (fun _ => false) v (wrap64 (r + 1)) ∧ Bt (Sb s m) w w' := by
  have hd := done_ok h
  rw [hA] at hd
  have HS : Hid (Sk w s m N A x r) := h
  clear h hA
  go_enter Tryz.func99, Tryz.ntmps99
  go_upto_region 5 with (go_at_call 123; refine hd.mono ?_; rintro e w1 ⟨rfl, q, rfl⟩)
  obtain ⟨D, h1, _⟩ := (HS.out.drewN q).set
  have c1 := (HS.out.drewN q).c1
  obtain ⟨w2, hrun, ho, hu⟩ := owns_clear h1 111 172 Tryz.underlying111 0
  have hs2 := (HS.out.drewN q).turn (C := fun _ => false) (Tset.none ho) hu
  have HU : Hid (Bt (Sb s m) w w2) := (Bt.of_below (below_drewN w q _)).trans (Bt.turned hu (.inr rfl))
  have d2 := hs2.c2
  have d3 := hs2.c3
  have hs3 := hs2.put2 v
  have e3 := hs3.c3
  have HS4 : Hid (Sk ((w2.setCell ⟨s, 2, none⟩ (.int .i64 v)).setCell ⟨s, 3, none⟩ (.int .i64 (wrap64 (r + 1)))) s m N (fun _ => false) v (wrap64 (r + 1))) := hs3.put3 _
  have z2 : w2.frozen? ⟨s, 2, none⟩ = false := by simp [World.frozen?, hs2.here]
  have z3 : (w2.setCell ⟨s, 2, none⟩ (.int .i64 v)).frozen? ⟨s, 3, none⟩ = false := by simp [World.frozen?, hs3.here]
  clear h1 ho hu hs2 hs3 hd
  go_wp2
  go_ret
  exact ⟨rfl, HS4.out, (HU.out.set s 2 _ (.inl (.inl rfl))).set s 3 _ (.inl (.inl rfl))⟩
/-- See. -/
theorem see_no (h : Sk w s m N A x r) (t : Int) (ht : ¬ (0 ≤ t ∧ t < N)) :
    Calls Tryz.prog 101 #[.pointer (some ⟨s, 0, none⟩), .int .i64 t] w fun e w' => e = .returned (.tuple #[.int .i64 0, .bool false, .int .i64 1002]) ∧ w' = w := by
  have hd := hasThread_no h t ht
  clear h ht
  go_enter Tryz.func101, Tryz.ntmps101
  go_wp2_with (go_at_call 125; refine hd.mono ?_; rintro e w1 ⟨rfl, hw1⟩; replace hw1 := hw1.symm; subst hw1)
  refine bodyPost_ret (results_tmp3 rfl _ _ _) rfl ⟨rfl, rfl⟩
theorem see_old (h : Sk w s m N A x r) (t : Nat) (ht : t < N) (hA : A t = true) :
    Calls Tryz.prog 101 #[.pointer (some ⟨s, 0, none⟩), .int .i64 t] w fun e w' => e = .returned (.tuple #[.int .i64 0, .bool false, .int .i64 0]) ∧ Sk w' s m N A x r ∧ Bt (Sb s m) w w' := by
  have hd := hasThread_yes h t ht
  have c1 := h.c1
  have hh := khas_ok h.set t ht (by have := h.few; omega)
  rw [hA] at hh
  have HS : Hid (Sk w s m N A x r) := h
  clear h hA
  go_enter Tryz.func101, Tryz.ntmps101
  go_wp2_with (first | (go_at_call 125; refine hd.mono ?_; rintro e w1 ⟨rfl, hw1⟩; replace hw1 := hw1.symm; subst hw1) | (go_at_call 126; refine hh.mono ?_; rintro e w2 ⟨rfl, hb2⟩))
  refine bodyPost_ret (results_tmp3 rfl _ _ _) rfl ⟨rfl, HS.out.below hb2, Bt.of_below hb2⟩
theorem see_ok (h : Sk w s m N A x r) (t : Nat) (ht : t < N) (hA : A t = false) :
    Calls Tryz.prog 101 #[.pointer (some ⟨s, 0, none⟩), .int .i64 t] w fun e w' => e = .returned (.tuple #[.int .i64 x, .bool true, .int .i64 0]) ∧ Sk w' s m N A x r ∧ Bt (Sb s m) w w' := by
  have hd := hasThread_yes h t ht
  have c1 := h.c1
  have hh := khas_ok h.set t ht (by have := h.few; omega)
  rw [hA] at hh
  have HS : Hid (Sk w s m N A x r) := h
  clear h hA
  go_enter Tryz.func101, Tryz.ntmps101
  go_wp2_with (first | (go_at_call 125; refine hd.mono ?_; rintro e w1 ⟨rfl, hw1⟩; replace hw1 := hw1.symm; subst hw1) | (go_at_call 126; refine hh.mono ?_; rintro e w2 ⟨rfl, hb2⟩; have c2 := (HS.out.below hb2).c2))
  refine bodyPost_ret (results_tmp3 rfl _ _ _) rfl ⟨rfl, HS.out.below hb2, Bt.of_below hb2⟩
/-- Answer. -/
theorem answer_no (h : Sk w s m N A x r) (t : Int) (ht : ¬ (0 ≤ t ∧ t < N)) :
    Calls Tryz.prog 102 #[.pointer (some ⟨s, 0, none⟩), .int .i64 t] w fun e w' => e = .returned (.int .i64 1002) ∧ w' = w := by
  have hd := hasThread_no h t ht
  clear h ht
  go_enter Tryz.func102, Tryz.ntmps102
  go_wp2_with (go_at_call 125; refine hd.mono ?_; rintro e w1 ⟨rfl, hw1⟩; replace hw1 := hw1.symm; subst hw1)
  go_ret
  exact ⟨rfl, rfl⟩
theorem answer_ok (h : Sk w s m N A x r) (t : Nat) (ht : t < N) :
    Calls Tryz.prog 102 #[.pointer (some ⟨s, 0, none⟩), .int .i64 t] w fun e w' => e = .returned (.int .i64 0) ∧ Sk w' s m N (setB A t true) x r ∧ Bt (Sb s m) w w' := by
  have hd := hasThread_yes h t ht
  have c1 := h.c1
  have hh := kadd_ok h.set t ht (by have := h.few; omega)
  have HS : Hid (Sk w s m N A x r) := h
  clear h
  go_enter Tryz.func102, Tryz.ntmps102
  go_wp2_with (first | (go_at_call 125; refine hd.mono ?_; rintro e w1 ⟨rfl, hw1⟩; replace hw1 := hw1.symm; subst hw1) | (go_at_call 108; refine hh.mono ?_; rintro e w2 ⟨rfl, ht2, hu2⟩))
  go_ret
  exact ⟨rfl, HS.out.turn ht2 hu2, Bt.turned hu2 (.inr rfl)⟩
end
end Go.Proofs.YthkelaeemefnaaaGreat
