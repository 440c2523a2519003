/- Colours and their ring as they lie in memory; the ring's own calls. -/
import Derived.Test.YtcafmloinmdeeaaMMath
import Derived.Test.YtcafmloinmdeeaaKFrame
import Derived.BigRegion
import Derived.Deep.LoopGhost
import Derived.Deep.QuietTactic
import Derived.Deep.DeepCutAuto
namespace Go.Proofs.Ytcafmloinmdeeaa
open Go.RowKit
/-- The struct in block s, the colours in block bc, the ring in block bi. -/
structure Wk (w : World) (s bc bi N : Nat) (c r : Nat → Int) (fi k : Nat) : Prop where
  here : w.heap[s]? = some (.cells #[.slice (some ⟨bc, 0, none⟩) N N, .slice (some ⟨bi, 0, none⟩) N N, .int .i64 fi, .int .i64 k] 48 (0, 0))
  col : w.rowIs bc 3 N (fun i => .int .i64 (c i))
  itm : w.rowIs bi 3 N (fun i => .int .i64 (r i))
  ne : bc ≠ bi
  pos : 1 ≤ N
  few : N ≤ 4096
/-- Its blocks. -/
def Mb (s bc bi : Nat) : Nat → Prop := fun k => k = s ∨ k = bc ∨ k = bi
section
variable {w w' : World} {s bc bi N : Nat} {c c' r r' : Nat → Int} {fi k : Nat}
theorem Wk.s_c (h : Wk w s bc bi N c r fi k) : s ≠ bc := by
  rintro rfl
  obtain ⟨x, hx, _⟩ := h.col
  rw [h.here] at hx; simp at hx
theorem Wk.s_i (h : Wk w s bc bi N c r fi k) : s ≠ bi := by
  rintro rfl
  obtain ⟨x, hx, _⟩ := h.itm
  rw [h.here] at hx; simp at hx
theorem Wk.lt (h : Wk w s bc bi N c r fi k) : s < w.heap.size := (Array.getElem?_eq_some_iff.1 h.here).1
theorem Wk.of_blocks (h : Wk w s bc bi N c r fi k) (e : ∀ j, Mb s bc bi j → w'.heap[j]? = w.heap[j]?) : Wk w' s bc bi N c r fi k :=
  ⟨(e s (.inl rfl)).trans h.here, h.col.of_block (e bc (.inr (.inl rfl))), h.itm.of_block (e bi (.inr (.inr rfl))), h.ne, h.pos, h.few⟩
theorem Wk.mb_lt (h : Wk w s bc bi N c r fi k) : ∀ j, Mb s bc bi j → j < w.heap.size := by
  rintro j (rfl | rfl | rfl)
  · exact h.lt
  · exact h.col.lt
  · exact h.itm.lt
theorem Wk.below (h : Wk w s bc bi N c r fi k) (hb : Below w.heap.size w w') : Wk w' s bc bi N c r fi k := h.of_blocks fun j hj => hb.block j (h.mb_lt j hj)
theorem Wk.drewN (h : Wk w s bc bi N c r fi k) (q : Nat) : Wk (w.drewN q) s bc bi N c r fi k := h.of_blocks fun _ _ => rfl
theorem Wk.congr (h : Wk w s bc bi N c r fi k) (e : ∀ i, i < N → c i = c' i) : Wk w s bc bi N c' r fi k := ⟨h.here, h.col.congr (fun i hi => by rw [e i hi]), h.itm, h.ne, h.pos, h.few⟩
theorem Wk.c0 (h : Wk w s bc bi N c r fi k) : w.cell? ⟨s, 0, none⟩ = some (.slice (some ⟨bc, 0, none⟩) N N) := by simp [World.cell?, h.here]
theorem Wk.c1 (h : Wk w s bc bi N c r fi k) : w.cell? ⟨s, 1, none⟩ = some (.slice (some ⟨bi, 0, none⟩) N N) := by simp [World.cell?, h.here]
theorem Wk.c2 (h : Wk w s bc bi N c r fi k) : w.cell? ⟨s, 2, none⟩ = some (.int .i64 fi) := by simp [World.cell?, h.here]
theorem Wk.c3 (h : Wk w s bc bi N c r fi k) : w.cell? ⟨s, 3, none⟩ = some (.int .i64 k) := by simp [World.cell?, h.here]
theorem Wk.frz (h : Wk w s bc bi N c r fi k) (i : Nat) : w.frozen? ⟨s, i, none⟩ = false := by simp [World.frozen?, h.here]
theorem mset {u : World} {b k : Nat} {c : Array Value} {ty : TypeId} {v : Value} (h : u.heap[b]? = some (.cells c ty (0, 0))) : (u.setCell ⟨b, k, none⟩ v).heap[b]? = some (.cells (c.setIfInBounds k v) ty (0, 0)) := by
  simp [World.setCell, Array.getElem?_modify, h]
theorem Wk.put2 (h : Wk w s bc bi N c r fi k) (v : Nat) : Wk (w.setCell ⟨s, 2, none⟩ (.int .i64 v)) s bc bi N c r v k :=
  ⟨by rw [mset h.here]; rfl, h.col.of_block (Below.heap_setCell _ _ _ _ (fun q => h.s_c q.symm)), h.itm.of_block (Below.heap_setCell _ _ _ _ (fun q => h.s_i q.symm)), h.ne, h.pos, h.few⟩
theorem Wk.put3 (h : Wk w s bc bi N c r fi k) (v : Nat) : Wk (w.setCell ⟨s, 3, none⟩ (.int .i64 v)) s bc bi N c r fi v :=
  ⟨by rw [mset h.here]; rfl, h.col.of_block (Below.heap_setCell _ _ _ _ (fun q => h.s_c q.symm)), h.itm.of_block (Below.heap_setCell _ _ _ _ (fun q => h.s_i q.symm)), h.ne, h.pos, h.few⟩
theorem Wk.paint (h : Wk w s bc bi N c r fi k) (i : Nat) (v : Int) : Wk (w.setCell ⟨bc, i, none⟩ (.int .i64 v)) s bc bi N (setC c i v) r fi k :=
  ⟨(Below.heap_setCell _ _ _ _ h.s_c).trans h.here, (h.col.set i _).congr (fun j _ => by unfold setC; split <;> rfl), h.itm.of_block (Below.heap_setCell _ _ _ _ h.ne.symm), h.ne, h.pos, h.few⟩
theorem Wk.item (h : Wk w s bc bi N c r fi k) (i : Nat) (v : Int) : Wk (w.setCell ⟨bi, i, none⟩ (.int .i64 v)) s bc bi N c (setC r i v) fi k :=
  ⟨(Below.heap_setCell _ _ _ _ h.s_i).trans h.here, h.col.of_block (Below.heap_setCell _ _ _ _ h.ne), (h.itm.set i _).congr (fun j _ => by unfold setC; split <;> rfl), h.ne, h.pos, h.few⟩
/-- add. -/
theorem madd_ok (h : Wk w s bc bi N c r fi k) (x : Nat) (hf : fi < N) (hk : k < N) :
    Calls Try.prog 16 #[.pointer (some ⟨s, 1, none⟩), .int .i64 x] w fun e w' => e = .returned (.tuple #[]) ∧ Wk w' s bc bi N c (setC r ((fi + k) % N) x) fi (k + 1) ∧ Bt (Mb s bc bi) w w' := by
  have hfew := h.few
  have hpos := h.pos
  obtain ⟨p, hp⟩ : ∃ p, p = (fi + k) % N := ⟨_, rfl⟩
  have hpN : p < N := hp ▸ Nat.mod_lt _ (by omega)
  have e1 : ((fi : Int) + (k : Int)).tmod (N : Int) = (p : Int) := by
    rw [Int.tmod_eq_emod_of_nonneg (by omega), hp]; norm_cast
  have e2 : ((fi : Int) + (k : Int)) % (N : Int) = (p : Int) := by
    rw [hp]; norm_cast
  have e3 : ((N : Int) == 0) = false := by simp; omega
  rw [← hp]
  have HW : Hid (Wk w s bc bi N c r fi k) := h
  clear hp
  have c1 := h.c1
  have c2 := h.c2
  have c3 := h.c3
  have hr := h.itm.cell hpN
  have hz := h.itm.frozen p
  clear h
  go_enter Try.func16, Try.ntmps16
  go_wp2
  go_region
  have h2 : Wk (w.setCell ⟨bi, p, none⟩ (.int .i64 (x : Int))).drew s bc bi N c (setC r p x) fi k := (HW.out.item p x).drewN 1
  have d3 := h2.c3
  have z3 := h2.frz 3
  have HE : Hid (Wk _ s bc bi N c (setC r p x) fi (k + 1)) := h2.put3 (k + 1)
  have HB : Hid (Bt (Mb s bc bi) w (w.setCell ⟨bi, p, none⟩ (.int .i64 (x : Int))).drew) := ((Bt.refl _ w).set bi p _ (.inl (.inr (.inr rfl)))).trans (Bt.of_below (below_drewN _ 1 _))
  generalize (w.setCell ⟨bi, p, none⟩ (.int .i64 (x : Int))).drew = u at HE HB d3 z3 ⊢
  rw [show (((k + 1 : Nat) : Int)) = (k : Int) + 1 from by omega] at HE
  clear h2
  go_wp2
  go_end0
  exact ⟨rfl, HE.out, HB.out.set s 3 _ (.inl (.inl rfl))⟩
/-- take. -/
theorem mtake_none (h : Wk w s bc bi N c r fi 0) :
    Calls Try.prog 17 #[.pointer (some ⟨s, 1, none⟩)] w fun e w' => e = .returned (.tuple #[.int .i64 0, .bool false]) ∧ w' = w := by
  have c3 := h.c3
  have e0 : (((0 : Nat) : Int) == 0) = true := rfl
  clear h
  go_enter Try.func17, Try.ntmps17
  go_wp2
  go_ret2
  exact ⟨rfl, rfl⟩
theorem mtake_ok (h : Wk w s bc bi N c r fi (k + 1)) (hf : fi < N) (hk : k < N) :
    Calls Try.prog 17 #[.pointer (some ⟨s, 1, none⟩)] w fun e w' => e = .returned (.tuple #[.int .i64 (r fi), .bool true]) ∧ Wk w' s bc bi N c r ((fi + 1) % N) k ∧ Bt (Mb s bc bi) w w' := by
  have hfew := h.few
  have hpos := h.pos
  obtain ⟨p, hp⟩ : ∃ p, p = (fi + 1) % N := ⟨_, rfl⟩
  have hpN : p < N := hp ▸ Nat.mod_lt _ (by omega)
  have e1 : ((fi : Int) + 1).tmod (N : Int) = (p : Int) := by
    rw [Int.tmod_eq_emod_of_nonneg (by omega), hp]; norm_cast
  have e2 : ((fi : Int) + 1) % (N : Int) = (p : Int) := by
    rw [hp]; norm_cast
  have e3 : ((N : Int) == 0) = false := by simp; omega
  rw [← hp]
  have HW : Hid (Wk w s bc bi N c r fi (k + 1)) := h
  obtain ⟨K, hK⟩ : ∃ K : Int, K = ((k + 1 : Nat) : Int) := ⟨_, rfl⟩
  have e4 : (K == 0) = false := by simp; omega
  have HK : Hid (K = ((k + 1 : Nat) : Int)) := hK
  have c1 := h.c1
  have c2 := h.c2
  have c3 := h.c3
  rw [← hK] at c3
  have hr := h.itm.cell hf
  generalize r fi = x at hr ⊢
  clear h hp hK
  go_enter Try.func17, Try.ntmps17
  go_wp2
  go_quiet (fail)
  have h2 := HW.out.drewN nq
  generalize hu : w.drewN nq = u at h2 ⊢
  have HB : Hid (Bt (Mb s bc bi) w u) := by rw [← hu]; exact Bt.of_below (below_drewN _ _ _)
  have d1 := h2.c1
  have d2 := h2.c2
  have z2 := h2.frz 2
  have H2 : Hid (Wk u s bc bi N c r fi (k + 1)) := h2
  clear c1 c2 c3 hr h2 hu
  go_wp2
  go_region
  have h3 : Wk (u.setCell ⟨s, 2, none⟩ (.int .i64 (p : Int))).drew s bc bi N c r p (k + 1) := (H2.out.put2 p).drewN 1
  have f3 := h3.c3
  rw [← HK.out] at f3
  have z3 := h3.frz 3
  have HE : Hid (Wk _ s bc bi N c r p k) := h3.put3 k
  have HB3 : Hid (Bt (Mb s bc bi) w (u.setCell ⟨s, 2, none⟩ (.int .i64 (p : Int))).drew) := (HB.out.set s 2 _ (.inl (.inl rfl))).trans (Bt.of_below (below_drewN _ 1 _))
  generalize (u.setCell ⟨s, 2, none⟩ (.int .i64 (p : Int))).drew = u2 at HE HB3 f3 z3 ⊢
  rw [show (k : Int) = K - 1 from by have := HK.out; omega] at HE
  clear h3 d1 d2 z2
  have hKb : 0 < K ∧ K ≤ 4096 := by have := HK.out; omega
  go_wp2
  go_ret2
  exact ⟨rfl, HE.out, HB3.out.set s 3 _ (.inl (.inl rfl))⟩
end
end Go.Proofs.Ytcafmloinmdeeaa
