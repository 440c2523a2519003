/- (*play).begin, where the stack begins: a pop, a push; where it refuses what is pushed. -/
import Derived.Test.YtpajdopdbdflnaaSPbegin
namespace Go.Proofs.Ytpajdopdbdflnaa
open Go.RowKit

theorem Py.drew' {B : Nat} {w0 u : World} {P : Nat → Prop} {s : Nat} {b : Zone} {k c : Nat} {cs : Nat → Int} {ops : Nat → Op} {T : Int} {xs zs : List Int} {y : Nat} {vi : Value} {qb cb : Nat} {busy : Nat → Int} (h : Py B w0 u P s b k c cs ops T xs y vi zs qb cb busy) : Py B w0 u.drew P s b k c cs ops T xs y vi zs qb cb busy := h.below ((Below.refl _ _).drew)
theorem busy_upd {c k : Nat} {busy : Nat → Int} {ops : Nat → Op} {g : Nat} {op : Op} {v : Int} (hs : ∀ a, a < k → busy a = (ops a).busy c) (hv : v = op.busy c) : ∀ a, a < k → upd busy g v a = (updOp ops g op a).busy c := by
  intro a ha
  by_cases e : a = g
  · subst e; rw [upd_at, updOp_at, hv]
  · rw [upd_else _ _ e, updOp_else _ _ e]; exact hs a ha
theorem busy_same {c k : Nat} {busy : Nat → Int} {ops : Nat → Op} {g : Nat} {op : Op} (hs : ∀ a, a < k → busy a = (ops a).busy c) (hv : op.busy c = (ops g).busy c) : ∀ a, a < k → busy a = (updOp ops g op a).busy c := by
  intro a ha
  by_cases e : a = g
  · subst e; rw [updOp_at, hv]; exact hs a ha
  · rw [updOp_else _ _ e]; exact hs a ha
section
variable {B : Nat} {w0 u : World} {P : Nat → Prop} {s : Nat} {b : Zone} {k c : Nat} {cs : Nat → Int} {ops : Nat → Op} {T : Int} {xs : List Int} {y : Nat} {vi : Value} {qb cb : Nat} {busy : Nat → Int}
set_option maxRecDepth 20000 in
set_option maxHeartbeats 4000000 in
theorem pbegin_pop (h : Py B w0 u P s b k c cs ops T xs y vi xs qb cb busy) (hst : ∀ a, a < k → busy a = (ops a).busy c) (K V : Int) (a : Nat) (ha : a < k) (A : Int) (hA : A = a) (hb : ops a = .idle) (hK : 2 ≤ K) :
    Calls Try.prog 9 #[.pointer (some ⟨y, 0, none⟩), .agg #[.int .i64 K, .int .i64 A, .int .i64 V]] u (BeginPost B w0 s b k c cs T xs y vi qb cb) := by
  subst hA
  have hP1 := h.below ((Below.refl _ _).alloc (Nat.le_refl _) (.cells #[.int .i64 K, .int .i64 (a : Int), .int .i64 V] 32))
  obtain ⟨a0, a1, a2⟩ := act_cells u K a V
  obtain ⟨y0, y1, y2, y3, y4, yf⟩ := cell5 hP1.blk
  have hbc := hP1.rb.cell ha
  have hb0 : busy a = -1 := by rw [hst a ha, hb]; rfl
  rw [hb0] at hbc
  have hA0 : decide ((a : Int) < 0) = false := by simp
  have hA1 : decide ((k : Int) ≤ (a : Int)) = false := by simp; omega
  have hA2 : (a : Int) < (k : Int) := by omega
  have HP1 : Hid _ := hP1
  have Hst : Hid _ := hst
  have hlt := h.good.lt
  have hqb : qb ≠ u.heap.size := by have := h.rb.lt; omega
  clear h hP1 hst
  go_enter Try.func9, Try.ntmps9
  go_wp2
  go_quiet (fail)
  go_wp2
  go_quiet (fail)
  go_wp2
  go_quiet (fail)
  go_wp2
  generalize hU : World.drewN (World.drewN (World.drewN _ _) _) _ = U2
  have hP2 : Py B w0 U2 P s b k c cs ops T xs y vi xs qb cb busy := by rw [← hU]; exact ((HP1.out.drewN _).drewN _).drewN _
  have hsz : u.heap.size < U2.heap.size := by rw [← hU]; show u.heap.size < (u.alloc _).heap.size; simp
  have b1 : U2.cell? ⟨u.heap.size, 1, none⟩ = some (.int .i64 (a : Int)) := by rw [← hU]; exact a1
  have b2 : U2.cell? ⟨u.heap.size, 2, none⟩ = some (.int .i64 V) := by rw [← hU]; exact a2
  clear a0 a1 a2 y0 y1 y2 y3 y4 yf hbc HP1 hU
  obtain ⟨y0, _⟩ := cell5 hP2.blk
  have hbe := g_begin_pop (Good.alike (w' := U2.drew) hP2.good rfl) a V ha hb
  have HP2 : Hid _ := hP2
  clear hP2
  go_region_held3 (fun w' => w'.cell? ⟨y, 0, none⟩ = some (.pointer (some ⟨s, 0, none⟩)) ∧ w'.cell? ⟨u.heap.size, 1, none⟩ = some (.int .i64 (a : Int)) ∧ w'.cell? ⟨u.heap.size, 2, none⟩ = some (.int .i64 V)) (go_keep)
    ((go_at_call 20; refine hbe.mono ?_; rintro e w3 ⟨rfl, P3, hG3, hB3', hW3⟩; have hB3 := hB3'.undrew; have hP3 := HP2.out.call hG3 hB3 hW3; have hblk := hB3.block u.heap.size hsz (fun q => by have := hlt _ q; omega); have c1 := (World.cell?_of_block (a := ⟨u.heap.size, 1, none⟩) hblk).trans b1; have c2 := (World.cell?_of_block (a := ⟨u.heap.size, 2, none⟩) hblk).trans b2; obtain ⟨z0, z1, z2, z3, z4, zf⟩ := cell5 hP3.blk))
  clear hbe b1 b2 y0
  have HP3 : Hid _ := hP3
  have hcq := hP3.rb.cell ha
  have hfq := hP3.rb.frozen a
  have hP4 := hP3.set a V
  have hyq := hP3.ne
  obtain ⟨v0, v1, v2, v3, v4, vf⟩ := cell5 hP4.blk
  have hcq4 := hP4.rb.cell ha
  have hfq4 := hP4.rb.frozen a
  have hP5 := hP4.set a c
  obtain ⟨t0, t1, t2, t3, t4, tf⟩ := cell5 hP5.blk
  have HP5 : Hid _ := hP5
  have d1 : (w3.setCell ⟨qb, a, none⟩ (.int .i64 V)).cell? ⟨u.heap.size, 1, none⟩ = some (.int .i64 (a : Int)) := (World.cell?_setCell_far _ _ _ _ hqb).trans c1
  clear hP3 hG3 hB3 hB3' hW3 HP2 hP4 hP5
  go_wp2
  go_region_held3 (fun w' => w'.cell? ⟨y, 4, none⟩ = some (.slice (some ⟨qb, 0, none⟩) k cb) ∧ w'.cell? ⟨u.heap.size, 1, none⟩ = some (.int .i64 (a : Int)) ∧ w'.cell? ⟨u.heap.size, 2, none⟩ = some (.int .i64 V)) (go_keep) (fail)
  go_wp2
  go_region_held3 (fun w' => w'.cell? ⟨y, 4, none⟩ = some (.slice (some ⟨qb, 0, none⟩) k cb) ∧ w'.cell? ⟨y, 2, none⟩ = some (.int .i64 (c : Int)) ∧ w'.cell? ⟨u.heap.size, 1, none⟩ = some (.int .i64 (a : Int))) (go_keep) (fail)
  go_wp2_with (go_at_call 17; refine (num_any _ _).mono ?_; rintro e w6 ⟨rfl, rfl⟩)
  go_ret
  exact ⟨rfl, P3, _, _, (HP5.out.drew').drew', by rw [upd_twice]; exact busy_upd Hst.out rfl⟩
end
end Go.Proofs.Ytpajdopdbdflnaa
