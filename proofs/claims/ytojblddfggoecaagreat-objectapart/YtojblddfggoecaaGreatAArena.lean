/- The arena's own calls: New, Load, Store, Swap, Steps, Words: what each answers, what of the arena turns, that nothing else turns. -/
import Derived.Test.YtojblddfggoecaaGreatAView
namespace Go.Proofs.YtojblddfggoecaaGreat
open Go.RowKit

theorem load_ok {w : World} {b bw bs W G : Nat} {ws cs : Nat → Int} (h : Ar w b bw bs W G ws cs) (g a : Nat) (hg : g < G) (ha : a < W) :
    Calls Tryz.prog 61 #[.pointer (some ⟨b, 0, none⟩), .int .i64 g, .int .i64 a] w fun e w' => e = .returned (.tuple #[.int .i64 (ws a), .int .i64 0]) ∧ Ar w' b bw bs W G ws (upd cs g (wrap64 (cs g + 1))) ∧ But bw bs w w' := by
  go_enter Tryz.func61, Tryz.ntmps61
  go_wp2_with (first | (go_at_call 78; refine (plain_any _ _).mono ?_; rintro e w1 ⟨rfl, hb⟩) | (go_at_call 80; refine (vload_ok (h.below hb) _ _ hg ha).mono ?_; rintro e w2 ⟨rfl, hA, hB⟩))
  go_ret2
  exact ⟨rfl, hA, (But.of_below hb).trans hB⟩
theorem store_ok {w : World} {b bw bs W G : Nat} {ws cs : Nat → Int} (h : Ar w b bw bs W G ws cs) (g a : Nat) (v : Int) (hg : g < G) (ha : a < W) :
    Calls Tryz.prog 59 #[.pointer (some ⟨b, 0, none⟩), .int .i64 g, .int .i64 a, .int .i64 v] w fun e w' => e = .returned (.int .i64 0) ∧ Ar w' b bw bs W G (upd ws a v) (upd cs g (wrap64 (cs g + 1))) ∧ But bw bs w w' := by
  go_enter Tryz.func59, Tryz.ntmps59
  go_wp2_with (first | (go_at_call 78; refine (plain_any _ _).mono ?_; rintro e w1 ⟨rfl, hb⟩) | (go_at_call 79; refine (vstore_ok (h.below hb) _ _ _ hg ha).mono ?_; rintro e w2 ⟨rfl, hA, hB⟩))
  go_ret
  exact ⟨rfl, hA, (But.of_below hb).trans hB⟩
theorem load_agent {w : World} {b bw bs W G : Nat} {ws cs : Nat → Int} (h : Ar w b bw bs W G ws cs) (g a : Int) (hg : ¬ (0 ≤ g ∧ g < G)) :
    Calls Tryz.prog 61 #[.pointer (some ⟨b, 0, none⟩), .int .i64 g, .int .i64 a] w fun e w' => e = .returned (.tuple #[.int .i64 0, .int .i64 302]) ∧ Ar w' b bw bs W G ws cs ∧ But bw bs w w' := by
  have key : ∀ w1, Below w.heap.size w w1 → Calls Tryz.prog 80 #[.agg #[.pointer (some ⟨b, 0, none⟩), .func (.func 100) #[] #[], .func (.func 100) #[] #[]], .int .i64 g, .int .i64 a] w1 fun e w' => e = .returned (.tuple #[.int .i64 0, .int .i64 302]) ∧ Ar w' b bw bs W G ws cs ∧ But bw bs w w' := by
    intro w1 hb
    refine (vload_bad b bw bs w1 g a 302 rfl (fun o => step_agent ((h.below hb).alloc o) g a hg)).mono fun e w' h' => ⟨h'.1, ?_, ?_⟩
    · exact h.below (hb.trans (h'.2.2.mono hb.size))
    · exact (But.of_below hb).trans h'.2.1
  clear h hg
  go_enter Tryz.func61, Tryz.ntmps61
  go_wp2_with (first | (go_at_call 78; refine (plain_any _ _).mono ?_; rintro e w1 ⟨rfl, hb⟩) | (go_at_call 80; refine (key _ hb).mono ?_; rintro e w2 ⟨rfl, hA, hB⟩))
  go_ret2
  exact ⟨rfl, hA, hB⟩
theorem load_place {w : World} {b bw bs W G : Nat} {ws cs : Nat → Int} (h : Ar w b bw bs W G ws cs) (g : Nat) (a : Int) (hg : g < G) (ha : ¬ (0 ≤ a ∧ a < W)) :
    Calls Tryz.prog 61 #[.pointer (some ⟨b, 0, none⟩), .int .i64 g, .int .i64 a] w fun e w' => e = .returned (.tuple #[.int .i64 0, .int .i64 301]) ∧ Ar w' b bw bs W G ws cs ∧ But bw bs w w' := by
  have key : ∀ w1, Below w.heap.size w w1 → Calls Tryz.prog 80 #[.agg #[.pointer (some ⟨b, 0, none⟩), .func (.func 100) #[] #[], .func (.func 100) #[] #[]], .int .i64 g, .int .i64 a] w1 fun e w' => e = .returned (.tuple #[.int .i64 0, .int .i64 301]) ∧ Ar w' b bw bs W G ws cs ∧ But bw bs w w' := by
    intro w1 hb
    refine (vload_bad b bw bs w1 g a 301 rfl (fun o => step_place ((h.below hb).alloc o) g a hg ha)).mono fun e w' h' => ⟨h'.1, ?_, ?_⟩
    · exact h.below (hb.trans (h'.2.2.mono hb.size))
    · exact (But.of_below hb).trans h'.2.1
  clear h hg ha
  go_enter Tryz.func61, Tryz.ntmps61
  go_wp2_with (first | (go_at_call 78; refine (plain_any _ _).mono ?_; rintro e w1 ⟨rfl, hb⟩) | (go_at_call 80; refine (key _ hb).mono ?_; rintro e w2 ⟨rfl, hA, hB⟩))
  go_ret2
  exact ⟨rfl, hA, hB⟩
theorem store_agent {w : World} {b bw bs W G : Nat} {ws cs : Nat → Int} (h : Ar w b bw bs W G ws cs) (g a : Int) (v : Int) (hg : ¬ (0 ≤ g ∧ g < G)) :
    Calls Tryz.prog 59 #[.pointer (some ⟨b, 0, none⟩), .int .i64 g, .int .i64 a, .int .i64 v] w fun e w' => e = .returned (.int .i64 302) ∧ Ar w' b bw bs W G ws cs ∧ But bw bs w w' := by
  have key : ∀ w1, Below w.heap.size w w1 → Calls Tryz.prog 79 #[.agg #[.pointer (some ⟨b, 0, none⟩), .func (.func 100) #[] #[], .func (.func 100) #[] #[]], .int .i64 g, .int .i64 a, .int .i64 v] w1 fun e w' => e = .returned (.int .i64 302) ∧ Ar w' b bw bs W G ws cs ∧ But bw bs w w' := by
    intro w1 hb
    refine (vstore_bad b bw bs w1 g a 302 v rfl (fun o => step_agent ((h.below hb).alloc o) g a hg)).mono fun e w' h' => ⟨h'.1, ?_, ?_⟩
    · exact h.below (hb.trans (h'.2.2.mono hb.size))
    · exact (But.of_below hb).trans h'.2.1
  clear h hg
  go_enter Tryz.func59, Tryz.ntmps59
  go_wp2_with (first | (go_at_call 78; refine (plain_any _ _).mono ?_; rintro e w1 ⟨rfl, hb⟩) | (go_at_call 79; refine (key _ hb).mono ?_; rintro e w2 ⟨rfl, hA, hB⟩))
  go_ret
  exact ⟨rfl, hA, hB⟩
theorem store_place {w : World} {b bw bs W G : Nat} {ws cs : Nat → Int} (h : Ar w b bw bs W G ws cs) (g : Nat) (a : Int) (v : Int) (hg : g < G) (ha : ¬ (0 ≤ a ∧ a < W)) :
    Calls Tryz.prog 59 #[.pointer (some ⟨b, 0, none⟩), .int .i64 g, .int .i64 a, .int .i64 v] w fun e w' => e = .returned (.int .i64 301) ∧ Ar w' b bw bs W G ws cs ∧ But bw bs w w' := by
  have key : ∀ w1, Below w.heap.size w w1 → Calls Tryz.prog 79 #[.agg #[.pointer (some ⟨b, 0, none⟩), .func (.func 100) #[] #[], .func (.func 100) #[] #[]], .int .i64 g, .int .i64 a, .int .i64 v] w1 fun e w' => e = .returned (.int .i64 301) ∧ Ar w' b bw bs W G ws cs ∧ But bw bs w w' := by
    intro w1 hb
    refine (vstore_bad b bw bs w1 g a 301 v rfl (fun o => step_place ((h.below hb).alloc o) g a hg ha)).mono fun e w' h' => ⟨h'.1, ?_, ?_⟩
    · exact h.below (hb.trans (h'.2.2.mono hb.size))
    · exact (But.of_below hb).trans h'.2.1
  clear h hg ha
  go_enter Tryz.func59, Tryz.ntmps59
  go_wp2_with (first | (go_at_call 78; refine (plain_any _ _).mono ?_; rintro e w1 ⟨rfl, hb⟩) | (go_at_call 79; refine (key _ hb).mono ?_; rintro e w2 ⟨rfl, hA, hB⟩))
  go_ret
  exact ⟨rfl, hA, hB⟩
theorem steps_in {w : World} {b bw bs W G : Nat} {ws cs : Nat → Int} (h : Ar w b bw bs W G ws cs) (g : Nat) (hg : g < G) :
    Calls Tryz.prog 45 #[.pointer (some ⟨b, 0, none⟩), .int .i64 g] w fun e w' => e = .returned (.int .i64 (cs g)) ∧ w' = w := by
  have c1 := h.c1
  have cg := h.steps.cell hg
  have hq := hasAgent_yes h g (by omega) (by omega)
  go_enter Tryz.func45, Tryz.ntmps45
  go_wp2_with (go_at_call 54; refine hq.mono ?_; rintro e w1 ⟨rfl, rfl⟩)
  go_ret
  exact ⟨rfl, rfl⟩
theorem steps_out {w : World} {b bw bs W G : Nat} {ws cs : Nat → Int} (h : Ar w b bw bs W G ws cs) (g : Int) (hg : ¬ (0 ≤ g ∧ g < G)) :
    Calls Tryz.prog 45 #[.pointer (some ⟨b, 0, none⟩), .int .i64 g] w fun e w' => e = .returned (.int .i64 0) ∧ w' = w := by
  have hq := hasAgent_no h g hg
  clear hg
  go_enter Tryz.func45, Tryz.ntmps45
  go_wp2_with (go_at_call 54; refine hq.mono ?_; rintro e w1 ⟨rfl, rfl⟩)
  go_ret
  exact ⟨rfl, rfl⟩
theorem words_any {w : World} {b bw bs W G : Nat} {ws cs : Nat → Int} (h : Ar w b bw bs W G ws cs) :
    Calls Tryz.prog 41 #[.pointer (some ⟨b, 0, none⟩)] w fun e w' => e = .returned (.int .i64 W) ∧ w' = w := by
  have c0 := h.c0
  go_enter Tryz.func41, Tryz.ntmps41
  go_wp2
  go_ret
  exact ⟨rfl, rfl⟩

theorem info3 : (Tryz.prog.info? 3).map (fun i => (i.zero, i.size, i.bytes)) = some (some (.int .i64 0), 1, 8) := by kernel_rfl
theorem new_no_words (x y : Int) (w : World) (hx : ¬ (1 ≤ x ∧ x ≤ 65536)) :
    Calls Tryz.prog 17 #[.int .i64 x, .int .i64 y] w fun e w' => e = .returned (.tuple #[.pointer none, .int .i64 300]) ∧ w' = w := by
  have hq := isCount_no x 65536 w hx
  clear hx
  go_enter Tryz.func17, Tryz.ntmps17
  go_wp2_with (go_at_call 40; refine hq.mono ?_; rintro e w1 ⟨rfl, rfl⟩)
  go_ret2
  exact ⟨rfl, rfl⟩
theorem new_no_agents (x y : Int) (w : World) (hx : 1 ≤ x ∧ x ≤ 65536) (hy : ¬ (1 ≤ y ∧ y ≤ 12)) :
    Calls Tryz.prog 17 #[.int .i64 x, .int .i64 y] w fun e w' => e = .returned (.tuple #[.pointer none, .int .i64 300]) ∧ w' = w := by
  have hq := isCount_yes x 65536 w hx.1 hx.2
  have hr := isCount_no y 12 w hy
  clear hx hy
  go_enter Tryz.func17, Tryz.ntmps17
  go_wp2_with (first | (go_at_call_of 40 (Value.int .i64 65536); refine hq.mono ?_; rintro e w1 ⟨rfl, rfl⟩) | (go_at_call_of 40 (Value.int .i64 12); refine hr.mono ?_; rintro e w1 ⟨rfl, rfl⟩))
  go_ret2
  exact ⟨rfl, rfl⟩
/-- Two rows of zeros, laid one behind the other. -/
theorem two_rows (w : World) (n m : Nat) : ((w.alloc (.cells (madeCells #[.int .i64 0] n) 3)).alloc (.cells (madeCells #[.int .i64 0] m) 3)).rowIs w.heap.size 3 n (fun _ => .int .i64 0) ∧
    ((w.alloc (.cells (madeCells #[.int .i64 0] n) 3)).alloc (.cells (madeCells #[.int .i64 0] m) 3)).rowIs (w.heap.size + 1) 3 m (fun _ => .int .i64 0) := by
  refine ⟨(World.rowIs_made w (.int .i64 0) n 3).alloc _, ?_⟩
  have h := World.rowIs_made (w.alloc (.cells (madeCells #[.int .i64 0] n) 3)) (.int .i64 0) m 3
  rw [Go.Deep.nblk_alloc] at h
  exact h
theorem two_below (w : World) (x y : Obj) : Below w.heap.size w ((w.alloc x).alloc y) := ((Below.refl _ _).alloc (Nat.le_refl _) _).alloc (by simp) _
theorem new_end (w : World) (x y : Obj) (bw bs W G : Nat) (hp : bw ≠ bs) (h1 : ((w.alloc x).alloc y).rowIs bw 3 W (fun _ => .int .i64 0)) (h2 : ((w.alloc x).alloc y).rowIs bs 3 G (fun _ => .int .i64 0)) :
    Ar (((w.alloc x).alloc y).alloc (.cells #[.slice (some ⟨bw, 0, none⟩) W W, .slice (some ⟨bs, 0, none⟩) G G] 85)).drew (w.heap.size + 1 + 1) bw bs W G (fun _ => 0) (fun _ => 0) ∧
    Below w.heap.size w (((w.alloc x).alloc y).alloc (.cells #[.slice (some ⟨bw, 0, none⟩) W W, .slice (some ⟨bs, 0, none⟩) G G] 85)).drew := by
  refine ⟨⟨?_, (h1.alloc _).drew, (h2.alloc _).drew, hp⟩, ((two_below w x y).alloc (by simp; omega) _).drew⟩
  have h := heap_alloc_new ((w.alloc x).alloc y) (.cells #[.slice (some ⟨bw, 0, none⟩) W W, .slice (some ⟨bs, 0, none⟩) G G] 85)
  rw [Go.Deep.nblk_alloc, Go.Deep.nblk_alloc] at h
  exact h
theorem new_ok (W G : Nat) (w : World) (hW : 1 ≤ W) (hW' : W ≤ 65536) (hG : 1 ≤ G) (hG' : G ≤ 12) :
    Calls Tryz.prog 17 #[.int .i64 W, .int .i64 G] w fun e w' => ∃ b bw bs, e = .returned (.tuple #[.pointer (some ⟨b, 0, none⟩), .int .i64 0]) ∧ Ar w' b bw bs W G (fun _ => 0) (fun _ => 0) ∧ Below w.heap.size w w' ∧ w.heap.size ≤ b ∧ w.heap.size ≤ bw ∧ w.heap.size ≤ bs := by
  have hq := isCount_yes W 65536 w (by omega) (by omega)
  have hr := isCount_yes G 12 w (by omega) (by omega)
  have hmk := run_make_row' (P := Tryz.prog) 29 3 (.int .i64 0) 8 Tryz.underlying29 info3 rfl .i64 .i64 W (by omega) (by omega)
  have hml := run_make_row' (P := Tryz.prog) 29 3 (.int .i64 0) 8 Tryz.underlying29 info3 rfl .i64 .i64 G (by omega) (by omega)
  go_enter Tryz.func17, Tryz.ntmps17
  go_wp2_with (first | (go_at_call_of 40 (Value.int .i64 65536); refine hq.mono ?_; rintro e w1 ⟨rfl, rfl⟩) | (go_at_call_of 40 (Value.int .i64 12); refine hr.mono ?_; rintro e w1 ⟨rfl, rfl⟩))
  go_region
  · go_wp2
    go_ret2
    obtain ⟨r1, r2⟩ := two_rows w1 W G
    have E := new_end _ _ _ _ _ W G (by omega) r1 r2
    exact ⟨_, _, _, rfl, E.1, E.2, by omega, by omega, by omega⟩
  · go_wp2
    go_ret2
    obtain ⟨r1, r2⟩ := two_rows w1 G W
    have E := new_end _ _ _ _ _ W G (by omega) r2 r1
    exact ⟨_, _, _, rfl, E.1, E.2, by omega, by omega, by omega⟩
end Go.Proofs.YtojblddfggoecaaGreat
