/- New; what is told of the colours whole: Mk. -/
import Derived.Test.YtcafmloinmdeeaaMRepeat
namespace Go.Proofs.Ytcafmloinmdeeaa
open Go.RowKit
theorem minfoR : (Try.prog.info? 45).map (·.size) = some 3 := by kernel_rfl
theorem ringOf_ok (N : Nat) (h1 : 1 ≤ N) (h2 : N ≤ 4096) (w : World) :
    Calls Try.prog 15 #[.int .i64 N] w fun e w' => ∃ g, e = .returned (.agg #[.slice (some ⟨g, 0, none⟩) N N, .int .i64 0, .int .i64 0]) ∧ w'.rowIs g 3 N (fun _ => .int .i64 0) ∧ Below w.heap.size w w' ∧ w.heap.size ≤ g := by
  have hmk := run_make_row' (P := Try.prog) 29 3 (.int .i64 0) 8 Try.underlying29 minfo3 rfl .i64 .i64 N (by omega) (by omega)
  go_enter Try.func15, Try.ntmps15
  go_wp2
  have hr : ((w.alloc (.cells #[.slice (some ⟨w.heap.size + 1, 0, none⟩) N N, .int .i64 0, .int .i64 0] 45)).alloc (.cells (madeCells #[.int .i64 0] N) 3)).rowIs (w.heap.size + 1) 3 N (fun _ => .int .i64 0) := by
    have := World.rowIs_made (w.alloc (.cells #[.slice (some ⟨w.heap.size + 1, 0, none⟩) N N, .int .i64 0, .int .i64 0] 45)) (.int .i64 0) N 3
    rwa [World.size_alloc] at this
  exact bodyPost_ret (results_cell_row rfl _ _ w.heap.size 45 _ (0, 0) _ rfl ((Below.heap_alloc _ _ _ (by simp)).trans (heap_alloc_new w _)) Try.underlying45 rfl minfoR) rfl ⟨_, rfl, hr, ((Below.refl _ _).alloc (Nat.le_refl _) _).alloc (by simp) _, by omega⟩
/-- The colours c, the grey ones q in their row. -/
def Mk (w : World) (s bc bi N : Nat) (c : Nat → Int) (q : List Nat) : Prop := ∃ r fi, Wk w s bc bi N c r fi q.length ∧ MInv N c q r fi
section
variable {w w' : World} {s bc bi N : Nat} {c c' : Nat → Int} {q : List Nat}
theorem Mk.of_blocks (h : Mk w s bc bi N c q) (e : ∀ j, Mb s bc bi j → w'.heap[j]? = w.heap[j]?) : Mk w' s bc bi N c q := let ⟨r, fi, h1, h2⟩ := h; ⟨r, fi, h1.of_blocks e, h2⟩
theorem Mk.below (h : Mk w s bc bi N c q) (hb : Below w.heap.size w w') : Mk w' s bc bi N c q := let ⟨r, fi, h1, h2⟩ := h; ⟨r, fi, h1.below hb, h2⟩
theorem Mk.drewN (h : Mk w s bc bi N c q) (n : Nat) : Mk (w.drewN n) s bc bi N c q := h.of_blocks fun _ _ => rfl
theorem Mk.mb_lt (h : Mk w s bc bi N c q) : ∀ j, Mb s bc bi j → j < w.heap.size := let ⟨_, _, h1, _⟩ := h; h1.mb_lt
theorem Mk.congr (h : Mk w s bc bi N c q) (e : ∀ i, i < N → c i = c' i) : Mk w s bc bi N c' q := let ⟨r, fi, h1, h2⟩ := h; ⟨r, fi, h1.congr e, h2.congr e (fun _ _ => rfl)⟩
theorem Mk.few (h : Mk w s bc bi N c q) : 1 ≤ N ∧ N ≤ 4096 := let ⟨_, _, h1, _⟩ := h; ⟨h1.pos, h1.few⟩
theorem Mk.col (h : Mk w s bc bi N c q) : w.rowIs bc 3 N (fun i => .int .i64 (c i)) := let ⟨_, _, h1, _⟩ := h; h1.col
theorem Mk.c0 (h : Mk w s bc bi N c q) : w.cell? ⟨s, 0, none⟩ = some (.slice (some ⟨bc, 0, none⟩) N N) := let ⟨_, _, h1, _⟩ := h; h1.c0
theorem Mk.len (h : Mk w s bc bi N c q) : q.length ≤ N := let ⟨_, _, _, h2⟩ := h; h2.few
theorem Mk.grey (h : Mk w s bc bi N c q) {i : Nat} (hi : i < N) : c i = 2 ↔ i ∈ q := let ⟨_, _, _, h2⟩ := h; h2.grey i hi
theorem Mk.val (h : Mk w s bc bi N c q) {i : Nat} (hi : i < N) : c i = 1 ∨ c i = 2 ∨ c i = 3 := let ⟨_, _, _, h2⟩ := h; h2.val i hi
theorem Mk.lt (h : Mk w s bc bi N c q) {x : Nat} (hx : x ∈ q) : x < N := let ⟨_, _, _, h2⟩ := h; h2.lt x hx
theorem Mk.nodup (h : Mk w s bc bi N c q) : q.Nodup := let ⟨_, _, _, h2⟩ := h; h2.nodup
end
theorem mnew_no (n : Int) (w : World) (hn : ¬ (1 ≤ n ∧ n ≤ 4096)) :
    Calls Try.prog 5 #[.int .i64 n] w fun e w' => e = .returned (.tuple #[.pointer none, .int .i64 1100]) ∧ w' = w := by
  by_cases h1 : n < 1
  · clear hn
    go_enter Try.func5, Try.ntmps5
    go_wp2
    go_ret2
    exact ⟨rfl, rfl⟩
  · have h2 : 4096 < n := by omega
    have h3 : decide (n < 1) = false := by simp; omega
    clear hn h1
    go_enter Try.func5, Try.ntmps5
    go_wp2
    go_ret2
    exact ⟨rfl, rfl⟩
theorem mnew_ok (N : Nat) (w : World) (h1 : 1 ≤ N) (h2 : N ≤ 4096) :
    Calls Try.prog 5 #[.int .i64 N] w fun e w' => ∃ s bc bi, e = .returned (.tuple #[.pointer (some ⟨s, 0, none⟩), .int .i64 0]) ∧ Mk w' s bc bi N (fun _ => 1) [] ∧ Below w.heap.size w w' ∧ ∀ k, Mb s bc bi k → w.heap.size ≤ k := by
  have d1 : decide ((N : Int) < 1) = false := by simp; omega
  have d2 : decide ((4096 : Int) < (N : Int)) = false := by simp; omega
  have hl : w.heap.size < (w.alloc (.cells #[.int .i64 1] 3)).heap.size := by simp
  have hc : (w.alloc (.cells #[.int .i64 1] 3)).cell? ⟨w.heap.size, 0, none⟩ = some (.int .i64 1) := by simp only [World.cell?, heap_alloc_new]; rfl
  have hrep := repeat_ok N w.heap.size h1 h2 hc hl
  have hb0 : Hid (Below w.heap.size w (w.alloc (.cells #[.int .i64 1] 3))) := (Below.refl w.heap.size w).alloc (Nat.le_refl _) _
  have HN : Hid (1 ≤ N ∧ N ≤ 4096) := ⟨h1, h2⟩
  clear hc hl
  go_enter Try.func5, Try.ntmps5
  go_wp2_with (first
    | (go_at_call 14; refine hrep.mono ?_; rintro e w1 ⟨bc, rfl, hr1, hb1, hl1⟩)
    | (go_at_call 15; refine (ringOf_ok N HN.out.1 HN.out.2 _).mono ?_; rintro e w2 ⟨bi, rfl, hr2, hb2, hl2⟩))
  go_ret2
  have hb01 := hb0.out.trans (hb1.mono (by simp))
  have hb02 := hb01.trans (hb2.mono hb01.size)
  have hb3 := hb02.alloc hb02.size (.cells #[.slice (some ⟨bc, 0, none⟩) N N, .slice (some ⟨bi, 0, none⟩) N N, .int .i64 0, .int .i64 0] 48)
  have lc := hr1.lt
  rw [World.size_alloc] at hl1
  have hr1' := hr1.of_block (hb2.block bc lc)
  refine ⟨_, bc, bi, rfl, ⟨fun _ => 0, 0, ⟨heap_alloc_new w2 _, hr1'.alloc _, hr2.alloc _, by omega, HN.out.1, HN.out.2⟩, MInv.start HN.out.1 _⟩, hb3, ?_⟩
  rintro k (rfl | rfl | rfl)
  · exact hb02.size
  · omega
  · have := hb01.size; omega
end Go.Proofs.Ytcafmloinmdeeaa
