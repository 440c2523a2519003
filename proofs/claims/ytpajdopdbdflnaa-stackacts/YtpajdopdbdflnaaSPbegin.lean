/- (*play).begin: the document's answer of a Begin, and the stack's. -/
import Derived.Test.YtpajdopdbdflnaaSPlay
import Derived.BigQuiet
import Derived.Deep.QuietTactic
import Derived.Deep.RegionHeld3
namespace Go.Proofs.Ytpajdopdbdflnaa
open Go.RowKit

theorem act_cells (u : World) (K A V : Int) : (u.alloc (.cells #[.int .i64 K, .int .i64 A, .int .i64 V] 32)).cell? ⟨u.heap.size, 0, none⟩ = some (.int .i64 K) ∧ (u.alloc (.cells #[.int .i64 K, .int .i64 A, .int .i64 V] 32)).cell? ⟨u.heap.size, 1, none⟩ = some (.int .i64 A) ∧ (u.alloc (.cells #[.int .i64 K, .int .i64 A, .int .i64 V] 32)).cell? ⟨u.heap.size, 2, none⟩ = some (.int .i64 V) := by
  have h := heap_alloc_new u (.cells #[.int .i64 K, .int .i64 A, .int .i64 V] 32)
  refine ⟨?_, ?_, ?_⟩ <;> simp only [World.cell?, h] <;> rfl
theorem Good.alike {w' : World} {w : World} {P : Nat → Prop} {s : Nat} {b : Zone} {G cap : Nat} {cs : Nat → Int} {ops : Nat → Op} {T : Int} {xs : List Int} (h : Good w P s b G cap cs ops T xs) (e : w'.heap = w.heap) : Good w' P s b G cap cs ops T xs := h.keep (fun k _ => by rw [e]) (by rw [e]; exact Nat.le_refl _)
theorem Py.drewN {B : Nat} {w0 u : World} {P : Nat → Prop} {s : Nat} {b : Zone} {k c : Nat} {cs : Nat → Int} {ops : Nat → Op} {T : Int} {xs zs : List Int} {y : Nat} {vi : Value} {qb cb : Nat} {busy : Nat → Int} (h : Py B w0 u P s b k c cs ops T xs y vi zs qb cb busy) (n : Nat) : Py B w0 (u.drewN n) P s b k c cs ops T xs y vi zs qb cb busy := h.below (below_drewN _ _ _)
theorem Bt.undrew {P : Nat → Prop} {w w' : World} (h : Bt P w.drew w') : Bt P w w' := ⟨h.os, h.tape, h.output, h.size, h.block⟩
theorem quiet2 {P : Program} {f : FuncId} {args : Array Value} {w : World} {q n : Nat} {v : Value}
    (h : Calls P f args (w.drewN (q + n)) fun e w' => e = .returned v ∧ w' = w.drewN (q + n)) : Calls P f args (w.drewN (q + n)) fun e w'' => e = .returned v ∧ ∃ m, w'' = w.drewN (q + m) :=
  h.mono fun _ _ ⟨he, hm⟩ => ⟨he, n, hm⟩
def BeginPost (B : Nat) (w0 : World) (s : Nat) (b : Zone) (k c : Nat) (cs : Nat → Int) (T : Int) (xs : List Int) (y : Nat) (vi : Value) (qb cb : Nat) (e : Ending) (w' : World) : Prop :=
  e = .returned (.bool true) ∧ ∃ P' ops' busy', Py B w0 w' P' s b k c cs ops' T xs y vi xs qb cb busy' ∧ ∀ a, a < k → busy' a = (ops' a).busy c

section
variable {B : Nat} {w0 u : World} {P : Nat → Prop} {s : Nat} {b : Zone} {k c : Nat} {cs : Nat → Int} {ops : Nat → Op} {T : Int} {xs : List Int} {y : Nat} {vi : Value} {qb cb : Nat} {busy : Nat → Int}
set_option maxRecDepth 20000 in
set_option maxHeartbeats 4000000 in
theorem pbegin_agent (h : Py B w0 u P s b k c cs ops T xs y vi xs qb cb busy) (hst : ∀ a, a < k → busy a = (ops a).busy c) (K A V : Int) (hA : ¬ (0 ≤ A ∧ A < k)) :
    Calls Try.prog 9 #[.pointer (some ⟨y, 0, none⟩), .agg #[.int .i64 K, .int .i64 A, .int .i64 V]] u (BeginPost B w0 s b k c cs T xs y vi qb cb) := by
  have hP1 := h.below ((Below.refl _ _).alloc (Nat.le_refl _) (.cells #[.int .i64 K, .int .i64 A, .int .i64 V] 32))
  obtain ⟨a0, a1, a2⟩ := act_cells u K A V
  obtain ⟨y0, y1, y2, y3, y4, yf⟩ := cell5 hP1.blk
  have HP1 : Hid _ := hP1
  have Hst : Hid _ := hst
  clear h hP1 hst
  go_enter Try.func9, Try.ntmps9
  by_cases hK : K < 2
  · by_cases hA0 : A < 0
    · go_wp2
      go_quiet (fail)
      go_wp2
      go_quiet ((go_at_call 20; exact quiet2 (g_begin_agent (Good.alike HP1.out.good (by rfl)) _ _ _ hA)))
      go_wp2_with (go_at_call 17; refine (num_any _ _).mono ?_; rintro e w6 ⟨rfl, rfl⟩)
      go_ret
      exact ⟨rfl, P, ops, busy, HP1.out.drewN _, Hst.out⟩
    · have hA1 : (k : Int) ≤ A := by omega
      have hA2 : decide (A < 0) = false := by simpa using hA0
      go_wp2
      go_quiet (fail)
      go_wp2
      go_quiet ((go_at_call 20; exact quiet2 (g_begin_agent (Good.alike HP1.out.good (by rfl)) _ _ _ hA)))
      go_wp2_with (go_at_call 17; refine (num_any _ _).mono ?_; rintro e w6 ⟨rfl, rfl⟩)
      go_ret
      exact ⟨rfl, P, ops, busy, HP1.out.drewN _, Hst.out⟩
  · by_cases hA0 : A < 0
    · go_wp2
      go_quiet (fail)
      go_wp2
      go_quiet ((go_at_call 20; exact quiet2 (g_begin_agent (Good.alike HP1.out.good (by rfl)) _ _ _ hA)))
      go_wp2_with (go_at_call 17; refine (num_any _ _).mono ?_; rintro e w6 ⟨rfl, rfl⟩)
      go_ret
      exact ⟨rfl, P, ops, busy, HP1.out.drewN _, Hst.out⟩
    · have hA1 : (k : Int) ≤ A := by omega
      have hA2 : decide (A < 0) = false := by simpa using hA0
      go_wp2
      go_quiet (fail)
      go_wp2
      go_quiet ((go_at_call 20; exact quiet2 (g_begin_agent (Good.alike HP1.out.good (by rfl)) _ _ _ hA)))
      go_wp2_with (go_at_call 17; refine (num_any _ _).mono ?_; rintro e w6 ⟨rfl, rfl⟩)
      go_ret
      exact ⟨rfl, P, ops, busy, HP1.out.drewN _, Hst.out⟩
theorem busy_pos (h : Py B w0 u P s b k c cs ops T xs y vi xs qb cb busy) {a : Nat} (hb : ops a ≠ .idle) : 0 ≤ (ops a).busy c := by
  cases ho : ops a with
  | idle => exact absurd ho hb
  | push item n t i => have := h.good.ok_push ho; simp only [Op.busy]; omega
  | pop n t i d => simp only [Op.busy]; omega
set_option maxRecDepth 20000 in
set_option maxHeartbeats 4000000 in
theorem pbegin_busy (h : Py B w0 u P s b k c cs ops T xs y vi xs qb cb busy) (hst : ∀ a, a < k → busy a = (ops a).busy c) (K V : Int) (a : Nat) (ha : a < k) (A : Int) (hA : A = a) (hb : ops a ≠ .idle) :
    Calls Try.prog 9 #[.pointer (some ⟨y, 0, none⟩), .agg #[.int .i64 K, .int .i64 A, .int .i64 V]] u (BeginPost B w0 s b k c cs T xs y vi qb cb) := by
  subst hA
  have hP1 := h.below ((Below.refl _ _).alloc (Nat.le_refl _) (.cells #[.int .i64 K, .int .i64 (a : Int), .int .i64 V] 32))
  obtain ⟨a0, a1, a2⟩ := act_cells u K a V
  obtain ⟨y0, y1, y2, y3, y4, yf⟩ := cell5 hP1.blk
  have hbc := hP1.rb.cell ha
  have hb0 : 0 ≤ busy a := by rw [hst a ha]; exact busy_pos h hb
  have hA0 : decide ((a : Int) < 0) = false := by simp
  have hA1 : decide ((k : Int) ≤ (a : Int)) = false := by simp; omega
  have hA2 : (a : Int) < (k : Int) := by omega
  have HP1 : Hid _ := hP1
  have Hst : Hid _ := hst
  clear h hP1 hst
  go_enter Try.func9, Try.ntmps9
  by_cases hK : K < 2
  · go_wp2
    go_quiet (fail)
    go_wp2
    go_quiet (fail)
    go_wp2
    go_quiet ((go_at_call 20; exact quiet2 (g_begin_busy (Good.alike HP1.out.good (by rfl)) a _ _ ha hb)))
    go_wp2_with (go_at_call 17; refine (num_any _ _).mono ?_; rintro e w6 ⟨rfl, rfl⟩)
    go_ret
    exact ⟨rfl, P, ops, busy, HP1.out.drewN _, Hst.out⟩
  · go_wp2
    go_quiet (fail)
    go_wp2
    go_quiet (fail)
    go_wp2
    go_quiet ((go_at_call 20; exact quiet2 (g_begin_busy (Good.alike HP1.out.good (by rfl)) a _ _ ha hb)))
    go_wp2_with (go_at_call 17; refine (num_any _ _).mono ?_; rintro e w6 ⟨rfl, rfl⟩)
    go_ret
    exact ⟨rfl, P, ops, busy, HP1.out.drewN _, Hst.out⟩
end
end Go.Proofs.Ytpajdopdbdflnaa
