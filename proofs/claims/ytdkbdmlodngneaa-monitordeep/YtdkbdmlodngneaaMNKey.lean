/- A table's two maps: how their keys and elements lie. -/
import Derived.Test.YtdkbdmlodngneaaMNMap
namespace Go.Proofs.Ytdkbdmlodngneaa
open Go.RowKit

def okI (x : Int) : Prop := -9223372036854775808 ≤ x ∧ x ≤ 9223372036854775807
theorem okI.wf {x : Int} (h : okI x) : (Lit.int .i64 x).wf = true := WalkArith.wf_i64 h
def holdR : Value → Option (DataW Unit × List MemPlace)
  | .agg ⟨[.int .i64 a, .int .i64 b]⟩ => some (.agg [.lit (.int .i64 a), .lit (.int .i64 b)], [])
  | _ => none
theorem holdR_inv {v : Value} {a b : Int} {ps : List MemPlace} (h : holdR v = some (.agg [.lit (.int .i64 a), .lit (.int .i64 b)], ps)) : v = .agg #[.int .i64 a, .int .i64 b] := by
  unfold holdR at h
  split at h
  · simp at h
    obtain ⟨⟨rfl, rfl⟩, -⟩ := h
    rfl
  · cases h
def intR : Value → Option (DataW Unit × List MemPlace)
  | .int .i64 a => some (.lit (.int .i64 a), [])
  | _ => none
theorem intR_inv {v : Value} {a : Int} {ps : List MemPlace} (h : intR v = some (.lit (.int .i64 a), ps)) : v = .int .i64 a := by
  unfold intR at h
  split at h
  · simp at h
    obtain ⟨rfl, -⟩ := h
    rfl
  · cases h
theorem kint : Maps.Keyed Try.prog 3 := Maps.int_keyed Try.underlying3
def kO : Mk Int (Int × Int) where
  k := 3
  e := 49
  t := 40
  key := fun x => .int .i64 x
  ok := okI
  val := fun y => .agg #[.int .i64 y.1, .int .i64 y.2]
  dat := fun y => .agg [.lit (.int .i64 y.1), .lit (.int .i64 y.2)]
  R := holdR
  zv := (0, 0)
  keyed := kint
  ht := Try.underlying40
  hz := fun w => by kernel_rfl
  hkey := fun x hx => ⟨_, Maps.keyOf_int_mk Try.underlying3 hx.wf⟩
  inj := fun x y h => by injection h
  hR := fun y => rfl
  inv := fun v y ps h => holdR_inv h
theorem laidK : laidOutB Try.prog = true := by decide +kernel
theorem kvis : Maps.Keyed Try.prog 53 := Maps.Keyed.of_law (deep_law_laid laidK (m := Try.prog.types.size + 1) (by decide +kernel) (by decide +kernel) (by decide +kernel) (by decide +kernel))
theorem visit_key {a b : Int} (ha : okI a) (hb : okI b) : ∃ l, keyOf Try.prog 53 (.agg #[.int .i64 a, .int .i64 b]) = some l := by
  have e : keyOf Try.prog 53 (.agg #[.int .i64 a, .int .i64 b]) = ((Try.prog.keyLits (Try.prog.types.size + 1) 53 [.int .i64 a, .int .i64 b]).map fun ls => .string (keyBytes ls)) := by kernel_rfl
  have e1 : ∀ n, Try.prog.keyLits (n + 1) 3 [.int .i64 a] = some [.int .i64 a] := fun n => by simp [Program.keyLits, Try.underlying3, ha.wf]
  have e2 : ∀ n, Try.prog.keyLits (n + 1) 3 [.int .i64 b] = some [.int .i64 b] := fun n => by simp [Program.keyLits, Try.underlying3, hb.wf]
  have c1 : Try.prog.cellsOf 3 = 1 := by kernel_rfl
  have c2 : Try.prog.cellsOf 53 = 2 := by kernel_rfl
  have e3 : ∀ n, Try.prog.keyLits (n + 1 + 1) 53 [.int .i64 a, .int .i64 b] = some [.int .i64 a, .int .i64 b] := fun n => by
    unfold Program.keyLits
    simp only [Try.underlying53]
    simp [c1, c2, e1, e2]
  have hs : ∃ n, Try.prog.types.size + 1 = n + 1 + 1 := ⟨Try.prog.types.size - 1, by decide +kernel⟩
  obtain ⟨n, hn⟩ := hs
  rw [e, hn, e3]
  exact ⟨_, rfl⟩
def kB : Mk (Int × Int) Int where
  k := 53
  e := 3
  t := 41
  key := fun x => .agg #[.int .i64 x.1, .int .i64 x.2]
  ok := fun x => okI x.1 ∧ okI x.2
  val := fun y => .int .i64 y
  dat := fun y => .lit (.int .i64 y)
  R := intR
  zv := 0
  keyed := kvis
  ht := Try.underlying41
  hz := fun w => by kernel_rfl
  hkey := fun x hx => visit_key hx.1 hx.2
  inj := fun x y h => by
    injection h with h
    simp at h
    exact Prod.ext h.1 h.2
  hR := fun y => rfl
  inv := fun v y ps h => intR_inv h
end Go.Proofs.Ytdkbdmlodngneaa
