/- SpineCycles' walk, its arguments in the frame's order. -/
import Derived.Test.YtecjjegkdajamaaPCycles
namespace Go.Proofs.Ytecjjegkdajamaa
open Go.RowKit
theorem cycles_walk2 (v1 : Value) (N1 : Nat) (f1 : Nat → Int) (v2 : Value) (N2 : Nat) (f2 : Nat → Int) (w : World) (hv1 : Ints w v1 N1 f1) (hv2 : Ints w v2 N2 f2) : Calls Try.prog 4 #[v1, v2] w fun e w' => e = .returned (.bool true) ∧ Below w.heap.size w w' :=
  cycles_walk v1 v2 N1 N2 f1 f2 w hv1 hv2
end Go.Proofs.Ytecjjegkdajamaa
