/- What stands in the loop that reads a list: for every kind of list. -/
import Derived.Test.YtloppgibgohggaaDoorMLGro
import Derived.Test.YtloppgibgohggaaDoorMLName
import Derived.Deep.LoopGhost
namespace Go.Proofs.YtloppgibgohggaaDoor
open Go.RowKit

section
variable {α : Type} {K : Kd α} {T : TypeId} {p : Prs α} {s : ByteArray} {rh : Nat} {w : World} {n : Nat} {tot : Rr (List α)} {i : Nat} {v : Value} {wr : World}
end
end Go.Proofs.YtloppgibgohggaaDoor
