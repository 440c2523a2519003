/- Reading a list of ints. -/
import Derived.Test.YtloppgibgohggaaDoorMLGro
import Derived.Test.YtloppgibgohggaaDoorMLName
import Derived.Deep.LoopGhost
namespace Go.Proofs.YtloppgibgohggaaDoor
open Go.RowKit

section
variable {α : Type} {K : Kd α} {T : TypeId} {p : Prs α} {s : ByteArray} {rh : Nat} {w : World} {n : Nat} {tot : Rr (List α)} {i : Nat} {v : Value} {wr : World}
end
end Go.Proofs.YtloppgibgohggaaDoor
namespace Go.Proofs.YtloppgibgohggaaDoor
open Go.RowKit

theorem infoLI : (Tryd.prog.info? 3).map (fun i => (i.zero, i.size, i.bytes)) = some (some (.int .i64 0), 1, 8) := by kernel_rfl

end Go.Proofs.YtloppgibgohggaaDoor
