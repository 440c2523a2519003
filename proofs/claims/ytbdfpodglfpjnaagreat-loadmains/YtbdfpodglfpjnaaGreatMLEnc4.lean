/- Encode: whatever the program. -/
import Derived.Test.YtbdfpodglfpjnaaGreatMLEnc3
import Derived.Test.YtbdfpodglfpjnaaGreatMLCau
namespace Go.Proofs.YtbdfpodglfpjnaaGreat
open Go.RowKit

/-- A program in a box of its own. -/
structure Bp (w : World) (pb : Nat) (S : Nat → Prop) (p : Pg) (cs : Array Value) : Prop where
  box : w.heap[pb]? = some (.cells cs 25 (0, 0))
  dat : kPg.R w S p cs.toList
  low : ∀ k, S k → k < w.heap.size
theorem Bp.below {w w' : World} {pb : Nat} {S : Nat → Prop} {p : Pg} {cs : Array Value} (h : Bp w pb S p cs) (hb : Below w.heap.size w w') : Bp w' pb S p cs :=
  ⟨by rw [hb.block _ (Array.getElem?_eq_some_iff.1 h.box).1]; exact h.box, kPg.keep (fun k hk => hb.block k (h.low k hk)) h.dat, fun k hk => Nat.lt_of_lt_of_le (h.low k hk) hb.size⟩

/-- What Caught answers. -/
def CsP (p : Pg) (w : World) (e : Ending) (w' : World) : Prop := Below w.heap.size w w' ∧ match encP p with
  | .ok b => e = .returned (.tuple #[.string b, .int .i64 0, .int .i64 0])
  | .error c => e = .returned (.tuple #[.string ⟨#[]⟩, .int .i64 0, .int .i64 c])
/-- What Encode answers. -/
def EnP (p : Pg) (w : World) (e : Ending) (w' : World) : Prop := Below w.heap.size w w' ∧ match encP p with
  | .ok b => e = .returned (.tuple #[.string b, .int .i64 0])
  | .error c => e = .returned (.tuple #[.string ⟨#[]⟩, .int .i64 c])
end Go.Proofs.YtbdfpodglfpjnaaGreat
