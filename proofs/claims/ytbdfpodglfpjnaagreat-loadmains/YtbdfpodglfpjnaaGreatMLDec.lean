/- decode: a program's bytes read, or the first fault thrown. -/
import Derived.Test.YtbdfpodglfpjnaaGreatMY5
import Derived.Test.YtbdfpodglfpjnaaGreatMGL0
namespace Go.Proofs.YtbdfpodglfpjnaaGreat
open Go.RowKit

/-- What is answered where a program is read. -/
def DcP (s : ByteArray) (w : World) (e : Ending) (w' : World) : Prop := Below w.heap.size w w' ∧ match decP s with
  | .ok p => ∃ v, e = .returned v ∧ Nw kPgU w p v w'
  | .error (q, c) => e = Flt q c
theorem DcP.err {s : ByteArray} {w w' : World} {q : Nat} {c : Int} (h : decP s = .error (q, c)) (hb : Below w.heap.size w w') : DcP s w (Flt q c) w' := by
  unfold DcP; rw [h]; exact ⟨hb, rfl⟩

end Go.Proofs.YtbdfpodglfpjnaaGreat
