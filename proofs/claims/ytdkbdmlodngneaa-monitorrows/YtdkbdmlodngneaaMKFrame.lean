/- What a call leaves of the world: all but some blocks. -/
import Derived.Test.YtdkbdmlodngneaaMKMath
import Derived.WalkKit
import Derived.ProofKit
import Derived.BigQuiet
import Derived.Deep.OwnRows
import Derived.Deep.RegionWith
import Derived.Laws.Rows
import Derived.Deep.Draws
import Derived.Maps.OwnSet
import Derived.Carry
namespace Go.Proofs.Ytdkbdmlodngneaa
open Go.RowKit
/-- Of what w held nothing has turned but the blocks of P. -/
structure Bt (P : Nat → Prop) (w w' : World) : Prop where
  os : w'.os = w.os
  tape : w'.tape = w.tape
  output : w'.output = w.output
  size : w.heap.size ≤ w'.heap.size
  block : ∀ k, k < w.heap.size → ¬ P k → w'.heap[k]? = w.heap[k]?
theorem Bt.refl (P : Nat → Prop) (w : World) : Bt P w w := ⟨rfl, rfl, rfl, Nat.le_refl _, fun _ _ _ => rfl⟩
theorem Bt.trans {P : Nat → Prop} {a b c : World} (h : Bt P a b) (k : Bt P b c) : Bt P a c :=
  ⟨k.os.trans h.os, k.tape.trans h.tape, k.output.trans h.output, Nat.le_trans h.size k.size, fun i hi e => (k.block i (Nat.lt_of_lt_of_le hi h.size) e).trans (h.block i hi e)⟩
theorem Bt.of_below {P : Nat → Prop} {w w' : World} (h : Below w.heap.size w w') : Bt P w w' := ⟨h.os, h.tape, h.output, h.size, fun k hk _ => h.block k hk⟩
theorem Bt.set {P : Nat → Prop} {a w : World} (h : Bt P a w) (r i : Nat) (v : Value) (hr : P r ∨ a.heap.size ≤ r) : Bt P a (w.setCell ⟨r, i, none⟩ v) :=
  ⟨h.os, h.tape, h.output, by simpa [World.setCell] using h.size, fun k hk e => (Below.heap_setCell _ _ _ _ (by show k ≠ r; rintro rfl; rcases hr with hr | hr; exact e hr; omega)).trans (h.block k hk e)⟩
theorem Bt.under {P : Nat → Prop} {B : Nat} {w0 w w' : World} (h : Below B w0 w) (hB : B ≤ w.heap.size) (hp : ∀ k, P k → B ≤ k) (k : Bt P w w') : Below B w0 w' :=
  h.trans ⟨k.os, k.tape, k.output, k.size, fun i hi => k.block i (by omega) (fun q => by have := hp i q; omega)⟩
theorem num_any (x : Int) (w : World) : Calls Try.prog 8 #[.int .i64 x] w fun e w' => e = .returned (.int .i64 x) ∧ w' = w := by
  go_enter Try.func8, Try.ntmps8
  go_wp2
  go_ret
  exact ⟨rfl, rfl⟩
theorem below_drewN (w : World) (n B : Nat) : Below B w (w.drewN n) := ⟨rfl, rfl, rfl, Nat.le_refl _, fun _ _ => rfl⟩
theorem Bt.widen {P Q : Nat → Prop} {w w' : World} (h : Bt P w w') (k : ∀ i, P i → Q i) : Bt Q w w' := ⟨h.os, h.tape, h.output, h.size, fun i hi e => h.block i hi (fun q => e (k i q))⟩
theorem Bt.turned {P : Nat → Prop} {w w' : World} {m : Nat} (h : w.mapTurned w' m) (hm : P m) : Bt P w w' := by
  have g := h.grown
  exact ⟨g.os, g.tape, g.output, g.size, fun k hk e => g.block k hk (fun q => e (by cases q; exact hm))⟩
end Go.Proofs.Ytdkbdmlodngneaa
