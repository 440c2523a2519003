/- strings.Clone at every string of at most 2^48 bytes: the same bytes; of what was there nothing turns. By the library's contract of internal/stringslite.Clone, laid at this program. -/
import Derived.Test.YtajghalljkphiabRows
import Derived.WalkKit
import Derived.WalkSpells
import Derived.WalkLawsBesides
import Derived.Shelf.Pu.Clone
namespace Go.Proofs.Ytajghalljkphiab
open Go.RowKit Go.Shelf

/-- Where internal/stringslite.Clone and its types lie in this program. -/
def renC : Ren := ⟨fun _ => 90, fun t => if t = 37 then 71 else if t = 47 then 96 else t, fun x => x⟩

theorem laysC : LaysPu.n25 Try.prog renC :=
  { mixed := by kernel_rfl
    f25 := by kernel_rfl
    t0 := Try.underlying0, a0 := Try.isAgg0, z0 := Try.sizeOf0, v0 := Try.zeroValue0, i0 := by kernel_rfl
    t3 := Try.underlying3, a3 := Try.isAgg3, z3 := Try.sizeOf3, v3 := Try.zeroValue3, i3 := by kernel_rfl
    t4 := Try.underlying4, a4 := Try.isAgg4, z4 := Try.sizeOf4, v4 := Try.zeroValue4, i4 := by kernel_rfl
    t5 := Try.underlying5, a5 := Try.isAgg5, z5 := Try.sizeOf5, v5 := Try.zeroValue5, i5 := by kernel_rfl
    t9 := Try.underlying9, a9 := Try.isAgg9, z9 := Try.sizeOf9, v9 := Try.zeroValue9, i9 := by kernel_rfl
    t37 := Try.underlying71, a37 := Try.isAgg71, z37 := Try.sizeOf71, v37 := Try.zeroValue71, i37 := by kernel_rfl
    t47 := Try.underlying96, a47 := Try.isAgg96, z47 := Try.sizeOf96, v47 := Try.zeroValue96, i47 := by kernel_rfl }

theorem lite_any (s : ByteArray) (w : World) (hlim : s.size ≤ 281474976710656) :
    Calls Try.prog 90 #[.string s] w fun e w' => e = .returned (.string s) ∧ Below w.heap.size w w' :=
  AnyPu.stringslite_Clone laysC s w hlim

set_option maxHeartbeats 400000 in
/-- strings.Clone. -/
theorem clone_any (s : ByteArray) (w : World) (hlim : s.size ≤ 281474976710656) :
    Calls Try.prog 89 #[.string s] w fun e w' => e = .returned (.string s) ∧ Below w.heap.size w w' := by
  go_enter Try.func89, Try.ntmps89
  go_wp2_with (go_at_call 90; refine (lite_any _ _ hlim).mono ?_; rintro e w1 ⟨rfl, hb⟩)
  go_ret
  exact ⟨rfl, hb⟩
end Go.Proofs.Ytajghalljkphiab
