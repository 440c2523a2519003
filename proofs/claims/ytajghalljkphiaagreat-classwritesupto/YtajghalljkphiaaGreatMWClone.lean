/- strings.Clone at every string of at most 2^48 bytes: the same bytes; of what was there nothing turns. By the library's contract of internal/stringslite.Clone, laid at this program. -/
import Derived.Test.YtajghalljkphiaaGreatRows
import Derived.WalkKit
import Derived.WalkSpells
import Derived.WalkLawsBesides
import Derived.Shelf.Pu.Clone
namespace Go.Proofs.YtajghalljkphiaaGreat
open Go.RowKit Go.Shelf

/-- Where internal/stringslite.Clone and its types lie in this program. -/
def renC : Ren := ⟨fun _ => 119, fun t => if t = 37 then 77 else if t = 47 then 125 else t, fun x => x⟩

theorem laysC : LaysPu.n25 Tryz.prog renC :=
  { mixed := by kernel_rfl
    f25 := by kernel_rfl
    t0 := Tryz.underlying0, a0 := Tryz.isAgg0, z0 := Tryz.sizeOf0, v0 := Tryz.zeroValue0, i0 := by kernel_rfl
    t3 := Tryz.underlying3, a3 := Tryz.isAgg3, z3 := Tryz.sizeOf3, v3 := Tryz.zeroValue3, i3 := by kernel_rfl
    t4 := Tryz.underlying4, a4 := Tryz.isAgg4, z4 := Tryz.sizeOf4, v4 := Tryz.zeroValue4, i4 := by kernel_rfl
    t5 := Tryz.underlying5, a5 := Tryz.isAgg5, z5 := Tryz.sizeOf5, v5 := Tryz.zeroValue5, i5 := by kernel_rfl
    t9 := Tryz.underlying9, a9 := Tryz.isAgg9, z9 := Tryz.sizeOf9, v9 := Tryz.zeroValue9, i9 := by kernel_rfl
    t37 := Tryz.underlying77, a37 := Tryz.isAgg77, z37 := Tryz.sizeOf77, v37 := Tryz.zeroValue77, i37 := by kernel_rfl
    t47 := Tryz.underlying125, a47 := Tryz.isAgg125, z47 := Tryz.sizeOf125, v47 := Tryz.zeroValue125, i47 := by kernel_rfl }

theorem lite_any (s : ByteArray) (w : World) (hlim : s.size ≤ 281474976710656) :
    Calls Tryz.prog 119 #[.string s] w fun e w' => e = .returned (.string s) ∧ Below w.heap.size w w' :=
  AnyPu.stringslite_Clone laysC s w hlim

set_option maxHeartbeats 400000 in
/-- strings.Clone. -/
theorem clone_any (s : ByteArray) (w : World) (hlim : s.size ≤ 281474976710656) :
    Calls Tryz.prog 118 #[.string s] w fun e w' => e = .returned (.string s) ∧ Below w.heap.size w w' := by
  go_enter Tryz.func118, Tryz.ntmps118
  go_wp2_with (go_at_call 119; refine (lite_any _ _ hlim).mono ?_; rintro e w1 ⟨rfl, hb⟩)
  go_ret
  exact ⟨rfl, hb⟩
end Go.Proofs.YtajghalljkphiaaGreat
