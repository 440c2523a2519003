/- Items: what stands in the stack, from the top down, in a new slice. -/
import Derived.Test.YtojblddfggoecaaGreatSSeq
namespace Go.Proofs.YtojblddfggoecaaGreat
open Go.RowKit Go.Shelf
attribute [local go_sem] Oper.semAt_some

def vals (xs : List Int) : List Value := xs.map fun x => Value.int .i64 (wrap64 (x - 1))
theorem number_wrap (x : Int) (w : World) : Calls Tryz.prog 132 #[.int .i64 x] w fun e w' => e = .returned (.int .i64 (wrap64 (x - 1))) ∧ w' = w := by
  go_enter Tryz.func132, Tryz.ntmps132
  go_wp2
  go_ret
  exact ⟨rfl, rfl⟩
theorem vals_snoc (pre : List Int) (x : Int) : vals (pre ++ [x]) = vals pre ++ [.int .i64 (wrap64 (x - 1))] := by simp [vals]
theorem vals_len (pre : List Int) : (vals pre).length = pre.length := by simp [vals]

/-- An append, by a name that the walk does not open. -/
def appS (ats : Array TypeId) (ty : TypeId) (args : Array Value) : Sem Value := Builtin.append_ ats ty args
theorem app_S (ats : Array TypeId) (ty : TypeId) (args : Array Value) : Builtin.append_ ats ty args = appS ats ty args := rfl
attribute [local go_sem ↓] app_S

theorem vals_eq {cap : Nat} {xs : List Int} (hr : ∀ x, x ∈ xs → 1 ≤ x ∧ x ≤ cap) (hc : cap ≤ 1000) : vals xs = xs.map fun x => Value.int .i64 (x - 1) :=
  List.map_congr_left fun x hx => by have := hr x hx; rw [IntWalk.wrap64_in _ (by omega)]
end Go.Proofs.YtojblddfggoecaaGreat
