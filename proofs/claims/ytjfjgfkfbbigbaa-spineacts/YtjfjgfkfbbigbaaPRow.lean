/- Arrays as a row of structs of three numbers: what a search finds in it; one more, one less. -/
import Derived.Test.YtjfjgfkfbbigbaaSApp
import Derived.Deep.RegionLaw
import Derived.Deep.LoopGhost
import Derived.Lib.SliceRun
namespace Go.Proofs.Ytjfjgfkfbbigbaa
open Go.RowKit

/-- An array: its number, its place, how many words it has. -/
structure Ary where
  id : Int
  at_ : Int
  n : Int
instance : Inhabited Ary := ⟨⟨0, 0, 0⟩⟩

def cellsA : List Ary → List Value
  | [] => []
  | x :: r => .int .i64 x.id :: .int .i64 x.at_ :: .int .i64 x.n :: cellsA r
theorem cellsA_length : ∀ xs : List Ary, (cellsA xs).length = xs.length * 3
  | [] => rfl
  | x :: r => by simp [cellsA, cellsA_length r]; omega
theorem cellsA_append : ∀ xs ys : List Ary, cellsA (xs ++ ys) = cellsA xs ++ cellsA ys
  | [], _ => rfl
  | x :: r, ys => by simp [cellsA, cellsA_append r ys]
theorem cellsA_one : ∀ (xs : List Ary), ∀ u ∈ cellsA xs, u.oneCell' = true
  | [], u, h => by simp [cellsA] at h
  | x :: r, u, h => by
    simp only [cellsA, List.mem_cons] at h
    rcases h with rfl | rfl | rfl | h
    · rfl
    · rfl
    · rfl
    · exact cellsA_one r u h
theorem cellsA_at : ∀ (xs : List Ary) (i : Nat) (x : Ary), xs[i]? = some x → (cellsA xs)[i * 3]? = some (.int .i64 x.id) ∧ (cellsA xs)[i * 3 + 1]? = some (.int .i64 x.at_) ∧ (cellsA xs)[i * 3 + 2]? = some (.int .i64 x.n)
  | [], i, x, h => by simp at h
  | y :: r, 0, x, h => by
    simp at h; subst h
    exact ⟨rfl, rfl, rfl⟩
  | y :: r, i + 1, x, h => by
    have h' : r[i]? = some x := by simpa using h
    obtain ⟨a, b, c⟩ := cellsA_at r i x h'
    rw [show (i + 1) * 3 = i * 3 + 1 + 1 + 1 by omega]
    refine ⟨?_, ?_, ?_⟩
    · simpa [cellsA] using a
    · rw [show i * 3 + 1 + 1 + 1 + 1 = (i * 3 + 1) + 1 + 1 + 1 by omega]; simpa [cellsA] using b
    · rw [show i * 3 + 1 + 1 + 1 + 2 = (i * 3 + 2) + 1 + 1 + 1 by omega]; simpa [cellsA] using c

/-- v is a row of these arrays. -/
def Arys (w : World) (v : Value) (xs : List Ary) : Prop := w.ownsRow 0 72 3 v xs.length (cellsA xs)
theorem Arys.below {w w' : World} {v : Value} {xs : List Ary} (h : Arys w v xs) (k : Below w.heap.size w w') : Arys w' v xs :=
  World.ownsRow.kept h (row := none) ⟨k.os, k.tape, k.output, k.size, fun i hi _ => k.block i hi⟩ (by cases h : v.ownBlock <;> simp)
theorem Arys.nil (w : World) : Arys w (.slice none 0 0) [] := World.ownsRow_nil w 0 _ 3
theorem Arys.shape {w : World} {v : Value} {xs : List Ary} (h : Arys w v xs) : (v = .slice none 0 0 ∧ xs = []) ∨
    ∃ p cap, v = .slice (some ⟨p, 0, none⟩) xs.length cap ∧ xs.length ≤ cap ∧ cap ≤ maxLen ∧ ∃ cur : Array Value, w.heap[p]? = some (.cells cur 72 (0, 0)) ∧ cur.size = cap * 3 ∧ cur.toList.take (xs.length * 3) = cellsA xs := by
  rcases h.2 with ⟨h1, h2⟩ | ⟨g, cap, cur, rfl, _, hg, hc, hm, hs, ht⟩
  · exact .inl ⟨h1, List.length_eq_zero_iff.1 h2⟩
  · exact .inr ⟨g, cap, rfl, hc, hm, cur, hg, hs, ht⟩
/-- Where the row lies; the cells of each array. -/
theorem Arys.cells {w : World} {v : Value} {xs : List Ary} (h : Arys w v xs) (hn : 0 < xs.length) : ∃ p cap, v = .slice (some ⟨p, 0, none⟩) xs.length cap ∧ p < w.heap.size ∧ xs.length ≤ cap ∧ (∀ j, w.frozen? ⟨p, j, none⟩ = false) ∧
    ∀ i x, xs[i]? = some x → w.cell? ⟨p, i * 3, none⟩ = some (.int .i64 x.id) ∧ w.cell? ⟨p, i * 3 + 1, none⟩ = some (.int .i64 x.at_) ∧ w.cell? ⟨p, i * 3 + 2, none⟩ = some (.int .i64 x.n) := by
  rcases h.shape with ⟨_, rfl⟩ | ⟨p, cap, rfl, hc, _, cur, hp, hs, ht⟩
  · simp at hn
  · refine ⟨p, cap, rfl, (Array.getElem?_eq_some_iff.1 hp).1, hc, fun j => by simp [World.frozen?, hp], fun i x hx => ?_⟩
    have hi : i < xs.length := (List.getElem?_eq_some_iff.1 hx).1
    obtain ⟨a, b, c⟩ := cellsA_at xs i x hx
    rw [← ht] at a b c
    rw [List.getElem?_take, if_pos (by omega)] at a b c
    simp only [World.cell?, hp]
    refine ⟨by simpa using a, by simpa using b, by simpa using c⟩

theorem nan_no (x : Int) (w : World) : Calls Try.prog 62 #[.int .i64 x] w fun e w' => e = .returned (.bool false) ∧ w' = w := by
  go_enter Try.func62, Try.ntmps62
  go_wp2
  go_ret
  exact ⟨rfl, rfl⟩
theorem cmp_lt (a b : Int) (w : World) (h : a < b) : Calls Try.prog 56 #[.int .i64 a, .int .i64 b] w fun e w' => e = .returned (.int .i64 (-1)) ∧ w' = w := by
  go_enter Try.func56, Try.ntmps56
  go_wp2_with (go_at_call 62; refine (nan_no _ _).mono ?_; rintro e w1 ⟨rfl, rfl⟩)
  go_ret
  exact ⟨rfl, rfl⟩
theorem cmp_eq (a : Int) (w : World) : Calls Try.prog 56 #[.int .i64 a, .int .i64 a] w fun e w' => e = .returned (.int .i64 0) ∧ w' = w := by
  go_enter Try.func56, Try.ntmps56
  go_wp2_with (go_at_call 62; refine (nan_no _ _).mono ?_; rintro e w1 ⟨rfl, rfl⟩)
  go_ret
  exact ⟨rfl, rfl⟩
theorem cmp_gt (a b : Int) (w : World) (h : b < a) : Calls Try.prog 56 #[.int .i64 a, .int .i64 b] w fun e w' => e = .returned (.int .i64 1) ∧ w' = w := by
  have h1 : decide (a < b) = false := by simp; omega
  go_enter Try.func56, Try.ntmps56
  go_wp2_with (go_at_call 62; refine (nan_no _ _).mono ?_; rintro e w1 ⟨rfl, rfl⟩)
  go_ret
  exact ⟨rfl, rfl⟩
theorem byId_lt (x y z t : Int) (w : World) (h : x < t) : Calls Try.prog 45 #[.agg #[.int .i64 x, .int .i64 y, .int .i64 z], .int .i64 t] w fun e w' => e = .returned (.int .i64 (-1)) ∧ Below w.heap.size w w' := by
  go_enter Try.func45, Try.ntmps45
  go_wp2_with (go_at_call 56; refine (cmp_lt _ _ _ h).mono ?_; rintro e w1 ⟨rfl, rfl⟩)
  go_ret
  exact ⟨rfl, (Below.refl _ _).alloc (Nat.le_refl _) _⟩
theorem byId_eq (y z t : Int) (w : World) : Calls Try.prog 45 #[.agg #[.int .i64 t, .int .i64 y, .int .i64 z], .int .i64 t] w fun e w' => e = .returned (.int .i64 0) ∧ Below w.heap.size w w' := by
  go_enter Try.func45, Try.ntmps45
  go_wp2_with (go_at_call 56; refine (cmp_eq _ _).mono ?_; rintro e w1 ⟨rfl, rfl⟩)
  go_ret
  exact ⟨rfl, (Below.refl _ _).alloc (Nat.le_refl _) _⟩
theorem byId_gt (x y z t : Int) (w : World) (h : t < x) : Calls Try.prog 45 #[.agg #[.int .i64 x, .int .i64 y, .int .i64 z], .int .i64 t] w fun e w' => e = .returned (.int .i64 1) ∧ Below w.heap.size w w' := by
  go_enter Try.func45, Try.ntmps45
  go_wp2_with (go_at_call 56; refine (cmp_gt _ _ _ h).mono ?_; rintro e w1 ⟨rfl, rfl⟩)
  go_ret
  exact ⟨rfl, (Below.refl _ _).alloc (Nat.le_refl _) _⟩
theorem byId_ge (x y z t : Int) (w : World) (h : t ≤ x) : Calls Try.prog 45 #[.agg #[.int .i64 x, .int .i64 y, .int .i64 z], .int .i64 t] w fun e w' => ∃ r : Int, e = .returned (.int .i64 r) ∧ 0 ≤ r ∧ Below w.heap.size w w' := by
  by_cases hh : x = t
  · subst hh
    exact (byId_eq _ _ _ _).mono fun e w' q => ⟨0, q.1, by omega, q.2⟩
  · exact (byId_gt _ _ _ _ _ (by omega)).mono fun e w' q => ⟨1, q.1, by omega, q.2⟩
end Go.Proofs.Ytjfjgfkfbbigbaa
