/- Arrays as a row of structs of three numbers: what a search finds in it; one more, one less. -/
import Derived.Test.YtdkbdmlodngneaaMS5
import Derived.Deep.RegionLaw
import Derived.Deep.LoopGhost
import Derived.Lib.SliceRun
import Derived.Lib.LazyBuf
namespace Go.Proofs.Ytdkbdmlodngneaa
open Go.RowKit

/-- An array: its number, its place, how many words it has. -/
structure Ary where
  id : Int
  at_ : Int
  n : Int
instance : Inhabited Ary := ⟨⟨0, 0, 0⟩⟩

def cellsA : List Ary → List Value
  | [] => []
  | x :: r => .int .i64 x.id :: .int .i64 x.at_ :: .int .i64 x.n :: cellsA r
theorem cellsA_length : ∀ xs : List Ary, (cellsA xs).length = xs.length * 3
  | [] => rfl
  | x :: r => by simp [cellsA, cellsA_length r]; omega
theorem cellsA_append : ∀ xs ys : List Ary, cellsA (xs ++ ys) = cellsA xs ++ cellsA ys
  | [], _ => rfl
  | x :: r, ys => by simp [cellsA, cellsA_append r ys]
theorem cellsA_one : ∀ (xs : List Ary), ∀ u ∈ cellsA xs, u.oneCell' = true
  | [], u, h => by simp [cellsA] at h
  | x :: r, u, h => by
    simp only [cellsA, List.mem_cons] at h
    rcases h with rfl | rfl | rfl | h
    · rfl
    · rfl
    · rfl
    · exact cellsA_one r u h
theorem cellsA_at : ∀ (xs : List Ary) (i : Nat) (x : Ary), xs[i]? = some x → (cellsA xs)[i * 3]? = some (.int .i64 x.id) ∧ (cellsA xs)[i * 3 + 1]? = some (.int .i64 x.at_) ∧ (cellsA xs)[i * 3 + 2]? = some (.int .i64 x.n)
  | [], i, x, h => by simp at h
  | y :: r, 0, x, h => by
    simp at h; subst h
    exact ⟨rfl, rfl, rfl⟩
  | y :: r, i + 1, x, h => by
    have h' : r[i]? = some x := by simpa using h
    obtain ⟨a, b, c⟩ := cellsA_at r i x h'
    rw [show (i + 1) * 3 = i * 3 + 1 + 1 + 1 by omega]
    refine ⟨?_, ?_, ?_⟩
    · simpa [cellsA] using a
    · rw [show i * 3 + 1 + 1 + 1 + 1 = (i * 3 + 1) + 1 + 1 + 1 by omega]; simpa [cellsA] using b
    · rw [show i * 3 + 1 + 1 + 1 + 2 = (i * 3 + 2) + 1 + 1 + 1 by omega]; simpa [cellsA] using c

end Go.Proofs.Ytdkbdmlodngneaa
/- What a search in a row of arrays finds. -/
namespace Go.Proofs.Ytdkbdmlodngneaa
open Go.RowKit

def SortedA (xs : List Ary) : Prop := xs.Pairwise fun x y => x.id < y.id
/-- How many have a lesser number. -/
def pos (xs : List Ary) (t : Int) : Nat := xs.countP fun x => decide (x.id < t)
def has (xs : List Ary) (t : Int) : Bool := xs.any fun x => decide (x.id = t)
theorem pos_le (xs : List Ary) (t : Int) : pos xs t ≤ xs.length := List.countP_le_length
theorem pos_none {xs : List Ary} {t : Int} (h : ∀ x ∈ xs, t ≤ x.id) : pos xs t = 0 := by
  unfold pos
  rw [List.countP_eq_zero]
  intro x hx
  have := h x hx
  simp; omega
theorem pos_spec : ∀ (xs : List Ary) (t : Int), SortedA xs → ∀ (i : Nat) (x : Ary), xs[i]? = some x → (i < pos xs t ↔ x.id < t)
  | [], _, _, i, x, h => by simp at h
  | y :: r, t, hs, i, x, h => by
    have hs' : SortedA r := (List.pairwise_cons.1 hs).2
    have hy := (List.pairwise_cons.1 hs).1
    by_cases ht : y.id < t
    · have e : pos (y :: r) t = pos r t + 1 := by unfold pos; rw [List.countP_cons_of_pos (by simpa using ht)]
      rw [e]
      cases i with
      | zero => simp at h; subst h; simp [ht]
      | succ i =>
        have h' : r[i]? = some x := by simpa using h
        have := pos_spec r t hs' i x h'
        omega
    · have e : pos (y :: r) t = 0 := pos_none (by
        intro z hz
        rcases List.mem_cons.1 hz with rfl | hz
        · omega
        · have := hy z hz; omega)
      rw [e]
      have : t ≤ x.id := by
        have hx : x ∈ y :: r := List.mem_of_getElem? h
        rcases List.mem_cons.1 hx with rfl | hz
        · omega
        · have := hy x hz; omega
      omega
theorem has_iff (xs : List Ary) (t : Int) : has xs t = true ↔ ∃ x ∈ xs, x.id = t := by simp [has]
theorem has_at {xs : List Ary} {t : Int} (hs : SortedA xs) (h : has xs t = true) : ∃ x, xs[pos xs t]? = some x ∧ x.id = t := by
  obtain ⟨x, hx, rfl⟩ := (has_iff xs t).1 h
  obtain ⟨i, hi, e⟩ := List.getElem_of_mem hx
  have hi' : xs[i]? = some x := by rw [List.getElem?_eq_getElem hi, e]
  have h1 := pos_spec xs x.id hs i x hi'
  have h2 : ¬ pos xs x.id < i := by
    intro hlt
    have hlt' : pos xs x.id < xs.length := by omega
    have h3 := pos_spec xs x.id hs _ _ (List.getElem?_eq_getElem hlt')
    have h4 := List.pairwise_iff_getElem.1 hs (pos xs x.id) i hlt' hi hlt
    rw [e] at h4
    omega
  refine ⟨x, ?_, rfl⟩
  rw [show pos xs x.id = i by omega]; exact hi'
theorem has_not {xs : List Ary} {t : Int} (h : has xs t = false) {i : Nat} {x : Ary} (hx : xs[i]? = some x) : x.id ≠ t := by
  intro e
  have : has xs t = true := (has_iff xs t).2 ⟨x, List.mem_of_getElem? hx, e⟩
  rw [h] at this; simp at this

end Go.Proofs.Ytdkbdmlodngneaa
/- find, behind; slices.Delete of one array; remove, add. -/
namespace Go.Proofs.Ytdkbdmlodngneaa
open Go.RowKit

theorem cellsA_take (xs : List Ary) (i j : Nat) (hj : j < i * 3) (hi : i ≤ xs.length) : (cellsA (xs.take i))[j]? = (cellsA xs)[j]? := by
  conv => rhs; rw [← List.take_append_drop i xs, cellsA_append]
  rw [List.getElem?_append_left (by rw [cellsA_length, List.length_take]; omega)]
theorem cellsA_drop (xs : List Ary) (i j : Nat) (hi : i ≤ xs.length) : (cellsA (xs.drop i))[j]? = (cellsA xs)[i * 3 + j]? := by
  conv => rhs; rw [← List.take_append_drop i xs, cellsA_append]
  have e : (cellsA (xs.take i)).length = i * 3 := by rw [cellsA_length, List.length_take, Nat.min_eq_left hi]
  rw [List.getElem?_append_right (by rw [e]; omega), e, Nat.add_sub_cancel_left]
theorem erase_cells (xs : List Ary) (i : Nat) (hi : i < xs.length) (F : Nat → Value) (hF : ∀ j, j < xs.length * 3 → (cellsA xs)[j]? = some (F j)) (j : Nat) (hj : j < (xs.length - 1) * 3) :
    (cellsA (xs.eraseIdx i))[j]? = some (if i * 3 ≤ j ∧ j < i * 3 + (cellsA (xs.drop (i + 1))).length then (cellsA (xs.drop (i + 1)))[j - i * 3]?.getD default else F j) := by
  have hl : (cellsA (xs.drop (i + 1))).length = (xs.length - (i + 1)) * 3 := by rw [cellsA_length, List.length_drop]
  have e : (cellsA (xs.take i)).length = i * 3 := by rw [cellsA_length, List.length_take, Nat.min_eq_left (by omega)]
  rw [List.eraseIdx_eq_take_drop_succ, cellsA_append]
  by_cases h : i * 3 ≤ j
  · rw [if_pos ⟨h, by rw [hl]; omega⟩, List.getElem?_append_right (by rw [e]; exact h), e]
    rw [List.getElem?_eq_getElem (by rw [hl]; omega)]; rfl
  · rw [if_neg (fun q => h q.1), List.getElem?_append_left (by rw [e]; omega), cellsA_take xs i j (by omega) (by omega)]
    exact hF j (by omega)

theorem setCells_grown (w : World) (b o : Nat) (vs : List Value) : w.grownBy (w.setCells b o vs) (some b) := by
  induction vs generalizing w o with
  | nil => exact ⟨rfl, rfl, rfl, Nat.le_refl _, fun _ _ _ => rfl⟩
  | cons v r ih =>
    have h := ih (w.setCell ⟨b, o, none⟩ v) (o + 1)
    refine ⟨h.os, h.tape, h.output, Nat.le_trans (by simp [World.setCell]) h.size, fun k hk e => (h.block k (by simp [World.setCell]; exact hk) e).trans (Below.heap_setCell _ _ _ _ (fun q => e (by rw [q])))⟩
/-- An append, by a name that the walk does not open. -/
def appA (ats : Array TypeId) (ty : TypeId) (args : Array Value) : Sem Value := Builtin.append_ ats ty args
theorem app_A (ats : Array TypeId) (ty : TypeId) (args : Array Value) : Builtin.append_ ats ty args = appA ats ty args := rfl
attribute [local go_sem ↓] app_A
end Go.Proofs.Ytdkbdmlodngneaa
/- A space as numbers: which arrays there are, where they lie, how far a cycle has come; what each call makes of that. -/
namespace Go.Proofs.Ytdkbdmlodngneaa
open Go.RowKit

/-- What a cycle's struct holds. -/
structure Cyc where
  on : Bool
  last : Int
  id : Int
  cop : Bool
  copied : Int
  tgt : Int
  next : Int
/-- What a space's struct holds. -/
structure St where
  base : Int
  half : Int
  up : Bool
  given : Int
  xs : List Ary
  taken : Int
  dropped : Int
  leaving : Int
  c : Cyc
def fillOf (q : St) : Int := if q.up = true then q.base + q.half else q.base
def othOf (q : St) : Int := if q.up = true then q.base else q.base + q.half
def topOf (q : St) : Int := fillOf q + q.taken - q.leaving
theorem halves (q : St) : (fillOf q = q.base ∧ othOf q = q.base + q.half) ∨ (fillOf q = q.base + q.half ∧ othOf q = q.base) := by
  unfold fillOf othOf; cases q.up <;> simp

/-- The sum of g over those with a number above lo, not above hi. -/
def remG (g : Ary → Int) (lo hi : Int) : List Ary → Int
  | [] => 0
  | x :: r => (if lo < x.id ∧ x.id ≤ hi then g x else 0) + remG g lo hi r
def sumG (g : Ary → Int) : List Ary → Int
  | [] => 0
  | x :: r => g x + sumG g r
abbrev sz (x : Ary) : Int := x.n + 4
abbrev wt (x : Ary) : Int := x.n + 2
theorem remG_pos {g : Ary → Int} {lo hi : Int} : ∀ {xs : List Ary}, (∀ x ∈ xs, lo < x.id → x.id ≤ hi → 0 ≤ g x) → 0 ≤ remG g lo hi xs
  | [], _ => Int.le_refl _
  | x :: r, h => by
    have h1 := remG_pos (g := g) (lo := lo) (hi := hi) (xs := r) fun y hy => h y (List.mem_cons_of_mem _ hy)
    unfold remG
    split
    · have := h x (by simp) (by omega) (by omega); omega
    · omega
theorem sumG_pos {g : Ary → Int} : ∀ {xs : List Ary}, (∀ x ∈ xs, 0 ≤ g x) → 0 ≤ sumG g xs
  | [], _ => Int.le_refl _
  | x :: r, h => by
    have h1 := sumG_pos (g := g) (xs := r) fun y hy => h y (List.mem_cons_of_mem _ hy)
    have := h x (by simp)
    unfold sumG; omega
theorem remG_append (g : Ary → Int) (lo hi : Int) : ∀ xs ys : List Ary, remG g lo hi (xs ++ ys) = remG g lo hi xs + remG g lo hi ys
  | [], ys => by simp [remG]
  | x :: r, ys => by simp only [List.cons_append, remG, remG_append g lo hi r ys]; omega
theorem sumG_append (g : Ary → Int) : ∀ xs ys : List Ary, sumG g (xs ++ ys) = sumG g xs + sumG g ys
  | [], ys => by simp [sumG]
  | x :: r, ys => by simp only [List.cons_append, sumG, sumG_append g r ys]; omega
theorem remG_none {g : Ary → Int} {lo hi : Int} : ∀ {xs : List Ary}, (∀ x ∈ xs, ¬ (lo < x.id ∧ x.id ≤ hi)) → remG g lo hi xs = 0
  | [], _ => rfl
  | x :: r, h => by
    unfold remG
    rw [if_neg (h x (by simp)), remG_none (xs := r) fun y hy => h y (List.mem_cons_of_mem _ hy)]; rfl
theorem remG_all {g : Ary → Int} {lo hi : Int} : ∀ {xs : List Ary}, (∀ x ∈ xs, lo < x.id ∧ x.id ≤ hi) → remG g lo hi xs = sumG g xs
  | [], _ => rfl
  | x :: r, h => by
    unfold remG sumG
    rw [if_pos (h x (by simp)), remG_all (xs := r) fun y hy => h y (List.mem_cons_of_mem _ hy)]
/-- The first above lo, and the others. -/
theorem remG_first {g : Ary → Int} {lo hi : Int} : ∀ {xs : List Ary} {x : Ary}, SortedA xs → x ∈ xs → lo < x.id → x.id ≤ hi → (∀ y ∈ xs, lo < y.id → x.id ≤ y.id) → remG g lo hi xs = g x + remG g x.id hi xs
  | [], x, _, hx, _, _, _ => by simp at hx
  | y :: r, x, hs, hx, h1, h2, h3 => by
    have hy := (List.pairwise_cons.1 hs).1
    have hs' : SortedA r := (List.pairwise_cons.1 hs).2
    rcases List.mem_cons.1 hx with e | hx
    · subst e
      unfold remG
      rw [if_pos ⟨h1, h2⟩, if_neg (by omega)]
      have : remG g lo hi r = remG g x.id hi r := by
        rw [show remG g lo hi r = remG g x.id hi r from ?_]
        have aux : ∀ zs : List Ary, (∀ z ∈ zs, x.id < z.id) → remG g lo hi zs = remG g x.id hi zs := by
          intro zs
          induction zs with
          | nil => intro _; rfl
          | cons z zs ih =>
            intro hz
            have := hz z (by simp)
            unfold remG
            rw [ih fun u hu => hz u (List.mem_cons_of_mem _ hu)]
            by_cases hzh : z.id ≤ hi
            · rw [if_pos ⟨by omega, hzh⟩, if_pos ⟨this, hzh⟩]
            · rw [if_neg (fun q => hzh q.2), if_neg (fun q => hzh q.2)]
        exact aux r hy
      omega
    · have hyx := hy x hx
      have hny : ¬ lo < y.id := fun q => by have := h3 y (by simp) q; omega
      have ih := remG_first (g := g) (lo := lo) (hi := hi) (xs := r) hs' hx h1 h2 fun z hz => h3 z (List.mem_cons_of_mem _ hz)
      unfold remG
      rw [if_neg (fun q => hny q.1), if_neg (by omega), ih]; omega
theorem remG_erase {g : Ary → Int} {lo hi : Int} : ∀ {xs : List Ary} {i : Nat} {x : Ary}, xs[i]? = some x → remG g lo hi xs = remG g lo hi (xs.eraseIdx i) + (if lo < x.id ∧ x.id ≤ hi then g x else 0)
  | [], i, x, h => by simp at h
  | y :: r, 0, x, h => by
    simp at h; subst h
    simp only [remG, List.eraseIdx_cons_zero]; omega
  | y :: r, i + 1, x, h => by
    have h' : r[i]? = some x := by simpa using h
    have ih := remG_erase (g := g) (lo := lo) (hi := hi) h'
    simp only [remG, List.eraseIdx_cons_succ]; omega
theorem sumG_erase {g : Ary → Int} : ∀ {xs : List Ary} {i : Nat} {x : Ary}, xs[i]? = some x → sumG g xs = sumG g (xs.eraseIdx i) + g x
  | [], i, x, h => by simp at h
  | y :: r, 0, x, h => by
    simp at h; subst h
    simp only [sumG, List.eraseIdx_cons_zero]; omega
  | y :: r, i + 1, x, h => by
    have h' : r[i]? = some x := by simpa using h
    have ih := sumG_erase (g := g) h'
    simp only [sumG, List.eraseIdx_cons_succ]; omega
theorem remG_set {g : Ary → Int} {lo hi : Int} : ∀ {xs : List Ary} {i : Nat} {x y : Ary}, xs[i]? = some x → y.id = x.id → g y = g x → remG g lo hi (xs.set i y) = remG g lo hi xs
  | [], i, x, y, h, _, _ => by simp at h
  | z :: r, 0, x, y, h, e1, e2 => by
    simp at h; subst h
    simp only [remG, List.set_cons_zero, e1, e2]
  | z :: r, i + 1, x, y, h, e1, e2 => by
    have h' : r[i]? = some x := by simpa using h
    simp only [remG, List.set_cons_succ, remG_set h' e1 e2]
theorem sumG_set {g : Ary → Int} : ∀ {xs : List Ary} {i : Nat} {x y : Ary}, xs[i]? = some x → g y = g x → sumG g (xs.set i y) = sumG g xs
  | [], i, x, y, h, _ => by simp at h
  | z :: r, 0, x, y, h, e2 => by
    simp at h; subst h
    simp only [sumG, List.set_cons_zero, e2]
  | z :: r, i + 1, x, y, h, e2 => by
    have h' : r[i]? = some x := by simpa using h
    simp only [sumG, List.set_cons_succ, sumG_set h' e2]
theorem set_shape : ∀ {xs : List Ary} {i : Nat} {x y : Ary}, xs[i]? = some x → y.id = x.id → y.n = x.n → (xs.set i y).map (fun z => (z.id, z.n)) = xs.map (fun z => (z.id, z.n))
  | [], i, x, y, h, _, _ => by simp at h
  | z :: r, 0, x, y, h, e1, e2 => by
    simp at h; subst h
    simp [e1, e2]
  | z :: r, i + 1, x, y, h, e1, e2 => by
    have h' : r[i]? = some x := by simpa using h
    simp only [List.set_cons_succ, List.map_cons, set_shape h' e1 e2]
theorem sorted_iff (xs : List Ary) : SortedA xs ↔ (xs.map (fun z => (z.id, z.n))).Pairwise (fun a b => a.1 < b.1) := by
  unfold SortedA; rw [List.pairwise_map]
theorem same_of_id {xs : List Ary} (hs : SortedA xs) {x y : Ary} (hx : x ∈ xs) (hy : y ∈ xs) (e : x.id = y.id) : x = y := by
  obtain ⟨i, hi, rfl⟩ := List.getElem_of_mem hx
  obtain ⟨j, hj, rfl⟩ := List.getElem_of_mem hy
  have h := List.pairwise_iff_getElem.1 hs
  rcases Nat.lt_trichotomy i j with q | q | q
  · have := h i j hi hj q; omega
  · subst q; rfl
  · have := h j i hj hi q; omega
theorem mem_set_or {xs : List Ary} (hs : SortedA xs) {k : Nat} {x x' y : Ary} (hk : xs[k]? = some x) (h : y ∈ xs.set k x') : y = x' ∨ (y ∈ xs ∧ y.id ≠ x.id) := by
  have hk' : k < xs.length := (List.getElem?_eq_some_iff.1 hk).1
  obtain ⟨j, hj, rfl⟩ := List.getElem_of_mem h
  have hj' : j < xs.length := by simpa using hj
  by_cases ejk : k = j
  · left; subst ejk; simp
  · right
    rw [List.getElem_set_ne ejk]
    refine ⟨List.getElem_mem _, fun q => ejk ?_⟩
    have hx : x = xs[k] := by rw [List.getElem?_eq_getElem hk'] at hk; exact (Option.some.inj hk).symm
    have h := List.pairwise_iff_getElem.1 hs
    rcases Nat.lt_trichotomy k j with r | r | r
    · have := h k j hk' hj' r; rw [← hx] at this; omega
    · exact r
    · have := h j k hj' hk' r; rw [← hx] at this; omega
theorem mem_erase_or {xs : List Ary} (hs : SortedA xs) {k : Nat} {x y : Ary} (hk : xs[k]? = some x) : y ∈ xs.eraseIdx k ↔ y ∈ xs ∧ y.id ≠ x.id := by
  have hk' : k < xs.length := (List.getElem?_eq_some_iff.1 hk).1
  have hx : x = xs[k] := by rw [List.getElem?_eq_getElem hk'] at hk; exact (Option.some.inj hk).symm
  have h := List.pairwise_iff_getElem.1 hs
  rw [List.mem_eraseIdx_iff_getElem]
  constructor
  · rintro ⟨j, hj, hjk, rfl⟩
    refine ⟨List.getElem_mem _, fun q => ?_⟩
    rcases Nat.lt_trichotomy k j with r | r | r
    · have := h k j hk' hj r; rw [← hx] at this; omega
    · exact hjk r.symm
    · have := h j k hj hk' r; rw [← hx] at this; omega
  · rintro ⟨hy, hne⟩
    obtain ⟨j, hj, rfl⟩ := List.getElem_of_mem hy
    refine ⟨j, hj, fun q => hne ?_, rfl⟩
    subst q; rw [hx]
theorem sorted_erase {xs : List Ary} (hs : SortedA xs) (k : Nat) : SortedA (xs.eraseIdx k) := List.Pairwise.sublist (List.eraseIdx_sublist xs k) hs
end Go.Proofs.Ytdkbdmlodngneaa
