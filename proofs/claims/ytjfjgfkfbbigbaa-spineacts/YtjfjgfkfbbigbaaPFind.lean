/- What a search in a row of arrays finds. -/
import Derived.Test.YtjfjgfkfbbigbaaPRow
namespace Go.Proofs.Ytjfjgfkfbbigbaa
open Go.RowKit

def SortedA (xs : List Ary) : Prop := xs.Pairwise fun x y => x.id < y.id
/-- How many have a lesser number. -/
def pos (xs : List Ary) (t : Int) : Nat := xs.countP fun x => decide (x.id < t)
def has (xs : List Ary) (t : Int) : Bool := xs.any fun x => decide (x.id = t)
theorem pos_le (xs : List Ary) (t : Int) : pos xs t ≤ xs.length := List.countP_le_length
theorem pos_none {xs : List Ary} {t : Int} (h : ∀ x ∈ xs, t ≤ x.id) : pos xs t = 0 := by
  unfold pos
  rw [List.countP_eq_zero]
  intro x hx
  have := h x hx
  simp; omega
theorem pos_spec : ∀ (xs : List Ary) (t : Int), SortedA xs → ∀ (i : Nat) (x : Ary), xs[i]? = some x → (i < pos xs t ↔ x.id < t)
  | [], _, _, i, x, h => by simp at h
  | y :: r, t, hs, i, x, h => by
    have hs' : SortedA r := (List.pairwise_cons.1 hs).2
    have hy := (List.pairwise_cons.1 hs).1
    by_cases ht : y.id < t
    · have e : pos (y :: r) t = pos r t + 1 := by unfold pos; rw [List.countP_cons_of_pos (by simpa using ht)]
      rw [e]
      cases i with
      | zero => simp at h; subst h; simp [ht]
      | succ i =>
        have h' : r[i]? = some x := by simpa using h
        have := pos_spec r t hs' i x h'
        omega
    · have e : pos (y :: r) t = 0 := pos_none (by
        intro z hz
        rcases List.mem_cons.1 hz with rfl | hz
        · omega
        · have := hy z hz; omega)
      rw [e]
      have : t ≤ x.id := by
        have hx : x ∈ y :: r := List.mem_of_getElem? h
        rcases List.mem_cons.1 hx with rfl | hz
        · omega
        · have := hy x hz; omega
      omega
theorem has_iff (xs : List Ary) (t : Int) : has xs t = true ↔ ∃ x ∈ xs, x.id = t := by simp [has]
theorem has_at {xs : List Ary} {t : Int} (hs : SortedA xs) (h : has xs t = true) : ∃ x, xs[pos xs t]? = some x ∧ x.id = t := by
  obtain ⟨x, hx, rfl⟩ := (has_iff xs t).1 h
  obtain ⟨i, hi, e⟩ := List.getElem_of_mem hx
  have hi' : xs[i]? = some x := by rw [List.getElem?_eq_getElem hi, e]
  have h1 := pos_spec xs x.id hs i x hi'
  have h2 : ¬ pos xs x.id < i := by
    intro hlt
    have hlt' : pos xs x.id < xs.length := by omega
    have h3 := pos_spec xs x.id hs _ _ (List.getElem?_eq_getElem hlt')
    have h4 := List.pairwise_iff_getElem.1 hs (pos xs x.id) i hlt' hi hlt
    rw [e] at h4
    omega
  refine ⟨x, ?_, rfl⟩
  rw [show pos xs x.id = i by omega]; exact hi'
theorem has_not {xs : List Ary} {t : Int} (h : has xs t = false) {i : Nat} {x : Ary} (hx : xs[i]? = some x) : x.id ≠ t := by
  intro e
  have : has xs t = true := (has_iff xs t).2 ⟨x, List.mem_of_getElem? hx, e⟩
  rw [h] at this; simp at this

set_option maxRecDepth 20000 in
theorem bs_any {w : World} {v : Value} {xs : List Ary} (h : Arys w v xs) (hs : SortedA xs) (hl : xs.length < 1000000) (t : Int) :
    Calls Try.prog 44 #[v, .int .i64 t, .func (.func 45) #[] #[]] w fun e w' => e = .returned (.tuple #[.int .i64 (pos xs t), .bool (has xs t)]) ∧ Below w.heap.size w w' := by
  have hV : ∃ ao cap, v = .slice ao xs.length cap := by
    rcases h.shape with ⟨rfl, rfl⟩ | ⟨p, cap, rfl, _⟩
    · exact ⟨none, 0, rfl⟩
    · exact ⟨_, cap, rfl⟩
  have hpl := pos_le xs t
  have HS : Hid (∀ (i : Nat) (x : Ary), xs[i]? = some x → (i < pos xs t ↔ x.id < t)) := pos_spec xs t hs
  have HA : Hid (has xs t = true → ∃ x, xs[pos xs t]? = some x ∧ x.id = t) := has_at hs
  have HN : Hid (has xs t = false → ∀ (i : Nat) (x : Ary), xs[i]? = some x → x.id ≠ t) := fun q i x => has_not q
  have HT : Hid (Arys w v xs) := h
  generalize hP : pos xs t = P at *
  generalize hF : has xs t = F at *
  clear hP hF hs h
  generalize hN : xs.length = N at *
  have HL : Hid (xs.length = N) := hN
  clear hN
  obtain ⟨ao, cap, rfl⟩ := hV
  go_enter Try.func44, Try.ntmps44
  go_wp2
  go_loopg [9, 10] N (fun kx s9 s10 wr => ∃ lo hi : Nat, s9 = .int .i64 lo ∧ s10 = .int .i64 hi ∧ lo ≤ P ∧ P ≤ hi ∧ hi ≤ N ∧ hi - lo ≤ kx ∧ Below w.heap.size w wr)
  case atStart => exact ⟨0, N, rfl, rfl, by omega, by omega, by omega, by omega, Below.refl _ _⟩
  case round =>
    obtain ⟨lo, hi, rfl, rfl, h1, h2, h3, h4, hb⟩ := hrel
    by_cases hlt : lo < hi
    · have hm : (lo + hi) / 2 < N := by omega
      obtain ⟨p, cap', hv, _, _, _, hc⟩ := Arys.cells (HT.out.below hb) (by rw [HL.out]; omega)
      obtain ⟨x, hx⟩ : ∃ x, xs[(lo + hi) / 2]? = some x := ⟨_, List.getElem?_eq_getElem (by rw [HL.out]; omega)⟩
      obtain ⟨c0, c1, c2⟩ := hc _ _ hx
      have hx' := HS.out _ _ hx
      rw [HL.out] at hv
      injection hv with e1 e2 e3
      subst e1
      clear hc hx e2 e3
      obtain ⟨xi, xa, xn⟩ := x
      by_cases hyx : xi < t
      · have hlp : (lo + hi) / 2 < P := hx'.2 hyx
        clear hx'
        go_wp2_with (go_at_call 45; refine (byId_lt _ _ _ _ _ hyx).mono ?_; rintro e w1 ⟨rfl, hb1⟩)
        go_roundg (hi - ((lo + hi) / 2 + 1))
        case measure => omega
        case rel => exact ⟨(lo + hi) / 2 + 1, hi, by rw [show ((lo : Int) + (hi : Int)) / 2 + 1 = (((lo + hi) / 2 + 1 : Nat) : Int) by omega], rfl, by omega, h2, h3, by omega, hb.trans (hb1.mono hb.size)⟩
      · have hlp : P ≤ (lo + hi) / 2 := by
          have : ¬ (lo + hi) / 2 < P := fun q => hyx (hx'.1 q)
          omega
        clear hx'
        go_wp2_with (go_at_call 45; refine (byId_ge _ _ _ _ _ (by omega)).mono ?_; rintro e w1 ⟨rr, rfl, hr0, hb1⟩)
        go_roundg ((lo + hi) / 2 - lo)
        case measure => omega
        case rel => exact ⟨lo, (lo + hi) / 2, rfl, by rw [show ((lo : Int) + (hi : Int)) / 2 = (((lo + hi) / 2 : Nat) : Int) by omega], h1, by omega, by omega, by omega, hb.trans (hb1.mono hb.size)⟩
    · obtain rfl : hi = lo := by omega
      obtain rfl : P = hi := by omega
      by_cases hn : P < N
      · obtain ⟨p, cap', hv, _, _, _, hc⟩ := Arys.cells (HT.out.below hb) (by rw [HL.out]; omega)
        obtain ⟨x, hx⟩ : ∃ x, xs[P]? = some x := ⟨_, List.getElem?_eq_getElem (by rw [HL.out]; omega)⟩
        obtain ⟨c0, c1, c2⟩ := hc _ _ hx
        have hx' := HS.out _ _ hx
        rw [HL.out] at hv
        injection hv with e1 e2 e3
        subst e1
        clear hc e2 e3
        cases hF : F with
        | true =>
          subst hF
          obtain ⟨y, hy, hyt⟩ := HA.out rfl
          rw [hx] at hy
          obtain rfl := Option.some.inj hy
          subst hyt
          obtain ⟨xi, xa, xn⟩ := x
          clear hx hy hx' HA HN
          go_wp2_with (go_at_call 45; refine (byId_eq _ _ _ _).mono ?_; rintro e w1 ⟨rfl, hb1⟩)
          go_ret2
          exact ⟨rfl, hb.trans (hb1.mono hb.size)⟩
        | false =>
          subst hF
          have hne := HN.out rfl _ _ hx
          obtain ⟨xi, xa, xn⟩ := x
          have hgt : t < xi := by
            have h5 : ¬ xi < t := fun q => Nat.lt_irrefl _ (hx'.2 q)
            have h6 : xi ≠ t := hne
            omega
          clear hx hx' hne HA HN
          go_wp2_with (go_at_call 45; refine (byId_gt _ _ _ _ _ hgt).mono ?_; rintro e w1 ⟨rfl, hb1⟩)
          go_ret2
          exact ⟨rfl, hb.trans (hb1.mono hb.size)⟩
      · have hF : F = false := by
          cases hF : F with
          | false => rfl
          | true =>
            obtain ⟨y, hy, _⟩ := HA.out hF
            have := (List.getElem?_eq_some_iff.1 hy).1
            rw [HL.out] at this
            omega
        subst hF
        clear HA HN
        go_wp2
        go_ret2
        exact ⟨rfl, hb⟩
end Go.Proofs.Ytjfjgfkfbbigbaa
