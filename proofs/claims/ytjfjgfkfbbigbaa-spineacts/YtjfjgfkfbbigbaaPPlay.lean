/- SpineActs: the law's own list of arrays, as it lies in memory. -/
import Derived.Test.YtjfjgfkfbbigbaaPRoom
namespace Go.Proofs.Ytjfjgfkfbbigbaa
open Go.RowKit

/-- An array as the law keeps it: its row of words at block blk. -/
structure Rec where
  id : Int
  n : Nat
  gone : Bool
  by_ : Int
  blk : Nat
  F : Nat → Int
def cellsR : List Rec → List Value
  | [] => []
  | x :: r => .int .i64 x.id :: .slice (some ⟨x.blk, 0, none⟩) x.n x.n :: .bool x.gone :: .int .i64 x.by_ :: cellsR r
theorem cellsR_length : ∀ xs : List Rec, (cellsR xs).length = xs.length * 4
  | [] => rfl
  | x :: r => by simp [cellsR, cellsR_length r]; omega
theorem cellsR_append : ∀ xs ys : List Rec, cellsR (xs ++ ys) = cellsR xs ++ cellsR ys
  | [], _ => rfl
  | x :: r, ys => by simp [cellsR, cellsR_append r ys]
theorem cellsR_one : ∀ (xs : List Rec), ∀ u ∈ cellsR xs, u.oneCell' = true
  | [], u, h => by simp [cellsR] at h
  | x :: r, u, h => by
    simp only [cellsR, List.mem_cons] at h
    rcases h with rfl | rfl | rfl | rfl | h
    · rfl
    · rfl
    · rfl
    · rfl
    · exact cellsR_one r u h
theorem cellsR_at : ∀ (xs : List Rec) (i : Nat) (x : Rec), xs[i]? = some x → (cellsR xs)[i * 4]? = some (.int .i64 x.id) ∧ (cellsR xs)[i * 4 + 1]? = some (.slice (some ⟨x.blk, 0, none⟩) x.n x.n) ∧ (cellsR xs)[i * 4 + 2]? = some (.bool x.gone) ∧ (cellsR xs)[i * 4 + 3]? = some (.int .i64 x.by_)
  | [], i, x, h => by simp at h
  | y :: r, 0, x, h => by
    simp at h; subst h
    exact ⟨rfl, rfl, rfl, rfl⟩
  | y :: r, i + 1, x, h => by
    have h' : r[i]? = some x := by simpa using h
    obtain ⟨a, b, c, d⟩ := cellsR_at r i x h'
    refine ⟨?_, ?_, ?_, ?_⟩
    · rw [show (i + 1) * 4 = i * 4 + 1 + 1 + 1 + 1 by omega]; simpa [cellsR] using a
    · rw [show (i + 1) * 4 + 1 = (i * 4 + 1) + 1 + 1 + 1 + 1 by omega]; simpa [cellsR] using b
    · rw [show (i + 1) * 4 + 2 = (i * 4 + 2) + 1 + 1 + 1 + 1 by omega]; simpa [cellsR] using c
    · rw [show (i + 1) * 4 + 3 = (i * 4 + 3) + 1 + 1 + 1 + 1 by omega]; simpa [cellsR] using d
/-- v is a row of these, from block B on. -/
def Recs (w : World) (B : Nat) (v : Value) (L : List Rec) : Prop := w.ownsRow B 38 4 v L.length (cellsR L)
theorem Recs.form {w : World} {B : Nat} {v : Value} {L : List Rec} (h : Recs w B v L) : ∃ ao cap, v = .slice ao L.length cap := by
  rcases h.2 with ⟨rfl, e⟩ | ⟨g, cap, cur, rfl, _⟩
  · exact ⟨none, 0, by rw [e]⟩
  · exact ⟨_, _, rfl⟩
theorem Recs.cells {w : World} {B : Nat} {ao : Option Addr} {m cap : Nat} {L : List Rec} (h : Recs w B (.slice ao m cap) L) (hn : 0 < L.length) : ∃ p, ao = some ⟨p, 0, none⟩ ∧ p < w.heap.size ∧ (∀ j, w.frozen? ⟨p, j, none⟩ = false) ∧
    ∀ i x, L[i]? = some x → w.cell? ⟨p, i * 4, none⟩ = some (.int .i64 x.id) ∧ w.cell? ⟨p, i * 4 + 1, none⟩ = some (.slice (some ⟨x.blk, 0, none⟩) x.n x.n) ∧ w.cell? ⟨p, i * 4 + 2, none⟩ = some (.bool x.gone) ∧ w.cell? ⟨p, i * 4 + 3, none⟩ = some (.int .i64 x.by_) := by
  rcases h.2 with ⟨_, e⟩ | ⟨g, cap', cur, e, _, hg, hc, hm, hs, ht⟩
  · omega
  · simp only [Value.slice.injEq] at e
    obtain ⟨rfl, rfl, rfl⟩ := e
    refine ⟨g, rfl, (Array.getElem?_eq_some_iff.1 hg).1, fun j => by simp [World.frozen?, hg], fun i x hx => ?_⟩
    have hi : i < L.length := (List.getElem?_eq_some_iff.1 hx).1
    obtain ⟨a, b, c, d⟩ := cellsR_at L i x hx
    rw [← ht] at a b c d
    rw [List.getElem?_take, if_pos (by omega)] at a b c d
    simp only [World.cell?, hg]
    exact ⟨by simpa using a, by simpa using b, by simpa using c, by simpa using d⟩
/-- The law's struct. -/
def Here (w : World) (y s b : Nat) (half : Int) (v : Value) (bg : Int) (un : Bool) : Prop :=
  w.heap[y]? = some (.cells #[.pointer (some ⟨s, 0, none⟩), .pointer (some ⟨b, 0, none⟩), .int .i64 half, v, .int .i64 bg, .bool un] 31 (0, 0))
theorem Here.cells {w : World} {y s b : Nat} {half : Int} {v : Value} {bg : Int} {un : Bool} (h : Here w y s b half v bg un) :
    w.cell? ⟨y, 0, none⟩ = some (.pointer (some ⟨s, 0, none⟩)) ∧ w.cell? ⟨y, 1, none⟩ = some (.pointer (some ⟨b, 0, none⟩)) ∧ w.cell? ⟨y, 2, none⟩ = some (.int .i64 half) ∧ w.cell? ⟨y, 3, none⟩ = some v ∧ w.cell? ⟨y, 4, none⟩ = some (.int .i64 bg) ∧ w.cell? ⟨y, 5, none⟩ = some (.bool un) := by
  have h' : w.heap[y]? = _ := h
  simp [World.cell?, h']
def sumR : List Rec → Int
  | [] => 0
  | x :: r => (x.n : Int) + 4 + sumR r
theorem sumR_take : ∀ (L : List Rec) (i : Nat) (x : Rec), L[i]? = some x → sumR (L.take (i + 1)) = sumR (L.take i) + (x.n + 4)
  | [], i, x, h => by simp at h
  | y :: r, 0, x, h => by simp at h; subst h; simp [sumR]
  | y :: r, i + 1, x, h => by
    have h' : r[i]? = some x := by simpa using h
    have := sumR_take r i x h'
    simp only [List.take_succ_cons, sumR, this]; omega
theorem sumR_pos : ∀ L : List Rec, 0 ≤ sumR L
  | [] => Int.le_refl _
  | x :: r => by have := sumR_pos r; simp only [sumR]; omega
theorem sumR_le : ∀ (L : List Rec) (i : Nat), sumR (L.take i) ≤ sumR L
  | [], i => by simp
  | y :: r, 0 => by have := sumR_pos (y :: r); simpa [sumR] using this
  | y :: r, i + 1 => by have := sumR_le r i; simp only [List.take_succ_cons, sumR]; omega
theorem sumR_len : ∀ L : List Rec, (L.length : Int) * 4 ≤ sumR L
  | [] => by simp [sumR]
  | x :: r => by have := sumR_len r; simp only [sumR, List.length_cons]; omega
set_option maxRecDepth 20000 in
theorem proom_ok {w : World} {B y s b : Nat} {half : Int} {v : Value} {bg : Int} {un : Bool} {L : List Rec} (hh : Here w y s b half v bg un) (hr : Recs w B v L) (h1 : 0 ≤ half ∧ half ≤ 65536) (h2 : sumR L ≤ half) :
    Calls Try.prog 10 #[.pointer (some ⟨y, 0, none⟩)] w fun e w' => e = .returned (.int .i64 (half - sumR L)) ∧ w' = w := by
  obtain ⟨ao, cap, rfl⟩ := hr.form
  have cc := hh.cells
  have HR : Hid (Recs w B (.slice ao L.length cap) L) := hr
  have HLe : Hid (∀ i, sumR (L.take i) ≤ sumR L) := sumR_le L
  have HPo : Hid (∀ i, 0 ≤ sumR (L.take i)) := fun i => sumR_pos _
  have HSt : Hid (∀ (i : Nat) (x : Rec), L[i]? = some x → sumR (L.take (i + 1)) = sumR (L.take i) + (x.n + 4)) := sumR_take L
  have HEn : Hid (sumR (L.take L.length) = sumR L) := by rw [List.take_length]; rfl
  have HIx : Hid (∀ i, i < L.length → ∃ x, L[i]? = some x) := fun i hi => ⟨_, List.getElem?_eq_getElem hi⟩
  have hNb : L.length ≤ 65536 := by have := sumR_len L; omega
  generalize hN : L.length = N at *
  have HN : Hid (L.length = N) := hN
  clear hh hr hN
  go_enter Try.func10, Try.ntmps10
  go_wp2
  go_loopg [3, 4] (N + 1) (fun kx s3 s4 wr => ∃ (i : Nat) (r : Int), s4 = .int .i64 i ∧ s3 = .int .i64 r ∧ i ≤ N ∧ N - i ≤ kx ∧ 0 ≤ r ∧ r ≤ half ∧ Hid (r = half - sumR (L.take i)) ∧ wr = w)
  case atStart => exact ⟨0, half, rfl, rfl, by omega, by omega, h1.1, by omega, (show half = half - sumR (L.take 0) from by simp [sumR]), rfl⟩
  case round =>
    obtain ⟨i, r, rfl, rfl, hi, hk, hr0, hr1, Hr, rfl⟩ := hrel
    by_cases hlt : i < N
    · obtain ⟨x, hx⟩ := HIx.out i hlt
      obtain ⟨p, rfl, _, _, hc⟩ := HR.out.cells (by rw [HN.out]; omega)
      have c1 := (hc i x hx).2.1
      clear hc
      have hst := HSt.out i x hx
      have hle := HLe.out (i + 1)
      have Hn : Hid (r - (x.n : Int) - 4 = half - sumR (L.take (i + 1))) := by
        have := Hr.out
        show r - (x.n : Int) - 4 = half - sumR (L.take (i + 1))
        omega
      have hb : 0 ≤ r - (x.n : Int) - 4 := by have := Hn.out; omega
      clear hst hle hx
      have hl : (i : Int) < (N : Int) := by omega
      go_wp2
      go_roundg (N - (i + 1))
      case measure => omega
      case rel => exact ⟨i + 1, r - (x.n : Int) - 4, by go_num, by go_num, by omega, by omega, hb, by omega, Hn.out, rfl⟩
    · obtain rfl : i = N := by omega
      have hl : ¬ (i : Int) < (i : Int) := by omega
      have e : Hid (half - sumR L = r) := by rw [Hr.out, HEn.out]; rfl
      go_wp2
      go_ret
      refine ⟨?_, rfl⟩
      rw [e.out]
      rfl
/-- The array of an id that is there; j: how far the search has come. -/
def Miss (L : List Rec) (t : Int) (j : Nat) : Prop := ∀ (m : Nat) (z : Rec), m < j → L[m]? = some z → ¬ (z.id = t ∧ z.gone = false)
set_option maxRecDepth 20000 in
theorem pat_any {w : World} {B y s b : Nat} {half : Int} {v : Value} {bg : Int} {un : Bool} {L : List Rec} (hh : Here w y s b half v bg un) (hr : Recs w B v L) (hL : L.length ≤ 65536) (t : Int) (R : Int)
    (hR : (∃ (i : Nat) (x : Rec), L[i]? = some x ∧ x.id = t ∧ x.gone = false ∧ Miss L t i ∧ R = i) ∨ (Miss L t L.length ∧ R = -1)) :
    Calls Try.prog 22 #[.pointer (some ⟨y, 0, none⟩), .int .i64 t] w fun e w' => e = .returned (.int .i64 R) ∧ w' = w := by
  obtain ⟨ao, cap, rfl⟩ := hr.form
  have cc := hh.cells
  have HR : Hid (Recs w B (.slice ao L.length cap) L) := hr
  have HQ : Hid ((∃ (i : Nat) (x : Rec), L[i]? = some x ∧ x.id = t ∧ x.gone = false ∧ Miss L t i ∧ R = i) ∨ (Miss L t L.length ∧ R = -1)) := hR
  have HIx : Hid (∀ i, i < L.length → ∃ x, L[i]? = some x) := fun i hi => ⟨_, List.getElem?_eq_getElem hi⟩
  have HNo : Hid (∀ i x, L[i]? = some x → i < L.length) := fun i x hx => (List.getElem?_eq_some_iff.1 hx).1
  generalize hN : L.length = N at *
  have HN : Hid (L.length = N) := hN
  clear hh hr hN hR
  go_enter Try.func22, Try.ntmps22
  go_wp2
  go_loopg [5] (N + 1) (fun kx s5 wr => ∃ j : Nat, s5 = .int .i64 j ∧ j ≤ N ∧ N - j ≤ kx ∧ Hid (Miss L t j) ∧ wr = w)
  case atStart => exact ⟨0, rfl, by omega, by omega, fun m z hm => by omega, rfl⟩
  case round =>
    obtain ⟨j, rfl, hj, hk, HM, rfl⟩ := hrel
    by_cases hlt : j < N
    · obtain ⟨x, hx⟩ := HIx.out j hlt
      obtain ⟨p, rfl, _, _, hc⟩ := HR.out.cells (by rw [HN.out]; omega)
      obtain ⟨c0, _, c2, _⟩ := hc j x hx
      clear hc
      have HX : Hid (L[j]? = some x) := hx
      clear hx
      have hl : (j : Int) < (N : Int) := by omega
      by_cases hid : x.id = t
      · have hid2 : (x.id == t) = true := by simpa using hid
        cases hg : x.gone with
        | true =>
          rw [hg] at c2
          go_wp2
          go_roundg (N - (j + 1))
          case measure => omega
          case rel =>
            refine ⟨j + 1, by go_num, by omega, by omega, fun m z hm hz => ?_, rfl⟩
            by_cases e : m = j
            · subst e; rw [HX.out] at hz; cases hz; rw [hg]; simp
            · exact HM.out m z (by omega) hz
        | false =>
          rw [hg] at c2
          have e : Hid (R = j) := by
            rcases HQ.out with ⟨i, z, q1, q2, q3, q4, q5⟩ | ⟨q1, q2⟩
            · have h1 : ¬ i < j := fun r => HM.out i z r q1 ⟨q2, q3⟩
              have h2 : ¬ j < i := fun r => q4 j x r HX.out ⟨hid, hg⟩
              show R = j
              rw [q5]; omega
            · exact absurd ⟨hid, hg⟩ (q1 j x (by omega) HX.out)
          go_wp2
          go_ret
          refine ⟨?_, rfl⟩
          rw [e.out]; rfl
      · have hid2 : (x.id == t) = false := by simpa using hid
        go_wp2
        go_roundg (N - (j + 1))
        case measure => omega
        case rel =>
          refine ⟨j + 1, by go_num, by omega, by omega, fun m z hm hz => ?_, rfl⟩
          by_cases e : m = j
          · subst e; rw [HX.out] at hz; cases hz; exact fun r => hid r.1
          · exact HM.out m z (by omega) hz
    · obtain rfl : j = N := by omega
      have hl : ¬ (j : Int) < (j : Int) := by omega
      have e : Hid (R = -1) := by
        rcases HQ.out with ⟨i, z, q1, q2, q3, q4, q5⟩ | ⟨q1, q2⟩
        · exact absurd ⟨q2, q3⟩ (HM.out i z (HNo.out i z q1) q1)
        · exact q2
      go_wp2
      go_ret
      refine ⟨?_, rfl⟩
      rw [e.out]; rfl
end Go.Proofs.Ytjfjgfkfbbigbaa
