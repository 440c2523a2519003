/- SpineActs: what stands between two acts. -/
import Derived.Test.YtjfjgfkfbbigbaaPCyb
namespace Go.Proofs.Ytjfjgfkfbbigbaa
open Go.RowKit
/-- What stands behind m acts. -/
def Edge7 (B : Nat) (w0 w : World) (s b W y : Nat) (half : Int) (m : Nat) : Prop :=
  ∃ P v bg un L q V c, Play B w0 w P s b W y half v bg un L q V c ∧ Agr7 q V half bg un L ∧ (∀ j, 0 ≤ c j ∧ c j ≤ 2000 * (m : Int)) ∧ q.given ≤ (m : Int) ∧ 0 ≤ bg ∧ bg ≤ (m : Int)
/-- What an act leaves. -/
def ActPost7 (B : Nat) (w0 : World) (s b W y : Nat) (half : Int) (m : Nat) (e : Ending) (w' : World) : Prop := e = .returned (.bool true) ∧ Edge7 B w0 w' s b W y half m
theorem tick_le {c c' : Int → Int} {A k : Int} {m : Nat} (ht : Ticked c c' A k) (hk : k ≤ 2000) (hm : m ≤ 400) (hc : ∀ j, 0 ≤ c j ∧ c j ≤ 2000 * (m : Int)) : ∀ j, 0 ≤ c' j ∧ c' j ≤ 2000 * ((m + 1 : Nat) : Int) := by
  intro j
  obtain ⟨h1, d, d1, d2, d3⟩ := ht
  have hj := hc j
  by_cases e : j = A
  · subst e
    rw [d3, IntWalk.wrap64_in _ (by omega)]
    omega
  · rw [h1 j e]; omega
theorem same_le {c : Int → Int} {m : Nat} (hc : ∀ j, 0 ≤ c j ∧ c j ≤ 2000 * (m : Int)) : ∀ j, 0 ≤ c j ∧ c j ≤ 2000 * ((m + 1 : Nat) : Int) := fun j => by have := hc j; omega
section
variable {B : Nat} {w0 w : World} {P : Nat → Prop} {s b W y : Nat} {half : Int} {v : Value} {bg : Int} {un : Bool} {L : List Rec} {q : St} {V : Int → Int → Int} {c : Int → Int}
/-- An act that turns nothing. -/
theorem Edge7.same {m : Nat} (h : Play B w0 w P s b W y half v bg un L q V c) (hA : Agr7 q V half bg un L) (hc : ∀ j, 0 ≤ c j ∧ c j ≤ 2000 * (m : Int)) (hg : q.given ≤ (m : Int)) (hb : 0 ≤ bg ∧ bg ≤ (m : Int)) : Edge7 B w0 w s b W y half (m + 1) :=
  ⟨P, v, bg, un, L, q, V, c, h, hA, same_le hc, by omega, hb.1, by omega⟩
theorem Play.addr {ao : Option Addr} {N cap : Nat} (h : Play B w0 w P s b W y half (.slice ao N cap) bg un L q V c) {i : Nat} {x : Rec} (hx : L[i]? = some x) : ∃ g, ao = some ⟨g, 0, none⟩ := by
  obtain ⟨p, e, _⟩ := h.row.cells (by have := (List.getElem?_eq_some_iff.1 hx).1; omega)
  exact ⟨p, e⟩
theorem Play.recd {g N cap : Nat} (h : Play B w0 w P s b W y half (.slice (some ⟨g, 0, none⟩) N cap) bg un L q V c) {i : Nat} {x : Rec} (hx : L[i]? = some x) :
    w.cell? ⟨g, i * 4, none⟩ = some (.int .i64 x.id) ∧ w.cell? ⟨g, i * 4 + 1, none⟩ = some (.slice (some ⟨x.blk, 0, none⟩) x.n x.n) ∧ w.cell? ⟨g, i * 4 + 2, none⟩ = some (.bool x.gone) ∧ w.cell? ⟨g, i * 4 + 3, none⟩ = some (.int .i64 x.by_) ∧ ∀ j, w.frozen? ⟨g, j, none⟩ = false := by
  obtain ⟨p, e, _, hf, hc⟩ := h.row.cells (by have := (List.getElem?_eq_some_iff.1 hx).1; omega)
  simp only [Option.some.injEq, Addr.mk.injEq, and_true] at e
  subst e
  obtain ⟨a, b, d, f⟩ := hc i x hx
  exact ⟨a, b, d, f, hf⟩
theorem Play.wd (h : Play B w0 w P s b W y half v bg un L q V c) {i : Nat} {x : Rec} (hx : L[i]? = some x) {j : Nat} (hj : j < x.n) : w.cell? ⟨x.blk, j, none⟩ = some (.int .i64 (x.F j)) :=
  (h.words x (List.mem_of_getElem? hx)).1.cell hj
theorem Play.wf (h : Play B w0 w P s b W y half v bg un L q V c) {i : Nat} {x : Rec} (hx : L[i]? = some x) (j : Nat) : w.frozen? ⟨x.blk, j, none⟩ = false :=
  (h.words x (List.mem_of_getElem? hx)).1.frozen j
/-- Which array an id means. -/
def Found (L : List Rec) (t R : Int) : Prop := (∃ (i : Nat) (x : Rec), L[i]? = some x ∧ x.id = t ∧ x.gone = false ∧ Miss L t i ∧ R = i) ∨ (Miss L t L.length ∧ R = -1)
theorem found_any (L : List Rec) (t : Int) : ∃ R, Found L t R := by
  by_cases hm : Miss L t L.length
  · exact ⟨-1, .inr ⟨hm, rfl⟩⟩
  · have ex : ∃ j, ¬ Miss L t j := ⟨_, hm⟩
    obtain ⟨j, hj, hmin⟩ : ∃ j, ¬ Miss L t j ∧ ∀ k, k < j → Miss L t k := by
      obtain ⟨j0, h0⟩ := ex
      induction j0 using Nat.strongRecOn with
      | _ n ih =>
        by_cases hh : ∀ k, k < n → Miss L t k
        · exact ⟨n, h0, hh⟩
        · have : ∃ k, k < n ∧ ¬ Miss L t k := by
            apply Classical.byContradiction
            intro r
            exact hh fun k hk => Classical.byContradiction fun r2 => r ⟨k, hk, r2⟩
          obtain ⟨k, hk, hk2⟩ := this
          exact ih k hk hk2
    cases j with
    | zero => exact absurd (fun m z hmz => by omega) hj
    | succ i =>
      have h1 := hmin i (by omega)
      have : ∃ z, L[i]? = some z ∧ z.id = t ∧ z.gone = false := by
        apply Classical.byContradiction
        intro r
        apply hj
        intro m z hmz hz hh
        by_cases e : m = i
        · subst e; exact r ⟨z, hz, hh.1, hh.2⟩
        · exact h1 m z (by omega) hz hh
      obtain ⟨z, hz, e1, e2⟩ := this
      exact ⟨i, .inl ⟨i, z, hz, e1, e2, h1, rfl⟩⟩
theorem Found.miss {L : List Rec} {t R : Int} (h : Found L t R) (hR : R < 0) : R = -1 ∧ ∀ x ∈ L, ¬ (x.id = t ∧ x.gone = false) := by
  rcases h with ⟨i, x, _, _, _, _, e⟩ | ⟨hm, e⟩
  · omega
  · refine ⟨e, fun x hx => ?_⟩
    obtain ⟨k, hk, rfl⟩ := List.getElem_of_mem hx
    exact hm k _ hk (List.getElem?_eq_getElem hk)
theorem Found.got {L : List Rec} {t R : Int} (h : Found L t R) (hR : ¬ R < 0) : ∃ (i : Nat) (x : Rec), L[i]? = some x ∧ x.id = t ∧ x.gone = false ∧ R = i := by
  rcases h with ⟨i, x, a, b, d, _, e⟩ | ⟨_, e⟩
  · exact ⟨i, x, a, b, d, e⟩
  · omega
theorem Pb.five {x : Nat} {K A p I n : Int} (h : Pb B w0 w P s b W y half v bg un L q V c x K A p I n) : w.cell? ⟨x, 0, none⟩ = some (.int .i64 K) ∧ w.cell? ⟨x, 1, none⟩ = some (.int .i64 A) ∧ w.cell? ⟨x, 2, none⟩ = some (.int .i64 p) ∧ w.cell? ⟨x, 3, none⟩ = some (.int .i64 I) ∧ w.cell? ⟨x, 4, none⟩ = some (.int .i64 n) := by
  simp [World.cell?, h.box]
theorem Pb.steps_any {x : Nat} {K A p I n : Int} (h : Pb B w0 w P s b W y half v bg un L q V c x K A p I n) : ∃ bf : Int, (0 ≤ A ∧ A < 3 → bf = c A) ∧ ∀ k, Calls Try.prog 24 #[.pointer (some ⟨b, 0, none⟩), .int .i64 A] (w.drewN k) fun e w' => e = .returned (.int .i64 bf) ∧ w' = w.drewN k := by
  by_cases hA : 0 ≤ A ∧ A < 3
  · exact ⟨c A, fun _ => rfl, fun k => (h.below (below_drewN w k _)).play.gd.steps A (by omega)⟩
  · exact ⟨0, fun r => absurd r hA, fun k => (h.below (below_drewN w k _)).play.gd.steps_no A (by omega)⟩
theorem Pb.store {x : Nat} {K A p I n : Int} (h : Pb B w0 w P s b W y half v bg un L q V c x K A p I n) {i : Nat} {z : Rec} (hz : L[i]? = some z) (j : Nat) (u : Int) : Pb B w0 (w.setCell ⟨z.blk, j, none⟩ (.int .i64 u)) P s b W y half v bg un (L.set i { z with F := upd z.F j u }) q V c x K A p I n := by
  refine ⟨h.play.word hz j u, ?_, h.px⟩
  rw [Below.heap_setCell _ _ _ _ ?_]
  · exact h.box
  · intro e
    obtain ⟨cur, hc, _⟩ := (h.play.words z (List.mem_of_getElem? hz)).1
    have h1 := h.box
    rw [e, hc] at h1
    simp at h1
end
end Go.Proofs.Ytjfjgfkfbbigbaa
