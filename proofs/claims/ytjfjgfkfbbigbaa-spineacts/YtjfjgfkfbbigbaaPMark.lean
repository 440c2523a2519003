/- SpineActs: an array of the law's list is gone; Begin. -/
import Derived.Test.YtjfjgfkfbbigbaaPAgrb
namespace Go.Proofs.Ytjfjgfkfbbigbaa
open Go.RowKit
theorem cellsR_set (g : Bool) (t : Int) : ∀ (L : List Rec) (i : Nat) (x : Rec), L[i]? = some x → cellsR (L.set i { x with gone := g, by_ := t }) = ((cellsR L).set (i * 4 + 2) (.bool g)).set (i * 4 + 3) (.int .i64 t)
  | [], i, x, h => by simp at h
  | a :: r, 0, x, h => by
    simp at h; subst h
    simp [cellsR]
  | a :: r, i + 1, x, h => by
    have h' : r[i]? = some x := by simpa using h
    rw [show (i + 1) * 4 + 2 = (i * 4 + 2) + 1 + 1 + 1 + 1 by omega, show (i + 1) * 4 + 3 = (i * 4 + 3) + 1 + 1 + 1 + 1 by omega]
    simp only [List.set_cons_succ, cellsR, cellsR_set g t r i x h']
theorem Recs.put {w : World} {B : Nat} {v : Value} {L : List Rec} (h : Recs w B v L) {p : Nat} (hp : v.ownBlock = some p) {i : Nat} {x : Rec} (hx : L[i]? = some x) (g : Bool) (t : Int) :
    Recs ((w.setCell ⟨p, i * 4 + 2, none⟩ (.bool g)).setCell ⟨p, i * 4 + 3, none⟩ (.int .i64 t)) B v (L.set i { x with gone := g, by_ := t }) := by
  rcases h.2 with ⟨rfl, _⟩ | ⟨q, cap, cur, rfl, h1, h2, h3, h4, h5, h6⟩
  · simp [Value.ownBlock] at hp
  · simp only [Value.ownBlock, Option.some.injEq] at hp
    subst hp
    unfold Recs
    rw [List.length_set]
    refine ⟨by rw [cellsR_length, List.length_set], .inr ⟨q, cap, (cur.setIfInBounds (i * 4 + 2) (.bool g)).setIfInBounds (i * 4 + 3) (.int .i64 t), rfl, h1, here_set (here_set h2 _) _, h3, h4, by simpa using h5, ?_⟩⟩
    rw [cellsR_set g t L i x hx, ← h6]
    simp only [Array.toList_setIfInBounds, List.take_set]
section
variable {B : Nat} {w0 w : World} {P : Nat → Prop} {s b W y : Nat} {half : Int} {v : Value} {bg : Int} {un : Bool} {L : List Rec} {q : St} {V : Int → Int → Int} {c : Int → Int}
theorem Play.mark (h : Play B w0 w P s b W y half v bg un L q V c) {p : Nat} (hp : v.ownBlock = some p) {i : Nat} {x : Rec} (hx : L[i]? = some x) (g : Bool) (t : Int) :
    Play B w0 ((w.setCell ⟨p, i * 4 + 2, none⟩ (.bool g)).setCell ⟨p, i * 4 + 3, none⟩ (.int .i64 t)) P s b W y half v bg un (L.set i { x with gone := g, by_ := t }) q V c := by
  have hxm : x ∈ L := List.mem_of_getElem? hx
  have hil : i < L.length := (List.getElem?_eq_some_iff.1 hx).1
  have keep : ∀ k, k ≠ p → ((w.setCell ⟨p, i * 4 + 2, none⟩ (.bool g)).setCell ⟨p, i * 4 + 3, none⟩ (.int .i64 t)).heap[k]? = w.heap[k]? := fun k hk => (Below.heap_setCell _ _ _ _ hk).trans (Below.heap_setCell _ _ _ _ hk)
  have hsub : ∀ a ∈ L.set i { x with gone := g, by_ := t }, ∃ z ∈ L, z.blk = a.blk ∧ z.n = a.n ∧ z.F = a.F := by
    intro a ha
    obtain ⟨m, hm, rfl⟩ := List.getElem_of_mem ha
    have hm' : m < L.length := by simpa using hm
    by_cases e : i = m
    · subst e; exact ⟨x, hxm, by simp⟩
    · rw [List.getElem_set_ne e]; exact ⟨_, List.getElem_mem hm', rfl, rfl, rfl⟩
  refine h.remake (r := fun k => k = p) (by simp [World.setCell]) ⟨rfl, rfl, rfl⟩ (fun k _ hk => keep k hk) (fun k hk => hk ▸ ⟨h.pv p hp, (h.row.lt hp).1⟩) ?_ (h.row.put hp hx g t) (fun a ha => ?_) ?_ h.pv
  · show ((w.setCell ⟨p, i * 4 + 2, none⟩ (.bool g)).setCell ⟨p, i * 4 + 3, none⟩ (.int .i64 t)).heap[y]? = _
    rw [keep y (fun r => h.y_v hp r.symm)]; exact h.here
  · obtain ⟨z, hz, e1, e2, e3⟩ := hsub a ha
    obtain ⟨r1, r2, r3⟩ := h.words z hz
    rw [e1, e2, e3] at r1
    rw [e1] at r2 r3
    exact ⟨r1.of_block (keep _ (fun r => h.v_x hz hp (e1 ▸ r.symm))), r2, r3⟩
  · have aux : ∀ (M : List Rec) (i : Nat), M[i]? = some x → (M.set i { x with gone := g, by_ := t }).map (fun a => a.blk) = M.map (fun a => a.blk) := by
      intro M
      induction M with
      | nil => intro i h; simp at h
      | cons a M ih =>
        intro i h
        cases i with
        | zero => simp at h; subst h; rfl
        | succ i => simp only [List.set_cons_succ, List.map_cons]; rw [ih i (by simpa using h)]
    have h0 := h.apart
    rw [← List.pairwise_map (f := fun a : Rec => a.blk) (R := fun a b => a ≠ b)] at h0 ⊢
    rw [aux L i hx]; exact h0
set_option maxRecDepth 20000 in
/-- cycle, where the act is Begin and a cycle is under way. -/
theorem pbegin_no (h : Play B w0 w P s b W y half v bg true L q V c) (hon : q.c.on = true) (A p I n : Int) :
    Calls Try.prog 25 #[.pointer (some ⟨y, 0, none⟩), .agg #[.int .i64 7, .int .i64 A, .int .i64 p, .int .i64 I, .int .i64 n]] w fun e w' => e = .returned (.bool true) ∧ Play B w0 w' P s b W y half v bg true L q V c := by
  have h1 := h.below ((Below.refl _ _).alloc (Nat.le_refl _) (.cells #[.int .i64 7, .int .i64 A, .int .i64 p, .int .i64 I, .int .i64 n] 34))
  have c1 := h1.here.cells
  have hB := begin_no h1.gd hon
  clear h
  go_enter Try.func25, Try.ntmps25
  go_wp2_with (first
    | (go_at_call 18; refine hB.mono ?_; rintro e w9 ⟨rfl, hw9⟩; replace hw9 := hw9.symm; subst hw9)
    | (go_at_call 12; refine (num_any _ _).mono ?_; rintro e w9 ⟨rfl, hw9⟩; replace hw9 := hw9.symm; subst hw9))
  go_ret
  exact ⟨rfl, h1⟩
end
end Go.Proofs.Ytjfjgfkfbbigbaa
