/- Colours, and the row of the grey ones in a ring. Plain. -/
import Derived.Test.YthkelaeemefnaaaGreatRows
namespace Go.Proofs.YthkelaeemefnaaaGreat
/-- f, but v at i. -/
def setC (f : Nat → Int) (i : Nat) (v : Int) : Nat → Int := fun j => if j = i then v else f j
theorem setC_at (f : Nat → Int) (i : Nat) (v : Int) : setC f i v i = v := by simp [setC]
theorem setC_else {f : Nat → Int} {i j : Nat} {v : Int} (h : j ≠ i) : setC f i v j = f j := by simp [setC, h]
theorem mod2 {a N : Nat} (h : a < 2 * N) : a % N = if a < N then a else a - N := by
  split
  · rename_i e; exact Nat.mod_eq_of_lt e
  · rename_i e
    rw [Nat.mod_eq_sub_mod (by omega)]
    exact Nat.mod_eq_of_lt (by omega)
theorem mod_ne {N fi j k : Nat} (hf : fi < N) (hj : j < k) (hk : k < N) : (fi + j) % N ≠ (fi + k) % N := by
  rw [mod2 (by omega), mod2 (by omega)]
  split <;> split <;> omega
/-- c: the colours; q: the grey ones, in their row; r: the ring, its first at fi. -/
structure MInv (N : Nat) (c : Nat → Int) (q : List Nat) (r : Nat → Int) (fi : Nat) : Prop where
  fi_lt : fi < N
  ring : ∀ j x : Nat, q[j]? = some x → r ((fi + j) % N) = (x : Int)
  lt : ∀ x, x ∈ q → x < N
  nodup : q.Nodup
  grey : ∀ i, i < N → (c i = 2 ↔ i ∈ q)
  val : ∀ i, i < N → c i = 1 ∨ c i = 2 ∨ c i = 3
section
variable {N : Nat} {c c' r r' : Nat → Int} {q t : List Nat} {fi x : Nat}
theorem few_of {N : Nat} {q : List Nat} (hn : q.Nodup) (hl : ∀ x, x ∈ q → x < N) : q.length ≤ N := by
  have h := hn.length_le_of_subset (l₂ := List.range N) (fun x hx => List.mem_range.2 (hl x hx))
  simpa using h
theorem MInv.few (h : MInv N c q r fi) : q.length ≤ N := few_of h.nodup h.lt
theorem MInv.out_of (h : MInv N c q r fi) (hx : x < N) (hc : c x ≠ 2) : x ∉ q := fun m => hc ((h.grey x hx).2 m)
theorem MInv.room (h : MInv N c q r fi) (hx : x < N) (hc : c x = 1) : q.length < N := by
  have h1 : (x :: q).Nodup := List.nodup_cons.2 ⟨h.out_of hx (by omega), h.nodup⟩
  have h2 := few_of h1 (N := N) (fun y hy => by rcases List.mem_cons.1 hy with rfl | hy; exact hx; exact h.lt y hy)
  rw [List.length_cons] at h2
  omega
theorem MInv.start (hN : 1 ≤ N) (r : Nat → Int) : MInv N (fun _ => 1) [] r 0 :=
  ⟨by omega, fun j x h => by simp at h, fun x h => by simp at h, List.nodup_nil, fun i _ => by simp, fun i _ => .inl rfl⟩
theorem MInv.congr (h : MInv N c q r fi) (e : ∀ i, i < N → c i = c' i) (er : ∀ i, i < N → r i = r' i) : MInv N c' q r' fi :=
  ⟨h.fi_lt, fun j x hj => by rw [← er _ (Nat.mod_lt _ (by have := h.fi_lt; omega))]; exact h.ring j x hj, h.lt, h.nodup, fun i hi => by rw [← e i hi]; exact h.grey i hi, fun i hi => by rw [← e i hi]; exact h.val i hi⟩
theorem MInv.add (h : MInv N c q r fi) (hx : x < N) (hc : c x = 1) : MInv N (setC c x 2) (q ++ [x]) (setC r ((fi + q.length) % N) (x : Int)) fi := by
  have hr := h.room hx hc
  have ho := h.out_of hx (by omega)
  refine ⟨h.fi_lt, fun j y hj => ?_, fun y hy => ?_, ?_, fun i hi => ?_, fun i hi => ?_⟩
  · by_cases hjq : j < q.length
    · rw [List.getElem?_append_left hjq] at hj
      rw [setC_else (mod_ne h.fi_lt hjq hr)]
      exact h.ring j y hj
    · rw [List.getElem?_append_right (by omega)] at hj
      obtain rfl : j = q.length := by
        have := (List.getElem?_eq_some_iff.1 hj).1
        simp at this; omega
      simp at hj
      rw [setC_at, hj]
  · rcases List.mem_append.1 hy with hy | hy
    · exact h.lt y hy
    · rw [List.mem_singleton.1 hy]; exact hx
  · rw [List.nodup_append]
    refine ⟨h.nodup, by simp, fun a ha b hb e => ho ?_⟩
    rw [← List.mem_singleton.1 hb, ← e]; exact ha
  · by_cases e : i = x
    · subst e; simp [setC_at]
    · rw [setC_else e, h.grey i hi]; simp [e]
  · by_cases e : i = x
    · subst e; simp [setC_at]
    · rw [setC_else e]; exact h.val i hi
/-- The first is taken off, and painted. -/
theorem MInv.take (h : MInv N c (x :: t) r fi) (v : Int) (hv : v = 1 ∨ v = 3) : MInv N (setC c x v) t r ((fi + 1) % N) := by
  have hN := h.fi_lt
  obtain ⟨hx, ht⟩ := List.nodup_cons.1 h.nodup
  refine ⟨Nat.mod_lt _ (by omega), fun j y hj => ?_, fun y hy => h.lt y (List.mem_cons_of_mem _ hy), ht, fun i hi => ?_, fun i hi => ?_⟩
  · rw [Nat.mod_add_mod, Nat.add_assoc, Nat.add_comm 1 j]
    exact h.ring (j + 1) y (by simpa using hj)
  · by_cases e : i = x
    · subst e; rw [setC_at]; exact ⟨fun k => by omega, fun k => absurd k hx⟩
    · rw [setC_else e, h.grey i hi]; simp [e]
  · by_cases e : i = x
    · subst e; rw [setC_at]; omega
    · rw [setC_else e]; exact h.val i hi
theorem MInv.head (h : MInv N c (x :: t) r fi) : r fi = (x : Int) ∧ x < N := by
  refine ⟨?_, h.lt x (by simp)⟩
  have := h.ring 0 x rfl
  rwa [Nat.add_zero, Nat.mod_eq_of_lt h.fi_lt] at this
/-- A black one is painted white. -/
theorem MInv.clean (h : MInv N c [] r fi) (i : Nat) : MInv N (setC c i 1) [] r fi :=
  ⟨h.fi_lt, h.ring, h.lt, h.nodup, fun j hj => by
    by_cases e : j = i
    · subst e; simp [setC_at]
    · rw [setC_else e]; exact h.grey j hj, fun j hj => by
    by_cases e : j = i
    · subst e; simp [setC_at]
    · rw [setC_else e]; exact h.val j hj⟩
theorem MInv.two (h : MInv N c [] r fi) {i : Nat} (hi : i < N) : c i = 1 ∨ c i = 3 := by
  have h1 := h.val i hi
  have h2 := h.grey i hi
  simp at h2
  omega
end
/-- The black ones below i, rising. -/
def blk (c : Nat → Int) : Nat → List Nat
  | 0 => []
  | i + 1 => if c i = 3 then blk c i ++ [i] else blk c i
theorem blk_yes {c : Nat → Int} {i : Nat} (h : c i = 3) : blk c (i + 1) = blk c i ++ [i] := by simp [blk, h]
theorem blk_no {c : Nat → Int} {i : Nat} (h : c i ≠ 3) : blk c (i + 1) = blk c i := by simp [blk, h]
theorem blk_len (c : Nat → Int) : ∀ i, (blk c i).length ≤ i
  | 0 => Nat.le_refl 0
  | i + 1 => by
    have := blk_len c i
    unfold blk
    split
    · simp; exact this
    · omega
theorem blk_mem {c : Nat → Int} {x : Nat} : ∀ {i}, x ∈ blk c i → x < i ∧ c x = 3
  | 0, h => by simp [blk] at h
  | i + 1, h => by
    unfold blk at h
    split at h
    · rename_i e
      rcases List.mem_append.1 h with h | h
      · have := blk_mem h; exact ⟨by omega, this.2⟩
      · have : x = i := by simpa using h
        subst this; exact ⟨by omega, e⟩
    · have := blk_mem h; exact ⟨by omega, this.2⟩
theorem blk_congr {c c' : Nat → Int} : ∀ {i}, (∀ j, j < i → c j = c' j) → blk c i = blk c' i
  | 0, _ => rfl
  | i + 1, h => by
    unfold blk
    rw [h i (by omega), blk_congr (i := i) (fun j hj => h j (by omega))]
/-- What has come ahead of i is what stands there in the end. -/
theorem blk_get {c : Nat → Int} {i : Nat} : ∀ {n}, i ≤ n → ∀ j, j < (blk c i).length → (blk c n)[j]? = (blk c i)[j]? := by
  intro n
  induction n with
  | zero =>
    intro h j _
    obtain rfl : i = 0 := by omega
    rfl
  | succ n ih =>
    intro h j hj
    rcases Nat.lt_or_ge n i with hn | hn
    · obtain rfl : i = n + 1 := by omega
      rfl
    · have h1 := ih hn j hj
      have hl : j < (blk c n).length := by
        have : (blk c n)[j]? = some (blk c i)[j] := by rw [h1, List.getElem?_eq_getElem hj]
        exact (List.getElem?_eq_some_iff.1 this).1
      by_cases e : c n = 3
      · rw [blk_yes e, List.getElem?_append_left hl]; exact h1
      · rw [blk_no e]; exact h1
theorem blk_mono {c : Nat → Int} {i n : Nat} (h : i ≤ n) : (blk c i).length ≤ (blk c n).length := by
  induction n with
  | zero =>
    obtain rfl : i = 0 := by omega
    exact Nat.le_refl _
  | succ n ih =>
    rcases Nat.lt_or_ge n i with hn | hn
    · obtain rfl : i = n + 1 := by omega
      exact Nat.le_refl _
    · have := ih hn
      by_cases e : c n = 3
      · rw [blk_yes e]; simp; omega
      · rw [blk_no e]; exact this
end Go.Proofs.YthkelaeemefnaaaGreat
