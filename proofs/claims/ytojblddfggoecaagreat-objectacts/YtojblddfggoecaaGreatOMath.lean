/- Objects over fragments: where a field lies; plain. -/
import Derived.Test.YtojblddfggoecaaGreatFUsed
namespace Go.Proofs.YtojblddfggoecaaGreat
open Go.RowKit

/-- How many fragments an object of n fields lies in. -/
def frg (n : Nat) : Nat := max 1 ((n + 5) / 7)
/-- In which of them, and in which word, the field i lies. -/
def hop (i n : Nat) : Nat := min (i / 7) (frg n - 1)
def wrd (i n : Nat) : Nat := (1 + i - hop i n * 7) % 8
theorem frg_pos (n : Nat) : 1 ≤ frg n := Nat.le_max_left _ _
theorem frg_le (n : Nat) : frg n ≤ 1 + (n + 5) / 6 := by unfold frg; omega
theorem frg_nine {n : Nat} (h : n ≤ 64) : frg n ≤ 9 := by unfold frg; omega
theorem hop_lt (i n : Nat) : hop i n < frg n := by have := frg_pos n; unfold hop; omega
theorem wrd_lt (i n : Nat) : wrd i n < 8 := by unfold wrd; omega
theorem wrd_pos {i n : Nat} (h : hop i n + 1 < frg n) : 1 ≤ wrd i n := by
  unfold wrd
  have : hop i n = i / 7 := by unfold hop at h ⊢; omega
  rw [this]; omega
theorem place_inj {i j n : Nat} (hi : i < n) (hj : j < n) (h1 : hop i n = hop j n) (h2 : wrd i n = wrd j n) : i = j := by
  have hb : n ≤ 7 * frg n + 1 := by unfold frg; omega
  have hp := frg_pos n
  unfold wrd at h2
  rw [← h1] at h2
  have hi7 : hop i n * 7 ≤ i ∧ i ≤ hop i n * 7 + 7 := by unfold hop; omega
  have hj7 : hop i n * 7 ≤ j ∧ j ≤ hop i n * 7 + 7 := by rw [h1]; unfold hop; omega
  omega
/-- An object: how many fields, its fragments. -/
structure Ob where
  n : Nat
  c : Nat → Nat
def Ob.ref (o : Ob) : Int := (o.c 0 : Int) + 1
def Ob.ad (base : Nat) (o : Ob) (i : Nat) : Nat := base + 8 * o.c (hop i o.n) + wrd i o.n
def tot : List Ob → Nat
  | [] => 0
  | o :: r => frg o.n + tot r
theorem tot_append : ∀ L M : List Ob, tot (L ++ M) = tot L + tot M
  | [], M => by simp [tot]
  | o :: r, M => by simp only [List.cons_append, tot, tot_append r M]; omega
theorem tot_erase : ∀ (L : List Ob) (k : Nat) (o : Ob), L[k]? = some o → tot (L.eraseIdx k) + frg o.n = tot L
  | [], k, o, h => by simp at h
  | a :: r, 0, o, h => by simp at h; subst h; simp only [List.eraseIdx_cons_zero, tot]; omega
  | a :: r, k + 1, o, h => by
    have ih := tot_erase r k o (by simpa using h)
    simp only [List.eraseIdx_cons_succ, tot]; omega
theorem tot_len : ∀ L : List Ob, L.length ≤ tot L
  | [] => Nat.le_refl _
  | o :: r => by have := tot_len r; have := frg_pos o.n; simp only [List.length_cons, tot]; omega
/-- What stands in a store of objects. -/
structure OInv (ws : Nat → Int) (base N : Nat) (len : Nat) (O : List Ob) : Prop where
  size : ∀ o ∈ O, o.n ≤ 64
  used : ∀ o ∈ O, ∀ k, k < frg o.n → o.c k < N ∧ ws (base + 8 * N + o.c k) ≠ 0
  inj : ∀ o ∈ O, ∀ j k, j < frg o.n → k < frg o.n → o.c j = o.c k → j = k
  apart : O.Pairwise fun o o' => ∀ j k, j < frg o.n → k < frg o'.n → o.c j ≠ o'.c k
  link : ∀ o ∈ O, ∀ k, k + 1 < frg o.n → ws (base + 8 * o.c k) = o.c (k + 1)
  sum : tot O + len = N
theorem OInv.none (ws : Nat → Int) (base N : Nat) : OInv ws base N N [] :=
  ⟨fun _ h => by simp at h, fun _ h => by simp at h, fun _ h => by simp at h, List.Pairwise.nil, fun _ h => by simp at h, by simp [tot]⟩
section
variable {ws : Nat → Int} {base N len : Nat} {O : List Ob}
theorem OInv.far (h : OInv ws base N len O) {a b : Nat} {o o' : Ob} (ha : O[a]? = some o) (hb : O[b]? = some o') (hab : a ≠ b) {j k : Nat} (hj : j < frg o.n) (hk : k < frg o'.n) : o.c j ≠ o'.c k := by
  obtain ⟨la, rfl⟩ := List.getElem?_eq_some_iff.1 ha
  obtain ⟨lb, rfl⟩ := List.getElem?_eq_some_iff.1 hb
  rcases Nat.lt_or_gt_of_ne hab with r | r
  · exact List.pairwise_iff_getElem.1 h.apart a b la lb r j k hj hk
  · exact fun e => List.pairwise_iff_getElem.1 h.apart b a lb la r k j hk hj e.symm
/-- Two fields lie apart. -/
theorem OInv.ad_ne (h : OInv ws base N len O) {a b : Nat} {o o' : Ob} (ha : O[a]? = some o) (hb : O[b]? = some o') {i j : Nat} (hi : i < o.n) (hj : j < o'.n) (hne : ¬ (a = b ∧ i = j)) : o.ad base i ≠ o'.ad base j := by
  have w1 := wrd_lt i o.n
  have w2 := wrd_lt j o'.n
  unfold Ob.ad
  by_cases e : a = b
  · subst e
    rw [ha] at hb
    obtain rfl : o = o' := Option.some.inj hb
    intro q
    have hc : o.c (hop i o.n) = o.c (hop j o.n) := by omega
    have hh := h.inj o (List.mem_of_getElem? ha) _ _ (hop_lt i o.n) (hop_lt j o.n) hc
    exact hne ⟨rfl, place_inj hi hj hh (by omega)⟩
  · have := h.far ha hb e (hop_lt i o.n) (hop_lt j o'.n)
    omega
theorem OInv.ref_ne (h : OInv ws base N len O) {a b : Nat} {o o' : Ob} (ha : O[a]? = some o) (hb : O[b]? = some o') (hab : a ≠ b) : o.ref ≠ o'.ref := by
  have := h.far ha hb hab (j := 0) (k := 0) (frg_pos _) (frg_pos _)
  unfold Ob.ref; omega
/-- A store into a field. -/
theorem OInv.put (h : OInv ws base N len O) {a : Nat} {o : Ob} (ha : O[a]? = some o) {i : Nat} (v : Int) : OInv (upd ws (o.ad base i) v) base N len O := by
  have hm := List.mem_of_getElem? ha
  have w1 := wrd_lt i o.n
  have u1 := (h.used o hm _ (hop_lt i o.n)).1
  refine ⟨h.size, fun o' ho k hk => ?_, h.inj, h.apart, fun o' ho k hk => ?_, h.sum⟩
  · obtain ⟨u2, u3⟩ := h.used o' ho k hk
    refine ⟨u2, ?_⟩
    rw [upd_else _ _ (by unfold Ob.ad; omega)]
    exact u3
  · rw [upd_else _ _ ?_]
    · exact h.link o' ho k hk
    · obtain ⟨b, lb, hb⟩ := List.getElem_of_mem ho
      have hb' : O[b]? = some o' := by rw [List.getElem?_eq_getElem lb, hb]
      unfold Ob.ad
      by_cases e : a = b
      · subst e
        rw [ha] at hb'
        obtain rfl : o = o' := Option.some.inj hb'
        by_cases e2 : hop i o.n = k
        · have := wrd_pos (i := i) (n := o.n) (by omega)
          omega
        · have : o.c (hop i o.n) ≠ o.c k := fun r => e2 (h.inj o hm _ _ (hop_lt i o.n) (by omega) r)
          omega
      · have := h.far ha hb' e (hop_lt i o.n) (show k < frg o'.n by omega)
        omega
end
/-- Fragments that have been taken, and hang together. -/
structure Chn (base N : Nat) (ws0 ws : Nat → Int) (m : Nat) (c : Nat → Nat) : Prop where
  lt : ∀ k, k < m → c k < N
  free : ∀ k, k < m → ws0 (base + 8 * N + c k) = 0
  used : ∀ k, k < m → ws (base + 8 * N + c k) ≠ 0
  inj : ∀ j k, j < m → k < m → c j = c k → j = k
  link : ∀ k, k + 1 < m → ws (base + 8 * c k) = c (k + 1)
  zero : ∀ k, k < m → ∀ j, j < 8 → (1 ≤ j ∨ k + 1 = m) → ws (base + 8 * c k + j) = 0
  old : ∀ a, (∀ k, k < m → ¬ (base + 8 * c k ≤ a ∧ a < base + 8 * c k + 8) ∧ a ≠ base + 8 * N + c k) → ws a = ws0 a
theorem took_col (ws : Nat → Int) {base N f g : Nat} (hf : f < N) (hg : g ≠ f) : upd (zap ws (base + 8 * f) 8) (base + 8 * N + f) 1 (base + 8 * N + g) = ws (base + 8 * N + g) := by
  rw [upd_else _ _ (by omega), zap_else _ (by omega)]
theorem took_word (ws : Nat → Int) {base N f : Nat} (hf : f < N) {j : Nat} (hj : j < 8) : upd (zap ws (base + 8 * f) 8) (base + 8 * N + f) 1 (base + 8 * f + j) = 0 := by
  rw [upd_else _ _ (by omega), zap_in _ (by omega) (by omega)]
theorem took_old (ws : Nat → Int) {base N f a : Nat} (h1 : ¬ (base + 8 * f ≤ a ∧ a < base + 8 * f + 8)) (h2 : a ≠ base + 8 * N + f) : upd (zap ws (base + 8 * f) 8) (base + 8 * N + f) 1 a = ws a := by
  rw [upd_else _ _ h2, zap_else _ h1]
theorem Chn.first {base N f : Nat} {ws : Nat → Int} (hf : f < N) (h0 : ws (base + 8 * N + f) = 0) : Chn base N ws (upd (zap ws (base + 8 * f) 8) (base + 8 * N + f) 1) 1 (fun _ => f) :=
  ⟨fun _ _ => hf, fun _ _ => h0, fun _ _ => by rw [upd_at]; omega, fun j k _ _ _ => by omega, fun k hk => by omega, fun k _ j hj _ => took_word ws hf hj, fun a ha => took_old ws (ha 0 (by omega)).1 (ha 0 (by omega)).2⟩
/-- One more, ahead of them. -/
def consN (f : Nat) (c : Nat → Nat) : Nat → Nat
  | 0 => f
  | k + 1 => c k
theorem Chn.more {base N f m : Nat} {ws0 ws : Nat → Int} {c : Nat → Nat} (h : Chn base N ws0 ws m c) (hm : 1 ≤ m) (hf : f < N) (h0 : ws (base + 8 * N + f) = 0) :
    Chn base N ws0 (upd (upd (zap ws (base + 8 * f) 8) (base + 8 * N + f) 1) (base + 8 * f + 0) (c 0)) (m + 1) (consN f c) := by
  have hne : ∀ k, k < m → c k ≠ f := fun k hk e => h.used k hk (by rw [e]; exact h0)
  refine ⟨fun k hk => ?_, fun k hk => ?_, fun k hk => ?_, fun j k hj hk e => ?_, fun k hk => ?_, fun k hk j hj hz => ?_, fun a ha => ?_⟩
  · cases k with
    | zero => exact hf
    | succ k => exact h.lt k (by omega)
  · cases k with
    | zero =>
      show ws0 (base + 8 * N + f) = 0
      rw [← h.old (base + 8 * N + f) (fun k hk => ⟨by have := h.lt k hk; omega, by have := hne k hk; omega⟩)]
      exact h0
    | succ k => exact h.free k (by omega)
  · cases k with
    | zero =>
      show upd _ _ _ (base + 8 * N + f) ≠ 0
      rw [upd_else _ _ (by omega), upd_at]; omega
    | succ k =>
      have h1 := h.lt k (by omega)
      have h2 := hne k (by omega)
      show upd _ _ _ (base + 8 * N + c k) ≠ 0
      rw [upd_else _ _ (by omega), took_col ws hf h2]
      exact h.used k (by omega)
  · cases j with
    | zero =>
      cases k with
      | zero => rfl
      | succ k => exact absurd e.symm (hne k (by omega))
    | succ j =>
      cases k with
      | zero => exact absurd e (hne j (by omega))
      | succ k => have := h.inj j k (by omega) (by omega) e; omega
  · cases k with
    | zero =>
      show upd _ _ _ (base + 8 * f) = c 0
      exact upd_at _ _ _
    | succ k =>
      have h1 := h.lt k (by omega)
      have h2 := hne k (by omega)
      show upd _ _ _ (base + 8 * c k) = c (k + 1)
      rw [upd_else _ _ (by omega), took_old ws (by omega) (by omega)]
      exact h.link k (by omega)
  · cases k with
    | zero =>
      show upd _ _ _ (base + 8 * f + j) = 0
      rw [upd_else _ _ (by omega), took_word ws hf hj]
    | succ k =>
      have h1 := h.lt k (by omega)
      have h2 := hne k (by omega)
      show upd _ _ _ (base + 8 * c k + j) = 0
      rw [upd_else _ _ (by omega), took_old ws (by omega) (by omega)]
      exact h.zero k (by omega) j hj (by omega)
  · have ha0 : ¬ (base + 8 * f ≤ a ∧ a < base + 8 * f + 8) ∧ a ≠ base + 8 * N + f := ha 0 (by omega)
    rw [upd_else _ _ (by omega), took_old ws ha0.1 ha0.2]
    exact h.old a fun k hk => ha (k + 1) (by omega)
section
variable {ws ws' : Nat → Int} {base N len : Nat} {O : List Ob}
/-- A new object. -/
theorem OInv.make (h : OInv ws base N len O) {n : Nat} {c : Nat → Nat} (hn : n ≤ 64) (hc : Chn base N ws ws' (frg n) c) (hl : frg n ≤ len) : OInv ws' base N (len - frg n) (O ++ [⟨n, c⟩]) := by
  have hne : ∀ o ∈ O, ∀ j k, j < frg o.n → k < frg n → o.c j ≠ c k := fun o ho j k hj hk e => (h.used o ho j hj).2 (by rw [e]; exact hc.free k hk)
  refine ⟨fun o ho => ?_, fun o ho k hk => ?_, fun o ho j k hj hk e => ?_, ?_, fun o ho k hk => ?_, ?_⟩
  · rcases List.mem_append.1 ho with ho | ho
    · exact h.size o ho
    · rw [List.mem_singleton.1 ho]; exact hn
  · rcases List.mem_append.1 ho with ho | ho
    · obtain ⟨u1, u2⟩ := h.used o ho k hk
      refine ⟨u1, ?_⟩
      rw [hc.old _ fun m hm => ⟨by have := hc.lt m hm; omega, by have := hne o ho k m hk hm; omega⟩]
      exact u2
    · rw [List.mem_singleton.1 ho] at hk ⊢
      exact ⟨hc.lt k hk, hc.used k hk⟩
  · rcases List.mem_append.1 ho with ho | ho
    · exact h.inj o ho j k hj hk e
    · rw [List.mem_singleton.1 ho] at hj hk e
      exact hc.inj j k hj hk e
  · refine List.pairwise_append.2 ⟨h.apart, List.pairwise_singleton _ _, fun o ho z hz j k hj hk => ?_⟩
    rw [List.mem_singleton.1 hz] at hk ⊢
    exact hne o ho j k hj hk
  · rcases List.mem_append.1 ho with ho | ho
    · have u1 := (h.used o ho k (by omega)).1
      rw [hc.old _ fun m hm => ⟨by have := hne o ho k m (by omega) hm; omega, by have := hc.lt m hm; omega⟩]
      exact h.link o ho k hk
    · rw [List.mem_singleton.1 ho] at hk ⊢
      exact hc.link k hk
  · have := h.sum
    rw [tot_append]
    simp only [tot]
    omega
/-- What it holds; the others hold what they held. -/
theorem Chn.field {n : Nat} {c : Nat → Nat} (hc : Chn base N ws ws' (frg n) c) {i : Nat} : ws' ((⟨n, c⟩ : Ob).ad base i) = 0 := by
  unfold Ob.ad
  refine hc.zero _ (hop_lt i n) _ (wrd_lt i n) ?_
  by_cases e : hop i n + 1 < frg n
  · exact .inl (wrd_pos e)
  · have := hop_lt i n
    exact .inr (by omega)
theorem OInv.make_old (h : OInv ws base N len O) {n : Nat} {c : Nat → Nat} (hc : Chn base N ws ws' (frg n) c) {o : Ob} (ho : o ∈ O) {i : Nat} : ws' (o.ad base i) = ws (o.ad base i) := by
  have w1 := wrd_lt i o.n
  have u1 := h.used o ho _ (hop_lt i o.n)
  refine hc.old _ fun m hm => ?_
  have h2 := hc.lt m hm
  have h1 : o.c (hop i o.n) ≠ c m := fun e => u1.2 (by rw [e]; exact hc.free m hm)
  unfold Ob.ad
  constructor <;> omega
theorem OInv.make_ref (h : OInv ws base N len O) {n : Nat} {c : Nat → Nat} (hc : Chn base N ws ws' (frg n) c) {o : Ob} (ho : o ∈ O) : o.ref ≠ (⟨n, c⟩ : Ob).ref := by
  have u1 := h.used o ho 0 (frg_pos _)
  have h1 : o.c 0 ≠ c 0 := fun e => u1.2 (by rw [e]; exact hc.free 0 (frg_pos _))
  unfold Ob.ref
  show (o.c 0 : Int) + 1 ≠ (c 0 : Int) + 1
  omega
end
/-- The first m fragments of an object have been freed. -/
def freed (base N : Nat) (ws : Nat → Int) (c : Nat → Nat) : Nat → Nat → Int
  | 0 => ws
  | m + 1 => upd (freed base N ws c m) (base + 8 * N + c m) 0
theorem freed_word {base N : Nat} (ws : Nat → Int) (c : Nat → Nat) {a : Nat} (ha : a < base + 8 * N) : ∀ m, freed base N ws c m a = ws a
  | 0 => rfl
  | m + 1 => by
    show upd _ _ _ a = _
    rw [upd_else _ _ (by omega), freed_word ws c ha m]
theorem freed_col {base N : Nat} (ws : Nat → Int) (c : Nat → Nat) {f : Nat} : ∀ m, (∀ k, k < m → c k ≠ f) → freed base N ws c m (base + 8 * N + f) = ws (base + 8 * N + f)
  | 0, _ => rfl
  | m + 1, h => by
    have := h m (by omega)
    show upd _ _ _ (base + 8 * N + f) = _
    rw [upd_else _ _ (by omega), freed_col ws c m fun k hk => h k (by omega)]
theorem OInv.free {ws : Nat → Int} {base N len : Nat} {O : List Ob} (h : OInv ws base N len O) {a : Nat} {o : Ob} (ha : O[a]? = some o) : OInv (freed base N ws o.c (frg o.n)) base N (len + frg o.n) (O.eraseIdx a) := by
  have hsub : ∀ z ∈ O.eraseIdx a, z ∈ O ∧ ∀ j k, j < frg z.n → k < frg o.n → o.c k ≠ z.c j := by
    intro z hz
    obtain ⟨i, hi, e⟩ := List.mem_eraseIdx_iff_getElem?.1 hz
    refine ⟨List.mem_of_getElem? e, fun j k hj hk => h.far ha e (fun r => hi r.symm) hk hj⟩
  refine ⟨fun z hz => h.size z (hsub z hz).1, fun z hz k hk => ?_, fun z hz => h.inj z (hsub z hz).1, h.apart.sublist (List.eraseIdx_sublist ..), fun z hz k hk => ?_, ?_⟩
  · obtain ⟨u1, u2⟩ := h.used z (hsub z hz).1 k hk
    refine ⟨u1, ?_⟩
    rw [freed_col ws o.c _ fun m hm => (hsub z hz).2 k m hk hm]
    exact u2
  · have u1 := (h.used z (hsub z hz).1 k (by omega)).1
    rw [freed_word ws o.c (by omega)]
    exact h.link z (hsub z hz).1 k hk
  · have h1 := h.sum
    have h2 := tot_erase O a o ha
    omega
theorem OInv.free_old {ws : Nat → Int} {base N len : Nat} {O : List Ob} (h : OInv ws base N len O) {c : Nat → Nat} (m : Nat) {o : Ob} (ho : o ∈ O) {i : Nat} : freed base N ws c m (o.ad base i) = ws (o.ad base i) := by
  have w1 := wrd_lt i o.n
  have u1 := (h.used o ho _ (hop_lt i o.n)).1
  exact freed_word ws c (by unfold Ob.ad; omega) m
/-- How many are used. -/
theorem cnt_free {C : Nat → Int} {n : Nat} {xs : List Int} (hc : ∀ f, f < n → (C f = 0 ↔ (f : Int) + 1 ∈ xs)) (hn : xs.Nodup) (hr : ∀ x, x ∈ xs → 1 ≤ x ∧ x ≤ n) : cnt C n + xs.length = n := by
  induction n generalizing xs with
  | zero =>
    cases xs with
    | nil => rfl
    | cons x r => have := hr x (by simp); omega
  | succ n ih =>
    by_cases e : C n = 0
    · have hin := (hc n (by omega)).1 e
      have h1 := ih (xs := xs.erase ((n : Int) + 1)) (fun f hf => by
        rw [hc f (by omega), List.Nodup.mem_erase_iff hn]
        exact ⟨fun q => ⟨by omega, q⟩, fun q => q.2⟩) (hn.erase _) (fun x hx => by
        obtain ⟨h2, h3⟩ := (List.Nodup.mem_erase_iff hn).1 hx
        have := hr x h3
        omega)
      rw [List.length_erase_of_mem hin] at h1
      have : 0 < xs.length := List.length_pos_of_mem hin
      simp only [cnt, if_pos e]
      omega
    · have h1 := ih (xs := xs) (fun f hf => hc f (by omega)) hn (fun x hx => by
        have h2 := hr x hx
        by_cases e2 : x = (n : Int) + 1
        · subst e2
          exact absurd ((hc n (by omega)).2 hx) e
        · omega)
      simp only [cnt, if_neg e]
      omega
end Go.Proofs.YtojblddfggoecaaGreat
