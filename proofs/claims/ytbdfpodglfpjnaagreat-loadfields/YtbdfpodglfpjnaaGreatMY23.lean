/- A row's cells as they lie; a row of one's own as a slice. -/
import Derived.Test.YtbdfpodglfpjnaaGreatMQApp
namespace Go.Proofs.YtbdfpodglfpjnaaGreat
open Go.RowKit

/-- A comparison that is one. -/
structure Cg {α : Type} (c : α → α → Int) : Prop where
  anti : ∀ x y, c x y < 0 ↔ 0 < c y x
  le : ∀ x y z, c x y ≤ 0 → c y z ≤ 0 → c x z ≤ 0
theorem Cg.zero {α : Type} {c : α → α → Int} (h : Cg c) {x y : α} (e : c x y = 0) : c y x = 0 := by
  have h1 := h.anti x y
  have h2 := h.anti y x
  have h3 : ¬ 0 < c y x := fun q => by have := h1.2 q; omega
  have h4 : ¬ c y x < 0 := fun q => by have := h2.1 q; omega
  omega
theorem Cg.pull {α β : Type} {c : α → α → Int} (h : Cg c) (f : β → α) : Cg (fun x y => c (f x) (f y)) := ⟨fun _ _ => h.anti _ _, fun _ _ _ => h.le _ _ _⟩
theorem Cg.lex {α : Type} {c d : α → α → Int} (h : Cg c) (k : Cg d) : Cg (fun x y => if c x y = 0 then d x y else c x y) := by
  refine ⟨fun x y => ?_, fun x y z => ?_⟩
  · by_cases e : c x y = 0
    · simp only [if_pos e, if_pos (h.zero e)]; exact k.anti x y
    · have e2 : c y x ≠ 0 := fun q => e (h.zero q)
      simp only [if_neg e, if_neg e2]; exact h.anti x y
  · intro h1 h2
    have a1 : c x y ≤ 0 := by
      by_cases e : c x y = 0
      · omega
      · simp only [if_neg e] at h1; exact h1
    have a2 : c y z ≤ 0 := by
      by_cases e : c y z = 0
      · omega
      · simp only [if_neg e] at h2; exact h2
    have a3 := h.le x y z a1 a2
    by_cases e : c x z = 0
    · have e0 := h.zero e
      have b1 : c y x ≤ 0 := h.le y z x a2 (by omega)
      have b2 : c z y ≤ 0 := h.le z x y (by omega) a1
      have e1 : c x y = 0 := by
        have : ¬ c x y < 0 := fun q => by have := (h.anti x y).1 q; omega
        omega
      have e2 : c y z = 0 := by
        have : ¬ c y z < 0 := fun q => by have := (h.anti y z).1 q; omega
        omega
      simp only [if_pos e1] at h1
      simp only [if_pos e2] at h2
      simp only [if_pos e]
      exact k.le x y z h1 h2
    · simp only [if_neg e]; omega
theorem cg_int : Cg cmpI := by
  refine ⟨fun x y => ?_, fun x y z => ?_⟩ <;> unfold cmpI
  · split <;> split <;> (try split) <;> constructor <;> intro h <;> omega
  · intro h1 h2
    split at h1 <;> split at h2 <;> (try split at h1) <;> (try split at h2) <;> split <;> (try split) <;> omega
theorem cb_anti : ∀ a b : List UInt8, Lib.compareBytes a b < 0 ↔ 0 < Lib.compareBytes b a
  | [], [] => by simp [Lib.compareBytes]
  | [], _ :: _ => by simp [Lib.compareBytes]
  | _ :: _, [] => by simp [Lib.compareBytes]
  | x :: a, y :: b => by
    have ih := cb_anti a b
    unfold Lib.compareBytes
    by_cases h1 : x < y
    · have h2 : ¬ y < x := UInt8.lt_asymm h1
      simp [h1, h2]
    · by_cases h2 : y < x
      · simp [h1, h2]
      · simp only [if_neg h1, if_neg h2]; exact ih
theorem cb_le : ∀ a b c : List UInt8, Lib.compareBytes a b ≤ 0 → Lib.compareBytes b c ≤ 0 → Lib.compareBytes a c ≤ 0
  | [], _, [] => fun _ _ => by simp [Lib.compareBytes]
  | [], _, _ :: _ => fun _ _ => by simp [Lib.compareBytes]
  | _ :: _, [], _ => fun h _ => by simp [Lib.compareBytes] at h
  | _ :: _, _ :: _, [] => fun _ h => by simp [Lib.compareBytes] at h
  | x :: a, y :: b, z :: c => by
    have ih := cb_le a b c
    unfold Lib.compareBytes
    intro h1 h2
    have e1 : x < y ↔ x.toNat < y.toNat := UInt8.lt_iff_toNat_lt
    have e2 : y < x ↔ y.toNat < x.toNat := UInt8.lt_iff_toNat_lt
    have e3 : y < z ↔ y.toNat < z.toNat := UInt8.lt_iff_toNat_lt
    have e4 : z < y ↔ z.toNat < y.toNat := UInt8.lt_iff_toNat_lt
    have e5 : x < z ↔ x.toNat < z.toNat := UInt8.lt_iff_toNat_lt
    have e6 : z < x ↔ z.toNat < x.toNat := UInt8.lt_iff_toNat_lt
    by_cases q1 : x < y
    · by_cases q3 : y < z
      · have : x < z := by rw [e5]; rw [e1] at q1; rw [e3] at q3; omega
        simp [this]
      · by_cases q4 : z < y
        · simp [q3, q4] at h2
        · have : x < z := by rw [e5]; rw [e1] at q1; rw [e3] at q3; rw [e4] at q4; omega
          simp [this]
    · by_cases q2 : y < x
      · simp [q1, q2] at h1
      · rw [if_neg q1, if_neg q2] at h1
        by_cases q3 : y < z
        · have : x < z := by rw [e5]; rw [e1] at q1; rw [e2] at q2; rw [e3] at q3; omega
          simp [this]
        · by_cases q4 : z < y
          · simp [q3, q4] at h2
          · rw [if_neg q3, if_neg q4] at h2
            have r1 : ¬ x < z := by rw [e5]; rw [e1] at q1; rw [e2] at q2; rw [e3] at q3; rw [e4] at q4; omega
            have r2 : ¬ z < x := by rw [e6]; rw [e1] at q1; rw [e2] at q2; rw [e3] at q3; rw [e4] at q4; omega
            rw [if_neg r1, if_neg r2]
            exact ih h1 h2
theorem cg_str : Cg cmpS := ⟨fun _ _ => cb_anti _ _, fun _ _ _ => cb_le _ _ _⟩
theorem cl_anti : ∀ a b : List Int, cmpL a b < 0 ↔ 0 < cmpL b a
  | [], [] => by simp [cmpL]
  | [], _ :: _ => by simp [cmpL]
  | _ :: _, [] => by simp [cmpL]
  | x :: a, y :: b => by
    have ih := cl_anti a b
    unfold cmpL
    by_cases e : cmpI x y = 0
    · rw [if_pos e, if_pos (cg_int.zero e)]; exact ih
    · have e2 : cmpI y x ≠ 0 := fun q => e (cg_int.zero q)
      rw [if_neg e, if_neg e2]; exact cg_int.anti x y
theorem cl_le : ∀ a b c : List Int, cmpL a b ≤ 0 → cmpL b c ≤ 0 → cmpL a c ≤ 0
  | [], _, [] => fun _ _ => by simp [cmpL]
  | [], _, _ :: _ => fun _ _ => by simp [cmpL]
  | _ :: _, [], _ => fun h _ => by simp [cmpL] at h
  | _ :: _, _ :: _, [] => fun _ h => by simp [cmpL] at h
  | x :: a, y :: b, z :: c => by
    have ih := cl_le a b c
    unfold cmpL
    intro h1 h2
    by_cases e1 : cmpI x y = 0
    · rw [if_pos e1] at h1
      have k1 := (cmpI_zero x y).1 e1
      subst k1
      by_cases e2 : cmpI x z = 0
      · rw [if_pos e2] at h2 ⊢; exact ih h1 h2
      · rw [if_neg e2] at h2 ⊢; exact h2
    · rw [if_neg e1] at h1
      by_cases e2 : cmpI y z = 0
      · have k1 := (cmpI_zero y z).1 e2
        subst k1
        rw [if_neg e1]; exact h1
      · rw [if_neg e2] at h2
        have a3 := cg_int.le x y z h1 h2
        by_cases e3 : cmpI x z = 0
        · exfalso
          have k1 := (cmpI_zero x z).1 e3
          subst k1
          have b1 : ¬ cmpI x y < 0 := fun q => by have := (cg_int.anti x y).1 q; omega
          omega
        · rw [if_neg e3]; exact a3
theorem cg_list : Cg cmpL := ⟨cl_anti, cl_le⟩
theorem sgC_lex (a b : Sg) : sgC a b = if cmpS a.nm b.nm = 0 then (if cmpI a.ret b.ret = 0 then cmpL a.args b.args else cmpI a.ret b.ret) else cmpS a.nm b.nm := by
  unfold sgC
  have h1 : (cmpS a.nm b.nm == 0) = eqB a.nm b.nm := cmpB_zero _ _
  rcases hE : eqB a.nm b.nm with _ | _
  · rw [hE] at h1
    have : cmpS a.nm b.nm ≠ 0 := by simpa using h1
    rw [if_neg (by decide), if_neg this]
  · rw [hE] at h1
    have : cmpS a.nm b.nm = 0 := by simpa using h1
    rw [if_pos rfl, if_pos this]
    by_cases hr : a.ret = b.ret
    · rw [if_pos hr, if_pos ((cmpI_zero _ _).2 hr)]
    · rw [if_neg hr, if_neg fun q => hr ((cmpI_zero _ _).1 q)]
theorem cg_sg : Cg sgC := by
  have h := (cg_str.pull Sg.nm).lex ((cg_int.pull Sg.ret).lex (cg_list.pull Sg.args))
  have e : sgC = fun x y => if cmpS x.nm y.nm = 0 then (if cmpI x.ret y.ret = 0 then cmpL x.args y.args else cmpI x.ret y.ret) else cmpS x.nm y.nm := by
    funext x y; exact sgC_lex x y
  rw [e]; exact h
/-- Pairs that are alike, whatever the row. -/
theorem pair_iff {α : Type} {eq : α → α → Bool} (hs : ∀ x y, eq x y = eq y x) (xs : List α) : pairJ eq xs xs.length = false ↔ xs.Pairwise (fun x y => eq x y = false) := by
  rw [List.pairwise_iff_getElem]
  constructor
  · intro h i j hi hj hij
    rcases hq : eq xs[i] xs[j] with _ | _
    · rfl
    · exfalso
      have h1 : atJ eq xs j i = true := by rw [atJ_eq (List.getElem?_eq_getElem hj) (List.getElem?_eq_getElem hi), hs]; exact hq
      rw [pairJ_hit (rowJ_hit h1 hij) hj] at h
      cases h
  · intro h
    rcases hq : pairJ eq xs xs.length with _ | _
    · rfl
    · exfalso
      unfold pairJ at hq
      rw [List.any_eq_true] at hq
      obtain ⟨j, hj, hr⟩ := hq
      unfold rowJ at hr
      rw [List.any_eq_true] at hr
      obtain ⟨i, hi, ha⟩ := hr
      have hj := List.mem_range.1 hj
      have hi := List.mem_range.1 hi
      rw [atJ_eq (List.getElem?_eq_getElem hj) (List.getElem?_eq_getElem (show i < xs.length by omega)), hs, h i j (by omega) hj hi] at ha
      cases ha
/-- In a sorted row alike ones stand beside one another. -/
theorem adj_iff {α : Type} {c : α → α → Int} (C : Cg c) (xs : List α) (hS : ∀ i j (hi : i < xs.length) (hj : j < xs.length), i < j → ¬ c xs[j] xs[i] < 0) : xs.Pairwise (fun x y => (c x y == 0) = false) ↔ ∀ i (hi : i + 1 < xs.length), c xs[i] xs[i + 1] ≠ 0 := by
  rw [List.pairwise_iff_getElem]
  constructor
  · intro h i hi he
    have := h i (i + 1) (by omega) hi (by omega)
    rw [he] at this; cases this
  · intro h i j hi hj hij
    rcases hq : (c xs[i] xs[j] == 0) with _ | _
    · rfl
    · exfalso
      have he : c xs[i] xs[j] = 0 := by simpa using hq
      apply h i (by omega)
      have h1 : c xs[i] xs[i + 1] ≤ 0 := by
        have := hS i (i + 1) hi (by omega) (by omega)
        have k := C.anti xs[i + 1] xs[i]
        apply Int.not_lt.1
        intro q
        exact this (k.2 q)
      by_cases hj1 : j = i + 1
      · subst hj1; exact he
      · have h2 : c xs[i + 1] xs[j] ≤ 0 := by
          have := hS (i + 1) j (by omega) hj (by omega)
          apply Int.not_lt.1
          intro q
          exact this ((C.anti xs[j] xs[i + 1]).2 q)
        have h3 := C.le _ _ _ h2 (by rw [C.zero he]; omega : c xs[j] xs[i] ≤ 0)
        have h4 : ¬ c xs[i] xs[i + 1] < 0 := fun q => by have := (C.anti xs[i] xs[i + 1]).1 q; omega
        omega
end Go.Proofs.YtbdfpodglfpjnaaGreat
namespace Go.Proofs.YtbdfpodglfpjnaaGreat
open Go.RowKit Go.Deep

theorem list_ofQ {α : Type} {P : Nat → α → Prop} : ∀ n, (∀ i, i < n → ∃ x, P i x) → ∃ xs : List α, xs.length = n ∧ ∀ i x, xs[i]? = some x → P i x
  | 0, _ => ⟨[], rfl, fun i x h => by simp at h⟩
  | n + 1, h => by
    obtain ⟨xs, hl, hx⟩ := list_ofQ n fun i hi => h i (by omega)
    obtain ⟨y, hy⟩ := h n (by omega)
    refine ⟨xs ++ [y], by simp [hl], fun i x hi => ?_⟩
    by_cases hin : i < n
    · exact hx i x (by rw [List.getElem?_append_left (by omega)] at hi; exact hi)
    · rw [List.getElem?_append_right (by omega), hl] at hi
      have : i = n := by
        have := (List.getElem?_eq_some_iff.1 hi).1
        simp at this; omega
      subst this
      simp at hi
      subst hi
      exact hy
theorem Sl.raw {α : Type} {K : Kd α} {w : World} {S : Nat → Prop} {ao : Option Addr} {n cap : Nat} {xs : List α} (h : Sl K w S (.slice ao n cap) xs) (hx : 0 < xs.length) :
    ∃ (b o : Nat) (CS : List (List Value)), ao = some ⟨b, o, none⟩ ∧ S b ∧ CS.length = xs.length ∧ (∀ (i : Nat) (x : α), xs[i]? = some x → ∃ cs, CS[i]? = some cs ∧ K.R w S x cs) ∧ (∀ r ∈ CS, r.length = K.k) ∧ (∀ r ∈ CS, ∀ u ∈ r, u.oneCell' = true) ∧ ∀ (j : Nat) (u : Value), CS.flatten[j]? = some u → w.cell? ⟨b, o + j, none⟩ = some u := by
  obtain ⟨ao2, cp, e, _, hh⟩ := h
  injection e with e _ _
  rcases hh with q | ⟨b, o, q1, q2, q3, q4⟩
  · rw [q] at hx; simp at hx
  obtain ⟨CS, hl, hc⟩ := list_ofQ (P := fun (i : Nat) (cs : List Value) => ∃ x, xs[i]? = some x ∧ K.R w S x cs ∧ ∀ j u, cs[j]? = some u → w.cell? ⟨b, o + (i * K.k + j), none⟩ = some u) xs.length fun i hi => by
    obtain ⟨cs, r1, r2⟩ := q4 i xs[i] (List.getElem?_eq_getElem hi)
    exact ⟨cs, xs[i], List.getElem?_eq_getElem hi, r1, r2⟩
  have hk : ∀ r ∈ CS, r.length = K.k := fun r hr => by
    obtain ⟨i, hi⟩ := List.getElem?_of_mem hr
    obtain ⟨x, _, h2, _⟩ := hc i r hi
    exact K.len h2
  refine ⟨b, o, CS, e.trans q1, q2, hl, fun i x hx => ?_, hk, fun r hr => ?_, fun j u hu => ?_⟩
  · have hi : i < CS.length := by rw [hl]; exact (List.getElem?_eq_some_iff.1 hx).1
    obtain ⟨y, h1, h2, _⟩ := hc i CS[i] (List.getElem?_eq_getElem hi)
    rw [hx] at h1
    injection h1 with h1
    subst h1
    exact ⟨_, List.getElem?_eq_getElem hi, h2⟩
  · obtain ⟨i, hi⟩ := List.getElem?_of_mem hr
    obtain ⟨x, _, h2, _⟩ := hc i r hi
    exact K.one h2
  · have hj := (List.getElem?_eq_some_iff.1 hu).1
    rw [flat_len CS hk] at hj
    have hkp := K.pos
    have hi : j / K.k < CS.length := Nat.div_lt_of_lt_mul (by rw [Nat.mul_comm]; exact hj)
    have hm : j % K.k < K.k := Nat.mod_lt _ hkp
    have hdm : j / K.k * K.k + j % K.k = j := by rw [Nat.mul_comm]; exact Nat.div_add_mod j K.k
    obtain ⟨x, _, _, h3⟩ := hc (j / K.k) CS[j / K.k] (List.getElem?_eq_getElem hi)
    have := flat_at CS hk (j / K.k) CS[j / K.k] (List.getElem?_eq_getElem hi) (j % K.k) hm
    rw [hdm, hu] at this
    have h4 := h3 (j % K.k) u this.symm
    rw [hdm] at h4
    exact h4
/-- A row of one's own is a slice of what its cells tell. -/
theorem sl_own {α : Type} {K : Kd α} {w : World} {S : Nat → Prop} {base : Nat} {T : TypeId} {v : Value} {xs : List α} {CS : List (List Value)} (h : w.ownsRow base T K.k v xs.length CS.flatten) (hl : CS.length = xs.length) (hk : ∀ r ∈ CS, r.length = K.k) (hR : ∀ (i : Nat) (x : α) (cs : List Value), xs[i]? = some x → CS[i]? = some cs → K.R w S x cs) (hS : ∀ k, base ≤ k → k < w.heap.size → S k) : Sl K w S v xs := by
  rcases h.2 with ⟨e1, e0⟩ | ⟨g, cap, cur, e1, e2, e3, e4, e5, e6, e7⟩
  · have : xs = [] := List.eq_nil_of_length_eq_zero e0
    subst this
    exact ⟨none, 0, e1, Nat.zero_le _, .inl rfl⟩
  · subst e1
    have hgl := (Array.getElem?_eq_some_iff.1 e3).1
    refine ⟨_, cap, rfl, by omega, .inr ⟨g, 0, rfl, hS g e2 hgl, ⟨hgl, fun _ j => by simp [World.frozen?, e3]⟩, fun i x hx => ?_⟩⟩
    have hi := (List.getElem?_eq_some_iff.1 hx).1
    obtain ⟨cs, hcs⟩ : ∃ cs, CS[i]? = some cs := ⟨_, List.getElem?_eq_getElem (by omega)⟩
    refine ⟨cs, hR i x cs hx hcs, fun j u hu => ?_⟩
    have hj := (List.getElem?_eq_some_iff.1 hu).1
    have hck := hk cs (List.mem_of_getElem? hcs)
    have h1 := flat_at CS hk i cs hcs j (by omega)
    have hlt : i * K.k + j < xs.length * K.k := by
      have := Nat.mul_le_mul_right K.k (show i + 1 ≤ xs.length by omega)
      rw [Nat.add_mul, Nat.one_mul] at this; omega
    rw [Nat.zero_add, h.cellAt _ hlt, h1]; exact hu
end Go.Proofs.YtbdfpodglfpjnaaGreat
