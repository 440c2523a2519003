/- The program's own Load: the tree is made. -/
import Derived.Test.YtbbmgjcabmjjdaaGreatDoorMQApp
import Derived.Test.YtbbmgjcabmjjdaaGreatDoorMY5
import Derived.Deep.Upon
import Derived.Deep.RegionHeld3
namespace Go.Proofs.YtbbmgjcabmjjdaaGreatDoor
open Go.RowKit

/-- A comparison that is one. -/
structure Cg {α : Type} (c : α → α → Int) : Prop where
  anti : ∀ x y, c x y < 0 ↔ 0 < c y x
  le : ∀ x y z, c x y ≤ 0 → c y z ≤ 0 → c x z ≤ 0
theorem Cg.zero {α : Type} {c : α → α → Int} (h : Cg c) {x y : α} (e : c x y = 0) : c y x = 0 := by
  have h1 := h.anti x y
  have h2 := h.anti y x
  have h3 : ¬ 0 < c y x := fun q => by have := h1.2 q; omega
  have h4 : ¬ c y x < 0 := fun q => by have := h2.1 q; omega
  omega
theorem Cg.pull {α β : Type} {c : α → α → Int} (h : Cg c) (f : β → α) : Cg (fun x y => c (f x) (f y)) := ⟨fun _ _ => h.anti _ _, fun _ _ _ => h.le _ _ _⟩
theorem Cg.lex {α : Type} {c d : α → α → Int} (h : Cg c) (k : Cg d) : Cg (fun x y => if c x y = 0 then d x y else c x y) := by
  refine ⟨fun x y => ?_, fun x y z => ?_⟩
  · by_cases e : c x y = 0
    · simp only [if_pos e, if_pos (h.zero e)]; exact k.anti x y
    · have e2 : c y x ≠ 0 := fun q => e (h.zero q)
      simp only [if_neg e, if_neg e2]; exact h.anti x y
  · intro h1 h2
    have a1 : c x y ≤ 0 := by
      by_cases e : c x y = 0
      · omega
      · simp only [if_neg e] at h1; exact h1
    have a2 : c y z ≤ 0 := by
      by_cases e : c y z = 0
      · omega
      · simp only [if_neg e] at h2; exact h2
    have a3 := h.le x y z a1 a2
    by_cases e : c x z = 0
    · have e0 := h.zero e
      have b1 : c y x ≤ 0 := h.le y z x a2 (by omega)
      have b2 : c z y ≤ 0 := h.le z x y (by omega) a1
      have e1 : c x y = 0 := by
        have : ¬ c x y < 0 := fun q => by have := (h.anti x y).1 q; omega
        omega
      have e2 : c y z = 0 := by
        have : ¬ c y z < 0 := fun q => by have := (h.anti y z).1 q; omega
        omega
      simp only [if_pos e1] at h1
      simp only [if_pos e2] at h2
      simp only [if_pos e]
      exact k.le x y z h1 h2
    · simp only [if_neg e]; omega
theorem cg_int : Cg cmpI := by
  refine ⟨fun x y => ?_, fun x y z => ?_⟩ <;> unfold cmpI
  · split <;> split <;> (try split) <;> constructor <;> intro h <;> omega
  · intro h1 h2
    split at h1 <;> split at h2 <;> (try split at h1) <;> (try split at h2) <;> split <;> (try split) <;> omega
theorem cb_anti : ∀ a b : List UInt8, Lib.compareBytes a b < 0 ↔ 0 < Lib.compareBytes b a
  | [], [] => by simp [Lib.compareBytes]
  | [], _ :: _ => by simp [Lib.compareBytes]
  | _ :: _, [] => by simp [Lib.compareBytes]
  | x :: a, y :: b => by
    have ih := cb_anti a b
    unfold Lib.compareBytes
    by_cases h1 : x < y
    · have h2 : ¬ y < x := UInt8.lt_asymm h1
      simp [h1, h2]
    · by_cases h2 : y < x
      · simp [h1, h2]
      · simp only [if_neg h1, if_neg h2]; exact ih
theorem cb_le : ∀ a b c : List UInt8, Lib.compareBytes a b ≤ 0 → Lib.compareBytes b c ≤ 0 → Lib.compareBytes a c ≤ 0
  | [], _, [] => fun _ _ => by simp [Lib.compareBytes]
  | [], _, _ :: _ => fun _ _ => by simp [Lib.compareBytes]
  | _ :: _, [], _ => fun h _ => by simp [Lib.compareBytes] at h
  | _ :: _, _ :: _, [] => fun _ h => by simp [Lib.compareBytes] at h
  | x :: a, y :: b, z :: c => by
    have ih := cb_le a b c
    unfold Lib.compareBytes
    intro h1 h2
    have e1 : x < y ↔ x.toNat < y.toNat := UInt8.lt_iff_toNat_lt
    have e2 : y < x ↔ y.toNat < x.toNat := UInt8.lt_iff_toNat_lt
    have e3 : y < z ↔ y.toNat < z.toNat := UInt8.lt_iff_toNat_lt
    have e4 : z < y ↔ z.toNat < y.toNat := UInt8.lt_iff_toNat_lt
    have e5 : x < z ↔ x.toNat < z.toNat := UInt8.lt_iff_toNat_lt
    have e6 : z < x ↔ z.toNat < x.toNat := UInt8.lt_iff_toNat_lt
    by_cases q1 : x < y
    · by_cases q3 : y < z
      · have : x < z := by rw [e5]; rw [e1] at q1; rw [e3] at q3; omega
        simp [this]
      · by_cases q4 : z < y
        · simp [q3, q4] at h2
        · have : x < z := by rw [e5]; rw [e1] at q1; rw [e3] at q3; rw [e4] at q4; omega
          simp [this]
    · by_cases q2 : y < x
      · simp [q1, q2] at h1
      · rw [if_neg q1, if_neg q2] at h1
        by_cases q3 : y < z
        · have : x < z := by rw [e5]; rw [e1] at q1; rw [e2] at q2; rw [e3] at q3; omega
          simp [this]
        · by_cases q4 : z < y
          · simp [q3, q4] at h2
          · rw [if_neg q3, if_neg q4] at h2
            have r1 : ¬ x < z := by rw [e5]; rw [e1] at q1; rw [e2] at q2; rw [e3] at q3; rw [e4] at q4; omega
            have r2 : ¬ z < x := by rw [e6]; rw [e1] at q1; rw [e2] at q2; rw [e3] at q3; rw [e4] at q4; omega
            rw [if_neg r1, if_neg r2]
            exact ih h1 h2
theorem cg_str : Cg cmpS := ⟨fun _ _ => cb_anti _ _, fun _ _ _ => cb_le _ _ _⟩
theorem cl_anti : ∀ a b : List Int, cmpL a b < 0 ↔ 0 < cmpL b a
  | [], [] => by simp [cmpL]
  | [], _ :: _ => by simp [cmpL]
  | _ :: _, [] => by simp [cmpL]
  | x :: a, y :: b => by
    have ih := cl_anti a b
    unfold cmpL
    by_cases e : cmpI x y = 0
    · rw [if_pos e, if_pos (cg_int.zero e)]; exact ih
    · have e2 : cmpI y x ≠ 0 := fun q => e (cg_int.zero q)
      rw [if_neg e, if_neg e2]; exact cg_int.anti x y
theorem cl_le : ∀ a b c : List Int, cmpL a b ≤ 0 → cmpL b c ≤ 0 → cmpL a c ≤ 0
  | [], _, [] => fun _ _ => by simp [cmpL]
  | [], _, _ :: _ => fun _ _ => by simp [cmpL]
  | _ :: _, [], _ => fun h _ => by simp [cmpL] at h
  | _ :: _, _ :: _, [] => fun _ h => by simp [cmpL] at h
  | x :: a, y :: b, z :: c => by
    have ih := cl_le a b c
    unfold cmpL
    intro h1 h2
    by_cases e1 : cmpI x y = 0
    · rw [if_pos e1] at h1
      have k1 := (cmpI_zero x y).1 e1
      subst k1
      by_cases e2 : cmpI x z = 0
      · rw [if_pos e2] at h2 ⊢; exact ih h1 h2
      · rw [if_neg e2] at h2 ⊢; exact h2
    · rw [if_neg e1] at h1
      by_cases e2 : cmpI y z = 0
      · have k1 := (cmpI_zero y z).1 e2
        subst k1
        rw [if_neg e1]; exact h1
      · rw [if_neg e2] at h2
        have a3 := cg_int.le x y z h1 h2
        by_cases e3 : cmpI x z = 0
        · exfalso
          have k1 := (cmpI_zero x z).1 e3
          subst k1
          have b1 : ¬ cmpI x y < 0 := fun q => by have := (cg_int.anti x y).1 q; omega
          omega
        · rw [if_neg e3]; exact a3
theorem cg_list : Cg cmpL := ⟨cl_anti, cl_le⟩
theorem sgC_lex (a b : Sg) : sgC a b = if cmpS a.nm b.nm = 0 then (if cmpI a.ret b.ret = 0 then cmpL a.args b.args else cmpI a.ret b.ret) else cmpS a.nm b.nm := by
  unfold sgC
  have h1 : (cmpS a.nm b.nm == 0) = eqB a.nm b.nm := cmpB_zero _ _
  rcases hE : eqB a.nm b.nm with _ | _
  · rw [hE] at h1
    have : cmpS a.nm b.nm ≠ 0 := by simpa using h1
    rw [if_neg (by decide), if_neg this]
  · rw [hE] at h1
    have : cmpS a.nm b.nm = 0 := by simpa using h1
    rw [if_pos rfl, if_pos this]
    by_cases hr : a.ret = b.ret
    · rw [if_pos hr, if_pos ((cmpI_zero _ _).2 hr)]
    · rw [if_neg hr, if_neg fun q => hr ((cmpI_zero _ _).1 q)]
theorem cg_sg : Cg sgC := by
  have h := (cg_str.pull Sg.nm).lex ((cg_int.pull Sg.ret).lex (cg_list.pull Sg.args))
  have e : sgC = fun x y => if cmpS x.nm y.nm = 0 then (if cmpI x.ret y.ret = 0 then cmpL x.args y.args else cmpI x.ret y.ret) else cmpS x.nm y.nm := by
    funext x y; exact sgC_lex x y
  rw [e]; exact h
/-- Pairs that are alike, whatever the row. -/
theorem pair_iff {α : Type} {eq : α → α → Bool} (hs : ∀ x y, eq x y = eq y x) (xs : List α) : pairJ eq xs xs.length = false ↔ xs.Pairwise (fun x y => eq x y = false) := by
  rw [List.pairwise_iff_getElem]
  constructor
  · intro h i j hi hj hij
    rcases hq : eq xs[i] xs[j] with _ | _
    · rfl
    · exfalso
      have h1 : atJ eq xs j i = true := by rw [atJ_eq (List.getElem?_eq_getElem hj) (List.getElem?_eq_getElem hi), hs]; exact hq
      rw [pairJ_hit (rowJ_hit h1 hij) hj] at h
      cases h
  · intro h
    rcases hq : pairJ eq xs xs.length with _ | _
    · rfl
    · exfalso
      unfold pairJ at hq
      rw [List.any_eq_true] at hq
      obtain ⟨j, hj, hr⟩ := hq
      unfold rowJ at hr
      rw [List.any_eq_true] at hr
      obtain ⟨i, hi, ha⟩ := hr
      have hj := List.mem_range.1 hj
      have hi := List.mem_range.1 hi
      rw [atJ_eq (List.getElem?_eq_getElem hj) (List.getElem?_eq_getElem (show i < xs.length by omega)), hs, h i j (by omega) hj hi] at ha
      cases ha
/-- In a sorted row alike ones stand beside one another. -/
theorem adj_iff {α : Type} {c : α → α → Int} (C : Cg c) (xs : List α) (hS : ∀ i j (hi : i < xs.length) (hj : j < xs.length), i < j → ¬ c xs[j] xs[i] < 0) : xs.Pairwise (fun x y => (c x y == 0) = false) ↔ ∀ i (hi : i + 1 < xs.length), c xs[i] xs[i + 1] ≠ 0 := by
  rw [List.pairwise_iff_getElem]
  constructor
  · intro h i hi he
    have := h i (i + 1) (by omega) hi (by omega)
    rw [he] at this; cases this
  · intro h i j hi hj hij
    rcases hq : (c xs[i] xs[j] == 0) with _ | _
    · rfl
    · exfalso
      have he : c xs[i] xs[j] = 0 := by simpa using hq
      apply h i (by omega)
      have h1 : c xs[i] xs[i + 1] ≤ 0 := by
        have := hS i (i + 1) hi (by omega) (by omega)
        have k := C.anti xs[i + 1] xs[i]
        apply Int.not_lt.1
        intro q
        exact this (k.2 q)
      by_cases hj1 : j = i + 1
      · subst hj1; exact he
      · have h2 : c xs[i + 1] xs[j] ≤ 0 := by
          have := hS (i + 1) j (by omega) hj (by omega)
          apply Int.not_lt.1
          intro q
          exact this ((C.anti xs[j] xs[i + 1]).2 q)
        have h3 := C.le _ _ _ h2 (by rw [C.zero he]; omega : c xs[j] xs[i] ≤ 0)
        have h4 : ¬ c xs[i] xs[i + 1] < 0 := fun q => by have := (C.anti xs[i] xs[i + 1]).1 q; omega
        omega
end Go.Proofs.YtbbmgjcabmjjdaaGreatDoor
namespace Go.Proofs.YtbbmgjcabmjjdaaGreatDoor
open Go.RowKit Go.Deep

theorem list_ofQ {α : Type} {P : Nat → α → Prop} : ∀ n, (∀ i, i < n → ∃ x, P i x) → ∃ xs : List α, xs.length = n ∧ ∀ i x, xs[i]? = some x → P i x
  | 0, _ => ⟨[], rfl, fun i x h => by simp at h⟩
  | n + 1, h => by
    obtain ⟨xs, hl, hx⟩ := list_ofQ n fun i hi => h i (by omega)
    obtain ⟨y, hy⟩ := h n (by omega)
    refine ⟨xs ++ [y], by simp [hl], fun i x hi => ?_⟩
    by_cases hin : i < n
    · exact hx i x (by rw [List.getElem?_append_left (by omega)] at hi; exact hi)
    · rw [List.getElem?_append_right (by omega), hl] at hi
      have : i = n := by
        have := (List.getElem?_eq_some_iff.1 hi).1
        simp at this; omega
      subst this
      simp at hi
      subst hi
      exact hy
theorem Sl.raw {α : Type} {K : Kd α} {w : World} {S : Nat → Prop} {ao : Option Addr} {n cap : Nat} {xs : List α} (h : Sl K w S (.slice ao n cap) xs) (hx : 0 < xs.length) :
    ∃ (b o : Nat) (CS : List (List Value)), ao = some ⟨b, o, none⟩ ∧ S b ∧ CS.length = xs.length ∧ (∀ (i : Nat) (x : α), xs[i]? = some x → ∃ cs, CS[i]? = some cs ∧ K.R w S x cs) ∧ (∀ r ∈ CS, r.length = K.k) ∧ (∀ r ∈ CS, ∀ u ∈ r, u.oneCell' = true) ∧ ∀ (j : Nat) (u : Value), CS.flatten[j]? = some u → w.cell? ⟨b, o + j, none⟩ = some u := by
  obtain ⟨ao2, cp, e, _, hh⟩ := h
  injection e with e _ _
  rcases hh with q | ⟨b, o, q1, q2, q3, q4⟩
  · rw [q] at hx; simp at hx
  obtain ⟨CS, hl, hc⟩ := list_ofQ (P := fun (i : Nat) (cs : List Value) => ∃ x, xs[i]? = some x ∧ K.R w S x cs ∧ ∀ j u, cs[j]? = some u → w.cell? ⟨b, o + (i * K.k + j), none⟩ = some u) xs.length fun i hi => by
    obtain ⟨cs, r1, r2⟩ := q4 i xs[i] (List.getElem?_eq_getElem hi)
    exact ⟨cs, xs[i], List.getElem?_eq_getElem hi, r1, r2⟩
  have hk : ∀ r ∈ CS, r.length = K.k := fun r hr => by
    obtain ⟨i, hi⟩ := List.getElem?_of_mem hr
    obtain ⟨x, _, h2, _⟩ := hc i r hi
    exact K.len h2
  refine ⟨b, o, CS, e.trans q1, q2, hl, fun i x hx => ?_, hk, fun r hr => ?_, fun j u hu => ?_⟩
  · have hi : i < CS.length := by rw [hl]; exact (List.getElem?_eq_some_iff.1 hx).1
    obtain ⟨y, h1, h2, _⟩ := hc i CS[i] (List.getElem?_eq_getElem hi)
    rw [hx] at h1
    injection h1 with h1
    subst h1
    exact ⟨_, List.getElem?_eq_getElem hi, h2⟩
  · obtain ⟨i, hi⟩ := List.getElem?_of_mem hr
    obtain ⟨x, _, h2, _⟩ := hc i r hi
    exact K.one h2
  · have hj := (List.getElem?_eq_some_iff.1 hu).1
    rw [flat_len CS hk] at hj
    have hkp := K.pos
    have hi : j / K.k < CS.length := Nat.div_lt_of_lt_mul (by rw [Nat.mul_comm]; exact hj)
    have hm : j % K.k < K.k := Nat.mod_lt _ hkp
    have hdm : j / K.k * K.k + j % K.k = j := by rw [Nat.mul_comm]; exact Nat.div_add_mod j K.k
    obtain ⟨x, _, _, h3⟩ := hc (j / K.k) CS[j / K.k] (List.getElem?_eq_getElem hi)
    have := flat_at CS hk (j / K.k) CS[j / K.k] (List.getElem?_eq_getElem hi) (j % K.k) hm
    rw [hdm, hu] at this
    have h4 := h3 (j % K.k) u this.symm
    rw [hdm] at h4
    exact h4
/-- A row of one's own is a slice of what its cells tell. -/
theorem sl_own {α : Type} {K : Kd α} {w : World} {S : Nat → Prop} {base : Nat} {T : TypeId} {v : Value} {xs : List α} {CS : List (List Value)} (h : w.ownsRow base T K.k v xs.length CS.flatten) (hl : CS.length = xs.length) (hk : ∀ r ∈ CS, r.length = K.k) (hR : ∀ (i : Nat) (x : α) (cs : List Value), xs[i]? = some x → CS[i]? = some cs → K.R w S x cs) (hS : ∀ k, base ≤ k → k < w.heap.size → S k) : Sl K w S v xs := by
  rcases h.2 with ⟨e1, e0⟩ | ⟨g, cap, cur, e1, e2, e3, e4, e5, e6, e7⟩
  · have : xs = [] := List.eq_nil_of_length_eq_zero e0
    subst this
    exact ⟨none, 0, e1, Nat.zero_le _, .inl rfl⟩
  · subst e1
    have hgl := (Array.getElem?_eq_some_iff.1 e3).1
    refine ⟨_, cap, rfl, by omega, .inr ⟨g, 0, rfl, hS g e2 hgl, ⟨hgl, fun _ j => by simp [World.frozen?, e3]⟩, fun i x hx => ?_⟩⟩
    have hi := (List.getElem?_eq_some_iff.1 hx).1
    obtain ⟨cs, hcs⟩ : ∃ cs, CS[i]? = some cs := ⟨_, List.getElem?_eq_getElem (by omega)⟩
    refine ⟨cs, hR i x cs hx hcs, fun j u hu => ?_⟩
    have hj := (List.getElem?_eq_some_iff.1 hu).1
    have hck := hk cs (List.mem_of_getElem? hcs)
    have h1 := flat_at CS hk i cs hcs j (by omega)
    have hlt : i * K.k + j < xs.length * K.k := by
      have := Nat.mul_le_mul_right K.k (show i + 1 ≤ xs.length by omega)
      rw [Nat.add_mul, Nat.one_mul] at this; omega
    rw [Nat.zero_add, h.cellAt _ hlt, h1]; exact hu
end Go.Proofs.YtbbmgjcabmjjdaaGreatDoor
namespace Go.Proofs.YtbbmgjcabmjjdaaGreatDoor
open Go.RowKit Go.Deep
attribute [local go_sem ↓] app_Y

def zC : List Value := [.string ⟨#[]⟩, .bool false, .bool false, .int .i64 0, .slice none 0 0, .slice none 0 0, .slice none 0 0, .slice none 0 0]
/-- A built-in class's cells, those below n having their super; m: where the thread's method lies. -/
def bC (n : Nat) (m : Value) (i : Nat) : List Value := [.string ⟨#[]⟩, .bool false, .bool false, .int .i64 (if 2 ≤ i ∧ i < n ∧ i ≤ 8 then 1 else 0), .slice none 0 0, .slice none 0 0, .slice none 0 0, if i = 9 then m else .slice none 0 0]
def rowB (n : Nat) (m : Value) : Array Value := ((List.range 11).map (bC n m)).flatten.toArray
theorem rowB_step (m : Value) : ∀ n, 2 ≤ n → n ≤ 8 → (rowB n m).setIfInBounds (n * 8 + 3) (.int .i64 1) = rowB (n + 1) m
  | 2, _, _ => by kernel_rfl
  | 3, _, _ => by kernel_rfl
  | 4, _, _ => by kernel_rfl
  | 5, _, _ => by kernel_rfl
  | 6, _, _ => by kernel_rfl
  | 7, _, _ => by kernel_rfl
  | 8, _, _ => by kernel_rfl
  | 0, h, _ => by omega
  | 1, h, _ => by omega
  | n + 9, _, h => by omega
theorem rowB_meth (m m2 : Value) : (rowB 9 m).setIfInBounds 79 m2 = rowB 9 m2 := by kernel_rfl
theorem rowB_cell (m : Value) : ∀ n, 2 ≤ n → n ≤ 8 → (rowB n m)[n * 8 + 3]? = some (.int .i64 0)
  | 2, _, _ => by kernel_rfl
  | 3, _, _ => by kernel_rfl
  | 4, _, _ => by kernel_rfl
  | 5, _, _ => by kernel_rfl
  | 6, _, _ => by kernel_rfl
  | 7, _, _ => by kernel_rfl
  | 8, _, _ => by kernel_rfl
  | 0, h, _ => by omega
  | 1, h, _ => by omega
  | n + 9, _, h => by omega
theorem makeT (W : World) : (Instr.makeSlice 63 (.int .i64 11) (.int .i64 11)).run Tryz.prog W = .ok (.slice (some ⟨W.heap.size, 0, none⟩) 11 11) (W.alloc (.cells (rowB 2 (.slice none 0 0)) 34)) := by kernel_rfl
/-- What builtIn leaves. -/
def BltP (w : World) (e : Ending) (w' : World) : Prop := e = .returned (.slice (some ⟨w.heap.size, 0, none⟩) 11 11) ∧ w'.heap[w.heap.size]? = some (.cells (rowB 9 (.slice (some ⟨w.heap.size + 1, 0, none⟩) 1 1)) 34 (0, 0)) ∧ w'.heap[w.heap.size + 1]? = some (.cells #[.string ⟨#[114, 117, 110]⟩, .bool false, .slice none 0 0, .int .i64 0, .int .i64 0, .int .i64 0, .slice none 0 0, .slice none 0 0, .slice none 0 0] 30 (0, 0)) ∧ Below w.heap.size w w' ∧ w'.heap.size = w.heap.size + 2
set_option maxHeartbeats 4000000 in
set_option maxRecDepth 20000 in
theorem builtIn_ok (w : World) : Calls Tryz.prog 56 #[] w (BltP w) := by
  have hmk := makeT w
  have HZ0 : Hid ((w.alloc (.cells (rowB 2 (.slice none 0 0)) 34)).heap.size = w.heap.size + 1) := by show _ = _; simp
  have HN : Hid ((w.alloc (.cells (rowB 2 (.slice none 0 0)) 34)).heap[w.heap.size]? = some (.cells (rowB 2 (.slice none 0 0)) 34 (0, 0))) := heap_alloc_new _ _
  have HB : Hid (Below w.heap.size w (w.alloc (.cells (rowB 2 (.slice none 0 0)) 34))) := (Below.refl _ _).alloc (Nat.le_refl _) _
  go_enter Tryz.func56, Tryz.ntmps56
  go_wp2
  go_loopg [2] 9 (fun kx s2 wr => ∃ i : Nat, s2 = .int .i64 i ∧ 2 ≤ i ∧ i ≤ 9 ∧ 9 - i ≤ kx ∧ Hid (wr.heap[w.heap.size]? = some (.cells (rowB i (.slice none 0 0)) 34 (0, 0)) ∧ Below w.heap.size w wr ∧ wr.heap.size = w.heap.size + 1))
  case atStart => exact ⟨2, rfl, by omega, by omega, by omega, HN.out, HB.out, HZ0.out⟩
  case round =>
    obtain ⟨i, rfl, h2, h9, hk, HW⟩ := hrel
    clear hmk HZ0 HN HB
    by_cases hlt : i ≤ 8
    · have c0 : wr.cell? ⟨w.heap.size, i * 8 + 3, none⟩ = some (.int .i64 0) := bxq_cell HW.out.1 (rowB_cell _ i h2 hlt)
      have f0 : wr.frozen? ⟨w.heap.size, i * 8 + 3, none⟩ = false := by simp [World.frozen?, HW.out.1]
      have hl : (i : Int) ≤ 8 := by omega
      have hl2 : (i : Int) < 11 := by omega
      go_wp2
      go_roundg (9 - (i + 1))
      case measure => omega
      case rel =>
        refine ⟨i + 1, by go_num, by omega, by omega, by omega, ?_, HW.out.2.1.setCell (p := ⟨w.heap.size, i * 8 + 3, none⟩) (Nat.le_refl _) _, by simp [World.setCell]; exact HW.out.2.2⟩
        have := hset (k := i * 8 + 3) HW.out.1 (.int .i64 1)
        rw [rowB_step _ i h2 hlt] at this
        exact this
    · have hn : i = 9 := by omega
      subst hn
      have hn1 : (wr.alloc (.cells #[.string ⟨#[114, 117, 110]⟩, .bool false, .slice none 0 0, .int .i64 0, .int .i64 0, .int .i64 0, .slice none 0 0, .slice none 0 0, .slice none 0 0] 30)).heap[w.heap.size]? = some (.cells (rowB 9 (.slice none 0 0)) 34 (0, 0)) := (Below.heap_alloc _ _ _ (by rw [HW.out.2.2]; omega)).trans HW.out.1
      have HN1 : Hid _ := hn1
      have HN2 : Hid ((wr.alloc (.cells #[.string ⟨#[114, 117, 110]⟩, .bool false, .slice none 0 0, .int .i64 0, .int .i64 0, .int .i64 0, .slice none 0 0, .slice none 0 0, .slice none 0 0] 30)).heap[wr.heap.size]? = some (.cells #[.string ⟨#[114, 117, 110]⟩, .bool false, .slice none 0 0, .int .i64 0, .int .i64 0, .int .i64 0, .slice none 0 0, .slice none 0 0, .slice none 0 0] 30 (0, 0))) := heap_alloc_new _ _
      have c0 : (wr.alloc (.cells #[.string ⟨#[114, 117, 110]⟩, .bool false, .slice none 0 0, .int .i64 0, .int .i64 0, .int .i64 0, .slice none 0 0, .slice none 0 0, .slice none 0 0] 30)).cell? ⟨w.heap.size, 79, none⟩ = some (.slice none 0 0) := bxq_cell hn1 (by kernel_rfl)
      have f0 : (wr.alloc (.cells #[.string ⟨#[114, 117, 110]⟩, .bool false, .slice none 0 0, .int .i64 0, .int .i64 0, .int .i64 0, .slice none 0 0, .slice none 0 0, .slice none 0 0] 30)).frozen? ⟨w.heap.size, 79, none⟩ = false := by simp [World.frozen?, hn1]
      clear hn1
      go_wp2
      go_ret
      have hz := HW.out.2.2
      refine ⟨rfl, ?_, ?_, (HW.out.2.1.alloc (by omega) _).setCell (p := ⟨w.heap.size, 79, none⟩) (Nat.le_refl _) _, by simp [World.setCell]; omega⟩
      · have := hset (k := 79) HN1.out (.slice (some ⟨wr.heap.size, 0, none⟩) 1 1)
        rw [rowB_meth, hz] at this
        rw [hz]; exact this
      · have := HN2.out
        rw [hz] at this
        rw [Below.heap_setCell _ _ _ _ (by show w.heap.size + 1 ≠ w.heap.size; omega)]; exact this
/-- The built-in classes and a program's, as they lie: a row of the call's own, and what the program's reach. -/
def TreP (p : Pg) (S : Nat → Prop) (w : World) (e : Ending) (w' : World) : Prop := ∃ v, e = .returned v ∧ Below w.heap.size w w' ∧ Sl kCs w' (fun k => S k ∨ (w.heap.size ≤ k ∧ k < w'.heap.size)) v (trQ p)
theorem ap_Y2 (ats : Array TypeId) (ty : TypeId) (args : Array Value) : Builtin.append_ ats ty args = appY ats ty args := rfl
theorem app_mix (B : Nat) (n c : Nat) (ao : Option Addr) (m d : Nat) (w : World) : (Builtin.append_ #[63, 35] 63 #[.slice (some ⟨B, 0, none⟩) n c, .slice ao m d]).run Tryz.prog w = (Builtin.append_ #[63, 63] 63 #[.slice (some ⟨B, 0, none⟩) n c, .slice ao m d]).run Tryz.prog w := by kernel_rfl
theorem app_noneQ (B : Nat) (ao : Option Addr) (d : Nat) (w : World) : (Builtin.append_ #[63, 63] 63 #[.slice (some ⟨B, 0, none⟩) 11 11, .slice ao 0 d]).run Tryz.prog w = .ok (.slice (some ⟨B, 0, none⟩) 11 11) w := by
  obtain ⟨i0, hi, -, -, -⟩ := info_parts (show (Tryz.prog.info? 34).map (fun i => (i.zero, i.size, i.bytes)) = some (some (.agg #[.string ⟨#[]⟩, .bool false, .bool false, .int .i64 0, .slice none 0 0, .slice none 0 0, .slice none 0 0, .slice none 0 0]), 8, 128) by kernel_rfl)
  exact run_append_nothing w _ _ _ _ i0 Tryz.underlying63 hi (some ⟨B, 0, none⟩) 11 11 (Nat.le_refl _) _ (match ao with
    | none => Src.ofNil w Tryz.underlying63 d
    | some a => Src.ofSlice w Tryz.underlying63 a 0 d [] (by simp) (fun _ _ h => by simp at h) (by simp))
theorem infoCQ : (Tryz.prog.info? 34).map (fun i => (i.zero, i.size, i.bytes)) = some (some (.agg #[.string ⟨#[]⟩, .bool false, .bool false, .int .i64 0, .slice none 0 0, .slice none 0 0, .slice none 0 0, .slice none 0 0]), 8, 128) := by kernel_rfl
theorem rowB_list (m : Value) : (rowB 9 m).toList = ((List.range 11).map (bC 9 m)).flatten := rfl
theorem bC_len (m : Value) : ∀ r ∈ (List.range 11).map (bC 9 m), r.length = 8 := fun r hr => by
  obtain ⟨i, _, rfl⟩ := List.mem_map.1 hr
  rfl
theorem bltC_R {w : World} {S : Nat → Prop} {B : Nat} (hm : w.heap[B]? = some (.cells #[.string ⟨#[114, 117, 110]⟩, .bool false, .slice none 0 0, .int .i64 0, .int .i64 0, .int .i64 0, .slice none 0 0, .slice none 0 0, .slice none 0 0] 30 (0, 0))) (hS : S B) {i : Nat} (hi : i < 11) : kCs.R w S (bltC i) (bC 9 (.slice (some ⟨B, 0, none⟩) 1 1) i) := by
  have hl := (Array.getElem?_eq_some_iff.1 hm).1
  have hM : Sl kMd w S (.slice (some ⟨B, 0, none⟩) 1 1) [runM] := by
    refine ⟨_, 1, rfl, by decide, .inr ⟨B, 0, rfl, hS, ⟨hl, fun e => by cases e⟩, fun j x hx => ?_⟩⟩
    have hj : j = 0 := by have := (List.getElem?_eq_some_iff.1 hx).1; simpa using this
    subst hj
    simp at hx
    subst hx
    refine ⟨[.string ⟨#[114, 117, 110]⟩, .bool false, .slice none 0 0, .int .i64 0, .int .i64 0, .int .i64 0, .slice none 0 0, .slice none 0 0, .slice none 0 0], ⟨_, _, _, _, rfl, Sl.nil _ _ _, Sl.nil _ _ _, Sl.nil _ _ _, Sl.nil _ _ _⟩, fun k u hk => ?_⟩
    rw [show 0 + (0 * kMd.k + k) = k by omega]
    exact bxq_cell hm (by simpa using hk)
  refine ⟨.slice none 0 0, .slice none 0 0, .slice none 0 0, if i = 9 then .slice (some ⟨B, 0, none⟩) 1 1 else .slice none 0 0, ?_, Sl.nil _ _ _, Sl.nil _ _ _, Sl.nil _ _ _, ?_⟩
  · unfold bC bltC
    congr 4
    by_cases h : 2 ≤ i ∧ i ≤ 8
    · rw [if_pos h, if_pos (by omega)]
    · rw [if_neg h, if_neg (by omega)]
  · by_cases h : i = 9
    · rw [if_pos h]; simp only [bltC, if_pos h]; exact hM
    · rw [if_neg h]; simp only [bltC, if_neg h]; exact Sl.nil _ _ _
set_option maxRecDepth 20000 in
theorem tre_run {w w2 : World} {p : Pg} {S : Nat → Prop} {ao : Option Addr} {cap B : Nat} (hBw : w.heap.size ≤ B) (h1 : w2.heap[B]? = some (.cells (rowB 9 (.slice (some ⟨B + 1, 0, none⟩) 1 1)) 34 (0, 0))) (h2 : w2.heap[B + 1]? = some (.cells #[.string ⟨#[114, 117, 110]⟩, .bool false, .slice none 0 0, .int .i64 0, .int .i64 0, .int .i64 0, .slice none 0 0, .slice none 0 0, .slice none 0 0] 30 (0, 0))) (hb : Below w.heap.size w w2)
    (h : Sl kCs w S (.slice ao p.cls.length cap) p.cls) (hS : ∀ k, S k → k < w.heap.size) (hn : p.cls.length ≤ 1048576) :
    ∃ a n c w3, (appY #[63, 35] 63 #[.slice (some ⟨B, 0, none⟩) 11 11, .slice ao p.cls.length cap]).run Tryz.prog w2 = .ok (.slice a n c) w3 ∧ Below w.heap.size w w3 ∧ (∀ k, k < w2.heap.size → k ≠ B → w3.heap[k]? = w2.heap[k]?) ∧ Sl kCs w3 (fun k => S k ∨ (w.heap.size ≤ k ∧ k < w3.heap.size)) (.slice a n c) (trQ p) := by
  obtain ⟨i0, hi, hz0, hz1, hz2⟩ := info_parts infoCQ
  have hl1 := (Array.getElem?_eq_some_iff.1 h1).1
  have hl2 := (Array.getElem?_eq_some_iff.1 h2).1
  have hown : w2.ownsRow B 34 8 (.slice (some ⟨B, 0, none⟩) 11 11) 11 ((List.range 11).map (bC 9 (.slice (some ⟨B + 1, 0, none⟩) 1 1))).flatten :=
    ⟨by kernel_rfl, .inr ⟨B, 11, _, rfl, Nat.le_refl _, h1, Nat.le_refl _, by decide, by kernel_rfl, by kernel_rfl⟩⟩
  rw [← ap_Y2, app_mix]
  rcases Nat.eq_zero_or_pos p.cls.length with h0 | h0
  · rw [h0]
    refine ⟨some ⟨B, 0, none⟩, 11, 11, w2, app_noneQ B ao cap w2, hb, fun _ _ _ => rfl, ?_⟩
    have hc : p.cls = [] := List.eq_nil_of_length_eq_zero h0
    have ht : trQ p = bltQ := by unfold trQ; rw [hc, List.append_nil]
    rw [ht]
    refine sl_own (K := kCs) (T := 34) (base := B) (CS := (List.range 11).map (bC 9 (.slice (some ⟨B + 1, 0, none⟩) 1 1))) hown (by simp [bltQ]) (bC_len _) (fun i x cs hx hcs => ?_) (fun k hk hk2 => .inr ⟨by omega, hk2⟩)
    have hi11 : i < 11 := by have := (List.getElem?_eq_some_iff.1 hcs).1; simpa using this
    have e1 : bltC i = x := by simpa [bltQ, hi11] using hx
    have e2 : bC 9 (.slice (some ⟨B + 1, 0, none⟩) 1 1) i = cs := by simpa [hi11] using hcs
    rw [← e1, ← e2]
    exact bltC_R h2 (.inr ⟨by omega, hl2⟩) hi11
  · obtain ⟨b, o, CS, rfl, hsb, hcl, hcr, hck, hc1, hcc⟩ := h.raw h0
    have hcell : ∀ j u, CS.flatten[j]? = some u → w2.cell? ((⟨b, o, none⟩ : Addr).add j) = some u := fun j u hu => by
      have hadd : (⟨b, o, none⟩ : Addr).add j = ⟨b, o + j, none⟩ := by unfold Addr.add; split <;> simp_all
      rw [hadd, cell_same (hb.block b (hS b hsb))]; exact hcc j u hu
    obtain ⟨g, c, w3, hr, hown3, hg, -, -⟩ := run_append_lies (P := Tryz.prog) w2 63 63 B 34 i0 (.agg #[.string ⟨#[]⟩, .bool false, .bool false, .int .i64 0, .slice none 0 0, .slice none 0 0, .slice none 0 0, .slice none 0 0]) 8 128 Tryz.underlying63 hi hz0 hz1 hz2 rfl (by decide) (.slice (some ⟨B, 0, none⟩) 11 11) 11 _ hown ⟨b, o, none⟩ p.cls.length cap CS.flatten (by rw [flat_len CS hck, hcl]; rfl) hcell (fun u hu => by
      obtain ⟨r, hr, hu⟩ := List.mem_flatten.1 hu
      exact hc1 r hr u hu) h0 (by unfold maxLen; omega) (by omega) (by omega) _ rfl
    have hkeep : ∀ k, k < w2.heap.size → k ≠ B → w3.heap[k]? = w2.heap[k]? := fun k hk hne => hg.block k hk fun e => hne (by simpa [Value.ownBlock] using e)
    have hb3 : Below w.heap.size w w3 := ⟨hg.os.trans hb.os, hg.tape.trans hb.tape, hg.output.trans hb.output, Nat.le_trans hb.size hg.size, fun k hk => (hkeep k (Nat.lt_of_lt_of_le hk hb.size) (by omega)).trans (hb.block k hk)⟩
    refine ⟨some ⟨g, 0, none⟩, 11 + p.cls.length, c, w3, hr, hb3, hkeep, ?_⟩
    have hlen : (trQ p).length = 11 + p.cls.length := trQ_len p
    refine sl_own (K := kCs) (T := 34) (base := B) (CS := (List.range 11).map (bC 9 (.slice (some ⟨B + 1, 0, none⟩) 1 1)) ++ CS) (by rw [List.flatten_append, hlen]; exact hown3) (by simp [hlen, hcl]) (fun r hr => ?_) (fun i x cs hx hcs => ?_) (fun k hk hk2 => .inr ⟨by omega, hk2⟩)
    · rcases List.mem_append.1 hr with hr | hr
      · exact bC_len _ r hr
      · exact hck r hr
    · have hq : bltQ.length = 11 := by simp [bltQ]
      by_cases hi11 : i < 11
      · unfold trQ at hx
        rw [List.getElem?_append_left (by omega)] at hx
        rw [List.getElem?_append_left (by simpa using hi11)] at hcs
        have e1 : bltC i = x := by simpa [bltQ, hi11] using hx
        have e2 : bC 9 (.slice (some ⟨B + 1, 0, none⟩) 1 1) i = cs := by simpa [hi11] using hcs
        rw [← e1, ← e2]
        refine bltC_R ((hkeep (B + 1) hl2 (by omega)).trans h2) (.inr ⟨by omega, ?_⟩) hi11
        exact Nat.lt_of_lt_of_le hl2 hg.size
      · unfold trQ at hx
        rw [List.getElem?_append_right (by omega), hq] at hx
        rw [List.getElem?_append_right (by simp; omega)] at hcs
        simp only [List.length_map, List.length_range] at hcs
        obtain ⟨cs', h3, h4⟩ := hcr (i - 11) x hx
        rw [hcs] at h3
        injection h3 with h3
        subst h3
        exact kCs.mono (fun k hk => .inl hk) (kCs.keep (fun k hk => hb3.block k (hS k hk)) h4)
set_option maxHeartbeats 4000000 in
set_option maxRecDepth 20000 in
theorem treeOf_ok {S : Nat → Prop} {p : Pg} {cs : List Value} {w : World} (hS : ∀ k, S k → k < w.heap.size) (hR : kPg.R w S p cs) (hn : p.cls.length ≤ 1048576) : Calls Tryz.prog 27 #[.agg cs.toArray] w (TreP p S w) := by
  obtain ⟨y, rfl, hV⟩ := hR
  have hV2 := hV
  obtain ⟨ao, cap, rfl, -, -⟩ := hV2
  have HZ : Hid ((w.alloc (.cells #[.int .i64 p.main, .slice ao p.cls.length cap] 37)).drew.heap.size = w.heap.size + 1) := by show _ = _; simp
  have hc0 : (w.alloc (.cells #[.int .i64 p.main, .slice ao p.cls.length cap] 37)).heap[w.heap.size]? = some (.cells #[.int .i64 p.main, .slice ao p.cls.length cap] 37 (0, 0)) := heap_alloc_new _ _
  have HC0 : Hid _ := hc0
  have p1 : (w.alloc (.cells #[.int .i64 p.main, .slice ao p.cls.length cap] 37)).cell? ⟨w.heap.size, 1, none⟩ = some (.slice ao p.cls.length cap) := bxq_cell hc0 rfl
  have HX : Hid (∀ w2 : World, w2.heap[w.heap.size + 1]? = some (.cells (rowB 9 (.slice (some ⟨w.heap.size + 1 + 1, 0, none⟩) 1 1)) 34 (0, 0)) → w2.heap[w.heap.size + 1 + 1]? = some (.cells #[.string ⟨#[114, 117, 110]⟩, .bool false, .slice none 0 0, .int .i64 0, .int .i64 0, .int .i64 0, .slice none 0 0, .slice none 0 0, .slice none 0 0] 30 (0, 0)) → Below (w.heap.size + 1) (w.alloc (.cells #[.int .i64 p.main, .slice ao p.cls.length cap] 37)).drew w2 →
      ∃ a n c w3, (appY #[63, 35] 63 #[.slice (some ⟨w.heap.size + 1, 0, none⟩) 11 11, .slice ao p.cls.length cap]).run Tryz.prog w2 = .ok (.slice a n c) w3 ∧ w3.cell? ⟨w.heap.size, 1, none⟩ = some (.slice ao p.cls.length cap) ∧ Hid (TreP p S w (.returned (.slice a n c)) w3)) := fun w2 h1 h2 hb0 => by
    have hb : Below (w.heap.size + 1) (w.alloc (.cells #[.int .i64 p.main, .slice ao p.cls.length cap] 37)) w2 := ⟨hb0.os, hb0.tape, hb0.output, hb0.size, hb0.block⟩
    obtain ⟨a, n, c, w3, hr, hb3, hk3, hs⟩ := tre_run (w := w) (B := w.heap.size + 1) (by omega) h1 h2 (((Below.refl _ _).alloc (Nat.le_refl _) _).trans (hb.mono (by omega))) hV hS hn
    exact ⟨a, n, c, w3, hr, (cell_same ((hk3 _ (by have := (Array.getElem?_eq_some_iff.1 h2).1; omega) (by omega)).trans (hb.block _ (Nat.lt_succ_self _))) 1).trans p1, ⟨_, rfl, hb3, hs⟩⟩
  clear hV hS hn hc0
  go_enter Tryz.func27, Tryz.ntmps27
  go_upto_region 1 with (fail)
  go_region_held3 (fun w' => w'.cell? ⟨w.heap.size, 1, none⟩ = some (.slice ao p.cls.length cap)) (go_keep) ((go_at_call 56; refine (builtIn_ok _).mono ?_; rintro e w2 ⟨rfl, h1, h2, hb, -⟩; rw [HZ.out] at h1 h2 hb ⊢; have p2 : w2.cell? ⟨w.heap.size, 1, none⟩ = some (.slice ao p.cls.length cap) := (cell_same (hb.block _ (Nat.lt_succ_self _)) 1).trans p1; obtain ⟨a, n, c, w3, hr, p3, HT⟩ := HX.out w2 h1 h2 hb; clear h1 h2 hb p1))
  all_goals
    go_wp2
    go_ret
    exact HT.out
end Go.Proofs.YtbbmgjcabmjjdaaGreatDoor
