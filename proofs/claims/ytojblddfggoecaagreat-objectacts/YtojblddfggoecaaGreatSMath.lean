/- What stands in a stack, what its agents have seen of it: plain. -/
import Derived.Test.YtojblddfggoecaaGreatSStep
namespace Go.Proofs.YtojblddfggoecaaGreat
open Go.RowKit

def hd : List Int → Int
  | [] => 0
  | x :: _ => x
/-- Each item's word leads to the next. -/
def Lk (base : Nat) (ws : Nat → Int) : List Int → Prop
  | [] => True
  | x :: r => ws (base + x.toNat) = hd r ∧ Lk base ws r
/-- What was seen of the top: it is the top still if its tag is. -/
def See (cap : Nat) (T : Int) (xs : List Int) (t i : Int) : Prop := 0 ≤ t ∧ t ≤ T ∧ 0 ≤ i ∧ i ≤ cap ∧ (t = T → i = hd xs)
def OkOp (base cap : Nat) (ws : Nat → Int) (T : Int) (xs : List Int) : Op → Prop
  | .idle => True
  | .push item n t i => 1 ≤ item ∧ item ≤ cap ∧ item ∉ xs ∧ (n = 0 ∨ (n = 1 ∧ See cap T xs t i) ∨ (n = 2 ∧ See cap T xs t i ∧ ws (base + item.toNat) = i))
  | .pop n t i d => n = 0 ∨ (n = 1 ∧ 1 ≤ i ∧ See cap T xs t i) ∨ (n = 2 ∧ 1 ≤ i ∧ See cap T xs t i ∧ 0 ≤ d ∧ d ≤ cap ∧ (t = T → d = hd xs.tail))
structure Inv (base cap : Nat) (ws : Nat → Int) (ops : Nat → Op) (T : Int) (xs : List Int) : Prop where
  t0 : 0 ≤ T
  top : ws base = T * ((cap : Int) + 1) + hd xs
  chain : Lk base ws xs
  range : ∀ x, x ∈ xs → 1 ≤ x ∧ x ≤ cap
  nodup : xs.Nodup
  op : ∀ g, OkOp base cap ws T xs (ops g)
  diff : ∀ g h, g ≠ h → 0 < (ops g).link → (ops g).link ≠ (ops h).link

theorem hd_range {cap : Nat} {xs : List Int} (h : ∀ x, x ∈ xs → 1 ≤ x ∧ x ≤ cap) : 0 ≤ hd xs ∧ hd xs ≤ cap := by
  cases xs with
  | nil => simp [hd]
  | cons x r => have := h x (by simp); simp [hd]; omega
theorem Lk.other {base : Nat} {ws : Nat → Int} {xs : List Int} {a : Nat} {v : Int} (h : Lk base ws xs) (ha : ∀ x, x ∈ xs → base + x.toNat ≠ a) : Lk base (upd ws a v) xs := by
  induction xs with
  | nil => trivial
  | cons x r ih => exact ⟨by rw [upd_else _ _ (ha x (by simp))]; exact h.1, ih h.2 (fun y hy => ha y (by simp [hy]))⟩
theorem split_top {T c i : Int} (hT : 0 ≤ T) (h0 : 0 ≤ i) (h1 : i < c) : (T * c + i).tdiv c = T ∧ (T * c + i).tmod c = i := by
  have hn : 0 ≤ T * c + i := by have := Int.mul_nonneg hT (show 0 ≤ c by omega); omega
  rw [Int.tdiv_eq_ediv_of_nonneg hn, Int.tmod_eq_emod_of_nonneg hn, Int.add_comm, Int.add_mul_ediv_right _ _ (by omega), Int.ediv_eq_zero_of_lt h0 h1, Int.add_mul_emod_self_right, Int.emod_eq_of_lt h0 h1]
  exact ⟨by omega, rfl⟩
theorem mul_in {T c : Int} (h0 : 0 ≤ T) (h1 : T ≤ 1000000001) (c0 : 0 ≤ c) (c1 : c ≤ 1001) : 0 ≤ T * c ∧ T * c ≤ 1001000001001 := by
  refine ⟨Int.mul_nonneg h0 c0, ?_⟩
  have := Int.mul_le_mul h1 c1 c0 (by omega)
  omega
theorem write_top {T c i : Int} (h0 : 0 ≤ T) (h1 : T ≤ 1000000001) (c0 : 0 ≤ c) (c1 : c ≤ 1001) (i0 : 0 ≤ i) (i1 : i ≤ 1001) : wrap64 (wrap64 (T * c) + i) = T * c + i := by
  have := mul_in h0 h1 c0 c1
  rw [IntWalk.wrap64_in (T * c) (by omega), IntWalk.wrap64_in _ (by omega)]
theorem top_eq {T t c i j : Int} (ht : t < T) (i1 : i < c) (j0 : 0 ≤ j) (c0 : 0 ≤ c) : T * c + j ≠ t * c + i := by
  have := Int.mul_le_mul_of_nonneg_right (show t + 1 ≤ T by omega) c0
  rw [Int.add_mul] at this
  omega

section
variable {base cap : Nat} {ws : Nat → Int} {ops : Nat → Op} {T : Int} {xs : List Int}
theorem See.now (h : Inv base cap ws ops T xs) : See cap T xs T (hd xs) := ⟨h.t0, by omega, (hd_range h.range).1, (hd_range h.range).2, fun _ => rfl⟩
theorem See.late {ys : List Int} {t i : Int} (h : See cap T xs t i) : See cap (T + 1) ys t i := ⟨h.1, by have := h.2.1; omega, h.2.2.1, h.2.2.2.1, fun e => by have := h.2.1; omega⟩
theorem upd_op {g j : Nat} {op : Op} {Q : Op → Prop} (h1 : Q op) (h2 : j ≠ g → Q (ops j)) : Q (updOp ops g op j) := by
  by_cases e : j = g
  · subst e; rw [updOp_at]; exact h1
  · rw [updOp_else _ _ e]; exact h2 e
theorem diff_upd {g : Nat} {op : Op} (h : ∀ g h, g ≠ h → 0 < (ops g).link → (ops g).link ≠ (ops h).link) (hl : op.link = 0 ∨ op.link = (ops g).link) : ∀ i j, i ≠ j → 0 < (updOp ops g op i).link → (updOp ops g op i).link ≠ (updOp ops g op j).link := by
  intro i j hij hp
  by_cases e1 : i = g
  · have e2 : j ≠ g := fun e => hij (e1.trans e.symm)
    subst e1
    rw [updOp_at] at hp ⊢
    rw [updOp_else _ _ e2]
    rcases hl with q | q
    · omega
    · rw [q] at hp ⊢; exact h i j hij hp
  · rw [updOp_else _ _ e1] at hp ⊢
    by_cases e2 : j = g
    · subst e2
      rw [updOp_at]
      rcases hl with q | q
      · omega
      · rw [q]; exact h i j hij hp
    · rw [updOp_else _ _ e2]; exact h i j hij hp
/-- A step that only looks. -/
theorem Inv.looked (h : Inv base cap ws ops T xs) {g : Nat} {op : Op} (ho : OkOp base cap ws T xs op) (hl : op.link = 0 ∨ op.link = (ops g).link) : Inv base cap ws (updOp ops g op) T xs :=
  ⟨h.t0, h.top, h.chain, h.range, h.nodup, fun j => upd_op ho (fun _ => h.op j), diff_upd h.diff hl⟩
theorem link_of {g : Nat} {item n t i : Int} (ho : ops g = .push item n t i) : (ops g).link = item := by rw [ho]; rfl
/-- A push has led its item's link to what it saw. -/
theorem Inv.linked (h : Inv base cap ws ops T xs) {g : Nat} {item n t i : Int} (ho : ops g = .push item n t i) (hi : 1 ≤ item ∧ item ≤ cap ∧ item ∉ xs) (hs : See cap T xs t i) :
    Inv base cap (upd ws (base + item.toNat) i) (updOp ops g (.push item 2 t i)) T xs := by
  have hne : base ≠ base + item.toNat := by omega
  refine ⟨h.t0, by rw [upd_else _ _ hne]; exact h.top, h.chain.other ?_, h.range, h.nodup, fun j => upd_op ?_ ?_, diff_upd h.diff (.inr (by rw [ho]; rfl))⟩
  · intro x hx e
    have := h.range x hx
    exact hi.2.2 ((show x = item by omega) ▸ hx)
  · exact ⟨hi.1, hi.2.1, hi.2.2, .inr (.inr ⟨rfl, hs, upd_at _ _ _⟩)⟩
  · intro hj
    have hk := h.op j
    have hd := h.diff g j (fun e => hj e.symm)
    rw [ho] at hd
    cases hq : ops j with
    | idle => trivial
    | push item' n' t' i' =>
      rw [hq] at hk hd
      have hd' : item ≠ item' := hd (by show 0 < item; omega)
      obtain ⟨a1, a2, a3, a4⟩ := hk
      refine ⟨a1, a2, a3, ?_⟩
      rcases a4 with a4 | a4 | a4
      · exact .inl a4
      · exact .inr (.inl a4)
      · exact .inr (.inr ⟨a4.1, a4.2.1, by rw [upd_else _ _ (by omega)]; exact a4.2.2⟩)
    | pop n' t' i' d' => rw [hq] at hk; exact hk
theorem okop_late {ys : List Int} {v : Int} {op : Op} (h : OkOp base cap ws T xs op) (hp : ∀ item n t i, op = .push item n t i → item ∉ ys) : OkOp base cap (upd ws base v) (T + 1) ys op := by
  cases op with
  | idle => trivial
  | push item n t i =>
    obtain ⟨a1, a2, a3, a4⟩ := h
    refine ⟨a1, a2, hp _ _ _ _ rfl, ?_⟩
    rcases a4 with a4 | a4 | a4
    · exact .inl a4
    · exact .inr (.inl ⟨a4.1, a4.2.late⟩)
    · exact .inr (.inr ⟨a4.1, a4.2.1.late, by rw [upd_else _ _ (by omega)]; exact a4.2.2⟩)
  | pop n t i d =>
    rcases h with a4 | a4 | a4
    · exact .inl a4
    · exact .inr (.inl ⟨a4.1, a4.2.1, a4.2.2.late⟩)
    · exact .inr (.inr ⟨a4.1, a4.2.1, a4.2.2.1.late, a4.2.2.2.1, a4.2.2.2.2.1, fun e => by have := a4.2.2.1.2.1; omega⟩)
theorem Inv.pushed (h : Inv base cap ws ops T xs) {g : Nat} {item i : Int} (ho : ops g = .push item 2 T i) : Inv base cap (upd ws base ((T + 1) * ((cap : Int) + 1) + item)) (updOp ops g .idle) (T + 1) (item :: xs) := by
  have hk := h.op g
  rw [ho] at hk
  obtain ⟨a1, a2, a3, a4⟩ := hk
  have a5 : See cap T xs T i ∧ ws (base + item.toNat) = i := by
    rcases a4 with a4 | a4 | a4
    · exact absurd a4 (by decide)
    · exact absurd a4.1 (by decide)
    · exact a4.2
  have a6 := a5.1.2.2.2.2 rfl
  refine ⟨by have := h.t0; omega, by rw [upd_at]; rfl, ⟨by rw [upd_else _ _ (by omega), a5.2]; exact a6, h.chain.other fun x hx => by have := h.range x hx; omega⟩, ?_, ?_, fun j => upd_op trivial ?_, diff_upd h.diff (.inl rfl)⟩
  · intro x hx
    rcases List.mem_cons.1 hx with e | e
    · subst e; exact ⟨a1, a2⟩
    · exact h.range x e
  · exact List.nodup_cons.2 ⟨a3, h.nodup⟩
  · intro hj
    refine okop_late (h.op j) fun item' n t i' e => ?_
    have hd := h.diff g j (fun e => hj e.symm)
    rw [ho, e] at hd
    have hd' : item ≠ item' := hd (by show 0 < item; omega)
    have hk := h.op j
    rw [e] at hk
    intro hm
    rcases List.mem_cons.1 hm with q | q
    · exact hd' q.symm
    · exact hk.2.2.1 q
theorem Inv.popped (h : Inv base cap ws ops T xs) {g : Nat} {i d : Int} (ho : ops g = .pop 2 T i d) : ∃ r, xs = i :: r ∧ d = hd r ∧ Inv base cap (upd ws base ((T + 1) * ((cap : Int) + 1) + d)) (updOp ops g .idle) (T + 1) r := by
  have hk := h.op g
  rw [ho] at hk
  have a5 : 1 ≤ i ∧ See cap T xs T i ∧ (T = T → d = hd xs.tail) := by
    rcases hk with a4 | a4 | a4
    · exact absurd a4 (by decide)
    · exact absurd a4.1 (by decide)
    · exact ⟨a4.2.1, a4.2.2.1, a4.2.2.2.2.2⟩
  have a6 := a5.2.1.2.2.2.2 rfl
  have a7 := a5.2.2 rfl
  cases xs with
  | nil => simp [hd] at a6; omega
  | cons x r =>
    simp only [hd] at a6
    subst a6
    refine ⟨r, rfl, a7, by have := h.t0; omega, by rw [upd_at, a7]; rfl, h.chain.2.other fun y hy => by have := h.range y (by simp [hy]); omega, fun y hy => h.range y (by simp [hy]), (List.nodup_cons.1 h.nodup).2, fun j => upd_op trivial ?_, diff_upd h.diff (.inl rfl)⟩
    intro _
    refine okop_late (h.op j) fun item' n t i' e => ?_
    have hk := h.op j
    rw [e] at hk
    exact fun hm => hk.2.2.1 (by simp [hm])
/-- How many steps an operation takes at most whose agent alone steps. -/
def rank (T : Int) (xs : List Int) : Op → Nat
  | .idle => 0
  | .push _ n t _ => if n = 0 then 3 else if n = 1 then (if t = T then 2 else 5) else (if t = T then 1 else 4)
  | .pop n t _ _ => if n = 0 then (if xs = [] then 1 else 3) else if n = 1 then (if t = T then 2 else 5) else (if t = T then 1 else 4)
theorem rank_pos {op : Op} (h : op ≠ .idle) : 1 ≤ rank T xs op := by
  cases op <;> simp only [rank] <;> first | exact absurd rfl h | (repeat' split) <;> omega
theorem rank_five (op : Op) : rank T xs op ≤ 5 := by
  cases op <;> simp only [rank] <;> (repeat' split) <;> omega
/-- What a step of an operation that is under way may be. -/
inductive Eff (T : Int) (xs : List Int) : Op → Bool → Int → Bool → Op → Int → List Int → Prop
  | pushOn {item n t i n' t' i' : Int} (h : rank T xs (.push item n' t' i') < rank T xs (.push item n t i)) : Eff T xs (.push item n t i) false 0 false (.push item n' t' i') T xs
  | pushed {item n t i : Int} : Eff T xs (.push item n t i) true 0 true .idle (T + 1) (item :: xs)
  | popOn {n t i d n' t' i' d' : Int} (h : rank T xs (.pop n' t' i' d') < rank T xs (.pop n t i d)) : Eff T xs (.pop n t i d) false 0 false (.pop n' t' i' d') T xs
  | popped {n t i d x : Int} {r : List Int} (h : xs = x :: r) : Eff T xs (.pop n t i d) true (x - 1) true .idle (T + 1) r
  | nothing {n t i d : Int} (h : xs = []) : Eff T xs (.pop n t i d) true 0 false .idle T xs
end
end Go.Proofs.YtojblddfggoecaaGreat
