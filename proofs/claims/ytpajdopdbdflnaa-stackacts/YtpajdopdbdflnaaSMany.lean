/- Agents that push and pop at one time lose nothing: StackMany. -/
import Derived.Test.YtpajdopdbdflnaaSAlone
namespace Go.Proofs.Ytpajdopdbdflnaa
open Go.RowKit

/-- a is one where p holds, else zero. -/
def Is (p : Prop) (a : Int) : Prop := (a = 1 ∧ p) ∨ (a = 0 ∧ ¬ p)
theorem Is.yes {p : Prop} {a : Int} (h : Is p a) (hp : p) : a = 1 := h.elim (·.1) (fun q => absurd hp q.2)
theorem Is.no {p : Prop} {a : Int} (h : Is p a) (hp : ¬ p) : a = 0 := h.elim (fun q => absurd q.2 hp) (·.1)
theorem Is.of {p q : Prop} {a : Int} (h : Is p a) (e : p ↔ q) : Is q a := h.imp (fun k => ⟨k.1, e.1 k.2⟩) (fun k => ⟨k.1, fun x => k.2 (e.2 x)⟩)
theorem is_yes {p : Prop} (hp : p) : Is p 1 := .inl ⟨rfl, hp⟩
theorem is_no {p : Prop} (hp : ¬ p) : Is p 0 := .inr ⟨rfl, hp⟩
theorem is_ex (p : Prop) : ∃ a, Is p a := (Classical.em p).elim (fun h => ⟨1, is_yes h⟩) (fun h => ⟨0, is_no h⟩)
/-- Each number that was begun to be pushed has been popped, stands in the stack, or is on its way. -/
structure Acc (next : Nat) (got : Nat → Int) (xs : List Int) (ops : Nat → Op) : Prop where
  up : ∀ x, x ∈ xs → x ≤ next
  lk : ∀ a, (ops a).link ≤ next
  cnt : ∀ v : Nat, v < 32 → ∀ a b c, Is ((v : Int) + 1 ∈ xs) a → Is (∃ j, (ops j).link = (v : Int) + 1) b → Is (v < next) c → got v + a + b = c

section
variable {next : Nat} {got : Nat → Int} {xs : List Int} {ops : Nat → Op}
theorem pend_same {g : Nat} {op : Op} (hl : op.link = (ops g).link) (c : Int) : (∃ a, (updOp ops g op a).link = c) ↔ ∃ a, (ops a).link = c := by
  constructor
  · rintro ⟨a, ha⟩
    by_cases e : a = g
    · subst e; rw [updOp_at, hl] at ha; exact ⟨_, ha⟩
    · rw [updOp_else _ _ e] at ha; exact ⟨a, ha⟩
  · rintro ⟨a, ha⟩
    by_cases e : a = g
    · subst e; exact ⟨a, by rw [updOp_at, hl]; exact ha⟩
    · exact ⟨a, by rw [updOp_else _ _ e]; exact ha⟩
theorem Acc.on (h : Acc next got xs ops) {g : Nat} {op : Op} (hl : op.link = (ops g).link) : Acc next got xs (updOp ops g op) :=
  ⟨h.up, fun a => by
    by_cases e : a = g
    · subst e; rw [updOp_at, hl]; exact h.lk _
    · rw [updOp_else _ _ e]; exact h.lk a, fun v hv a b c ha hb hc => h.cnt v hv a b c ha (hb.of (pend_same hl _)) hc⟩
theorem Acc.begun (h : Acc next got xs ops) {g : Nat} (hi : ops g = .idle) : Acc (next + 1) got xs (updOp ops g (.push ((next : Int) + 1) 0 0 0)) := by
  refine ⟨fun x hx => by have := h.up x hx; omega, fun a => ?_, fun v hv a b c ha hb hc => ?_⟩
  · by_cases e : a = g
    · subst e; rw [updOp_at]; show (next : Int) + 1 ≤ ((next + 1 : Nat) : Int); omega
    · rw [updOp_else _ _ e]; have := h.lk a; omega
  · by_cases e : v = next
    · subst e
      have n1 : ¬ (∃ a, (ops a).link = (v : Int) + 1) := fun ⟨a, ha⟩ => by have := h.lk a; omega
      have y1 : ∃ a, (updOp ops g (.push ((v : Int) + 1) 0 0 0) a).link = (v : Int) + 1 := ⟨g, by rw [updOp_at]; rfl⟩
      have h0 := h.cnt v hv a 0 0 ha (is_no n1) (is_no (by omega))
      have e1 := hb.yes y1
      have e2 := hc.yes (by omega)
      omega
    · have q1 : (∃ a, (updOp ops g (.push ((next : Int) + 1) 0 0 0) a).link = (v : Int) + 1) ↔ ∃ a, (ops a).link = (v : Int) + 1 := by
        constructor
        · rintro ⟨a, ha⟩
          by_cases ea : a = g
          · subst ea; rw [updOp_at] at ha; simp only [Op.link] at ha; omega
          · rw [updOp_else _ _ ea] at ha; exact ⟨a, ha⟩
        · rintro ⟨a, ha⟩
          by_cases ea : a = g
          · subst ea; rw [hi] at ha; simp only [Op.link] at ha; omega
          · exact ⟨a, by rw [updOp_else _ _ ea]; exact ha⟩
      exact h.cnt v hv a b c ha (hb.of q1) (hc.of (by omega))
theorem Acc.pushed (h : Acc next got xs ops) {g : Nat} {item n t i : Int} (ho : ops g = .push item n t i) (hx : item ∉ xs) (hd : ∀ g h, g ≠ h → 0 < (ops g).link → (ops g).link ≠ (ops h).link) : Acc next got (item :: xs) (updOp ops g .idle) := by
  have hg : (ops g).link = item := by rw [ho]; rfl
  refine ⟨fun x hm => ?_, fun a => ?_, fun v hv a b c ha hb hc => ?_⟩
  · rcases List.mem_cons.1 hm with e | e
    · rw [e, ← hg]; exact h.lk g
    · exact h.up x e
  · by_cases e : a = g
    · subst e; rw [updOp_at]; show (0 : Int) ≤ next; omega
    · rw [updOp_else _ _ e]; exact h.lk a
  · by_cases e : (v : Int) + 1 = item
    · have n1 : ¬ ∃ a, (updOp ops g .idle a).link = (v : Int) + 1 := by
        rintro ⟨a, ha⟩
        by_cases ea : a = g
        · subst ea; rw [updOp_at] at ha; simp only [Op.link] at ha; omega
        · rw [updOp_else _ _ ea] at ha
          exact hd g a (fun q => ea q.symm) (by omega) (by omega)
      have h0 := h.cnt v hv 0 1 c (is_no (e ▸ hx)) (is_yes ⟨g, by omega⟩) hc
      have e1 := ha.yes (by simp [e])
      have e2 := hb.no n1
      omega
    · have q1 : (∃ a, (updOp ops g .idle a).link = (v : Int) + 1) ↔ ∃ a, (ops a).link = (v : Int) + 1 := by
        constructor
        · rintro ⟨a, ha⟩
          by_cases ea : a = g
          · subst ea; rw [updOp_at] at ha; simp only [Op.link] at ha; omega
          · rw [updOp_else _ _ ea] at ha; exact ⟨a, ha⟩
        · rintro ⟨a, ha⟩
          by_cases ea : a = g
          · subst ea; omega
          · exact ⟨a, by rw [updOp_else _ _ ea]; exact ha⟩
      exact h.cnt v hv a b c (ha.of (by simp [e])) (hb.of q1) hc
theorem Acc.took {x : Int} {r : List Int} (h : Acc next got (x :: r) ops) (hx : x ∉ r) (h1 : 1 ≤ x) (h2 : x ≤ 32) : Acc next (upd got (x - 1).toNat (got (x - 1).toNat + 1)) r ops := by
  refine ⟨fun y hy => h.up y (by simp [hy]), h.lk, fun v hv a b c ha hb hc => ?_⟩
  by_cases e : v = (x - 1).toNat
  · have ex : (v : Int) + 1 = x := by omega
    rw [← e, upd_at]
    have h0 := h.cnt v hv 1 b c (is_yes (by simp [ex])) hb hc
    have e1 := ha.no (ex ▸ hx)
    omega
  · rw [upd_else _ _ e]
    exact h.cnt v hv a b c (ha.of ⟨fun q => by simp [q], fun q => by
      rcases List.mem_cons.1 q with q | q
      · omega
      · exact q⟩) hb hc
end
theorem Good.diff {w : World} {P : Nat → Prop} {s : Nat} {b : Zone} {G cap : Nat} {cs : Nat → Int} {ops : Nat → Op} {T : Int} {xs : List Int} (h : Good w P s b G cap cs ops T xs) : ∀ g h, g ≠ h → 0 < (ops g).link → (ops g).link ≠ (ops h).link := by
  obtain ⟨bw, bs, bt, bu, bl, ws, ob, hS, hI, hO⟩ := h
  exact hI.diff
end Go.Proofs.Ytpajdopdbdflnaa
