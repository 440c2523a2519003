/- Step of an agent whose operation is under way: what it answers, what then stands in the stack. -/
import Derived.Test.YtojblddfggoecaaGreatSMath
namespace Go.Proofs.YtojblddfggoecaaGreat
open Go.RowKit

theorem ov {w u : World} {x ty : Nat} {c : Array Value} (hb : Below w.heap.size w u) (h : w.heap[x]? = some (.cells c ty (0, 0))) : u.heap[x]? = some (.cells c ty (0, 0)) := (hb.block x (box_lt h)).trans h

/-- What Step leaves. -/
def StepPost (w : World) (P : Nat → Prop) (s b bw bs bt bu bl W G base cap : Nat) (ws cs : Nat → Int) (ops : Nat → Op) (ob : Nat → Nat) (g : Nat) (T : Int) (xs : List Int) (e : Ending) (w' : World) : Prop :=
  ∃ (done : Bool) (v : Int) (ok : Bool) (ws' : Nat → Int) (op' : Op) (T' : Int) (xs' : List Int), e = .returned (.tuple #[.bool done, .int .i64 v, .bool ok, .int .i64 0]) ∧ Stk w' P s b bw bs bt bu bl W G base cap ws' (upd cs g (wrap64 (cs g + 1))) (updOp ops g op') ob ∧ Bt P w w' ∧
    Inv base cap ws' (updOp ops g op') T' xs' ∧ Eff T xs (ops g) done v ok op' T' xs' ∧ ∀ a, a < base ∨ base + cap < a → ws' a = ws a

section
variable {w : World} {P : Nat → Prop} {s b bw bs bt bu bl W G base cap : Nat} {ws cs : Nat → Int} {ops : Nat → Op} {ob : Nat → Nat} {T : Int} {xs : List Int}
theorem c_facts (h : Stk w P s b bw bs bt bu bl W G base cap ws cs ops ob) : (0 : Int) < (cap : Int) + 1 ∧ (cap : Int) + 1 ≤ 1001 ∧ base < W ∧ base + cap < W := by
  have := h.cap1; have := h.cap2; have := h.base1
  omega
theorem top_facts (hI : Inv base cap ws ops T xs) (hT : T ≤ 1000000000) : wrap64 ((ws base).tdiv ((cap : Int) + 1)) = T ∧ (ws base).tmod ((cap : Int) + 1) = hd xs := by
  have hh := hd_range hI.range
  have hs := split_top (c := (cap : Int) + 1) hI.t0 hh.1 (by omega)
  have := hI.t0
  rw [hI.top, hs.1, hs.2]
  exact ⟨IntWalk.wrap64_in _ (by omega), rfl⟩
set_option maxRecDepth 4000 in
theorem step_any_push (h : Stk w P s b bw bs bt bu bl W G base cap ws cs ops ob) (hI : Inv base cap ws ops T xs) (hT : T ≤ 1000000000) (g : Nat) (hg : g < G) {item n t i : Int} (ho : ops g = .push item n t i) :
    Calls Tryz.prog 96 #[.pointer (some ⟨s, 0, none⟩), .int .i64 g] w (StepPost w P s b bw bs bt bu bl W G base cap ws cs ops ob g T xs) := by
  have hc := c_facts h
  have ht := top_facts hI hT
  have hh := hd_range hI.range
  have hk := hI.op g
  have hT0 := hI.t0
  have hW := h.big
  rw [ho] at hk
  obtain ⟨a1, a2, a3, a4⟩ := hk
  rcases a4 with a4 | a4 | a4
  · subst a4
    refine (step_push_on h g hg ho (fun x y z hX hY y1 y2 hZ u hb => push_look (h.ar.below hb) (h.bx.below hb) g (ov hb hX) (ov hb hY) hg hc.2.2.1 hc.1 ht.1 ht.2 hh.1)).mono ?_
    rintro e w' ⟨rfl, hS, hB⟩
    refine ⟨_, _, _, _, _, _, _, rfl, hS, hB, hI.looked (op := .push item 1 T (hd xs)) ⟨a1, a2, a3, .inr (.inl ⟨rfl, See.now hI⟩)⟩ (.inr (by rw [ho]; rfl)), ?_⟩
    rw [ho]; exact ⟨.pushOn (by simp [rank]), fun _ _ => rfl⟩
  · obtain ⟨rfl, hs⟩ := a4
    refine (step_push_on h g hg ho (fun x y z hX hY y1 y2 hZ u hb => push_connect (h.ar.below hb) g (base + item.toNat) (ov hb hX) (ov hb hY) y1 y2 (ov hb hZ) hg (by omega) (by omega) hW)).mono ?_
    rintro e w' ⟨rfl, hS, hB⟩
    refine ⟨_, _, _, _, _, _, _, rfl, hS, hB, hI.linked ho ⟨a1, a2, a3⟩ hs, ?_⟩
    rw [ho]; exact ⟨.pushOn (by simp only [rank]; by_cases q : t = T <;> simp [q]), fun a ha => upd_else _ _ (by omega)⟩
  · obtain ⟨rfl, hs, hw⟩ := a4
    obtain ⟨s1, s2, s3, s4, s5⟩ := hs
    by_cases q : t = T
    · subst q
      refine (step_push_done h g hg ho (fun x y z hX hY y1 y2 hZ u hb => push_swap_yes (h.ar.below hb) (h.bx.below hb) g (ov hb hX) (ov hb hY) (ov hb hZ) hg hc.2.2.1 (IntWalk.wrap64_in (t + 1) (by omega)) (write_top hT0 (by omega) (by omega) hc.2.1 s3 (by omega)) (write_top (by omega) (by omega) (by omega) hc.2.1 (by omega) (by omega)) (by rw [hI.top, s5 rfl]; simp))).mono ?_
      rintro e w' ⟨rfl, hS, hB⟩
      refine ⟨_, _, _, _, _, _, _, rfl, hS, hB, hI.pushed ho, ?_⟩
      rw [ho]; exact ⟨.pushed, fun a ha => upd_else _ _ (by omega)⟩
    · refine (step_push_on h g hg ho (fun x y z hX hY y1 y2 hZ u hb => push_swap_no (h.ar.below hb) (h.bx.below hb) g (ov hb hX) (ov hb hY) (ov hb hZ) hg hc.2.2.1 (write_top s1 (by omega) (by omega) hc.2.1 s3 (by omega)) (by rw [hI.top]; simpa using top_eq (show t < T by omega) (show i < (cap : Int) + 1 by omega) hh.1 (by omega)))).mono ?_
      rintro e w' ⟨rfl, hS, hB⟩
      refine ⟨_, _, _, _, _, _, _, rfl, hS, hB, hI.looked (op := .push item 0 0 0) ⟨a1, a2, a3, .inl rfl⟩ (.inr (by rw [ho]; rfl)), ?_⟩
      rw [ho]; exact ⟨.pushOn (by simp [rank, q]), fun _ _ => rfl⟩
set_option maxRecDepth 4000 in
theorem step_any_pop (h : Stk w P s b bw bs bt bu bl W G base cap ws cs ops ob) (hI : Inv base cap ws ops T xs) (hT : T ≤ 1000000000) (g : Nat) (hg : g < G) {n t i d : Int} (ho : ops g = .pop n t i d) :
    Calls Tryz.prog 96 #[.pointer (some ⟨s, 0, none⟩), .int .i64 g] w (StepPost w P s b bw bs bt bu bl W G base cap ws cs ops ob g T xs) := by
  have hc := c_facts h
  have ht := top_facts hI hT
  have hh := hd_range hI.range
  have hk := hI.op g
  have hT0 := hI.t0
  have hW := h.big
  rw [ho] at hk
  rcases hk with a4 | a4 | a4
  · subst a4
    cases xs with
    | nil =>
      refine (step_pop_done (n' := 0) (t' := 0) (i' := 0) (d' := 0) h g hg ho (fun x y hX hY y1 y2 u hb => pop_empty (h.ar.below hb) (h.bx.below hb) g (ov hb hX) (ov hb hY) hg hc.2.2.1 hc.1 ht.2)).mono ?_
      rintro e w' ⟨rfl, hS, hB⟩
      refine ⟨_, _, _, _, _, _, _, rfl, hS, hB, hI.looked (op := .idle) trivial (.inl rfl), ?_⟩
      rw [ho]; exact ⟨.nothing rfl, fun _ _ => rfl⟩
    | cons x r =>
      have hx := hI.range x (by simp)
      refine (step_pop_on h g hg ho (fun x y hX hY y1 y2 u hb => pop_look (h.ar.below hb) (h.bx.below hb) g (ov hb hX) (ov hb hY) hg hc.2.2.1 hc.1 ht.1 ht.2 (by simp only [hd]; omega))).mono ?_
      rintro e w' ⟨rfl, hS, hB⟩
      refine ⟨_, _, _, _, _, _, _, rfl, hS, hB, hI.looked (op := .pop 1 T (hd (x :: r)) 0) (.inr (.inl ⟨rfl, by simp only [hd]; omega, See.now hI⟩)) (.inl rfl), ?_⟩
      rw [ho]; exact ⟨.popOn (by simp [rank]), fun _ _ => rfl⟩
  · obtain ⟨rfl, i1, s1, s2, s3, s4, s5⟩ := a4
    obtain ⟨d', hd'⟩ : ∃ d', (if 0 ≤ ws (base + i.toNat) ∧ ws (base + i.toNat) < (cap : Int) + 1 then ws (base + i.toNat) else 0) = d' := ⟨_, rfl⟩
    refine (step_pop_on h g hg ho (fun x y hX hY y1 y2 u hb => pop_connect (h.ar.below hb) (h.bx.below hb) g (base + i.toNat) (ov hb hX) (ov hb hY) y1 y2 hg (by omega) (by omega) hW hd')).mono ?_
    rintro e w' ⟨rfl, hS, hB⟩
    have b1 : 0 ≤ d' ∧ d' ≤ cap := by
      rw [← hd']; split
      · next q => omega
      · omega
    refine ⟨_, _, _, _, _, _, _, rfl, hS, hB, hI.looked (op := .pop 2 t i d') (.inr (.inr ⟨rfl, i1, ⟨s1, s2, s3, s4, s5⟩, b1.1, b1.2, fun e => ?_⟩)) (.inl rfl), ?_⟩
    · have e1 := s5 e
      cases xs with
      | nil => simp [hd] at e1; omega
      | cons x r =>
        simp only [hd] at e1
        subst e1
        have e2 := hI.chain.1
        have e3 := hd_range (cap := cap) (xs := r) (fun y hy => hI.range y (by simp [hy]))
        rw [← hd', e2, if_pos (by omega)]; rfl
    · rw [ho]; exact ⟨.popOn (by simp only [rank]; by_cases q : t = T <;> simp [q]), fun _ _ => rfl⟩
  · obtain ⟨rfl, i1, ⟨s1, s2, s3, s4, s5⟩, d0, d1, d2⟩ := a4
    by_cases q : t = T
    · subst q
      obtain ⟨r, hr, hdr, hI'⟩ := hI.popped ho
      refine (step_pop_done h g hg ho (fun x y hX hY y1 y2 u hb => pop_swap_yes (h.ar.below hb) (h.bx.below hb) g (ov hb hX) (ov hb hY) hg hc.2.2.1 (IntWalk.wrap64_in (t + 1) (by omega)) (write_top hT0 (by omega) (by omega) hc.2.1 s3 (by omega)) (write_top (by omega) (by omega) (by omega) hc.2.1 d0 (by omega)) s3 (by omega) (by rw [hI.top, s5 rfl]; simp))).mono ?_
      rintro e w' ⟨rfl, hS, hB⟩
      refine ⟨_, _, _, _, _, _, _, rfl, hS, hB, hI', ?_⟩
      rw [ho]; exact ⟨.popped hr, fun a ha => upd_else _ _ (by omega)⟩
    · refine (step_pop_on h g hg ho (fun x y hX hY y1 y2 u hb => pop_swap_no (h.ar.below hb) (h.bx.below hb) g (ov hb hX) (ov hb hY) hg hc.2.2.1 (write_top s1 (by omega) (by omega) hc.2.1 s3 (by omega)) (by rw [hI.top]; simpa using top_eq (show t < T by omega) (show i < (cap : Int) + 1 by omega) hh.1 (by omega)))).mono ?_
      rintro e w' ⟨rfl, hS, hB⟩
      refine ⟨_, _, _, _, _, _, _, rfl, hS, hB, hI.looked (op := .pop 0 0 0 0) (.inl rfl) (.inl rfl), ?_⟩
      rw [ho]; exact ⟨.popOn (by simp only [rank, q]; by_cases q2 : xs = [] <;> simp [q2]), fun _ _ => rfl⟩
theorem step_any (h : Stk w P s b bw bs bt bu bl W G base cap ws cs ops ob) (hI : Inv base cap ws ops T xs) (hT : T ≤ 1000000000) (g : Nat) (hg : g < G) (hb : ops g ≠ .idle) :
    Calls Tryz.prog 96 #[.pointer (some ⟨s, 0, none⟩), .int .i64 g] w (StepPost w P s b bw bs bt bu bl W G base cap ws cs ops ob g T xs) := by
  cases ho : ops g with
  | idle => exact absurd ho hb
  | push item n t i => exact step_any_push h hI hT g hg ho
  | pop n t i d => exact step_any_pop h hI hT g hg ho
end
end Go.Proofs.YtojblddfggoecaaGreat
