/- Step: whatever it does. -/
import Derived.Test.YtjfjgfkfbbigbaaPNext
namespace Go.Proofs.Ytjfjgfkfbbigbaa
open Go.RowKit
theorem pos_first {xs : List Ary} (hs : SortedA xs) {t : Int} {x : Ary} (hk : xs[pos xs t]? = some x) : t ≤ x.id ∧ ∀ y ∈ xs, t ≤ y.id → x.id ≤ y.id := by
  have hp : pos xs t < xs.length := (List.getElem?_eq_some_iff.1 hk).1
  have hx : xs[pos xs t] = x := by rw [List.getElem?_eq_getElem hp] at hk; exact Option.some.inj hk
  refine ⟨?_, fun y hy hty => ?_⟩
  · have := pos_spec xs t hs _ _ hk
    omega
  · obtain ⟨j, hj, rfl⟩ := List.getElem_of_mem hy
    have h1 := pos_spec xs t hs j _ (List.getElem?_eq_getElem hj)
    rcases Nat.lt_or_ge (pos xs t) j with r | r
    · have := List.pairwise_iff_getElem.1 hs (pos xs t) j hp hj r
      rw [hx] at this; omega
    · have : j = pos xs t := by omega
      subst this
      rw [hx]; omega
theorem pos_all {xs : List Ary} (hs : SortedA xs) {t : Int} (hp : pos xs t = xs.length) : ∀ y ∈ xs, y.id < t := by
  intro y hy
  obtain ⟨j, hj, rfl⟩ := List.getElem_of_mem hy
  exact (pos_spec xs t hs j _ (List.getElem?_eq_getElem hj)).1 (by omega)
section
variable {w : World} {P : Nat → Prop} {s b bw bs W G : Nat} {v : Value} {q : St} {f c : Int → Int}
theorem advance_nil (g : Int) {Q : World → Prop} (hM : Calls Try.prog 52 #[.pointer (some ⟨s, 0, none⟩)] w fun e w' => e = .returned (.pointer none) ∧ Below w.heap.size w w')
    (hN : ∀ w1, Below w.heap.size w w1 → Calls Try.prog 53 #[.pointer (some ⟨s, 0, none⟩), .int .i64 g] w1 fun e w' => e = .returned (.tuple #[]) ∧ Q w') :
    Calls Try.prog 40 #[.pointer (some ⟨s, 0, none⟩), .int .i64 g] w fun e w' => e = .returned (.tuple #[]) ∧ Q w' := by
  go_enter Try.func40, Try.ntmps40
  go_wp2_with (first
    | (go_at_call 52; refine hM.mono ?_; rintro e w1 ⟨rfl, hb⟩)
    | (go_at_call 53; refine (hN _ hb).mono ?_; rintro e w2 ⟨rfl, hQ⟩))
  go_end0
  exact ⟨rfl, hQ⟩
theorem advance_copy (h : Sp w P s b bw bs W G v q f c) (g : Int) {Q : World → Prop} {k : Nat} {x : Ary} (hk : q.xs[k]? = some x) (hlt : q.c.copied < x.n) (hM : Calls Try.prog 52 #[.pointer (some ⟨s, 0, none⟩)] w fun e w' => ∃ p, v.ownBlock = some p ∧ e = .returned (.pointer (some ⟨p, k * 3, none⟩)) ∧ Below w.heap.size w w')
    (hN : ∀ w1 p, Below w.heap.size w w1 → v.ownBlock = some p → Calls Try.prog 54 #[.pointer (some ⟨s, 0, none⟩), .int .i64 g, .pointer (some ⟨p, k * 3, none⟩)] w1 fun e w' => e = .returned (.tuple #[]) ∧ Q w') :
    Calls Try.prog 40 #[.pointer (some ⟨s, 0, none⟩), .int .i64 g] w fun e w' => e = .returned (.tuple #[]) ∧ Q w' := by
  go_enter Try.func40, Try.ntmps40
  go_wp2_with (go_at_call 52; refine hM.mono ?_; rintro e w1 ⟨p, hp, rfl, hb⟩; have c1 := (h.below hb).cells; have e1 := ((h.below hb).elem hp hk).2.2.1)
  go_quiet (fail)
  go_wp2_with (go_at_call 54; refine (hN _ p (hb.trans (below_drewN w1 nq _)) hp).mono ?_; rintro e w2 ⟨rfl, hQ⟩)
  go_end0
  exact ⟨rfl, hQ⟩
theorem advance_finish (h : Sp w P s b bw bs W G v q f c) (g : Int) {Q : World → Prop} {k : Nat} {x : Ary} (hk : q.xs[k]? = some x) (hlt : ¬ q.c.copied < x.n) (hM : Calls Try.prog 52 #[.pointer (some ⟨s, 0, none⟩)] w fun e w' => ∃ p, v.ownBlock = some p ∧ e = .returned (.pointer (some ⟨p, k * 3, none⟩)) ∧ Below w.heap.size w w')
    (hN : ∀ w1 p, Below w.heap.size w w1 → v.ownBlock = some p → Calls Try.prog 55 #[.pointer (some ⟨s, 0, none⟩), .int .i64 g, .pointer (some ⟨p, k * 3, none⟩)] w1 fun e w' => e = .returned (.tuple #[]) ∧ Q w') :
    Calls Try.prog 40 #[.pointer (some ⟨s, 0, none⟩), .int .i64 g] w fun e w' => e = .returned (.tuple #[]) ∧ Q w' := by
  have d1 : decide (q.c.copied < x.n) = false := by simpa using hlt
  clear hlt
  go_enter Try.func40, Try.ntmps40
  go_wp2_with (go_at_call 52; refine hM.mono ?_; rintro e w1 ⟨p, hp, rfl, hb⟩; have c1 := (h.below hb).cells; have e1 := ((h.below hb).elem hp hk).2.2.1)
  go_quiet (fail)
  go_wp2_with (go_at_call 55; refine (hN _ p (hb.trans (below_drewN w1 nq _)) hp).mono ?_; rintro e w2 ⟨rfl, hQ⟩)
  go_end0
  exact ⟨rfl, hQ⟩
end
/-- What a step of a cycle may make of a space. -/
structure Stepped (q q' : St) : Prop where
  shape : q'.xs.map (fun z => (z.id, z.n)) = q.xs.map (fun z => (z.id, z.n))
  base : q'.base = q.base
  half : q'.half = q.half
  given : q'.given = q.given
  dropped : q'.dropped = q.dropped
  on : q'.c.on = true → q'.taken = q.taken ∧ q'.leaving = q.leaving ∧ rank q' < rank q
  off : q'.c.on = false → q'.taken = q.taken - q.leaving ∧ q'.leaving = 0
section
variable {w : World} {P : Nat → Prop} {s b W G : Nat} {q : St} {V : Int → Int → Int} {c : Int → Int}
theorem advance_ok (h : Gd w P s b W G q V c) (hon : q.c.on = true) (g : Int) (hg : 0 ≤ g ∧ g < G) (hgi : q.given ≤ 1000000000) (hc : wrap64 (c g) = c g) :
    Calls Try.prog 40 #[.pointer (some ⟨s, 0, none⟩), .int .i64 g] w fun e w' => e = .returned (.tuple #[]) ∧ ∃ q' c', Stepped q q' ∧ Ticked c c' g 4 ∧ Turn w P s b W G q' V c' w' := by
  obtain ⟨hW, bw, bs, v, f, h, hI⟩ := h
  obtain ⟨b1, b2, b3, b4, b5, b6, b7, b8, b9, b10, b11, b12⟩ := hI.bounds hW
  have hs := hI.sorted
  have hl := hI.short hW
  have hcy := hI.cyc hon
  have hrm := hI.rem0
  have htp := hI.top
  have hhv := halves q
  by_cases hm : q.c.cop = true ∧ has q.xs q.c.id = true
  · obtain ⟨x, hk, ex⟩ := has_at hs hm.2
    have hx : x ∈ q.xs := List.mem_of_getElem? hk
    obtain ⟨l1, l2, l3⟩ := hI.lies hx
    obtain ⟨a1, a2, a3, a4, a5, a6⟩ := (hI.copy hm.1).2 x hx ex
    obtain ⟨z1, z2, z3⟩ := hI.words x hx
    have ht : tw q x = q.c.to + 4 := tw_cur hm.1 ex
    by_cases hlt : q.c.copied < x.n
    · refine advance_copy h g hk hlt (moving_yes h hs hl hm.1 hm.2) fun w1 p hb hp => ?_
      refine (copyWord_ok (h.below hb) g hp hk hg hW ⟨b1, b7⟩ b3 l1 l2 ⟨a1, hlt⟩ z1 (z2.trans ht) (by omega) (by omega)).mono ?_
      rintro e w' ⟨rfl, hS, hB⟩
      refine ⟨rfl, copiedSt q, _, ⟨rfl, rfl, rfl, rfl, rfl, fun _ => ⟨rfl, rfl, by have := rank_copied hI hm.1 hx ex; omega⟩, fun r => by rw [show (copiedSt q).c.on = q.c.on from rfl, hon] at r; simp at r⟩, (Ticked.first c g).tick.tick.tick.mono (by omega), P, ⟨hW, bw, bs, v, _, hS, ?_⟩, (Bt.of_below hb).trans hB, Wider.refl _ _⟩
      exact copied_inv hI hm.1 hx ex hlt (by rw [updI_at]; exact z3 _ a1 hlt) (fun a ha => updI_else _ _ ha)
    · refine advance_finish h g hk hlt (moving_yes h hs hl hm.1 hm.2) fun w1 p hb hp => ?_
      refine (finish_ok (h.below hb) g hp hk hg hW (by omega)).mono ?_
      rintro e w' ⟨rfl, hS, hB⟩
      refine ⟨rfl, finishedSt q (pos q.xs q.c.id) x, _, ⟨set_shape hk rfl rfl, rfl, rfl, rfl, rfl, fun _ => ⟨rfl, rfl, rank_finished hI hm.1 hk ex⟩, fun r => by rw [show (finishedSt q (pos q.xs q.c.id) x).c.on = q.c.on from rfl, hon] at r; simp at r⟩, (Ticked.first c g).tick.mono (by omega), P, ⟨hW, bw, bs, v, _, hS, ?_⟩, (Bt.of_below hb).trans hB, Wider.refl _ _⟩
      exact finished_inv hI hm.1 hk ex hlt (by rw [updI_else _ _ (by omega), updI_at]) (updI_at _ _ _) (fun a h1 h2 => by rw [updI_else _ _ h2, updI_else _ _ h1])
  · have hcur : ∀ x ∈ q.xs, ¬ (q.c.cop = true ∧ x.id = q.c.id) := fun x hx r => hm ⟨r.1, (has_iff _ _).2 ⟨x, hx, r.2⟩⟩
    refine advance_nil g (moving_no h hs hl hm) fun w1 hb => ?_
    have h1 := h.below hb
    have hend : ∀ {e : Ending} {w' : World}, (∀ x ∈ q.xs, ¬ (q.c.id < x.id ∧ x.id ≤ q.c.last)) → (e = .returned (.tuple #[]) ∧ Sp w' P s b bw bs W G v (endedSt q) f c ∧ Bt P w1 w') → e = .returned (.tuple #[]) ∧ ∃ q' c', Stepped q q' ∧ Ticked c c' g 4 ∧ Turn w P s b W G q' V c' w' := by
      rintro e w' hno ⟨rfl, hS, hB⟩
      exact ⟨rfl, endedSt q, c, ⟨rfl, rfl, rfl, rfl, rfl, fun r => by simp [endedSt] at r, fun _ => ⟨rfl, rfl⟩⟩, Ticked.refl (by omega) hc, P, ⟨hW, bw, bs, v, f, hS, ended_inv hI hcur hno⟩, (Bt.of_below hb).trans hB, Wider.refl _ _⟩
    by_cases hp : pos q.xs (q.c.id + 1) = q.xs.length
    · refine (startNext_none h1 hs hl g hp (by omega) (by omega) (by omega)).mono fun e w' r => hend ?_ r
      intro x hx r2
      have := pos_all hs hp x hx
      omega
    · have hp' : pos q.xs (q.c.id + 1) < q.xs.length := by have := pos_le q.xs (q.c.id + 1); omega
      obtain ⟨x, hk⟩ : ∃ x, q.xs[pos q.xs (q.c.id + 1)]? = some x := ⟨_, List.getElem?_eq_getElem hp'⟩
      have hx : x ∈ q.xs := List.mem_of_getElem? hk
      obtain ⟨f1, f2⟩ := pos_first hs hk
      by_cases hle : x.id ≤ q.c.last
      · obtain ⟨l1, l2, l3⟩ := hI.lies hx
        refine (startNext_go h1 hs hl g hk hle (by omega) hg hW (by omega) (by omega) (by omega)).mono ?_
        rintro e w' ⟨rfl, hS, hB⟩
        have g1 : q.c.id < x.id := by omega
        have g3 : ∀ y ∈ q.xs, q.c.id < y.id → x.id ≤ y.id := fun y hy r => f2 y hy (by omega)
        refine ⟨rfl, startedSt q x, _, ⟨rfl, rfl, rfl, rfl, rfl, fun _ => ⟨rfl, rfl, by have := rank_started hI hcur hx g1 hle g3; omega⟩, fun r => by rw [show (startedSt q x).c.on = q.c.on from rfl, hon] at r; simp at r⟩, (Ticked.first c g).mono (by omega), P, ⟨hW, bw, bs, v, _, hS, ?_⟩, (Bt.of_below hb).trans hB, Wider.refl _ _⟩
        exact started_inv hI hon hcur hx g1 hle g3 (updI_at _ _ _) (fun a ha => updI_else _ _ ha)
      · refine (startNext_over h1 hs hl g hk (by omega) (by omega) (by omega) (by omega)).mono fun e w' r => hend ?_ r
        intro y hy r2
        have := f2 y hy (by omega)
        omega
theorem Gd.cell9 (h : Gd w P s b W G q V c) : w.cell? ⟨s, 9, none⟩ = some (.bool q.c.on) ∧ w.cell? ⟨s, 0, none⟩ = some (.pointer (some ⟨b, 0, none⟩)) := by
  obtain ⟨_, bw, bs, v, f, h, _⟩ := h
  exact ⟨h.cells.2.2.2.2.2.2.2.2.2.1, h.c0⟩
theorem Gd.agent_yes (h : Gd w P s b W G q V c) (g : Int) (hg : 0 ≤ g ∧ g < G) : Calls Try.prog 31 #[.pointer (some ⟨b, 0, none⟩), .int .i64 g] w fun e w' => e = .returned (.bool true) ∧ w' = w := by
  obtain ⟨_, bw, bs, v, f, h, _⟩ := h
  exact hasAgent_yes h.ar g hg.1 hg.2
theorem Gd.agent_no (h : Gd w P s b W G q V c) (g : Int) (hg : ¬ (0 ≤ g ∧ g < G)) : Calls Try.prog 31 #[.pointer (some ⟨b, 0, none⟩), .int .i64 g] w fun e w' => e = .returned (.bool false) ∧ w' = w := by
  obtain ⟨_, bw, bs, v, f, h, _⟩ := h
  exact hasAgent_no h.ar g hg
theorem sstep_no (h : Gd w P s b W G q V c) (g : Int) (hg : ¬ (0 ≤ g ∧ g < G)) : Calls Try.prog 19 #[.pointer (some ⟨s, 0, none⟩), .int .i64 g] w fun e w' => e = .returned (.tuple #[.bool false, .int .i64 704]) ∧ w' = w := by
  have hA := h.agent_no g hg
  obtain ⟨c9, c0⟩ := h.cell9
  clear h hg
  go_enter Try.func19, Try.ntmps19
  go_wp2_with (go_at_call 31; refine hA.mono ?_; rintro e w9 ⟨rfl, rfl⟩)
  go_ret2
  exact ⟨rfl, rfl⟩
theorem sstep_off (h : Gd w P s b W G q V c) (g : Int) (hg : 0 ≤ g ∧ g < G) (hoff : q.c.on = false) : Calls Try.prog 19 #[.pointer (some ⟨s, 0, none⟩), .int .i64 g] w fun e w' => e = .returned (.tuple #[.bool false, .int .i64 0]) ∧ w' = w := by
  have hA := h.agent_yes g hg
  obtain ⟨c9, c0⟩ := h.cell9
  rw [hoff] at c9
  clear h hg hoff
  go_enter Try.func19, Try.ntmps19
  go_wp2_with (go_at_call 31; refine hA.mono ?_; rintro e w9 ⟨rfl, rfl⟩)
  go_ret2
  exact ⟨rfl, rfl⟩
theorem sstep_ok (h : Gd w P s b W G q V c) (hon : q.c.on = true) (g : Int) (hg : 0 ≤ g ∧ g < G) (hgi : q.given ≤ 1000000000) (hc : wrap64 (c g) = c g) :
    Calls Try.prog 19 #[.pointer (some ⟨s, 0, none⟩), .int .i64 g] w fun e w' => ∃ q' c', e = .returned (.tuple #[.bool q'.c.on, .int .i64 0]) ∧ Stepped q q' ∧ Ticked c c' g 4 ∧ Turn w P s b W G q' V c' w' := by
  have hA := h.agent_yes g hg
  have hV := advance_ok h hon g hg hgi hc
  obtain ⟨c9, c0⟩ := h.cell9
  rw [hon] at c9
  clear h hg hon hc
  go_enter Try.func19, Try.ntmps19
  go_wp2_with (first
    | (go_at_call 31; refine hA.mono ?_; rintro e w9 ⟨rfl, hw9⟩; replace hw9 := hw9.symm; subst hw9)
    | (go_at_call 40; refine hV.mono ?_; rintro e w1 ⟨rfl, q', c', hst, htk, hT⟩; have HT : Hid (Stepped q q' ∧ Ticked c c' g 4 ∧ Turn w P s b W G q' V c' w1) := ⟨hst, htk, hT⟩; obtain ⟨P', hG, _⟩ := hT; have d9 := hG.cell9.1; clear hG hst htk))
  go_ret2
  exact ⟨q', c', rfl, HT.out⟩
end
end Go.Proofs.Ytjfjgfkfbbigbaa
