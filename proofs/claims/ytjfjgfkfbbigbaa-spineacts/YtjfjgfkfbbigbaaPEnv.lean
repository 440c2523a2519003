/- New; a law's own space; awake. -/
import Derived.Test.YtjfjgfkfbbigbaaPAdv
import Derived.OwnWalk
namespace Go.Proofs.Ytjfjgfkfbbigbaa
open Go.RowKit
/-- A space with no arrays. -/
def q0 (base half : Int) : St := ⟨base, half, false, 0, [], 0, 0, 0, ⟨false, 0, 0, false, 0, 0, 0⟩⟩
theorem q0_inv {base half : Int} {W : Int} {f : Int → Int} {V : Int → Int → Int} (h1 : 0 ≤ base) (h2 : 0 ≤ half) (h3 : base + 2 * half ≤ W) : Inv (q0 base half) W f V :=
  ⟨h1, h2, h3, List.Pairwise.nil, fun x hx => by simp [q0] at hx, Int.le_refl _, ⟨rfl, Int.le_refl _, Int.le_refl _, h2⟩, fun _ => ⟨rfl, rfl⟩, fun x hx => by simp [q0] at hx, fun x hx => by simp [q0] at hx, fun x hx => by simp [q0] at hx, fun x hx => by simp [q0] at hx, fun r => by simp [q0] at r, fun r => by simp [q0] at r, fun r => by simp [q0] at r, fun r => by simp [q0] at r⟩
def Cn (c : Int → Int) : Prop := ∀ j, wrap64 (c j) = c j
theorem wrap_idem (a : Int) : wrap64 (wrap64 a) = wrap64 a := by simp only [wrap64]; omega
theorem Cn.ticked {c c' : Int → Int} {g k : Int} (h : Cn c) (ht : Ticked c c' g k) : Cn c' := by
  intro j
  obtain ⟨h1, d, _, _, h2⟩ := ht
  by_cases e : j = g
  · subst e; rw [h2, wrap_idem]
  · rw [h1 j e]; exact h j
/-- A law's own space: all that is its lies from block B on. -/
structure Env (B : Nat) (w0 w : World) (P : Nat → Prop) (s b W : Nat) (q : St) (V : Int → Int → Int) : Prop where
  gd : ∃ c, Cn c ∧ Gd w P s b W 3 q V c
  own : ∀ k, P k → B ≤ k
  lt : ∀ k, P k → k < w.heap.size
  bel : Below B w0 w
  size : B ≤ w.heap.size
/-- Of P those that there are. -/
theorem Gd.shrink {w : World} {P : Nat → Prop} {s b W G : Nat} {q : St} {V : Int → Int → Int} {c : Int → Int} (h : Gd w P s b W G q V c) : Gd w (fun k => P k ∧ k < w.heap.size) s b W G q V c := by
  obtain ⟨hW, bw, bs, v, f, h, hI⟩ := h
  obtain ⟨o1, o2, o3, o4, o5⟩ := h.own
  exact ⟨hW, bw, bs, v, f, ⟨h.here, h.ar, h.row, ⟨o1, h.lt⟩, ⟨o2, h.ar.lt⟩, ⟨o3, h.ar.words.lt⟩, ⟨o4, h.ar.steps.lt⟩, fun k hk => ⟨o5 k hk, (h.row_ne hk).2.2.2.2⟩⟩, hI⟩
def EnvT (B : Nat) (w0 w : World) (P : Nat → Prop) (s b W : Nat) (q : St) (V : Int → Int → Int) (w' : World) : Prop := ∃ P', Env B w0 w' P' s b W q V ∧ Bt P w w' ∧ Wider P P' w
section
variable {B : Nat} {w0 w : World} {P : Nat → Prop} {s b W : Nat} {q : St} {V : Int → Int → Int}
theorem Env.below {w' : World} (h : Env B w0 w P s b W q V) (hb : Below w.heap.size w w') : Env B w0 w' P s b W q V := by
  obtain ⟨c, hc, hg⟩ := h.gd
  exact ⟨⟨c, hc, hg.below hb⟩, h.own, fun k hk => Nat.lt_of_lt_of_le (h.lt k hk) hb.size, h.bel.trans (hb.mono h.size), Nat.le_trans h.size hb.size⟩
theorem Env.turn {w' : World} {q' : St} {V' : Int → Int → Int} {c' : Int → Int} (h : Env B w0 w P s b W q V) (hc : Cn c') (ht : Turn w P s b W 3 q' V' c' w') : EnvT B w0 w P s b W q' V' w' := by
  obtain ⟨P', hg, hB, hW⟩ := ht
  exact ⟨_, ⟨⟨c', hc, hg.shrink⟩, fun k hk => (hW k hk.1).elim (h.own k) (fun r => Nat.le_trans h.size r), fun _ hk => hk.2, hB.under h.bel h.size h.own, Nat.le_trans h.size hB.size⟩, hB, fun k hk => hW k hk.1⟩
theorem e_make (h : Env B w0 w P s b W q V) (g n : Int) (hg : 0 ≤ g ∧ g < 3) (hn : 0 ≤ n ∧ n ≤ 1000) (hr : n + 4 ≤ q.half - q.taken) (hgi : q.given < 1000000000) :
    Calls Try.prog 15 #[.pointer (some ⟨s, 0, none⟩), .int .i64 g, .int .i64 n] w fun e w' => e = .returned (.tuple #[.int .i64 (q.given + 1), .int .i64 0]) ∧ EnvT B w0 w P s b W (made q n) (fun id i => if id = q.given + 1 then 0 else V id i) w' := by
  obtain ⟨c, hc, hG⟩ := h.gd
  refine (make_ok hG g n hg hn hr hgi).mono ?_
  rintro e w' ⟨rfl, c', ht, hT⟩
  exact ⟨rfl, h.turn (hc.ticked ht) hT⟩
theorem e_full (h : Env B w0 w P s b W q V) (g n : Int) (hg : 0 ≤ g ∧ g < 3) (hn : 0 ≤ n ∧ n ≤ 1000) (hr : q.half - q.taken < n + 4) :
    Calls Try.prog 15 #[.pointer (some ⟨s, 0, none⟩), .int .i64 g, .int .i64 n] w fun e w' => e = .returned (.tuple #[.int .i64 0, .int .i64 702]) ∧ Below w.heap.size w w' := by
  obtain ⟨c, hc, hG⟩ := h.gd
  exact make_full hG g n hg hn hr
theorem e_get (h : Env B w0 w P s b W q V) {x : Ary} (hx : x ∈ q.xs) (g i : Int) (hg : 0 ≤ g ∧ g < 3) (hi : 0 ≤ i ∧ i < x.n) :
    Calls Try.prog 13 #[.pointer (some ⟨s, 0, none⟩), .int .i64 g, .int .i64 x.id, .int .i64 i] w fun e w' => e = .returned (.tuple #[.int .i64 (V x.id i), .int .i64 0]) ∧ EnvT B w0 w P s b W q V w' := by
  obtain ⟨c, hc, hG⟩ := h.gd
  refine (get_ok hG hx g i hg hi).mono ?_
  rintro e w' ⟨rfl, c', ht, hT⟩
  exact ⟨rfl, h.turn (hc.ticked ht) hT⟩
theorem e_set (h : Env B w0 w P s b W q V) {x : Ary} (hx : x ∈ q.xs) (g i y : Int) (hg : 0 ≤ g ∧ g < 3) (hi : 0 ≤ i ∧ i < x.n) :
    Calls Try.prog 16 #[.pointer (some ⟨s, 0, none⟩), .int .i64 g, .int .i64 x.id, .int .i64 i, .int .i64 y] w fun e w' => e = .returned (.int .i64 0) ∧ EnvT B w0 w P s b W q (updV V x.id i y) w' := by
  obtain ⟨c, hc, hG⟩ := h.gd
  refine (set_ok hG hx g i y hg hi).mono ?_
  rintro e w' ⟨rfl, c', ht, hT⟩
  exact ⟨rfl, h.turn (hc.ticked ht) hT⟩
theorem e_drop (h : Env B w0 w P s b W q V) {x : Ary} (hx : x ∈ q.xs) :
    Calls Try.prog 17 #[.pointer (some ⟨s, 0, none⟩), .int .i64 x.id] w fun e w' => e = .returned (.int .i64 0) ∧ EnvT B w0 w P s b W (droppedSt q (pos q.xs x.id) x.n) V w' := by
  obtain ⟨c, hc, hG⟩ := h.gd
  refine (drop_ok hG hx).mono ?_
  rintro e w' ⟨rfl, hT⟩
  exact ⟨rfl, h.turn hc hT⟩
theorem e_begin (h : Env B w0 w P s b W q V) (hoff : q.c.on = false) :
    Calls Try.prog 18 #[.pointer (some ⟨s, 0, none⟩)] w fun e w' => e = .returned (.int .i64 0) ∧ EnvT B w0 w P s b W (begunSt q) V w' := by
  obtain ⟨c, hc, hG⟩ := h.gd
  refine (begin_ok hG hoff).mono ?_
  rintro e w' ⟨rfl, hT⟩
  exact ⟨rfl, h.turn hc hT⟩
theorem e_begin_no (h : Env B w0 w P s b W q V) (hon : q.c.on = true) :
    Calls Try.prog 18 #[.pointer (some ⟨s, 0, none⟩)] w fun e w' => e = .returned (.int .i64 701) ∧ w' = w := by
  obtain ⟨c, hc, hG⟩ := h.gd
  exact begin_no hG hon
theorem e_step (h : Env B w0 w P s b W q V) (hon : q.c.on = true) (g : Int) (hg : 0 ≤ g ∧ g < 3) (hgi : q.given ≤ 1000000000) :
    Calls Try.prog 19 #[.pointer (some ⟨s, 0, none⟩), .int .i64 g] w fun e w' => ∃ q', e = .returned (.tuple #[.bool q'.c.on, .int .i64 0]) ∧ Stepped q q' ∧ EnvT B w0 w P s b W q' V w' := by
  obtain ⟨c, hc, hG⟩ := h.gd
  refine (sstep_ok hG hon g hg hgi (hc g)).mono ?_
  rintro e w' ⟨q', c', rfl, hst, ht, hT⟩
  exact ⟨q', rfl, hst, h.turn (hc.ticked ht) hT⟩
theorem e_step_off (h : Env B w0 w P s b W q V) (g : Int) (hg : 0 ≤ g ∧ g < 3) (hoff : q.c.on = false) : Calls Try.prog 19 #[.pointer (some ⟨s, 0, none⟩), .int .i64 g] w fun e w' => e = .returned (.tuple #[.bool false, .int .i64 0]) ∧ w' = w := by
  obtain ⟨c, hc, hG⟩ := h.gd
  exact sstep_off hG g hg hoff
theorem e_len_no (h : Env B w0 w P s b W q V) (t : Int) (hh : has q.xs t = false) :
    Calls Try.prog 11 #[.pointer (some ⟨s, 0, none⟩), .int .i64 t] w fun e w' => e = .returned (.tuple #[.int .i64 0, .int .i64 704]) ∧ Below w.heap.size w w' := by
  obtain ⟨c, hc, hG⟩ := h.gd
  exact glen_no hG t hh
theorem e_room (h : Env B w0 w P s b W q V) : Calls Try.prog 9 #[.pointer (some ⟨s, 0, none⟩)] w fun e w' => e = .returned (.int .i64 (q.half - q.taken)) ∧ Below w.heap.size w w' := by
  obtain ⟨c, hc, hG⟩ := h.gd
  exact groom hG
theorem Env.inv (h : Env B w0 w P s b W q V) : ∃ f, Inv q W f V ∧ W ≤ 65536 := by
  obtain ⟨c, hc, hW, bw, bs, v, f, _, hI⟩ := h.gd
  exact ⟨f, hI, hW⟩
end
theorem spnew_ok {w : World} {b bw bs W : Nat} (h : Ar w b bw bs W 3 (fun _ => 0) (fun _ => 0)) (base words : Int) (h1 : 32 ≤ words ∧ words ≤ 65536) (h2 : 0 ≤ base) (h3 : base + words ≤ W) (hW : W ≤ 65536) :
    Calls Try.prog 21 #[.pointer (some ⟨b, 0, none⟩), .int .i64 base, .int .i64 words] w fun e w' => ∃ s P, e = .returned (.tuple #[.pointer (some ⟨s, 0, none⟩), .int .i64 0]) ∧ Gd w' P s b W 3 (q0 base (words / 2)) (fun _ _ => 0) (fun _ => 0) ∧ Below w.heap.size w w' ∧ ∀ k, P k → k = b ∨ k = bw ∨ k = bs ∨ w.heap.size ≤ k := by
  have hWd := words_any h
  have d1 : decide (words < 32) = false := by simp; omega
  have d2 : decide (base < 0) = false := by simp; omega
  have d3 : decide ((W : Int) - words < base) = false := by simp; omega
  have ed : words.tdiv 2 = words / 2 := Int.tdiv_eq_ediv_of_nonneg (by omega)
  have HE : Hid (∃ P, Gd (w.alloc (.cells #[.pointer (some ⟨b, 0, none⟩), .int .i64 base, .int .i64 (words / 2), .bool false, .int .i64 0, .slice none 0 0, .int .i64 0, .int .i64 0, .int .i64 0, .bool false, .int .i64 0, .int .i64 0, .bool false, .int .i64 0, .int .i64 0, .int .i64 0] 68)) P w.heap.size b W 3 (q0 base (words / 2)) (fun _ _ => 0) (fun _ => 0) ∧ ∀ k, P k → k = b ∨ k = bw ∨ k = bs ∨ w.heap.size ≤ k) := by
    refine ⟨fun k => k = w.heap.size ∨ k = b ∨ k = bw ∨ k = bs, ⟨hW, bw, bs, .slice none 0 0, fun _ => 0, ⟨?_, h.alloc _, Arys.nil _, ⟨.inl rfl, .inr (.inl rfl), .inr (.inr (.inl rfl)), .inr (.inr (.inr rfl)), fun k hk => by simp [Value.ownBlock] at hk⟩⟩, q0_inv h2 (by omega) (by omega)⟩, ?_⟩
    · exact heap_alloc_new w _
    · rintro k (r | r | r | r)
      · exact .inr (.inr (.inr (by omega)))
      · exact .inl r
      · exact .inr (.inl r)
      · exact .inr (.inr (.inl r))
  clear h
  go_enter Try.func21, Try.ntmps21
  go_wp2_with (go_at_call 42; refine hWd.mono ?_; rintro e w9 ⟨rfl, hw9⟩; replace hw9 := hw9.symm; subst hw9)
  go_ret2
  obtain ⟨P, hP⟩ := HE.out
  exact ⟨w.heap.size, P, rfl, hP.1, (Below.refl _ _).alloc (Nat.le_refl _) _, hP.2⟩
theorem begun_ok (base words : Int) (w : World) (h1 : 32 ≤ words ∧ words ≤ 4000) (h2 : 0 ≤ base ∧ base ≤ 1000) :
    Calls Try.prog 7 #[.int .i64 base, .int .i64 words] w fun e w' => ∃ s b P, e = .returned (.tuple #[.pointer (some ⟨s, 0, none⟩), .pointer (some ⟨b, 0, none⟩), .bool true]) ∧ Gd w' P s b (base + words).toNat 3 (q0 base (words / 2)) (fun _ _ => 0) (fun _ => 0) ∧ Below w.heap.size w w' ∧ (∀ k, P k → w.heap.size ≤ k) := by
  obtain ⟨W, hWe⟩ : ∃ W : Nat, (W : Int) = base + words := ⟨(base + words).toNat, by omega⟩
  have hN : Calls Try.prog 20 #[.int .i64 (base + words), .int .i64 3] w fun e w' => ∃ b bw bs, e = .returned (.tuple #[.pointer (some ⟨b, 0, none⟩), .int .i64 0]) ∧ Ar w' b bw bs W 3 (fun _ => 0) (fun _ => 0) ∧ Below w.heap.size w w' ∧ w.heap.size ≤ b ∧ w.heap.size ≤ bw ∧ w.heap.size ≤ bs := by
    have := new_ok W 3 w (by omega) (by omega) (by omega) (by omega)
    rw [hWe] at this
    exact this
  have hW2 : (base + words).toNat = W := by omega
  rw [hW2]
  clear hW2
  go_enter Try.func7, Try.ntmps7
  go_wp2_with (first
    | (go_at_call 20; refine hN.mono ?_; rintro e w1 ⟨b, bw, bs, rfl, hA, hb1, g1, g2, g3⟩)
    | (go_at_call 21; refine (spnew_ok hA base words (by omega) (by omega) (by omega) (by omega)).mono ?_; rintro e w2 ⟨s, P, rfl, hG, hb2, hP⟩)
    | (go_at_call 12; refine (num_any _ _).mono ?_; rintro e w9 ⟨rfl, hw9⟩; replace hw9 := hw9.symm; subst hw9))
  go_ret3
  refine ⟨s, b, P, rfl, hG, hb1.trans (hb2.mono hb1.size), fun k hk => ?_⟩
  rcases hP k hk with r | r | r | r
  · omega
  · omega
  · omega
  · have := hb1.size; omega
end Go.Proofs.Ytjfjgfkfbbigbaa
