/- The law's small functions: lending a slice with marked room, spoiling it, holding it against what it was; the agent of a word; picks as counted. -/
import Derived.Test.YtlbemkmhkjllpaaTurns
namespace Go.Proofs.Ytlbemkmhkjllpaa
open Go.RowKit Go.Conc

theorem copy_any (v : Value) (n : Nat) (f : Nat → Int) (w : World) (hn : n ≤ 17592186043904) (hv : Ints w v n f) :
    Calls Try.prog 21 #[v] w fun e w' => ∃ v', e = .returned v' ∧ Own w' w.heap.size v' n f ∧ Below w.heap.size w w' := by
  obtain ⟨ao, cap, rfl, hv'⟩ := id hv
  have h0 := Below.refl w.heap.size w
  obtain ⟨v', w', hrun, hO, hB, _⟩ := app (Own.empty w w.heap.size f (Nat.le_refl _)) (hv.below (h0.alloc (Nat.le_refl _) (.cells #[] 3))) (by simp) (by omega)
  have hB' := (h0.alloc (Nat.le_refl _) (.cells #[] 3)).trans hB
  rw [Nat.zero_add] at hO
  have hO' := hO.congr (g := f) fun i _ => by simp [cat]
  clear hO hB hv hv'
  go_enter Try.func21, Try.ntmps21
  go_wp2_with (at_builtin; refine wpList_app _ _ hrun rfl rfl rfl rfl rfl ?_; clear hrun)
  go_ret
  exact ⟨_, rfl, hO', hB'⟩

/-- The row p holds n ints, then the two marks; there is room for them. -/
structure Lent (w : World) (p n cap : Nat) (f : Nat → Int) : Prop where
  room : n + 2 ≤ cap
  size : cap ≤ maxLen
  row : ∃ F : Nat → Value, w.rowIs p 3 cap F ∧ (∀ i, i < n → F i = .int .i64 (f i)) ∧ F n = .int .i64 (-7777) ∧ F (n + 1) = .int .i64 (-8888)
def marks : Nat → Int := fun i => if i = 0 then -7777 else -8888
theorem lent_of {w : World} {B : Nat} {v : Value} {n : Nat} {f : Nat → Int} (h : Own w B v (n + 2) (cat n f marks)) : ∃ p cap, v = .slice (some ⟨p, 0, none⟩) (n + 2) cap ∧ B ≤ p ∧ Lent w p n cap f := by
  obtain ⟨p, cap, rfl, hb, hc, _, cur, hh, hs, hm, hg⟩ := h.shape (by omega)
  refine ⟨p, cap, rfl, hb, hc, hm, fun i => (cur[i]?).getD undef, ⟨cur, hh, hs, fun i hi => ?_⟩, fun i hi => ?_, ?_, ?_⟩
  · have : i < cur.size := by omega
    simp [this]
  · show (cur[i]?).getD undef = _; rw [hg i (by omega)]; simp [cat, hi]
  · show (cur[n]?).getD undef = _; rw [hg n (by omega)]; simp [cat, marks]
  · show (cur[n + 1]?).getD undef = _; rw [hg (n + 1) (by omega)]; simp [cat, marks]; omega
theorem Lent.lt {w : World} {p n cap : Nat} {f : Nat → Int} (h : Lent w p n cap f) : p < w.heap.size := by
  obtain ⟨F, hr, _⟩ := h.row
  exact hr.lt
theorem Lent.of_block {w w' : World} {p n cap : Nat} {f : Nat → Int} (h : Lent w p n cap f) (e : w'.heap[p]? = w.heap[p]?) : Lent w' p n cap f := by
  obtain ⟨F, hr, hF⟩ := h.row
  exact ⟨h.room, h.size, F, hr.of_block e, hF⟩
theorem Lent.ints {w : World} {p n cap : Nat} {f : Nat → Int} (h : Lent w p n cap f) : Ints w (.slice (some ⟨p, 0, none⟩) n cap) n f := by
  obtain ⟨F, hr, hF, _⟩ := h.row
  have := h.room
  exact ⟨_, _, rfl, Or.inr ⟨p, 0, rfl, hr.lt, fun i hi => by rw [Nat.zero_add, hr.cell (by omega), hF i hi]⟩⟩

theorem marks_ints (w : World) : Ints (w.alloc (.cells #[.int .i64 (-7777), .int .i64 (-8888)] 3)) (.slice (some ⟨w.heap.size, 0, none⟩) 2 2) 2 marks :=
  ⟨_, _, rfl, Or.inr ⟨_, _, rfl, by simp, fun i hi => by
    have : i = 0 ∨ i = 1 := by omega
    rcases this with rfl | rfl <;> (simp only [World.cell?, heap_alloc_new]; rfl)⟩⟩

theorem lend_any (v : Value) (n : Nat) (f : Nat → Int) (w : World) (hn : n ≤ 17592186043904) (hv : Ints w v n f) :
    Calls Try.prog 7 #[v] w fun e w' => ∃ p cap, e = .returned (.slice (some ⟨p, 0, none⟩) n cap) ∧ w.heap.size ≤ p ∧ Lent w' p n cap f ∧ Below w.heap.size w w' := by
  have hv0 := hv
  obtain ⟨ao, cap, rfl, hv'⟩ := hv
  clear hv'
  go_enter Try.func7, Try.ntmps7
  go_wp2_with (first
    | (go_at_call 21; refine (copy_any _ n f _ hn hv0).mono ?_; rintro e w1 ⟨v1, rfl, hO, hB⟩)
    | (at_builtin; obtain ⟨v2, w2, hrun, hO2, hB2, _⟩ := app (hO.below ((Below.refl _ _).alloc (Nat.le_refl _) _)) (marks_ints w1) (by have := hB.size; simp; omega) (by omega); refine wpList_app _ _ hrun rfl rfl rfl rfl rfl ?_; clear hrun; obtain ⟨p, cap2, rfl, hp, hL⟩ := lent_of hO2; have hroom := hL.room; have hsz := hL.size; simp only [maxLen] at hsz))
  go_ret
  exact ⟨p, cap2, rfl, hp, hL, (hB.alloc hB.size _).trans hB2⟩

/-- What is lent is written over. -/
theorem spoil_any {w : World} {p n cap : Nat} {f : Nat → Int} (h : Lent w p n cap f) : Calls Try.prog 11 #[.slice (some ⟨p, 0, none⟩) n cap] w fun e w' => e = .returned (.tuple #[]) ∧ But p p w w' := by
  obtain ⟨F, hr, hF, _⟩ := h.row
  have hroom := h.room
  have hsz := h.size
  simp only [maxLen] at hsz
  clear h
  go_enter Try.func11, Try.ntmps11
  go_wp2
  go_loopw [2] (fun i wr => ∃ (k : Nat) (D : Nat → Value), k ≤ n ∧ i = .int .i64 k ∧ wr.rowIs p 3 cap D ∧ (∀ i, k ≤ i → i < n → D i = .int .i64 (f i)) ∧ But p p w wr) (fun i _ => n - (intOf i).toNat)
  case atStart => exact ⟨0, F, by omega, rfl, hr, fun i _ hi => hF i hi, But.refl _ _ _⟩
  case round =>
    obtain ⟨k, D, hk, rfl, hr2, hD, hB⟩ := hrel
    clear hr hF
    by_cases hlt : k < n
    · have c0 := hr2.cell (i := k) (by omega)
      rw [hD k (Nat.le_refl _) hlt] at c0
      have f0 := hr2.frozen k
      go_wp2
      go_roundw
      case rel =>
        refine ⟨k + 1, _, by omega, by go_num, hr2.set k _, fun i hi hin => ?_, hB.set1 k _⟩
        show (if i = k then _ else D i) = _
        rw [if_neg (by omega)]; exact hD i (by omega) hin
      case measure => simp [intOf]; omega
    · clear hD
      go_wp2
      go_end0
      exact ⟨rfl, hB⟩

theorem same_any (va vb : Value) (n : Nat) (f : Nat → Int) (w : World) (hn : n ≤ 17592186043904) (ha : Ints w va n f) (hb : Ints w vb n f) :
    Calls Try.prog 31 #[va, vb] w fun e w' => e = .returned (.bool true) ∧ Below w.heap.size w w' := by
  obtain ⟨ao, cap, rfl, ha⟩ := ha
  obtain ⟨bo, cap', rfl, hb⟩ := hb
  go_enter Try.func31, Try.ntmps31
  go_wp2
  go_loopw [5] (fun i wr => ∃ (k m : Nat), k ≤ n ∧ i = .int .i64 k ∧ w.drewN m = wr) (fun i _ => n - (intOf i).toNat)
  case atStart => exact ⟨0, 0, by omega, rfl, rfl⟩
  case round =>
    obtain ⟨k, m, hk, rfl, rfl⟩ := hrel
    by_cases hlt : k < n
    · obtain h0 | ⟨A, o, rfl, _, hc⟩ := ha
      · omega
      obtain h0 | ⟨B, o', rfl, _, hd⟩ := hb
      · omega
      have c0 := hc k hlt
      have d0 := hd k hlt
      clear hc hd
      go_wp2
      go_quiet (fail)
      go_wp2
      go_roundw
      case rel => exact ⟨k + 1, m + nq, by omega, by go_num, rfl⟩
      case measure => simp [intOf]; omega
    · go_wp2
      go_ret
      exact ⟨rfl, below_drewN _ _ _⟩

theorem kept_any {w : World} {p n cap : Nat} {f : Nat → Int} (h : Lent w p n cap f) (hn : n ≤ 17592186043904) (v : Value) (hv : Ints w v n f) :
    Calls Try.prog 19 #[.slice (some ⟨p, 0, none⟩) n cap, v] w fun e w' => e = .returned (.bool true) ∧ Below w.heap.size w w' := by
  have hs := same_any _ v n f w hn h.ints hv
  obtain ⟨ao, cap', rfl, _⟩ := hv
  obtain ⟨F, hr, hF, hm1, hm2⟩ := h.row
  have hroom := h.room
  have hsz := h.size
  simp only [maxLen] at hsz
  have d1 := fun wx (hb : Below w.heap.size w wx) => (hr.of_block (hb.block _ hr.lt)).cell (i := n) (by omega)
  have d2 := fun wx (hb : Below w.heap.size w wx) => (hr.of_block (hb.block _ hr.lt)).cell (i := n + 1) (by omega)
  rw [hm1] at d1
  rw [hm2] at d2
  clear hF hm1 hm2 h hr
  go_enter Try.func19, Try.ntmps19
  go_wp2_with (go_at_call 31; refine hs.mono ?_; rintro e w1 ⟨rfl, hB⟩; have e1 := d1 _ hB; have e2 := d2 _ hB)
  go_ret
  exact ⟨rfl, hB⟩

theorem of_any (G : Nat) (x : Int) (w : World) (hG : 1 ≤ G) (hG' : G ≤ 12) : Calls Try.prog 13 #[.int .i64 x, .int .i64 G] w fun e w' => e = .returned (.int .i64 (plc G x)) ∧ w' = w := by
  have h3 := tmod_lt G x hG
  have h1 := plc_int G x hG
  have h2 : (x.tmod G) % (G : Int) = x % (G : Int) := by rw [Int.tmod_def, Int.sub_eq_add_neg, ← Int.mul_neg, Int.add_mul_emod_self_left]
  by_cases hneg : x.tmod G < 0
  · have h4 : x.tmod G + G = plc G x := by
      rw [h1, ← h2]
      have : (x.tmod G + G) % (G : Int) = x.tmod G % (G : Int) := Int.add_emod_right _ _
      rw [← this]
      exact (Int.emod_eq_of_lt (by omega) (by omega)).symm
    clear h1 h2
    generalize plc G x = q at *
    go_enter Try.func13, Try.ntmps13
    go_wp2
    go_ret
    refine ⟨?_, rfl⟩
    rw [← h4]; rfl
  · have h4 : x.tmod G = plc G x := by
      rw [h1, ← h2]; exact (Int.emod_eq_of_lt (by omega) (by omega)).symm
    clear h1 h2
    go_enter Try.func13, Try.ntmps13
    go_wp2
    go_ret
    refine ⟨?_, rfl⟩
    rw [← h4]; rfl

theorem counted_any {w : World} {b ba bp bi G N M q : Nat} {cs : Nat → Int} {sc : Nat → Nat} {t : Nat} {inp : Nat → Int} {u : Nat} (h : Sc w b ba bp bi G N M cs sc t inp u) (hG' : G ≤ 12) (hq : w.rowIs q 3 G (fun i => .int .i64 (cs (i * 2 + 1)))) :
    Calls Try.prog 18 #[.pointer (some ⟨b, 0, none⟩), .slice (some ⟨q, 0, none⟩) G G] w fun e w' => e = .returned (.bool true) ∧ Below w.heap.size w w' := by
  go_enter Try.func18, Try.ntmps18
  go_wp2
  go_loopw [5] (fun i wr => ∃ k : Nat, k ≤ G ∧ i = .int .i64 k ∧ Below w.heap.size w wr) (fun i _ => G - (intOf i).toNat)
  case atStart => exact ⟨0, by omega, rfl, Below.refl _ _⟩
  case round =>
    obtain ⟨k, hk, rfl, hB⟩ := hrel
    have hA := h.below hB
    by_cases hlt : k < G
    · have c0 := (hq.of_block (hB.block _ hq.lt)).cell hlt
      have hp := fun n => picks_in (hA.below (below_drewN wr n _)) k hlt
      go_wp2
      go_quiet ((go_at_call 20; exact Calls.quiet_of_same (hp _)))
      go_wp2
      go_roundw
      case rel => exact ⟨k + 1, by omega, by go_num, hB.trans (below_drewN _ _ _)⟩
      case measure => simp [intOf]; omega
    · obtain rfl : k = G := by omega
      go_wp2_with (go_at_call 20; refine (picks_out hA _ (by omega)).mono ?_; rintro e w1 ⟨rfl, rfl⟩)
      go_ret
      exact ⟨rfl, hB⟩
end Go.Proofs.Ytlbemkmhkjllpaa
