/- RefsRow's calls. -/
import Derived.Test.YthkelaeemefnaaaGreatMXR7q
import Derived.Test.YthkelaeemefnaaaGreatMXR4q
namespace Go.Proofs.YthkelaeemefnaaaGreat
open Go.RowKit
/-- What is finalizable, what is queued, who holds what. -/
structure Rj (k : Nat) (L fs qs : List Int) : Prop where
  rise : fs.Pairwise (· < ·)
  nd : (qs ++ fs).Nodup
  mem : ∀ r, r ∈ qs ++ fs ↔ 1 ≤ r ∧ r ≤ (k : Int)
  lnd : L.Nodup
  sub : ∀ r ∈ L, r ∈ fs
section
theorem len_filter (p : Int → Bool) : ∀ l : List Int, (l.filter p).length + (l.filter fun r => !p r).length = l.length
  | [] => rfl
  | a :: r => by
    have ih := len_filter p r
    cases h : p a <;> simp [h] <;> omega
variable {k : Nat} {L fs qs : List Int}
theorem Rj.all_len (h : Rj k L fs qs) : qs.length + fs.length = k := by
  rw [← List.length_append, ← seg_len 0 k]
  refine same_len h.nd (seg_nodup 0 k) fun r => ?_
  rw [h.mem, seg_mem]
  omega
theorem Rj.left_len (h : Rj k L fs qs) {u : Int → Bool} (hu : ∀ r ∈ fs, (u r = true ↔ r ∉ L)) : (fs.filter u).length + L.length = fs.length := by
  have h1 := len_filter u fs
  have h2 : (fs.filter fun r => !u r).length = L.length := by
    refine same_len ((rise_nodup h.rise).filter _) h.lnd fun r => ?_
    rw [List.mem_filter]
    constructor
    · rintro ⟨q1, q2⟩
      have := hu r q1
      cases e : u r with
      | true => rw [e] at q2; simp at q2
      | false =>
        by_cases z : r ∈ L
        · exact z
        · rw [this.2 z] at e; simp at e
    · intro q
      refine ⟨h.sub r q, ?_⟩
      cases e : u r with
      | true => exact absurd q ((hu r (h.sub r q)).1 e)
      | false => rfl
  omega
theorem Rj.cyc (h : Rj k L fs qs) {u : Int → Bool} (hu : ∀ r ∈ fs, (u r = true ↔ r ∉ L)) : Rj k L (fs.filter fun r => !u r) (qs ++ fs.filter u) := by
  have hin : ∀ r, r ∈ (qs ++ fs.filter u) ++ fs.filter (fun r => !u r) ↔ r ∈ qs ++ fs := fun r => by
    simp only [List.mem_append, List.mem_filter]
    constructor
    · rintro ((q | q) | q)
      · exact .inl q
      · exact .inr q.1
      · exact .inr q.1
    · rintro (q | q)
      · exact .inl (.inl q)
      · cases e : u r with
        | true => exact .inl (.inr ⟨q, rfl⟩)
        | false => exact .inr ⟨q, rfl⟩
  obtain ⟨n1, n2, n3⟩ := List.nodup_append.1 h.nd
  refine ⟨h.rise.filter _, ?_, fun r => by rw [hin, h.mem], h.lnd, fun r hr => ?_⟩
  · rw [List.nodup_append]
    refine ⟨?_, n2.filter _, fun a ha b hb e => ?_⟩
    · rw [List.nodup_append]
      exact ⟨n1, n2.filter _, fun a ha b hb => n3 a ha b (List.mem_filter.1 hb).1⟩
    · subst e
      obtain ⟨b1, b2⟩ := List.mem_filter.1 hb
      rcases List.mem_append.1 ha with q | q
      · exact n3 a q a b1 rfl
      · have := (List.mem_filter.1 q).2
        rw [this] at b2; simp at b2
  · have hf := h.sub r hr
    refine List.mem_filter.2 ⟨hf, ?_⟩
    cases e : u r with
    | true => exact absurd hr ((hu r hf).1 e)
    | false => rfl
theorem Rj.pop {L' : List Int} (h : Rj k L fs qs) (hs : List.Sublist L' L) : Rj k L' fs qs := ⟨h.rise, h.nd, h.mem, hs.nodup h.lnd, fun r hr => h.sub r (hs.subset hr)⟩
end
/-- While it is built: i cells. -/
def RwB (B : Nat) (w0 : World) (rh hb i c : Nat) (w : World) : Prop := ∃ X, RS B w0 rh hb X (seg 0 i) [] (fun _ => False) w ∧ (Fs 2 16384 0 X ∧ Bd i X) ∧ ((X.rt 0).length + (X.rt 1).length = i ∧ (X.rt 0 ++ X.rt 1).Nodup ∧ ∀ r ∈ X.rt 0 ++ X.rt 1, 1 ≤ r ∧ r ≤ (i : Int)) ∧ X.m + 500 * cntS X.S ≤ c ∧ X.cy * 1000 ≤ (c : Int)
/-- Behind it: a, b roots of the threads, the row v so far. -/
def RwS (B : Nat) (w0 : World) (rh hb k a b n c : Nat) (v : Value) (w : World) : Prop := ∃ X fs qs, RS B w0 rh hb X fs qs (fun j => v.ownBlock = some j) w ∧ (Fs 2 16384 0 X ∧ nums 0 X.S = seg 0 k) ∧ ((X.rt 0).length = a ∧ (X.rt 1).length = b ∧ Rj k (X.rt 0 ++ X.rt 1) fs qs ∧ qs.length = n) ∧ (X.m + 500 * cntS X.S ≤ c ∧ X.cy * 1000 ≤ (c : Int)) ∧ Ri w B v qs
section
variable {B : Nat} {w0 w w' : World} {rh hb k i a b n c : Nat} {v : Value} {X : Cm} {Z : Cx}
theorem fs_new (W T k : Nat) : Fs T W k (cm0 W T) := ⟨rfl, rfl, fun r j hj => by obtain ⟨_, c, hc, _⟩ := rfs_kind hj; have : celOf [] r = some c := hc; unfold celOf at this; split at this <;> simp at this, fun r cl hc => by have : celOf [] r = some cl := hc; unfold celOf at this; split at this <;> simp at this, Int.le_refl _⟩
theorem RwB.new (H : Rv B w0 w rh hb (cm0 16384 2) Z (.slice none 0 0) (.slice none 0 0) [] []) : RwB B w0 rh hb 0 0 w :=
  ⟨_, RS.new 16384 2 H, ⟨fs_new _ _ _, Bd.nil _ _⟩, ⟨rfl, List.Pairwise.nil, fun r hr => by have : r ∈ ([] : List Int) := hr; simp at this⟩, Nat.le_refl _, by show (0 : Int) * 1000 ≤ _; omega⟩
theorem rw_make (h : RwB B w0 rh hb i c w) (hi : i < 20) (hc : c ≤ 100000) (t : Nat) (ht : t < 2) (ti : Int) (hti : ti = t) : Calls Tryz.prog 13 #[.pointer (some ⟨rh, 0, none⟩), .int .i64 ti, .int .i64 1, .int .i64 0, .int .i64 1, .bool true] w fun e w' => e = .returned (.tuple #[.int .i64 ((i : Int) + 1), .int .i64 0]) ∧ RwB B w0 rh hb (i + 1) (c + 1000) w' := by
  obtain ⟨X, hS, ⟨hF, hB⟩, ⟨h1, h2, h3⟩, hm⟩ := h
  have hrl : (X.rt t).length < 64 := by
    rcases (show t = 0 ∨ t = 1 by omega) with q | q <;> subst q <;> omega
  refine (rs_make hS (by omega) (by rw [seg_len]; omega) t 1 0 1 (by rw [hF.T]; omega) (fits_obj (by omega) (by omega)) hrl (by rw [hB.sum, hF.W]; omega) true ti hti).mono ?_
  rintro e w' ⟨rfl, a, c', hT⟩
  rw [if_pos rfl, hB.len] at hT
  have es : seg 0 i ++ [(i : Int) + 1] = seg 0 (i + 1) := by
    show _ = seg 0 i ++ [((0 : Nat) : Int) + i + 1]
    rw [show ((0 : Nat) : Int) + (i : Int) + 1 = (i : Int) + 1 by omega]
  rw [es] at hT
  have e0 : (X.made t 1 0 1 a c').rt = setL X.rt t (X.rt t ++ [(i : Int) + 1]) := by
    show setL X.rt t (X.rt t ++ [(X.S.length : Int) + 1]) = _
    rw [hB.len]
  refine ⟨by rw [hB.len], _, hT.1, ⟨hF.made t 0 1 a c', hB.more rfl rfl⟩, ?_, ?_, ?_⟩
  · rw [e0]
    rw [List.nodup_append] at h2
    obtain ⟨n1, n2, n3⟩ := h2
    have o0 : ∀ r ∈ X.rt 0, 1 ≤ r ∧ r ≤ (i : Int) := fun r hr => h3 r (List.mem_append_left _ hr)
    have o1 : ∀ r ∈ X.rt 1, 1 ≤ r ∧ r ≤ (i : Int) := fun r hr => h3 r (List.mem_append_right _ hr)
    have nw : ∀ l : List Int, l.Nodup → (∀ r ∈ l, 1 ≤ r ∧ r ≤ (i : Int)) → (l ++ [(i : Int) + 1]).Nodup := fun l q1 q2 => by
      rw [List.nodup_append]
      refine ⟨q1, by simp, fun x hx y hy e => ?_⟩
      rw [List.mem_singleton.1 hy] at e
      have := q2 x hx
      omega
    rcases (show t = 0 ∨ t = 1 by omega) with q | q
    · subst q
      have g0 : setL X.rt 0 (X.rt 0 ++ [(i : Int) + 1]) 0 = X.rt 0 ++ [(i : Int) + 1] := by simp [setL]
      have g1 : setL X.rt 0 (X.rt 0 ++ [(i : Int) + 1]) 1 = X.rt 1 := by simp [setL]
      rw [g0, g1]
      refine ⟨by rw [List.length_append, List.length_singleton]; omega, ?_, fun r hr => ?_⟩
      · rw [List.nodup_append]
        refine ⟨nw _ n1 o0, n2, fun x hx y hy e => ?_⟩
        rcases List.mem_append.1 hx with q | q
        · exact n3 x q y hy e
        · rw [List.mem_singleton.1 q] at e
          have := o1 y hy
          omega
      · rcases List.mem_append.1 hr with q | q
        · rcases List.mem_append.1 q with z | z
          · have := o0 r z; omega
          · rw [List.mem_singleton.1 z]; omega
        · have := o1 r q; omega
    · subst q
      have g0 : setL X.rt 1 (X.rt 1 ++ [(i : Int) + 1]) 0 = X.rt 0 := by simp [setL]
      have g1 : setL X.rt 1 (X.rt 1 ++ [(i : Int) + 1]) 1 = X.rt 1 ++ [(i : Int) + 1] := by simp [setL]
      rw [g0, g1]
      refine ⟨by rw [List.length_append, List.length_singleton]; omega, ?_, fun r hr => ?_⟩
      · rw [List.nodup_append]
        refine ⟨n1, nw _ n2 o1, fun x hx y hy e => ?_⟩
        rcases List.mem_append.1 hy with q | q
        · exact n3 x hx y q e
        · rw [List.mem_singleton.1 q] at e
          have := o0 x hx
          omega
      · rcases List.mem_append.1 hr with q | q
        · have := o0 r q; omega
        · rcases List.mem_append.1 q with z | z
          · have := o1 r z; omega
          · rw [List.mem_singleton.1 z]; omega
  · show X.m + 500 + 500 * cntS (X.S ++ [some ⟨1, 0, 1, a⟩]) ≤ _
    rw [(sumS_more _ _).2]; omega
  · show X.cy * 1000 ≤ _
    omega
theorem RwB.built (h : RwB B w0 rh hb k c w) : ∃ a b, a + b = k ∧ RwS B w0 rh hb k a b 0 c (.slice none 0 0) w := by
  obtain ⟨X, hS, ⟨hF, hB⟩, ⟨h1, h2, h3⟩, hm⟩ := h
  refine ⟨_, _, h1, X, _, _, hS.less (fun j hj => by simp [Value.ownBlock] at hj), ⟨hF, hB.ns⟩, ⟨rfl, rfl, ⟨?_, by rw [List.nil_append]; exact seg_nodup 0 k, fun r => by rw [List.nil_append, seg_mem]; omega, h2, fun r hr => by rw [seg_mem]; have := h3 r hr; omega⟩, rfl⟩, hm, Ri.nil _ _⟩
  rw [← hB.ns]
  exact nums_rise 0 X.S
theorem RwS.most {c' : Nat} (h : RwS B w0 rh hb k a b n c v w) (hc : c ≤ c') : RwS B w0 rh hb k a b n c' v w := by
  obtain ⟨X, fs, qs, h1, h2, h3, h4, h5⟩ := h
  exact ⟨X, fs, qs, h1, h2, h3, by omega, h5⟩
/-- Pop of one or none. -/
theorem rs_pop_none {fs qs : List Int} {O : Nat → Prop} (h : RS B w0 rh hb X fs qs O w) (t : Nat) (ht : t < X.T) (h0 : X.rt t = []) (ti : Int) (hti : ti = t) :
    Calls Tryz.prog 15 #[.pointer (some ⟨rh, 0, none⟩), .int .i64 ti] w fun e w' => e = .returned (.tuple #[.int .i64 0, .int .i64 1303]) ∧ RT B w0 rh hb X fs qs O w w' := by
  obtain ⟨Z, vf, vq, H, hq⟩ := h
  subst hti
  refine (rpop_of H.rv t 0 1203 (X' := X) rfl ((cpop_none H.rv.cv t ht h0).mono ?_)).mono ?_
  · rintro e w' ⟨rfl, rfl⟩
    exact ⟨rfl, H.rv.cv.same⟩
  · rintro e w' ⟨rfl, hT⟩
    exact ⟨rfl, RT.of H hT rfl hq⟩
theorem list_last {l : List Int} {m : Nat} (h : l.length = m + 1) : ∃ U x, l = U ++ [x] ∧ U.length = m := by
  refine ⟨l.dropLast, l.getLast (by intro q; rw [q] at h; simp at h), (List.dropLast_concat_getLast _).symm, by rw [List.length_dropLast]; omega⟩
theorem rw_pop0 (h : RwS B w0 rh hb k a b n c v w) (ti : Int) (hti : ti = 0) : Calls Tryz.prog 15 #[.pointer (some ⟨rh, 0, none⟩), .int .i64 ti] w fun e w' => (∃ r a' : Nat, 0 < r ∧ a = a' + 1 ∧ e = .returned (.tuple #[.int .i64 (r : Int), .int .i64 0]) ∧ RwS B w0 rh hb k a' b n c v w') ∨ (a = 0 ∧ e = .returned (.tuple #[.int .i64 0, .int .i64 1303]) ∧ RwS B w0 rh hb k a b n c v w') := by
  obtain ⟨X, fs, qs, hS, hF, ⟨h1, h2, h3, h4⟩, hm, hV⟩ := h
  cases a with
  | zero =>
    refine (rs_pop_none hS 0 (by rw [hF.1.T]; omega) (List.eq_nil_of_length_eq_zero h1) ti hti).mono ?_
    rintro e w' ⟨rfl, hT⟩
    exact .inr ⟨rfl, rfl, X, fs, qs, hT.1, hF, ⟨h1, h2, h3, h4⟩, hm, hV.of_block (fun j hj => hT.2.1 j hj)⟩
  | succ a' =>
    obtain ⟨U, x, hU, hl⟩ := list_last h1
    have hx := (h3.mem x).1 (List.mem_append_right _ (h3.sub x (List.mem_append_left _ (by rw [hU]; simp))))
    refine (rs_pop hS 0 (by rw [hF.1.T]; omega) hU ti hti).mono ?_
    rintro e w' ⟨rfl, hT⟩
    have g0 : (X.rooted 0 U).rt 0 = U := by show setL X.rt 0 U 0 = U; simp [setL]
    have g1 : (X.rooted 0 U).rt 1 = X.rt 1 := by show setL X.rt 0 U 1 = _; simp [setL]
    refine .inl ⟨x.toNat, a', by omega, rfl, by rw [show ((x.toNat : Nat) : Int) = x by omega], _, fs, qs, hT.1, ⟨hF.1.rooted 0 U, hF.2⟩, ⟨by rw [g0]; exact hl, by rw [g1]; exact h2, ?_, h4⟩, hm, hV.of_block (fun j hj => hT.2.1 j hj)⟩
    rw [g0, g1]
    refine h3.pop ?_
    rw [hU]
    exact (List.sublist_append_left U [x]).append (List.Sublist.refl _)
theorem rw_pop1 (h : RwS B w0 rh hb k a b n c v w) (ti : Int) (hti : ti = 1) : Calls Tryz.prog 15 #[.pointer (some ⟨rh, 0, none⟩), .int .i64 ti] w fun e w' => (∃ r b' : Nat, 0 < r ∧ b = b' + 1 ∧ e = .returned (.tuple #[.int .i64 (r : Int), .int .i64 0]) ∧ RwS B w0 rh hb k a b' n c v w') ∨ (b = 0 ∧ e = .returned (.tuple #[.int .i64 0, .int .i64 1303]) ∧ RwS B w0 rh hb k a b n c v w') := by
  obtain ⟨X, fs, qs, hS, hF, ⟨h1, h2, h3, h4⟩, hm, hV⟩ := h
  cases b with
  | zero =>
    refine (rs_pop_none hS 1 (by rw [hF.1.T]; omega) (List.eq_nil_of_length_eq_zero h2) ti hti).mono ?_
    rintro e w' ⟨rfl, hT⟩
    exact .inr ⟨rfl, rfl, X, fs, qs, hT.1, hF, ⟨h1, h2, h3, h4⟩, hm, hV.of_block (fun j hj => hT.2.1 j hj)⟩
  | succ b' =>
    obtain ⟨U, x, hU, hl⟩ := list_last h2
    have hx := (h3.mem x).1 (List.mem_append_right _ (h3.sub x (List.mem_append_right _ (by rw [hU]; simp))))
    refine (rs_pop hS 1 (by rw [hF.1.T]; omega) hU ti hti).mono ?_
    rintro e w' ⟨rfl, hT⟩
    have g0 : (X.rooted 1 U).rt 0 = X.rt 0 := by show setL X.rt 1 U 0 = _; simp [setL]
    have g1 : (X.rooted 1 U).rt 1 = U := by show setL X.rt 1 U 1 = _; simp [setL]
    refine .inl ⟨x.toNat, b', by omega, rfl, by rw [show ((x.toNat : Nat) : Int) = x by omega], _, fs, qs, hT.1, ⟨hF.1.rooted 1 U, hF.2⟩, ⟨by rw [g0]; exact h1, by rw [g1]; exact hl, ?_, h4⟩, hm, hV.of_block (fun j hj => hT.2.1 j hj)⟩
    rw [g0, g1]
    refine h3.pop ?_
    rw [hU]
    exact (List.Sublist.refl _).append (List.sublist_append_left U [x])
/-- Behind a cycle: the row v as it was, and vd queued now. -/
def RwQ (B : Nat) (w0 : World) (rh hb k a b n d c : Nat) (v vd : Value) (w : World) : Prop := ∃ X fs qs U, RS B w0 rh hb X fs (qs ++ U) (fun j => v.ownBlock = some j ∨ vd.ownBlock = some j) w ∧ (Fs 2 16384 0 X ∧ nums 0 X.S = seg 0 k) ∧ ((X.rt 0).length = a ∧ (X.rt 1).length = b ∧ Rj k (X.rt 0 ++ X.rt 1) fs (qs ++ U)) ∧ (X.m + 500 * cntS X.S ≤ c ∧ X.cy * 1000 ≤ (c : Int)) ∧ Ri w B v qs ∧ Ri w B vd U ∧ U.Pairwise (· < ·) ∧ qs.length = n ∧ U.length = d
theorem rw_cycle (h : RwS B w0 rh hb k a b n c v w) (hk : k ≤ 20) (hc : c ≤ 100000) : Calls Tryz.prog 16 #[.pointer (some ⟨rh, 0, none⟩)] w fun e w' => ∃ a1 n1 c1 a2 d c2, e = .returned (.tuple #[.slice a1 n1 c1, .slice a2 d c2, .int .i64 0]) ∧ n + d + (a + b) = k ∧ RwQ B w0 rh hb k a b n d (c + 14000) v (.slice a2 d c2) w' := by
  obtain ⟨X, fs, qs, hS, ⟨hF, hB⟩, ⟨h1, h2, h3, h4⟩, hm, hV⟩ := h
  have hfit := hS.fit
  rw [hF.W] at hfit
  have hal := h3.all_len
  refine (rs_cycle hS (by omega) ⟨hF.cy, by omega⟩ (by omega)).mono ?_
  rintro e w' ⟨X', u1, u2, vc, vd, rfl, hcd, hS', hvc, hvd, hst, _, _⟩
  have hre : ∀ V r, RchQ X V r ↔ (r ∈ X.rt 0 ++ X.rt 1 ∨ r ∈ V) ∧ r ≠ 0 := fun V r => by
    rw [hF.flat.reach, List.mem_append]
    constructor
    · rintro ⟨⟨t, ht, q⟩ | q, h0⟩
      · rw [hF.T] at ht
        rcases (show t = 0 ∨ t = 1 by omega) with z | z <;> subst z
        · exact ⟨.inl (.inl q), h0⟩
        · exact ⟨.inl (.inr q), h0⟩
      · exact ⟨.inr q, h0⟩
    · rintro ⟨(q | q) | q, h0⟩
      · exact ⟨.inl ⟨0, by rw [hF.T]; omega, q⟩, h0⟩
      · exact ⟨.inl ⟨1, by rw [hF.T]; omega, q⟩, h0⟩
      · exact ⟨.inr q, h0⟩
  obtain ⟨n1, n2, n3⟩ := List.nodup_append.1 h3.nd
  have hu : ∀ r ∈ fs, (u1 r = true ↔ r ∉ X.rt 0 ++ X.rt 1) := fun r hr => by
    have hm1 := (h3.mem r).1 (List.mem_append_right _ hr)
    rw [hcd.h1 r, hre, hB, seg_mem]
    constructor
    · rintro ⟨_, q⟩ z
      exact q ⟨.inl z, by omega⟩
    · intro q
      refine ⟨by omega, ?_⟩
      rintro ⟨z | z, _⟩
      · exact q z
      · exact n3 r z r hr rfl
  have hj := h3.cyc hu
  have hll := h3.left_len hu
  rw [List.length_append] at hll
  have hns : nums 0 X'.S = seg 0 k := by
    rw [hcd.ns, hB, List.filter_eq_self]
    intro r hr
    rw [hcd.h2 r (by rw [hB]; exact hr), hre]
    rw [seg_mem] at hr
    refine ⟨?_, by omega⟩
    have hm1 := (h3.mem r).2 (by omega)
    rcases List.mem_append.1 hm1 with q | q
    · exact .inr (List.mem_append_left _ q)
    · by_cases z : r ∈ X.rt 0 ++ X.rt 1
      · exact .inl z
      · exact .inr (List.mem_append_right _ (List.mem_filter.2 ⟨q, (hu r q).2 z⟩))
  obtain ⟨a1, c1, rfl⟩ := hvc.form
  obtain ⟨a2, c2, rfl⟩ := hvd.form
  have hcost := hcd.cost
  have hcy := hcd.cy
  refine ⟨a1, _, c1, a2, _, c2, rfl, by omega, X', _, qs, fs.filter u1, hS'.less (fun j hj => hj.elim .inl (fun z => .inr (.inr z))), ⟨hF.cyc hcd, hns⟩, ⟨by rw [hcd.rt]; exact h1, by rw [hcd.rt]; exact h2, by rw [hcd.rt]; exact hj⟩, ⟨by omega, by omega⟩, hV.of_block (fun j hj => hst j hj), hvd, h3.rise.filter _, h4, rfl⟩
theorem RwQ.below {vd : Value} {d : Nat} (h : RwQ B w0 rh hb k a b n d c v vd w) (b1 : Below w.heap.size w w') : RwQ B w0 rh hb k a b n d c v vd w' := by
  obtain ⟨X, fs, qs, U, h1, h2, h3, h4, h5, h6, h7⟩ := h
  exact ⟨X, fs, qs, U, (h1.below b1).1, h2, h3, h4, h5.below b1, h6.below b1, h7⟩
theorem RwQ.read {ao : Option Addr} {cap d l : Nat} (h : RwQ B w0 rh hb k a b n d c v (.slice ao d cap) w) (hl : l + 1 < d) : ∃ p x y, ao = some ⟨p, 0, none⟩ ∧ w.cell? ⟨p, l, none⟩ = some (.int .i64 x) ∧ w.cell? ⟨p, l + 1, none⟩ = some (.int .i64 y) ∧ p < w.heap.size ∧ x < y := by
  obtain ⟨X, fs, qs, U, _, _, _, _, _, hV, hp, _, hd⟩ := h
  obtain ⟨p, e, hpl, _, _, hc⟩ := hV.cells (by omega)
  refine ⟨p, U[l], U[l + 1], e, hc l _ (List.getElem?_eq_getElem (by omega)), hc (l + 1) _ (List.getElem?_eq_getElem (by omega)), hpl.2, List.pairwise_iff_getElem.1 hp l (l + 1) (by omega) (by omega) (by omega)⟩
/-- row = append(row, q...). -/
theorem RwQ.app {ao ao2 : Option Addr} {cap cap2 d : Nat} (h : RwQ B w0 rh hb k a b n d c (.slice ao n cap) (.slice ao2 d cap2) w) (hk : k ≤ 20) : ∃ ao' cap' w3, (appC #[32, 32] 32 #[.slice ao n cap, .slice ao2 d cap2]).run Tryz.prog w = .ok (.slice ao' (n + d) cap') w3 ∧ RwS B w0 rh hb k a b (n + d) c (.slice ao' (n + d) cap') w3 := by
  obtain ⟨X, fs, qs, U, hS, hF, ⟨h1, h2, h3⟩, hm, hV, hV2, _, hn, hd⟩ := h
  have hal := h3.all_len
  rw [List.length_append] at hal
  obtain ⟨ao', cap', w3, hrun, hU3, hg, hat⟩ := hV.adds hS.size hV2 (by omega)
  rw [hn, hd] at hrun hU3 hat
  refine ⟨ao', cap', w3, hrun, X, fs, qs ++ U, ?_, hF, ⟨h1, h2, h3, by rw [List.length_append]; omega⟩, hm, hU3⟩
  refine hS.mine ⟨hg.os, hg.tape, hg.output, hg.size, fun j hj q => hg.block j hj (fun z => q (.inl z.symm))⟩ (fun j hj => ?_)
  rcases hat with z | ⟨i, z1, z2⟩
  · rw [z] at hj; exact .inl (.inl hj)
  · rw [z1] at hj; simp at hj; subst hj
    exact .inr ⟨z2, (hU3.lt z1).2⟩
/-- While the queue is taken: from the q-th on. -/
def RwN (B : Nat) (w0 : World) (rh hb k q : Nat) (v : Value) (w : World) : Prop := ∃ X fs U, RS B w0 rh hb X fs (U.drop q) (fun j => v.ownBlock = some j) w ∧ X.T = 2 ∧ (X.rt 0).length ≤ q ∧ U.length = k ∧ Ri w B v U
theorem RwS.ends (h : RwS B w0 rh hb k 0 0 k c v w) : RwN B w0 rh hb k 0 v w := by
  obtain ⟨X, fs, qs, hS, ⟨hF, hB⟩, ⟨h1, h2, h3, h4⟩, hm, hV⟩ := h
  exact ⟨X, fs, qs, by simpa using hS, hF.T, by omega, h4, hV⟩
theorem rw_next {q : Nat} {ao : Option Addr} {cap : Nat} (h : RwN B w0 rh hb k q (.slice ao k cap) w) (hq : q < k) (hk : k ≤ 20) : ∃ p x, ao = some ⟨p, 0, none⟩ ∧ Calls Tryz.prog 17 #[.pointer (some ⟨rh, 0, none⟩)] w fun e w' => e = .returned (.tuple #[.int .i64 x, .bool true]) ∧ (w'.cell? ⟨p, q, none⟩ = some (.int .i64 x) ∧ p < w'.heap.size) ∧ RwN B w0 rh hb k (q + 1) (.slice ao k cap) w' := by
  obtain ⟨X, fs, U, hS, hT, hr, hU, hV⟩ := h
  have hg : U[q]? = some U[q] := List.getElem?_eq_getElem (by omega)
  rw [List.drop_eq_getElem_cons (by omega)] at hS
  have hV0 := hV
  obtain ⟨p, e, hp, _, _, hc⟩ := hV.cells (by omega)
  refine ⟨p, U[q], e, (rs_next hS (by omega) (by omega)).mono ?_⟩
  rintro e' w' ⟨rfl, hT'⟩
  have hV' := hV0.of_block (fun j hj => hT'.2.1 j hj)
  have hV2 := hV'
  obtain ⟨p', e2, hp', _, _, hc'⟩ := hV'.cells (by omega)
  rw [e] at e2
  simp at e2
  subst e2
  refine ⟨rfl, ⟨hc' q _ hg, hp'.2⟩, _, fs, U, hT'.1, hT, ?_, hU, hV2⟩
  show (setL X.rt 0 (X.rt 0 ++ [U[q]]) 0).length ≤ _
  have : setL X.rt 0 (X.rt 0 ++ [U[q]]) 0 = X.rt 0 ++ [U[q]] := by simp [setL]
  rw [this, List.length_append, List.length_singleton]
  omega
theorem rw_none (h : RwN B w0 rh hb k k v w) : Calls Tryz.prog 17 #[.pointer (some ⟨rh, 0, none⟩)] w fun e w' => e = .returned (.tuple #[.int .i64 0, .bool false]) ∧ Below B w0 w' := by
  obtain ⟨X, fs, U, hS, hT, hr, hU, hV⟩ := h
  rw [List.drop_eq_nil_of_le (by omega)] at hS
  have hb1 := hS.bel
  obtain ⟨Z, vf, vq, H, _⟩ := hS
  refine (rnext_none H.rv).mono ?_
  rintro e w' ⟨rfl, rfl⟩
  exact ⟨rfl, hb1⟩
end
end Go.Proofs.YthkelaeemefnaaaGreat
/- The walk of RefsRow. -/
namespace Go.Proofs.YthkelaeemefnaaaGreat
open Go.RowKit
attribute [local go_sem ↓] app_C
theorem mask15q (n : Int) : ∃ s : Nat, bits BinOp.and .i64 n 15 = (s : Int) ∧ s < 16 := by
  have e : (BitVec.ofInt 64 n &&& BitVec.ofInt 64 15).toNat = (n % 18446744073709551616).toNat % 16 := by
    rw [BitVec.toNat_and, BitVec.toNat_ofInt, show (BitVec.ofInt 64 15).toNat = 2 ^ 4 - 1 from by decide, Nat.and_two_pow_sub_one_eq_mod]; rfl
  refine ⟨(n % 18446744073709551616).toNat % 16, ?_, by omega⟩
  show IntKind.i64.wrap ((BitVec.ofInt 64 n &&& BitVec.ofInt 64 15).toNat : Nat) = _
  rw [e, IntKind.wrap_i64]; omega
theorem mask1q (n : Int) : bits BinOp.and .i64 n 1 = n % 2 := by
  have e : (BitVec.ofInt 64 n &&& BitVec.ofInt 64 1).toNat = (n % 18446744073709551616).toNat % 2 := by
    rw [BitVec.toNat_and, BitVec.toNat_ofInt, show (BitVec.ofInt 64 1).toNat = 2 ^ 1 - 1 from by decide, Nat.and_two_pow_sub_one_eq_mod]; rfl
  show IntKind.i64.wrap ((BitVec.ofInt 64 n &&& BitVec.ofInt 64 1).toNat : Nat) = n % 2
  rw [e, IntKind.wrap_i64]; omega
set_option maxRecDepth 20000 in
set_option maxHeartbeats 8000000 in
theorem row_walk (x y : Int) (w : World) : Calls Tryz.prog 6 #[.int .i64 x, .int .i64 y] w fun e w' => e = .returned (.bool true) ∧ Below w.heap.size w w' := by
  obtain ⟨s, hs, hs8⟩ := mask15q x
  obtain ⟨k, hk⟩ : ∃ k : Nat, k = 2 + s := ⟨_, rfl⟩
  have hki : (2 : Int) + (s : Int) = (k : Int) := by omega
  have hkb : 2 ≤ k ∧ k ≤ 17 := by omega
  have hk0 : ((k : Int) == 0) = false := by simp; omega
  have hku : IntKind.u64.wrap (k : Int) = (k : Int) := by rw [IntKind.wrap_u64]; omega
  clear hk hs8
  have hA := awake13 w
  go_enter Tryz.func6, Tryz.ntmps6
  go_wp2_with (first
    | (go_at_call 12; refine hA.mono ?_; rintro e w1 ⟨rfl, hb1⟩; clear hA; have hN := rnew_ok 16384 2 16384 2 w1 rfl rfl (by omega) (by omega))
    | (go_at_call 8; refine hN.mono ?_; rintro e w2 ⟨rh, hb, Z2, rfl, H2⟩; clear hN; have HS : Hid (RwB w1.heap.size w1 rh hb 0 0 w2) := RwB.new H2; clear H2))
  generalize wrap64 ((IntKind.u64.wrap y).tmod (k : Int)) = C
  go_loopg [9, 10, 11] 20 (fun kx s9 s10 s11 wr => ∃ i : Nat, s9 = .int .i64 i ∧ i ≤ k ∧ k - i ≤ kx ∧ Hid (RwB w1.heap.size w1 rh hb i (1000 * i) wr))
  case atStart => exact ⟨0, rfl, by omega, by omega, HS⟩
  case round =>
    clear HS
    obtain ⟨i, rfl, hi, hkx, HI⟩ := hrel
    by_cases hik : i < k
    · have hl : (i : Int) < (k : Int) := by omega
      rcases (show i % 2 = 0 ∨ i % 2 = 1 by omega) with hpar | hpar
      · have hbt : bits BinOp.and .i64 (i : Int) 1 = 0 := by rw [mask1q]; omega
        have hM := rw_make HI.out (by omega) (by omega) 0 (by omega) 0 rfl
        clear HI hpar
        go_wp2_with (first
          | (go_at_call 13; refine hM.mono ?_; rintro e w4 ⟨rfl, h4⟩; have H4 : Hid (RwB w1.heap.size w1 rh hb (i + 1) (1000 * i + 1000) w4) := h4; clear hM h4)
          | (go_at_call 9; refine (num_any _ _).mono ?_; rintro e w9 ⟨rfl, hw9⟩; replace hw9 := hw9.symm; subst hw9))
        go_roundg (k - (i + 1))
        case measure => omega
        case rel => exact ⟨i + 1, by go_num, by omega, by omega, H4⟩
      · have hbt : bits BinOp.and .i64 (i : Int) 1 = 1 := by rw [mask1q]; omega
        have hM := rw_make HI.out (by omega) (by omega) 1 (by omega) 1 rfl
        clear HI hpar
        go_wp2_with (first
          | (go_at_call 13; refine hM.mono ?_; rintro e w4 ⟨rfl, h4⟩; have H4 : Hid (RwB w1.heap.size w1 rh hb (i + 1) (1000 * i + 1000) w4) := h4; clear hM h4)
          | (go_at_call 9; refine (num_any _ _).mono ?_; rintro e w9 ⟨rfl, hw9⟩; replace hw9 := hw9.symm; subst hw9))
        go_roundg (k - (i + 1))
        case measure => omega
        case rel => exact ⟨i + 1, by go_num, by omega, by omega, H4⟩
    · obtain rfl : i = k := by omega
      have hl : ¬ (i : Int) < (i : Int) := by omega
      obtain ⟨a0, b0, hab, h1⟩ := HI.out.built
      have H1 : Hid (RwS w1.heap.size w1 rh hb i a0 b0 0 20000 (.slice none 0 0) wr) := h1.most (by omega)
      have HAB : Hid (a0 + b0 = i) := hab
      clear HI hab h1
      go_wp2_with fail
      generalize i = k at *
      go_loopg [12, 13, 14, 15, 16, 17, 18, 19, 20, 21, 22, 23, 24] 2 (fun kx s12 s13 s14 s15 s16 s17 s18 s19 s20 s21 s22 s23 s24 wr => ∃ (i a b n : Nat) (ao : Option Addr) (cap : Nat), s12 = .slice ao n cap ∧ s13 = .int .i64 n ∧ s14 = .int .i64 i ∧ i ≤ 2 ∧ 2 - i ≤ kx ∧ n + (a + b) = k ∧ (i = 2 → a = 0 ∧ b = 0) ∧ Hid (RwS w1.heap.size w1 rh hb k a b n (20000 + 14000 * i) (.slice ao n cap) wr))
      case atStart => exact ⟨0, a0, b0, 0, none, 0, rfl, rfl, rfl, by omega, by omega, by have := HAB.out; omega, by omega, H1⟩
      case round =>
        clear H1 HAB
        obtain ⟨i, a, b, n, ao, cap, rfl, rfl, rfl, hi2, hix, hnab, hend, HI⟩ := hrel
        rcases (show i = 0 ∨ i = 1 ∨ i = 2 by omega) with hi | hi | hi
        · subst hi
          have HN : Hid (n + (a + b) = k) := hnab
          clear hend hnab
          go_wp2_with fail
          go_loopg [13, 15, 16, 17] 40 (fun kx s13 s15 s16 s17 wx => ∃ j D a b : Nat, s13 = .int .i64 D ∧ s15 = .int .i64 j ∧ j ≤ k ∧ k - j ≤ kx ∧ D + (a + b) = k ∧ Hid (RwS w1.heap.size w1 rh hb k a b n 20000 (.slice ao n cap) wx))
          case atStart => exact ⟨0, n, a, b, rfl, rfl, by omega, by omega, HN.out, HI⟩
          case round =>
            clear HI HN
            obtain ⟨j, D, a, b, rfl, rfl, hj, hjx, hD, HJ⟩ := hrel
            by_cases hjk : j < k
            · have hl2 : (j : Int) < (k : Int) := by omega
              by_cases hjc : C ≤ (j : Int)
              · have HT := HJ
                clear HJ
                have hC := rw_cycle HT.out (by omega) (by omega)
                clear HT
                go_wp2_with (go_at_call 16; refine hC.mono ?_; rintro e w6 ⟨a1, n1, c1, a2, d, c2, rfl, hsum, h6⟩; have H6 : Hid (RwQ w1.heap.size w1 rh hb k a b n d (20000 + 14000) (.slice ao n cap) (.slice a2 d c2) w6) := h6; clear hC h6)
                go_loopg [24] 40 (fun kx s24 wx => ∃ jm : Nat, s24 = .int .i64 ((jm : Int) + 1) ∧ jm ≤ d ∧ d - jm ≤ kx ∧ Hid (RwQ w1.heap.size w1 rh hb k a b n d (20000 + 14000) (.slice ao n cap) (.slice a2 d c2) wx))
                case atStart => exact ⟨0, rfl, by omega, by omega, H6⟩
                case round =>
                  clear H6
                  obtain ⟨jm, rfl, hjm, hjx, HQ⟩ := hrel
                  by_cases hjd : jm + 1 < d
                  · have g1 : (jm : Int) + 1 < (d : Int) := by omega
                    obtain ⟨p, x5, y5, rfl, e5, f5, pl5, lt5⟩ := HQ.out.read hjd
                    have g2 : ¬ y5 ≤ x5 := by omega
                    have g3 : ((jm : Int) + 1) - 1 = (jm : Int) := by omega
                    have g4 : (jm : Int) < (d : Int) := by omega
                    have HQ2 : Hid (RwQ w1.heap.size w1 rh hb k a b n d (20000 + 14000) (.slice ao n cap) (.slice (some ⟨p, 0, none⟩) d c2) wr.drew) := HQ.out.below (Below.refl _ _).drew
                    clear HQ lt5
                    go_wp2_with fail
                    go_region
                    go_wp2_with fail
                    go_roundg (d - (jm + 1))
                    case measure => omega
                    case rel => exact ⟨jm + 1, by go_num, by omega, by omega, HQ2⟩
                  · have g1 : ¬ (jm : Int) + 1 < (d : Int) := by omega
                    obtain ⟨ao', cap', w7, hrun, h7⟩ := HQ.out.app (by omega)
                    have H7 : Hid (RwS w1.heap.size w1 rh hb k a b (n + d) (20000 + 14000) (.slice ao' (n + d) cap') w7) := h7
                    clear HQ h7
                    have g5 : (((n + d : Nat) : Int)) = (D : Int) := by omega
                    go_wp2_with (go_at_call 9; refine (num_any _ _).mono ?_; rintro e w9 ⟨rfl, hw9⟩; replace hw9 := hw9.symm; subst hw9)
                    go_roundg (2 - (0 + 1))
                    case measure => omega
                    case rel => exact ⟨0 + 1, a, b, n + d, ao', cap', rfl, by go_num, by go_num, by omega, by omega, by omega, by omega, H7.out.most (by omega)⟩
              · have hjc2 : decide ((j : Int) ≥ C) = false := by simpa using hjc
                clear hjc
                rcases (show j % 2 = 0 ∨ j % 2 = 1 by omega) with hpar | hpar
                · have hbt : bits BinOp.and .i64 (j : Int) 1 = 0 := by rw [mask1q]; omega
                  have HPar : Hid (j % 2 = 0) := hpar
                  have hP := rw_pop0 HJ.out 0 rfl
                  clear HJ hpar
                  go_wp2_with fail
                  refine hP.mono ?_
                  rintro e w4 (⟨r, a', hr, hea, rfl, h4⟩ | ⟨hea, rfl, h4⟩)
                  · have H4 : Hid (RwS w1.heap.size w1 rh hb k a' b n 20000 (.slice ao n cap) w4) := h4
                    have hr0 : (0 : Int) < (r : Int) := by omega
                    have HX : Hid (a = a' + 1) := hea
                    clear hP h4 hea hr
                    go_wp2_with (go_at_call 9; refine (num_any _ _).mono ?_; rintro e w9 ⟨rfl, hw9⟩; replace hw9 := hw9.symm; subst hw9)
                    have hx := HX.out
                    have hpar := HPar.out
                    go_roundg (k - (j + 1))
                    case measure => omega
                    case rel => exact ⟨j + 1, D + 1, a', b, by go_num, by go_num, by omega, by omega, by omega, H4⟩
                  · have H4 : Hid (RwS w1.heap.size w1 rh hb k a b n 20000 (.slice ao n cap) w4) := h4
                    have HX : Hid (a = 0) := hea
                    clear hP h4 hea
                    go_wp2_with (go_at_call 9; refine (num_any _ _).mono ?_; rintro e w9 ⟨rfl, hw9⟩; replace hw9 := hw9.symm; subst hw9)
                    have hx := HX.out
                    have hpar := HPar.out
                    go_roundg (k - (j + 1))
                    case measure => omega
                    case rel => exact ⟨j + 1, D, a, b, by go_num, by go_num, by omega, by omega, by omega, H4⟩
                · have hbt : bits BinOp.and .i64 (j : Int) 1 = 1 := by rw [mask1q]; omega
                  have HPar : Hid (j % 2 = 1) := hpar
                  have hP := rw_pop1 HJ.out 1 rfl
                  clear HJ hpar
                  go_wp2_with fail
                  refine hP.mono ?_
                  rintro e w4 (⟨r, b', hr, heb, rfl, h4⟩ | ⟨heb, rfl, h4⟩)
                  · have H4 : Hid (RwS w1.heap.size w1 rh hb k a b' n 20000 (.slice ao n cap) w4) := h4
                    have hr0 : (0 : Int) < (r : Int) := by omega
                    have HX : Hid (b = b' + 1) := heb
                    clear hP h4 heb hr
                    go_wp2_with (go_at_call 9; refine (num_any _ _).mono ?_; rintro e w9 ⟨rfl, hw9⟩; replace hw9 := hw9.symm; subst hw9)
                    have hx := HX.out
                    have hpar := HPar.out
                    go_roundg (k - (j + 1))
                    case measure => omega
                    case rel => exact ⟨j + 1, D + 1, a, b', by go_num, by go_num, by omega, by omega, by omega, H4⟩
                  · have H4 : Hid (RwS w1.heap.size w1 rh hb k a b n 20000 (.slice ao n cap) w4) := h4
                    have HX : Hid (b = 0) := heb
                    clear hP h4 heb
                    go_wp2_with (go_at_call 9; refine (num_any _ _).mono ?_; rintro e w9 ⟨rfl, hw9⟩; replace hw9 := hw9.symm; subst hw9)
                    have hx := HX.out
                    have hpar := HPar.out
                    go_roundg (k - (j + 1))
                    case measure => omega
                    case rel => exact ⟨j + 1, D, a, b, by go_num, by go_num, by omega, by omega, by omega, H4⟩
            · have hl2 : ¬ (j : Int) < (k : Int) := by omega
              have HT := HJ
              clear HJ
              have hC := rw_cycle HT.out (by omega) (by omega)
              clear HT
              go_wp2_with (go_at_call 16; refine hC.mono ?_; rintro e w6 ⟨a1, n1, c1, a2, d, c2, rfl, hsum, h6⟩; have H6 : Hid (RwQ w1.heap.size w1 rh hb k a b n d (20000 + 14000) (.slice ao n cap) (.slice a2 d c2) w6) := h6; clear hC h6)
              go_loopg [24] 40 (fun kx s24 wx => ∃ jm : Nat, s24 = .int .i64 ((jm : Int) + 1) ∧ jm ≤ d ∧ d - jm ≤ kx ∧ Hid (RwQ w1.heap.size w1 rh hb k a b n d (20000 + 14000) (.slice ao n cap) (.slice a2 d c2) wx))
              case atStart => exact ⟨0, rfl, by omega, by omega, H6⟩
              case round =>
                clear H6
                obtain ⟨jm, rfl, hjm, hjx, HQ⟩ := hrel
                by_cases hjd : jm + 1 < d
                · have g1 : (jm : Int) + 1 < (d : Int) := by omega
                  obtain ⟨p, x5, y5, rfl, e5, f5, pl5, lt5⟩ := HQ.out.read hjd
                  have g2 : ¬ y5 ≤ x5 := by omega
                  have g3 : ((jm : Int) + 1) - 1 = (jm : Int) := by omega
                  have g4 : (jm : Int) < (d : Int) := by omega
                  have HQ2 : Hid (RwQ w1.heap.size w1 rh hb k a b n d (20000 + 14000) (.slice ao n cap) (.slice (some ⟨p, 0, none⟩) d c2) wr.drew) := HQ.out.below (Below.refl _ _).drew
                  clear HQ lt5
                  go_wp2_with fail
                  go_region
                  go_wp2_with fail
                  go_roundg (d - (jm + 1))
                  case measure => omega
                  case rel => exact ⟨jm + 1, by go_num, by omega, by omega, HQ2⟩
                · have g1 : ¬ (jm : Int) + 1 < (d : Int) := by omega
                  obtain ⟨ao', cap', w7, hrun, h7⟩ := HQ.out.app (by omega)
                  have H7 : Hid (RwS w1.heap.size w1 rh hb k a b (n + d) (20000 + 14000) (.slice ao' (n + d) cap') w7) := h7
                  clear HQ h7
                  have g5 : (((n + d : Nat) : Int)) = (D : Int) := by omega
                  go_wp2_with (go_at_call 9; refine (num_any _ _).mono ?_; rintro e w9 ⟨rfl, hw9⟩; replace hw9 := hw9.symm; subst hw9)
                  go_roundg (2 - (0 + 1))
                  case measure => omega
                  case rel => exact ⟨0 + 1, a, b, n + d, ao', cap', rfl, by go_num, by go_num, by omega, by omega, by omega, by omega, H7.out.most (by omega)⟩
        · subst hi
          have HN : Hid (n + (a + b) = k) := hnab
          clear hend hnab
          go_wp2_with fail
          go_loopg [13, 15, 16, 17] 40 (fun kx s13 s15 s16 s17 wx => ∃ j D a b : Nat, s13 = .int .i64 D ∧ s15 = .int .i64 j ∧ j ≤ k ∧ k - j ≤ kx ∧ D + (a + b) = k ∧ Hid (RwS w1.heap.size w1 rh hb k a b n 34000 (.slice ao n cap) wx))
          case atStart => exact ⟨0, n, a, b, rfl, rfl, by omega, by omega, HN.out, HI⟩
          case round =>
            clear HI HN
            obtain ⟨j, D, a, b, rfl, rfl, hj, hjx, hD, HJ⟩ := hrel
            by_cases hjk : j < k
            · have hl2 : (j : Int) < (k : Int) := by omega
              rcases (show j % 2 = 0 ∨ j % 2 = 1 by omega) with hpar | hpar
              · have hbt : bits BinOp.and .i64 (j : Int) 1 = 0 := by rw [mask1q]; omega
                have HPar : Hid (j % 2 = 0) := hpar
                have hP := rw_pop0 HJ.out 0 rfl
                clear HJ hpar
                go_wp2_with fail
                refine hP.mono ?_
                rintro e w4 (⟨r, a', hr, hea, rfl, h4⟩ | ⟨hea, rfl, h4⟩)
                · have H4 : Hid (RwS w1.heap.size w1 rh hb k a' b n 34000 (.slice ao n cap) w4) := h4
                  have hr0 : (0 : Int) < (r : Int) := by omega
                  have HX : Hid (a = a' + 1) := hea
                  clear hP h4 hea hr
                  go_wp2_with (go_at_call 9; refine (num_any _ _).mono ?_; rintro e w9 ⟨rfl, hw9⟩; replace hw9 := hw9.symm; subst hw9)
                  have hx := HX.out
                  have hpar := HPar.out
                  go_roundg (k - (j + 1))
                  case measure => omega
                  case rel => exact ⟨j + 1, D + 1, a', b, by go_num, by go_num, by omega, by omega, by omega, H4⟩
                · have H4 : Hid (RwS w1.heap.size w1 rh hb k a b n 34000 (.slice ao n cap) w4) := h4
                  have HX : Hid (a = 0) := hea
                  clear hP h4 hea
                  go_wp2_with (go_at_call 9; refine (num_any _ _).mono ?_; rintro e w9 ⟨rfl, hw9⟩; replace hw9 := hw9.symm; subst hw9)
                  have hx := HX.out
                  have hpar := HPar.out
                  go_roundg (k - (j + 1))
                  case measure => omega
                  case rel => exact ⟨j + 1, D, a, b, by go_num, by go_num, by omega, by omega, by omega, H4⟩
              · have hbt : bits BinOp.and .i64 (j : Int) 1 = 1 := by rw [mask1q]; omega
                have HPar : Hid (j % 2 = 1) := hpar
                have hP := rw_pop1 HJ.out 1 rfl
                clear HJ hpar
                go_wp2_with fail
                refine hP.mono ?_
                rintro e w4 (⟨r, b', hr, heb, rfl, h4⟩ | ⟨heb, rfl, h4⟩)
                · have H4 : Hid (RwS w1.heap.size w1 rh hb k a b' n 34000 (.slice ao n cap) w4) := h4
                  have hr0 : (0 : Int) < (r : Int) := by omega
                  have HX : Hid (b = b' + 1) := heb
                  clear hP h4 heb hr
                  go_wp2_with (go_at_call 9; refine (num_any _ _).mono ?_; rintro e w9 ⟨rfl, hw9⟩; replace hw9 := hw9.symm; subst hw9)
                  have hx := HX.out
                  have hpar := HPar.out
                  go_roundg (k - (j + 1))
                  case measure => omega
                  case rel => exact ⟨j + 1, D + 1, a, b', by go_num, by go_num, by omega, by omega, by omega, H4⟩
                · have H4 : Hid (RwS w1.heap.size w1 rh hb k a b n 34000 (.slice ao n cap) w4) := h4
                  have HX : Hid (b = 0) := heb
                  clear hP h4 heb
                  go_wp2_with (go_at_call 9; refine (num_any _ _).mono ?_; rintro e w9 ⟨rfl, hw9⟩; replace hw9 := hw9.symm; subst hw9)
                  have hx := HX.out
                  have hpar := HPar.out
                  go_roundg (k - (j + 1))
                  case measure => omega
                  case rel => exact ⟨j + 1, D, a, b, by go_num, by go_num, by omega, by omega, by omega, H4⟩
            · have hl2 : ¬ (j : Int) < (k : Int) := by omega
              clear hjk hj hjx
              have HD : Hid (D + (a + b) = k) := hD
              clear hD
              go_wp2_with fail
              clear hl2
              go_loopg [13, 18, 19, 20] 80 (fun kx s13 s18 s19 s20 wx => ∃ j D a b : Nat, s13 = .int .i64 D ∧ s18 = .int .i64 j ∧ j ≤ 2 * k ∧ 2 * k - j ≤ kx ∧ (D + (a + b) = k ∧ a ≤ k - (j + 1) / 2 ∧ b ≤ k - j / 2) ∧ Hid (RwS w1.heap.size w1 rh hb k a b n 34000 (.slice ao n cap) wx))
              case atStart => exact ⟨0, D, a, b, rfl, rfl, by omega, by omega, by have := HD.out; omega, HJ⟩
              case round =>
                clear HJ HD
                obtain ⟨j, D, a, b, rfl, rfl, hj, hjx, hD, HJ⟩ := hrel
                by_cases hjk : j < 2 * k
                · have hl3 : (j : Int) < 2 * (k : Int) := by omega
                  rcases (show j % 2 = 0 ∨ j % 2 = 1 by omega) with hpar | hpar
                  · have hbt : bits BinOp.and .i64 (j : Int) 1 = 0 := by rw [mask1q]; omega
                    have HPar : Hid (j % 2 = 0) := hpar
                    have hP := rw_pop0 HJ.out 0 rfl
                    clear HJ hpar
                    go_wp2_with fail
                    refine hP.mono ?_
                    rintro e w4 (⟨r, a', hr, hea, rfl, h4⟩ | ⟨hea, rfl, h4⟩)
                    · have H4 : Hid (RwS w1.heap.size w1 rh hb k a' b n 34000 (.slice ao n cap) w4) := h4
                      have hr0 : (0 : Int) < (r : Int) := by omega
                      have HX : Hid (a = a' + 1) := hea
                      clear hP h4 hea hr
                      go_wp2_with (go_at_call 9; refine (num_any _ _).mono ?_; rintro e w9 ⟨rfl, hw9⟩; replace hw9 := hw9.symm; subst hw9)
                      have hx := HX.out
                      have hpar := HPar.out
                      go_roundg (2 * k - (j + 1))
                      case measure => omega
                      case rel => exact ⟨j + 1, D + 1, a', b, by go_num, by go_num, by omega, by omega, by omega, H4⟩
                    · have H4 : Hid (RwS w1.heap.size w1 rh hb k a b n 34000 (.slice ao n cap) w4) := h4
                      have HX : Hid (a = 0) := hea
                      clear hP h4 hea
                      go_wp2_with (go_at_call 9; refine (num_any _ _).mono ?_; rintro e w9 ⟨rfl, hw9⟩; replace hw9 := hw9.symm; subst hw9)
                      have hx := HX.out
                      have hpar := HPar.out
                      go_roundg (2 * k - (j + 1))
                      case measure => omega
                      case rel => exact ⟨j + 1, D, a, b, by go_num, by go_num, by omega, by omega, by omega, H4⟩
                  · have hbt : bits BinOp.and .i64 (j : Int) 1 = 1 := by rw [mask1q]; omega
                    have HPar : Hid (j % 2 = 1) := hpar
                    have hP := rw_pop1 HJ.out 1 rfl
                    clear HJ hpar
                    go_wp2_with fail
                    refine hP.mono ?_
                    rintro e w4 (⟨r, b', hr, heb, rfl, h4⟩ | ⟨heb, rfl, h4⟩)
                    · have H4 : Hid (RwS w1.heap.size w1 rh hb k a b' n 34000 (.slice ao n cap) w4) := h4
                      have hr0 : (0 : Int) < (r : Int) := by omega
                      have HX : Hid (b = b' + 1) := heb
                      clear hP h4 heb hr
                      go_wp2_with (go_at_call 9; refine (num_any _ _).mono ?_; rintro e w9 ⟨rfl, hw9⟩; replace hw9 := hw9.symm; subst hw9)
                      have hx := HX.out
                      have hpar := HPar.out
                      go_roundg (2 * k - (j + 1))
                      case measure => omega
                      case rel => exact ⟨j + 1, D + 1, a, b', by go_num, by go_num, by omega, by omega, by omega, H4⟩
                    · have H4 : Hid (RwS w1.heap.size w1 rh hb k a b n 34000 (.slice ao n cap) w4) := h4
                      have HX : Hid (b = 0) := heb
                      clear hP h4 heb
                      go_wp2_with (go_at_call 9; refine (num_any _ _).mono ?_; rintro e w9 ⟨rfl, hw9⟩; replace hw9 := hw9.symm; subst hw9)
                      have hx := HX.out
                      have hpar := HPar.out
                      go_roundg (2 * k - (j + 1))
                      case measure => omega
                      case rel => exact ⟨j + 1, D, a, b, by go_num, by go_num, by omega, by omega, by omega, H4⟩
                · have hl3 : ¬ (j : Int) < 2 * (k : Int) := by omega
                  have HT := HJ
                  clear HJ
                  have hC := rw_cycle HT.out (by omega) (by omega)
                  clear HT
                  go_wp2_with (go_at_call 16; refine hC.mono ?_; rintro e w6 ⟨a1, n1, c1, a2, d, c2, rfl, hsum, h6⟩; have H6 : Hid (RwQ w1.heap.size w1 rh hb k a b n d (34000 + 14000) (.slice ao n cap) (.slice a2 d c2) w6) := h6; clear hC h6)
                  go_loopg [24] 40 (fun kx s24 wx => ∃ jm : Nat, s24 = .int .i64 ((jm : Int) + 1) ∧ jm ≤ d ∧ d - jm ≤ kx ∧ Hid (RwQ w1.heap.size w1 rh hb k a b n d (34000 + 14000) (.slice ao n cap) (.slice a2 d c2) wx))
                  case atStart => exact ⟨0, rfl, by omega, by omega, H6⟩
                  case round =>
                    clear H6
                    obtain ⟨jm, rfl, hjm, hjx, HQ⟩ := hrel
                    by_cases hjd : jm + 1 < d
                    · have g1 : (jm : Int) + 1 < (d : Int) := by omega
                      obtain ⟨p, x5, y5, rfl, e5, f5, pl5, lt5⟩ := HQ.out.read hjd
                      have g2 : ¬ y5 ≤ x5 := by omega
                      have g3 : ((jm : Int) + 1) - 1 = (jm : Int) := by omega
                      have g4 : (jm : Int) < (d : Int) := by omega
                      have HQ2 : Hid (RwQ w1.heap.size w1 rh hb k a b n d (34000 + 14000) (.slice ao n cap) (.slice (some ⟨p, 0, none⟩) d c2) wr.drew) := HQ.out.below (Below.refl _ _).drew
                      clear HQ lt5
                      go_wp2_with fail
                      go_region
                      go_wp2_with fail
                      go_roundg (d - (jm + 1))
                      case measure => omega
                      case rel => exact ⟨jm + 1, by go_num, by omega, by omega, HQ2⟩
                    · have g1 : ¬ (jm : Int) + 1 < (d : Int) := by omega
                      obtain ⟨ao', cap', w7, hrun, h7⟩ := HQ.out.app (by omega)
                      have H7 : Hid (RwS w1.heap.size w1 rh hb k a b (n + d) (34000 + 14000) (.slice ao' (n + d) cap') w7) := h7
                      clear HQ h7
                      have g5 : (((n + d : Nat) : Int)) = (D : Int) := by omega
                      go_wp2_with (go_at_call 9; refine (num_any _ _).mono ?_; rintro e w9 ⟨rfl, hw9⟩; replace hw9 := hw9.symm; subst hw9)
                      go_roundg (2 - (1 + 1))
                      case measure => omega
                      case rel => exact ⟨1 + 1, a, b, n + d, ao', cap', rfl, by go_num, by go_num, by omega, by omega, by omega, by omega, H7.out.most (by omega)⟩
        · subst hi
          obtain ⟨rfl, rfl⟩ := hend rfl
          obtain rfl : n = k := by omega
          have H3 : Hid (RwN w1.heap.size w1 rh hb n 0 (.slice ao n cap) wr) := HI.out.ends
          clear HI hnab hend
          go_wp2_with fail
          go_loopg [25, 26, 27] 20 (fun kx s25 s26 s27 wx => ∃ z : Nat, s25 = .int .i64 z ∧ z ≤ n ∧ n - z ≤ kx ∧ Hid (RwN w1.heap.size w1 rh hb n z (.slice ao n cap) wx))
          case atStart => exact ⟨0, rfl, by omega, by omega, H3⟩
          case round =>
            clear H3
            obtain ⟨z, rfl, hz, hzx, HZ⟩ := hrel
            by_cases hzn : z < n
            · have hl4 : (z : Int) < (n : Int) := by omega
              obtain ⟨p, x5, rfl, hX⟩ := rw_next HZ.out hzn (by omega)
              clear HZ
              go_wp2_with (go_at_call 17; refine hX.mono ?_; rintro e w5 ⟨rfl, ⟨e5, l5⟩, h5⟩; have H5 : Hid (RwN w1.heap.size w1 rh hb n (z + 1) (.slice (some ⟨p, 0, none⟩) n cap) w5) := h5; clear hX h5)
              go_roundg (n - (z + 1))
              case measure => omega
              case rel => exact ⟨z + 1, by go_num, by omega, by omega, H5⟩
            · obtain rfl : z = n := by omega
              have hl4 : ¬ (z : Int) < (z : Int) := by omega
              have hX := rw_none HZ.out
              clear HZ
              go_wp2_with (first
                | (go_at_call 17; refine hX.mono ?_; rintro e w5 ⟨rfl, hb9⟩; clear hX)
                | (go_at_call 9; refine (num_any _ _).mono ?_; rintro e w9 ⟨rfl, hw9⟩; replace hw9 := hw9.symm; subst hw9))
              go_ret
              exact ⟨rfl, hb1.trans (hb9.mono hb1.size)⟩
end Go.Proofs.YthkelaeemefnaaaGreat
