/- ClassReads: the walk. -/
import Derived.Test.YtajghalljkphiaaGreatMGSP
import Derived.Test.YtajghalljkphiaaGreatMGD3
import Derived.Test.YtajghalljkphiaaGreatMLAwk
namespace Go.Proofs.YtajghalljkphiaaGreat
open Go.RowKit

def rdP (s : ByteArray) : Pg := match decP s with
  | .ok p => p
  | .error _ => ⟨0, []⟩
def rdQ (s : ByteArray) : Int := match decP s with
  | .ok _ => 0
  | .error (q, _) => q
def rdC (s : ByteArray) : Int := match decP s with
  | .ok _ => 0
  | .error (_, c) => c
theorem dec2 (s : ByteArray) (w : World) (hs : s.size ≤ maxLen) : Calls Tryz.prog 5 #[.string s] w fun e w' => ∃ ao cap S, e = .returned (.tuple #[.agg #[.int .i64 (rdP s).main, .slice ao (rdP s).cls.length cap], .int .i64 (rdQ s), .int .i64 (rdC s)]) ∧ Below w.heap.size w w' ∧ kPgU.R w' S (rdP s) [.int .i64 (rdP s).main, .slice ao (rdP s).cls.length cap] ∧ (∀ k, S k → w.heap.size ≤ k ∧ k < w'.heap.size) := by
  refine (Decode_any s w hs).mono ?_
  intro e w' h
  unfold DeP at h
  unfold rdP rdQ rdC
  rcases hd : decP s with ⟨q, c⟩ | p
  · rw [hd] at h
    obtain ⟨hb, rfl⟩ := h
    exact ⟨none, 0, fun _ => False, rfl, hb, ⟨_, rfl, Sl.nil _ _ _⟩, fun k hk => hk.elim⟩
  · rw [hd] at h
    obtain ⟨hb, v, rfl, cs, hR, rfl⟩ := h
    obtain ⟨v1, rfl, hS⟩ := hR
    have hS2 := hS
    obtain ⟨ao, cap, rfl, -⟩ := hS2
    exact ⟨ao, cap, _, rfl, hb, ⟨_, rfl, hS⟩, fun k hk => hk⟩
theorem qdec2 (s : ByteArray) (w : World) (hs : s.size ≤ maxLen) : Calls Tryz.prog 6 #[.string s] w fun e w' => ∃ ao cap S, e = .returned (.tuple #[.agg #[.int .i64 (rdP s).main, .slice ao (rdP s).cls.length cap], .int .i64 (rdQ s), .int .i64 (rdC s)]) ∧ Below w.heap.size w w' ∧ kPg.R w' S (rdP s) [.int .i64 (rdP s).main, .slice ao (rdP s).cls.length cap] ∧ (∀ k, S k → w.heap.size ≤ k ∧ k < w'.heap.size) := by
  refine (qDecode_any s w hs).mono ?_
  intro e w' h
  unfold DeD at h
  unfold rdP rdQ rdC
  rcases hd : decP s with ⟨q, c⟩ | p
  · rw [hd] at h
    obtain ⟨hb, rfl⟩ := h
    exact ⟨none, 0, fun _ => False, rfl, hb, ⟨_, rfl, Sl.nil _ _ _⟩, fun k hk => hk.elim⟩
  · rw [hd] at h
    obtain ⟨hb, v, rfl, cs, hR, rfl⟩ := h
    obtain ⟨v1, rfl, hS⟩ := hR
    have hS2 := hS
    obtain ⟨ao, cap, rfl, -⟩ := hS2
    exact ⟨ao, cap, _, rfl, hb, ⟨_, rfl, hS⟩, fun k hk => hk⟩
theorem ok_count {k : Nat} {m : Int} (h : okP (ptC k m) = true) : (k : Int) ≤ m := by
  have h1 : okC (ptC k m) = true := by unfold okP at h; simp only [Bool.and_eq_true] at h; exact h.1.1
  unfold okC ptC at h1
  simp only [beq_self_eq_true, Bool.true_and, Bool.not_eq_true', decide_eq_false_iff_not] at h1
  omega
theorem ok_name {s : ByteArray} (h : okP (ptT s) = true) : s.size ≤ 16 := by
  simp [okP, okT, ptT, isNm] at h; exact of_decide_eq_true h.1.2.1.1.2
theorem small_vl {p : Pg} (h : vl (gPg p)) : SmallP p := by
  unfold gPg at h
  rw [vl_cons] at h
  have h2 := h.2
  unfold ptL at h2
  rw [vl_cons] at h2
  refine ⟨by have := ok_count h2.1; omega, fun c hc => ?_⟩
  have h3 : vl (gCs c) := fun q hq => h2.2 q (List.mem_flatMap.2 ⟨c, hc, hq⟩)
  unfold gCs at h3
  rw [vl_cons, vl_cons, vl_cons, vl_append, vl_append] at h3
  have h4 := h3.2.2.2.2.1
  unfold ptL at h4
  rw [vl_cons] at h4
  refine ⟨by have := ok_name h3.1; omega, by have := ok_count h4.1; omega, fun f hf => ?_⟩
  have h5 : vl (gFd f) := fun q hq => h4.2 q (List.mem_flatMap.2 ⟨f, hf, hq⟩)
  unfold gFd at h5
  rw [vl_cons] at h5
  have := ok_name h5.1; omega
theorem small_rd (s : ByteArray) : SmallP (rdP s) := by
  unfold rdP
  rcases hd : decP s with ⟨q, c⟩ | p
  · exact ⟨by simp, fun c hc => by simp at hc⟩
  · unfold decP at hd
    split at hd
    · cases hd
    · split at hd
      · rename_i h2
        have h4 : 4 ≤ s.size := by
          have := congrArg List.length h2
          rw [List.length_take] at this
          simp [mag] at this; omega
        rcases hp : pPg s 4 with e | ⟨x, b⟩
        · rw [hp] at hd; cases hd
        · rw [hp] at hd
          simp only at hd
          split at hd
          · cases hd
          · cases hd
            exact small_vl (good_pg.back s 4 _ b h4 hp).1
      · cases hd

/-- A box that holds a program; its blocks lie from lo on, ahead of the box. -/
structure Hb (U : Bool) (bx lo : Nat) (S : Nat → Prop) (p : Pg) (a c : Value) (u : World) : Prop where
  box : u.heap[bx]? = some (.cells #[a, c] 24 (0, 0))
  dat : (kPgb U).R u S p [a, c]
  rng : ∀ k, S k → lo ≤ k ∧ k < bx
section
variable {U : Bool} {bx lo : Nat} {S : Nat → Prop} {p : Pg} {a c : Value} {u u' : World}
theorem Hb.lt (h : Hb U bx lo S p a c u) : bx < u.heap.size := (Array.getElem?_eq_some_iff.1 h.box).1
theorem Hb.keep (h : Hb U bx lo S p a c u) (e : ∀ k, lo ≤ k → k < u.heap.size → u'.heap[k]? = u.heap[k]?) (hl : lo ≤ bx) : Hb U bx lo S p a c u' :=
  ⟨(e bx hl h.lt).trans h.box, (kPgb U).keep (fun k hk => e k (h.rng k hk).1 (Nat.lt_trans (h.rng k hk).2 h.lt)) h.dat, h.rng⟩
theorem Hb.bel (h : Hb U bx lo S p a c u) (hl : lo ≤ bx) (hb : Below u.heap.size u u') : Hb U bx lo S p a c u' := h.keep (fun k _ hk => hb.block k hk) hl
theorem Hb.soft (h : Hb true bx lo S p a c u) : Hb false bx lo S p a c u := ⟨h.box, soft_Pg h.dat, h.rng⟩
theorem Hb.low (h : Hb U bx lo S p a c u) (k : Nat) (hk : S k) : k < u.heap.size := Nat.lt_trans (h.rng k hk).2 h.lt
end
theorem Hb.start {U : Bool} {S : Nat → Prop} {p : Pg} {a c : Value} {w w1 : World} (hR : (kPgb U).R w1 S p [a, c]) (hS : ∀ k, S k → w.heap.size ≤ k ∧ k < w1.heap.size) {v1 : World} (hx : v1.heap[w1.heap.size]? = some (.cells #[a, c] 24 (0, 0))) (hk : ∀ k, k < w1.heap.size → v1.heap[k]? = w1.heap[k]?) : Hb U w1.heap.size w.heap.size S p a c v1 :=
  ⟨hx, (kPgb U).keep (fun k hk2 => hk k (hS k hk2).2) hR, hS⟩
set_option maxHeartbeats 4000000 in
set_option maxRecDepth 20000 in
theorem reads_walk (s : ByteArray) (w : World) (hs : s.size ≤ maxLen) : Calls Tryz.prog 3 #[.string s] w fun e w' => e = .returned (.bool true) ∧ Below w.heap.size w w' := by
  have HSM : Hid (SmallP (rdP s)) := small_rd s
  have HD := fun w => dec2 s w hs
  have HQ := fun w => qdec2 s w hs
  generalize rdP s = P at *
  generalize rdQ s = Q at *
  generalize rdC s = C at *
  have HD : Hid _ := HD
  have HQ : Hid _ := HQ
  have hD1 := HD.out w
  have q1 : (Q != Q) = false := by simp
  have q2 : (C != C) = false := by simp
  go_enter Tryz.func3, Tryz.ntmps3
  go_wp2_with (first
    | (go_at_call 5; refine hD1.mono ?_; rintro e w1 ⟨a1, c1, S1, rfl, hb, hR, hSr⟩; have HN1 : Hid ((w1.alloc (.cells #[.int .i64 0, .slice none 0 0] 24)).heap[w1.heap.size]? = some (.cells #[.int .i64 0, .slice none 0 0] 24 (0, 0))) := heap_alloc_new _ _; have HR1 : Hid (kPgU.R w1 S1 P [.int .i64 P.main, .slice a1 P.cls.length c1] ∧ (∀ k, S1 k → w.heap.size ≤ k ∧ k < w1.heap.size) ∧ Below w.heap.size w w1) := ⟨hR, hSr, hb⟩; have HZ1 : Hid (w.heap.size ≤ w1.heap.size ∧ True) := ⟨hb.size, trivial⟩; clear hD1 hb hR hSr)
    | (refine wpList_store_row rfl 24 _ _ rfl w1.heap.size _ rfl rfl 24 _ HN1.out infoRPg rfl (by simp [Value.oneCell']) ?_; have hx := boxed w1 #[.int .i64 0, .slice none 0 0] #[.int .i64 P.main, .slice a1 P.cls.length c1] 24; generalize ((w1.alloc (.cells #[.int .i64 0, .slice none 0 0] 24)).setRow w1.heap.size #[.int .i64 P.main, .slice a1 P.cls.length c1]) = x1 at hx ⊢; obtain ⟨g1, z1, k1, o1⟩ := hx; have hB1 : Below w1.heap.size w1 x1 := ⟨o1.1, o1.2.1, o1.2.2, by omega, k1⟩; have HA1 : Hid (Hb true w1.heap.size w.heap.size S1 P (.int .i64 P.main) (.slice a1 P.cls.length c1) x1) := Hb.start HR1.out.1 HR1.out.2.1 g1 k1; have HW1 : Hid (Below w.heap.size w x1 ∧ x1.heap.size = w1.heap.size + 1) := ⟨HR1.out.2.2.trans (hB1.mono HR1.out.2.2.size), z1⟩; have hD2 := HD.out x1; clear HR1 hB1; clear g1 z1 k1 o1 HN1)
    | (go_at_call 5; refine hD2.mono ?_; rintro e w2 ⟨a2, c2, S2, rfl, hb, hR, hSr⟩; have HN2 : Hid ((w2.alloc (.cells #[.int .i64 0, .slice none 0 0] 24)).heap[w2.heap.size]? = some (.cells #[.int .i64 0, .slice none 0 0] 24 (0, 0))) := heap_alloc_new _ _; have HR2 : Hid (kPgU.R w2 S2 P [.int .i64 P.main, .slice a2 P.cls.length c2] ∧ (∀ k, S2 k → x1.heap.size ≤ k ∧ k < w2.heap.size) ∧ Below x1.heap.size x1 w2) := ⟨hR, hSr, hb⟩; clear hD2 hb hR hSr)
    | (refine wpList_store_row rfl 24 _ _ rfl w2.heap.size _ rfl rfl 24 _ HN2.out infoRPg rfl (by simp [Value.oneCell']) ?_; have hx := boxed w2 #[.int .i64 0, .slice none 0 0] #[.int .i64 P.main, .slice a2 P.cls.length c2] 24; generalize ((w2.alloc (.cells #[.int .i64 0, .slice none 0 0] 24)).setRow w2.heap.size #[.int .i64 P.main, .slice a2 P.cls.length c2]) = x2 at hx ⊢; obtain ⟨g1, z1, k1, o1⟩ := hx; have hB2 : Below w2.heap.size w2 x2 := ⟨o1.1, o1.2.1, o1.2.2, by omega, k1⟩; have hb2 : Below x1.heap.size x1 x2 := HR2.out.2.2.trans (hB2.mono HR2.out.2.2.size); have HA2 : Hid (Hb true w1.heap.size w.heap.size S1 P (.int .i64 P.main) (.slice a1 P.cls.length c1) x2) := HA1.out.bel HZ1.out.1 hb2; have HB2 : Hid (Hb true w2.heap.size x1.heap.size S2 P (.int .i64 P.main) (.slice a2 P.cls.length c2) x2) := Hb.start HR2.out.1 HR2.out.2.1 g1 k1; have HW2 : Hid (Below w.heap.size w x2 ∧ x1.heap.size ≤ w2.heap.size ∧ w1.heap.size < x1.heap.size) := ⟨HW1.out.1.trans (hb2.mono HW1.out.1.size), HR2.out.2.2.size, by have := HW1.out.2; omega⟩; have hD3 := HQ.out x2; clear HR2 hB2 hb2 HW1 HA1; clear g1 z1 k1 o1 HN2)
    | (go_at_call 6; refine hD3.mono ?_; rintro e w3 ⟨a3, c3, S3, rfl, hb, hR, hSr⟩; have HN3 : Hid ((w3.alloc (.cells #[.int .i64 0, .slice none 0 0] 24)).heap[w3.heap.size]? = some (.cells #[.int .i64 0, .slice none 0 0] 24 (0, 0))) := heap_alloc_new _ _; have HR3 : Hid (kPg.R w3 S3 P [.int .i64 P.main, .slice a3 P.cls.length c3] ∧ (∀ k, S3 k → x2.heap.size ≤ k ∧ k < w3.heap.size) ∧ Below x2.heap.size x2 w3) := ⟨hR, hSr, hb⟩; clear hD3 hb hR hSr)
    | (refine wpList_store_row rfl 24 _ _ rfl w3.heap.size _ rfl rfl 24 _ HN3.out infoRPg rfl (by simp [Value.oneCell']) ?_; have hx := boxed w3 #[.int .i64 0, .slice none 0 0] #[.int .i64 P.main, .slice a3 P.cls.length c3] 24; generalize ((w3.alloc (.cells #[.int .i64 0, .slice none 0 0] 24)).setRow w3.heap.size #[.int .i64 P.main, .slice a3 P.cls.length c3]) = x3 at hx ⊢; obtain ⟨g1, z1, k1, o1⟩ := hx; have hB3 : Below w3.heap.size w3 x3 := ⟨o1.1, o1.2.1, o1.2.2, by omega, k1⟩; have hb3 : Below x2.heap.size x2 x3 := HR3.out.2.2.trans (hB3.mono HR3.out.2.2.size); have HA3 : Hid (Hb true w1.heap.size w.heap.size S1 P (.int .i64 P.main) (.slice a1 P.cls.length c1) x3) := HA2.out.bel HZ1.out.1 hb3; have HB3 : Hid (Hb true w2.heap.size x1.heap.size S2 P (.int .i64 P.main) (.slice a2 P.cls.length c2) x3) := HB2.out.bel HW2.out.2.1 hb3; have HU3 : Hid (Hb false w3.heap.size x2.heap.size S3 P (.int .i64 P.main) (.slice a3 P.cls.length c3) x3) := Hb.start HR3.out.1 HR3.out.2.1 g1 k1; have HW3 : Hid (Below w.heap.size w x3 ∧ x1.heap.size ≤ w2.heap.size ∧ w1.heap.size < x1.heap.size ∧ x2.heap.size ≤ w3.heap.size ∧ w2.heap.size < x2.heap.size) := ⟨HW2.out.1.trans (hb3.mono HW2.out.1.size), HW2.out.2.1, HW2.out.2.2, HR3.out.2.2.size, HB2.out.lt⟩; have hE1 := SameProgram_eq HA3.out.soft.low HU3.out.low HA3.out.soft.dat HU3.out.dat; clear HR3 hB3 hb3 HW2 HA2 HB2; clear g1 z1 k1 o1 HN3)
    | (go_at_call 8; refine (num_any _ _).mono ?_; rintro e w9 ⟨rfl, hw9⟩; replace hw9 := hw9.symm; subst hw9)
    | (go_at_call 7; refine hE2.mono ?_; rintro e x6 ⟨rfl, hb⟩; have HW6 : Hid (Below w.heap.size w x6) := HW5.out.trans (hb.mono HW5.out.size); have hAw := awake14 x6; clear hE2 hb)
    | (go_at_call 7; refine hE1.mono ?_; rintro e x4 ⟨rfl, hb⟩; have HA4 : Hid (Hb true w1.heap.size w.heap.size S1 P (.int .i64 P.main) (.slice a1 P.cls.length c1) x4) := HA3.out.bel HZ1.out.1 hb; have HB4 : Hid (Hb true w2.heap.size x1.heap.size S2 P (.int .i64 P.main) (.slice a2 P.cls.length c2) x4) := HB3.out.bel HW3.out.2.1 hb; have HU4 : Hid (Hb false w3.heap.size x2.heap.size S3 P (.int .i64 P.main) (.slice a3 P.cls.length c3) x4) := HU3.out.bel HW3.out.2.2.2.1 hb; have HW4 : Hid (Below w.heap.size w x4) := HW3.out.1.trans (hb.mono HW3.out.1.size); have hSp := spoilP_ok HA4.out.low HA4.out.dat HSM.out; clear hE1 hb HA3 HB3 HU3)
    | (go_at_call 9; refine hSp.mono ?_; rintro e x5 ⟨rfl, hb⟩; have hlt := HA4.out.rng; have HB5 : Hid (Hb true w2.heap.size x1.heap.size S2 P (.int .i64 P.main) (.slice a2 P.cls.length c2) x5) := HB4.out.keep (fun k h1 h2 => hb.block k h2 (fun h => by have := (hlt k h).2; have := HW3.out.2.2.1; omega)) HW3.out.2.1; have HU5 : Hid (Hb false w3.heap.size x2.heap.size S3 P (.int .i64 P.main) (.slice a3 P.cls.length c3) x5) := HU4.out.keep (fun k h1 h2 => hb.block k h2 (fun h => by have := (hlt k h).2; have := HW3.out.2; omega)) HW3.out.2.2.2.1; have HW5 : Hid (Below w.heap.size w x5) := ⟨hb.os.trans HW4.out.os, hb.tape.trans HW4.out.tape, hb.output.trans HW4.out.output, Nat.le_trans HW4.out.size hb.size, fun k hk => (hb.block k (Nat.lt_of_lt_of_le hk HW4.out.size) (fun h => by have := (hlt k h).1; omega)).trans (HW4.out.block k hk)⟩; have hE2 := SameProgram_eq HB5.out.soft.low HU5.out.low HB5.out.soft.dat HU5.out.dat; clear hSp hb hlt HA4 HB4 HU4)
    | (go_at_call 10; refine hAw.mono ?_; rintro e x7 ⟨rfl, hb⟩; have HW7 : Hid (Below w.heap.size w x7) := HW6.out.trans (hb.mono HW6.out.size); clear hAw hb)
    | (refine wpList_load_row rfl 24 _ rfl w1.heap.size rfl 24 _ (0, 0) _ HA4.out.box Tryz.underlying24 rfl infoRPg ?_)
    | (refine wpList_load_row rfl 24 _ rfl w1.heap.size rfl 24 _ (0, 0) _ HA3.out.box Tryz.underlying24 rfl infoRPg ?_)
    | (refine wpList_load_row rfl 24 _ rfl w2.heap.size rfl 24 _ (0, 0) _ HB5.out.box Tryz.underlying24 rfl infoRPg ?_)
    | (refine wpList_load_row rfl 24 _ rfl w3.heap.size rfl 24 _ (0, 0) _ HU5.out.box Tryz.underlying24 rfl infoRPg ?_)
    | (refine wpList_load_row rfl 24 _ rfl w3.heap.size rfl 24 _ (0, 0) _ HU3.out.box Tryz.underlying24 rfl infoRPg ?_))
  go_ret
  exact ⟨rfl, HW7.out⟩
end Go.Proofs.YtajghalljkphiaaGreat
