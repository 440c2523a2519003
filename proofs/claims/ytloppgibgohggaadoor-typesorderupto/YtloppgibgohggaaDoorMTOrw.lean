/- TypesOrder: Within, and the walk. -/
import Derived.Test.YtloppgibgohggaaDoorMTOkz
import Derived.Test.YtloppgibgohggaaDoorMGT1
import Derived.Test.YtloppgibgohggaaDoorMGWC
namespace Go.Proofs.YtloppgibgohggaaDoor
open Go.RowKit

/-- What gneissref14.Within answers. -/
def wthP (p : Pg) : Bool := wrE p == 0 || (wrE p == 1403 || wrE p == 1406)
theorem wth_all {p : Pg} (h : wthP p = true) : (gPg p).all okC = true := by
  unfold wthP wrE encP at h
  by_cases hc : (gPg p).all okC = true
  · exact hc
  · rw [if_neg hc] at h
    simp at h
set_option maxHeartbeats 4000000 in
set_option maxRecDepth 20000 in
theorem within_any {S : Nat → Prop} {p : Pg} {pa : Option Addr} {pc : Nat} (w : World) (hS : ∀ k, S k → k < w.heap.size) (hR : kPg.R w S p [.int .i64 p.main, .slice pa p.cls.length pc]) (hl : Shr (gPg p)) : Calls Tryd.prog 7 #[.agg #[.int .i64 p.main, .slice pa p.cls.length pc]] w fun e w' => e = .returned (.bool (wthP p)) ∧ Below w.heap.size w w' := by
  have hz : (w.alloc (.cells #[.int .i64 p.main, .slice pa p.cls.length pc] 24)).heap.size = w.heap.size + 1 := by simp
  have hR0 : kPg.R (w.alloc (.cells #[.int .i64 p.main, .slice pa p.cls.length pc] 24)) S p [.int .i64 p.main, .slice pa p.cls.length pc] := kPg.keep (fun k hk => Below.heap_alloc _ _ _ (hS k hk)) hR
  have hC := qEncode_any (w.alloc (.cells #[.int .i64 p.main, .slice pa p.cls.length pc] 24)) (fun k hk => by have := hS k hk; rw [hz]; omega) hR0 hl
  have hC1 : Calls Tryd.prog 23 #[.agg #[.int .i64 p.main, .slice pa p.cls.length pc]] (w.alloc (.cells #[.int .i64 p.main, .slice pa p.cls.length pc] 24)) fun e w' => e = .returned (.tuple #[.string (wrS p), .int .i64 (wrE p)]) ∧ Below w.heap.size w w' := by
    refine hC.mono ?_
    intro e w' hE
    obtain ⟨rfl, hb⟩ := enp2 hE
    exact ⟨rfl, ((Below.refl _ _).alloc (Nat.le_refl _) _).trans (hb.mono (by rw [hz]; omega))⟩
  have hB0 : (w.alloc (.cells #[.int .i64 p.main, .slice pa p.cls.length pc] 24)).heap[w.heap.size]? = some (.cells #[.int .i64 p.main, .slice pa p.cls.length pc] 24 (0, 0)) := heap_alloc_new _ _
  have HB0 : Hid ((w.alloc (.cells #[.int .i64 p.main, .slice pa p.cls.length pc] 24)).heap[w.heap.size]? = some (.cells #[.int .i64 p.main, .slice pa p.cls.length pc] 24 (0, 0))) := hB0
  have hv : wthP p = (wrE p == 0 || (wrE p == 1403 || wrE p == 1406)) := rfl
  generalize wthP p = V at hv ⊢
  generalize wrE p = E at hv hC1
  generalize wrS p = Z at hC1
  clear hC hR0 hR hS hl hz hB0
  by_cases h0 : E = 0
  · subst h0
    obtain rfl : V = true := by rw [hv]; rfl
    clear hv
    go_enter Tryd.func7, Tryd.ntmps7
    go_wp2_with (first
      | (refine wpList_load_row rfl 24 _ rfl w.heap.size rfl 24 _ (0, 0) _ HB0.out Tryd.underlying24 rfl infoRPg ?_)
      | (go_at_call 23; refine hC1.mono ?_; rintro e u1 ⟨rfl, hb⟩; have HB1 : Hid (Below w.heap.size w u1) := hb; clear hC1 hb))
    go_ret
    exact ⟨rfl, HB1.out⟩
  have e0 : (E == 0) = false := by simp [h0]
  by_cases h1 : E = 1403
  · subst h1
    obtain rfl : V = true := by rw [hv]; rfl
    clear hv h0 e0
    go_enter Tryd.func7, Tryd.ntmps7
    go_wp2_with (first
      | (refine wpList_load_row rfl 24 _ rfl w.heap.size rfl 24 _ (0, 0) _ HB0.out Tryd.underlying24 rfl infoRPg ?_)
      | (go_at_call 23; refine hC1.mono ?_; rintro e u1 ⟨rfl, hb⟩; have HB1 : Hid (Below w.heap.size w u1) := hb; clear hC1 hb))
    go_ret
    exact ⟨rfl, HB1.out⟩
  have e1 : (E == 1403) = false := by simp [h1]
  obtain ⟨Q, hQ⟩ : ∃ Q, (E == 1406) = Q := ⟨_, rfl⟩
  obtain rfl : V = Q := by rw [hv, e0, e1, hQ]; rfl
  clear hv h0 h1
  go_enter Tryd.func7, Tryd.ntmps7
  go_wp2_with (first
    | (refine wpList_load_row rfl 24 _ rfl w.heap.size rfl 24 _ (0, 0) _ HB0.out Tryd.underlying24 rfl infoRPg ?_)
    | (go_at_call 23; refine hC1.mono ?_; rintro e u1 ⟨rfl, hb⟩; have HB1 : Hid (Below w.heap.size w u1) := hb; clear hC1 hb))
  go_ret
  exact ⟨by first | rfl | simp [hQ], HB1.out⟩
theorem load_gp {p : Pg} {ls : List Ly} (h : loadJ p = .ok ls) : ls = allJ p ∧ Gp p := by
  unfold loadJ at h
  by_cases h8 : (st8 p).1 = 0
  · rw [if_pos h8] at h
    have h7 : (st7 p).1 = 0 := by
      refine Classical.byContradiction fun hn => ?_
      unfold st8 at h8
      rw [if_neg hn] at h8
      exact hn h8
    refine ⟨by injection h with h; exact h.symm, ?_⟩
    unfold st7 at h7
    exact st6_gp (runJ_ok (by decide) h7).1
  · rw [if_neg h8] at h
    cases h
theorem load_er {p : Pg} {s : Fs} (h : loadJ p = .error s) : s.1 ≠ 0 := by
  unfold loadJ at h
  by_cases h8 : (st8 p).1 = 0
  · rw [if_pos h8] at h
    cases h
  · rw [if_neg h8] at h
    injection h with h
    rw [← h]; exact h8
theorem tins_len (x : Int) : ∀ l : List Int, (insJ x l).length = l.length + 1
  | [] => rfl
  | a :: l => by
    unfold insJ
    split
    · simp
    · simp [tins_len x l]
theorem tfold_len : ∀ (xs o : List Int), (xs.foldl (fun o x => insJ x o) o).length = xs.length + o.length
  | [], o => by simp
  | x :: xs, o => by rw [List.foldl_cons, tfold_len xs, tins_len, List.length_cons]; omega
theorem all_abv {p : Pg} (hG : Gp p) (hz : Okz p) : ∀ y ∈ allJ p, y.abv.length ≤ 9223372036854775806 := by
  intro y hy
  unfold allJ at hy
  obtain ⟨i, hi, rfl⟩ := List.mem_map.1 hy
  have hi := List.mem_range.1 hi
  rw [ly_abv]
  have hk : isJ p (i : Nat) = true := by
    unfold nJ at hi
    simp only [isJ, Bool.and_eq_true, decide_eq_true_eq]
    omega
  have h := (above_gd (sup_ok hG.b1) hG.fc (nJ p + 1) (i : Nat) [] hk ⟨by simp, fun x hx => by cases hx⟩).1.le
  unfold abvJ sortJ
  rw [tfold_len]
  have := hz.n
  have hn : nJ p = 11 + p.cls.length := rfl
  simp only [List.length_nil]
  omega
theorem load_at {p : Pg} (hz : Okz p) {w : World} {S : Nat → Prop} (hS : ∀ k, S k → k < w.heap.size) {pa : Option Addr} {pc : Nat} (hR : kPg.R w S p [.int .i64 p.main, .slice pa p.cls.length pc]) : Calls Tryd.prog 9 #[.agg #[.int .i64 p.main, .slice pa p.cls.length pc]] w (LdP p w) := by
  obtain ⟨y, hy, h1⟩ := hR
  obtain rfl : y = .slice pa p.cls.length pc := by simpa using hy.symm
  exact Load_any hz hS h1
set_option maxHeartbeats 4000000 in
set_option maxRecDepth 20000 in
theorem order_out {S : Nat → Prop} {p : Pg} {pa : Option Addr} {pc : Nat} (a b c : Int) (w : World) (hS : ∀ k, S k → k < w.heap.size) (hR : kPg.R w S p [.int .i64 p.main, .slice pa p.cls.length pc]) (hl : Shr (gPg p)) (hv : wthP p = false) : Calls Tryd.prog 4 #[.agg #[.int .i64 p.main, .slice pa p.cls.length pc], .int .i64 a, .int .i64 b, .int .i64 c] w fun e w' => e = .returned (.bool true) ∧ Below w.heap.size w w' := by
  have HV : Hid (wthP p = false) := hv
  clear hv
  have hR2 := hR
  have hz : (w.alloc (.cells #[.int .i64 p.main, .slice pa p.cls.length pc] 24)).heap.size = w.heap.size + 1 := by simp
  have HZ : Hid ((w.alloc (.cells #[.int .i64 p.main, .slice pa p.cls.length pc] 24)).heap.size = w.heap.size + 1) := hz
  have HR0 : Hid (kPg.R (w.alloc (.cells #[.int .i64 p.main, .slice pa p.cls.length pc] 24)) S p [.int .i64 p.main, .slice pa p.cls.length pc]) := kPg.keep (fun k hk => Below.heap_alloc _ _ _ (hS k hk)) hR
  have HB0 : Hid ((w.alloc (.cells #[.int .i64 p.main, .slice pa p.cls.length pc] 24)).heap[w.heap.size]? = some (.cells #[.int .i64 p.main, .slice pa p.cls.length pc] 24 (0, 0))) := heap_alloc_new _ _
  have HW : Hid (Below w.heap.size w (w.alloc (.cells #[.int .i64 p.main, .slice pa p.cls.length pc] 24))) := (Below.refl _ _).alloc (Nat.le_refl _) _
  have HS : Hid (∀ k, S k → k < w.heap.size) := hS
  have HSH : Hid (Shr (gPg p)) := hl
  have hA := awake17 (w.alloc (.cells #[.int .i64 p.main, .slice pa p.cls.length pc] 24))
  clear hz hR hR2 hS hl
  go_enter Tryd.func4, Tryd.ntmps4
  go_wp2_with (first
    | (go_at_call 8; refine hA.mono ?_; rintro e u0 ⟨rfl, hb0⟩; have hbx : u0.heap[w.heap.size]? = some (.cells #[.int .i64 p.main, .slice pa p.cls.length pc] 24 (0, 0)) := (hb0.block _ (by rw [HZ.out]; omega)).trans HB0.out; have HX0 : Hid (u0.heap[w.heap.size]? = some (.cells #[.int .i64 p.main, .slice pa p.cls.length pc] 24 (0, 0))) := hbx; have HU0 : Hid (Below w.heap.size w u0) := HW.out.trans (hb0.mono (by rw [HZ.out]; omega)); have HR1 : Hid (kPg.R u0 S p [.int .i64 p.main, .slice pa p.cls.length pc]) := kPg.keep (fun k hk => hb0.block k (by have := HS.out k hk; rw [HZ.out]; omega)) HR0.out; have hWi := within_any u0 (fun k hk => by have := HS.out k hk; have := HU0.out.size; omega) HR1.out HSH.out; rw [HV.out] at hWi; clear hA hb0 hbx)
    | (refine wpList_load_row rfl 24 _ rfl w.heap.size rfl 24 _ (0, 0) _ HX0.out Tryd.underlying24 rfl infoRPg ?_)
    | (go_at_call 7; refine hWi.mono ?_; rintro e u1 ⟨rfl, hb1⟩; have HU1 : Hid (Below w.heap.size w u1) := HU0.out.trans (hb1.mono HU0.out.size); clear hWi hb1))
  go_ret
  exact ⟨rfl, HU1.out⟩
set_option maxHeartbeats 4000000 in
set_option maxRecDepth 20000 in
theorem order_err {S : Nat → Prop} {p : Pg} {pa : Option Addr} {pc : Nat} (a b c : Int) (w : World) (hS : ∀ k, S k → k < w.heap.size) (hR : kPg.R w S p [.int .i64 p.main, .slice pa p.cls.length pc]) (hl : Shr (gPg p)) (hv : wthP p = true) (hok : Okz p) {s : Fs} (hs : loadJ p = .error s) : Calls Tryd.prog 4 #[.agg #[.int .i64 p.main, .slice pa p.cls.length pc], .int .i64 a, .int .i64 b, .int .i64 c] w fun e w' => e = .returned (.bool true) ∧ Below w.heap.size w w' := by
  have HV : Hid (wthP p = true) := hv
  have HOK : Hid (Okz p) := hok
  have HLP : Hid (∀ (u : World) (e : Ending) (w' : World), LdP p u e w' → e = .returned (.tuple #[.slice none 0 0, .int .i64 s.2, .int .i64 s.1]) ∧ Below u.heap.size u w') := fun u e w' h => by
    obtain ⟨hb, h⟩ := h
    rw [hs] at h
    exact ⟨h, hb⟩
  have t1 : (s.1 != 0) = true := by simp [load_er hs]
  generalize s.1 = s1 at *
  generalize s.2 = s2 at *
  clear hv hok hs
  have hR2 := hR
  have hz : (w.alloc (.cells #[.int .i64 p.main, .slice pa p.cls.length pc] 24)).heap.size = w.heap.size + 1 := by simp
  have HZ : Hid ((w.alloc (.cells #[.int .i64 p.main, .slice pa p.cls.length pc] 24)).heap.size = w.heap.size + 1) := hz
  have HR0 : Hid (kPg.R (w.alloc (.cells #[.int .i64 p.main, .slice pa p.cls.length pc] 24)) S p [.int .i64 p.main, .slice pa p.cls.length pc]) := kPg.keep (fun k hk => Below.heap_alloc _ _ _ (hS k hk)) hR
  have HB0 : Hid ((w.alloc (.cells #[.int .i64 p.main, .slice pa p.cls.length pc] 24)).heap[w.heap.size]? = some (.cells #[.int .i64 p.main, .slice pa p.cls.length pc] 24 (0, 0))) := heap_alloc_new _ _
  have HW : Hid (Below w.heap.size w (w.alloc (.cells #[.int .i64 p.main, .slice pa p.cls.length pc] 24))) := (Below.refl _ _).alloc (Nat.le_refl _) _
  have HS : Hid (∀ k, S k → k < w.heap.size) := hS
  have HSH : Hid (Shr (gPg p)) := hl
  have hA := awake17 (w.alloc (.cells #[.int .i64 p.main, .slice pa p.cls.length pc] 24))
  clear hz hR hR2 hS hl
  go_enter Tryd.func4, Tryd.ntmps4
  go_wp2_with (first
    | (go_at_call 8; refine hA.mono ?_; rintro e u0 ⟨rfl, hb0⟩; have hbx : u0.heap[w.heap.size]? = some (.cells #[.int .i64 p.main, .slice pa p.cls.length pc] 24 (0, 0)) := (hb0.block _ (by rw [HZ.out]; omega)).trans HB0.out; have HX0 : Hid (u0.heap[w.heap.size]? = some (.cells #[.int .i64 p.main, .slice pa p.cls.length pc] 24 (0, 0))) := hbx; have HU0 : Hid (Below w.heap.size w u0) := HW.out.trans (hb0.mono (by rw [HZ.out]; omega)); have HR1 : Hid (kPg.R u0 S p [.int .i64 p.main, .slice pa p.cls.length pc]) := kPg.keep (fun k hk => hb0.block k (by have := HS.out k hk; rw [HZ.out]; omega)) HR0.out; have hWi := within_any u0 (fun k hk => by have := HS.out k hk; have := HU0.out.size; omega) HR1.out HSH.out; rw [HV.out] at hWi; clear hA hb0 hbx)
    | (refine wpList_load_row rfl 24 _ rfl w.heap.size rfl 24 _ (0, 0) _ HX0.out Tryd.underlying24 rfl infoRPg ?_)
    | (go_at_call 7; refine hWi.mono ?_; rintro e u1 ⟨rfl, hb1⟩; have hbx1 : u1.heap[w.heap.size]? = some (.cells #[.int .i64 p.main, .slice pa p.cls.length pc] 24 (0, 0)) := (hb1.block _ (Array.getElem?_eq_some_iff.1 HX0.out).1).trans HX0.out; have HX1 : Hid (u1.heap[w.heap.size]? = some (.cells #[.int .i64 p.main, .slice pa p.cls.length pc] 24 (0, 0))) := hbx1; have HU1 : Hid (Below w.heap.size w u1) := HU0.out.trans (hb1.mono HU0.out.size); have HR2 : Hid (kPg.R u1 S p [.int .i64 p.main, .slice pa p.cls.length pc]) := kPg.keep (fun k hk => hb1.block k (by have := HS.out k hk; have := HU0.out.size; omega)) HR1.out; have hLd := (load_at HOK.out (fun k hk => by have := HS.out k hk; have := HU1.out.size; omega) HR2.out).mono (HLP.out u1); clear hWi hb1 hbx1 HX0)
    | (refine wpList_load_row rfl 24 _ rfl w.heap.size rfl 24 _ (0, 0) _ HX1.out Tryd.underlying24 rfl infoRPg ?_)
    | (go_at_call 9; refine hLd.mono ?_; rintro e u2 ⟨rfl, hb2⟩; have HU2 : Hid (Below w.heap.size w u2) := HU1.out.trans (hb2.mono HU1.out.size); clear hLd hb2))
  go_ret
  exact ⟨by first | rfl | rw [t1], HU2.out⟩
set_option maxHeartbeats 4000000 in
set_option maxRecDepth 20000 in
theorem order_b0 {S : Nat → Prop} {p : Pg} {pa : Option Addr} {pc : Nat} (a b c : Int) (w : World) (hS : ∀ k, S k → k < w.heap.size) (hR : kPg.R w S p [.int .i64 p.main, .slice pa p.cls.length pc]) (hl : Shr (gPg p)) (hv : wthP p = true) (hok : Okz p) {ls : List Ly} (hs : loadJ p = .ok ls) (hab : ∀ y ∈ ls, y.abv.length ≤ 9223372036854775806) (ra : a ≤ 9223372036854775807) (rb : b ≤ 9223372036854775807) (rc : c ≤ 9223372036854775807) (h0 : b = 0) : Calls Tryd.prog 4 #[.agg #[.int .i64 p.main, .slice pa p.cls.length pc], .int .i64 a, .int .i64 b, .int .i64 c] w fun e w' => e = .returned (.bool true) ∧ Below w.heap.size w w' := by
  have HV : Hid (wthP p = true) := hv
  have HOK : Hid (Okz p) := hok
  have HLP : Hid (∀ (u : World) (e : Ending) (w' : World), LdP p u e w' → ∃ ao cap, e = .returned (.tuple #[.slice ao ls.length cap, .int .i64 0, .int .i64 0]) ∧ Below u.heap.size u w' ∧ ∃ L, Sl kLy w' L (.slice ao ls.length cap) ls) := fun u e w' h => by
    obtain ⟨hb, h⟩ := h
    rw [hs] at h
    obtain ⟨ao, cap, he, hl⟩ := h
    exact ⟨ao, cap, he, hb, _, Sl.soft (K := kLyU) (fun _ _ ⟨_, _, _, q, h1, h2, h3⟩ => ⟨_, _, _, q, soft_Fd h1, soft_En h2, soft_I h3⟩) rfl rfl hl⟩
  have HAB : Hid (∀ y ∈ ls, y.abv.length ≤ 9223372036854775806) := hab
  clear hab
  have HA : Hid (a ≤ 9223372036854775807 ∧ b ≤ 9223372036854775807 ∧ c ≤ 9223372036854775807) := ⟨ra, rb, rc⟩
  have HF1 : Hid (fitT ls a a = true) := fit_refl ls a
  have e0 : (b == 0) = true := by simp [h0]
  clear h0
  clear hv hok hs ra rb rc
  have hR2 := hR
  have hz : (w.alloc (.cells #[.int .i64 p.main, .slice pa p.cls.length pc] 24)).heap.size = w.heap.size + 1 := by simp
  have HZ : Hid ((w.alloc (.cells #[.int .i64 p.main, .slice pa p.cls.length pc] 24)).heap.size = w.heap.size + 1) := hz
  have HR0 : Hid (kPg.R (w.alloc (.cells #[.int .i64 p.main, .slice pa p.cls.length pc] 24)) S p [.int .i64 p.main, .slice pa p.cls.length pc]) := kPg.keep (fun k hk => Below.heap_alloc _ _ _ (hS k hk)) hR
  have HB0 : Hid ((w.alloc (.cells #[.int .i64 p.main, .slice pa p.cls.length pc] 24)).heap[w.heap.size]? = some (.cells #[.int .i64 p.main, .slice pa p.cls.length pc] 24 (0, 0))) := heap_alloc_new _ _
  have HW : Hid (Below w.heap.size w (w.alloc (.cells #[.int .i64 p.main, .slice pa p.cls.length pc] 24))) := (Below.refl _ _).alloc (Nat.le_refl _) _
  have HS : Hid (∀ k, S k → k < w.heap.size) := hS
  have HSH : Hid (Shr (gPg p)) := hl
  have hA := awake17 (w.alloc (.cells #[.int .i64 p.main, .slice pa p.cls.length pc] 24))
  clear hz hR hR2 hS hl
  go_enter Tryd.func4, Tryd.ntmps4
  go_wp2_with (first
    | (go_at_call 8; refine hA.mono ?_; rintro e u0 ⟨rfl, hb0⟩; have hbx : u0.heap[w.heap.size]? = some (.cells #[.int .i64 p.main, .slice pa p.cls.length pc] 24 (0, 0)) := (hb0.block _ (by rw [HZ.out]; omega)).trans HB0.out; have HX0 : Hid (u0.heap[w.heap.size]? = some (.cells #[.int .i64 p.main, .slice pa p.cls.length pc] 24 (0, 0))) := hbx; have HU0 : Hid (Below w.heap.size w u0) := HW.out.trans (hb0.mono (by rw [HZ.out]; omega)); have HR1 : Hid (kPg.R u0 S p [.int .i64 p.main, .slice pa p.cls.length pc]) := kPg.keep (fun k hk => hb0.block k (by have := HS.out k hk; rw [HZ.out]; omega)) HR0.out; have hWi := within_any u0 (fun k hk => by have := HS.out k hk; have := HU0.out.size; omega) HR1.out HSH.out; rw [HV.out] at hWi; clear hA hb0 hbx)
    | (refine wpList_load_row rfl 24 _ rfl w.heap.size rfl 24 _ (0, 0) _ HX0.out Tryd.underlying24 rfl infoRPg ?_)
    | (go_at_call 7; refine hWi.mono ?_; rintro e u1 ⟨rfl, hb1⟩; have hbx1 : u1.heap[w.heap.size]? = some (.cells #[.int .i64 p.main, .slice pa p.cls.length pc] 24 (0, 0)) := (hb1.block _ (Array.getElem?_eq_some_iff.1 HX0.out).1).trans HX0.out; have HX1 : Hid (u1.heap[w.heap.size]? = some (.cells #[.int .i64 p.main, .slice pa p.cls.length pc] 24 (0, 0))) := hbx1; have HU1 : Hid (Below w.heap.size w u1) := HU0.out.trans (hb1.mono HU0.out.size); have HR2 : Hid (kPg.R u1 S p [.int .i64 p.main, .slice pa p.cls.length pc]) := kPg.keep (fun k hk => hb1.block k (by have := HS.out k hk; have := HU0.out.size; omega)) HR1.out; have hLd := (load_at HOK.out (fun k hk => by have := HS.out k hk; have := HU1.out.size; omega) HR2.out).mono (HLP.out u1); clear hWi hb1 hbx1 HX0)
    | (refine wpList_load_row rfl 24 _ rfl w.heap.size rfl 24 _ (0, 0) _ HX1.out Tryd.underlying24 rfl infoRPg ?_)
    | (go_at_call 9; refine hLd.mono ?_; rintro e u2 ⟨ao, cap, rfl, hb2, L, hs2⟩; have HU2 : Hid (Below w.heap.size w u2) := HU1.out.trans (hb2.mono HU1.out.size); have hF1 := tfits_ok hs2 HAB.out a a HA.out.1 HA.out.1; rw [HF1.out] at hF1; clear hLd hb2 hs2)
    | (go_at_call 15; first
      | (refine hF1.mono ?_; clear hF1; rintro e w9 ⟨rfl, hw9⟩; replace hw9 := hw9.symm; subst hw9)
      | (refine hF2.mono ?_; clear hF2; rintro e w9 ⟨rfl, hw9⟩; replace hw9 := hw9.symm; subst hw9)
      | (refine hF3.mono ?_; clear hF3; rintro e w9 ⟨rfl, hw9⟩; replace hw9 := hw9.symm; subst hw9)
      | (refine hF4.mono ?_; clear hF4; rintro e w9 ⟨rfl, hw9⟩; replace hw9 := hw9.symm; subst hw9)))
  go_ret
  exact ⟨by first | rfl | simp, HU2.out⟩
set_option maxHeartbeats 4000000 in
set_option maxRecDepth 20000 in
theorem order_face {S : Nat → Prop} {p : Pg} {pa : Option Addr} {pc : Nat} (a b c : Int) (w : World) (hS : ∀ k, S k → k < w.heap.size) (hR : kPg.R w S p [.int .i64 p.main, .slice pa p.cls.length pc]) (hl : Shr (gPg p)) (hv : wthP p = true) (hok : Okz p) {ls : List Ly} (hs : loadJ p = .ok ls) (hab : ∀ y ∈ ls, y.abv.length ≤ 9223372036854775806) (ra : a ≤ 9223372036854775807) (rb : b ≤ 9223372036854775807) (rc : c ≤ 9223372036854775807) (h16 : 16 ≤ b) (hin : b - 16 < (ls.length : Int)) (hof : (lyAt ls (b - 16)).off = -1) : Calls Tryd.prog 4 #[.agg #[.int .i64 p.main, .slice pa p.cls.length pc], .int .i64 a, .int .i64 b, .int .i64 c] w fun e w' => e = .returned (.bool true) ∧ Below w.heap.size w w' := by
  have HV : Hid (wthP p = true) := hv
  have HOK : Hid (Okz p) := hok
  have HLP : Hid (∀ (u : World) (e : Ending) (w' : World), LdP p u e w' → ∃ ao cap, e = .returned (.tuple #[.slice ao ls.length cap, .int .i64 0, .int .i64 0]) ∧ Below u.heap.size u w' ∧ ∃ L, Sl kLy w' L (.slice ao ls.length cap) ls) := fun u e w' h => by
    obtain ⟨hb, h⟩ := h
    rw [hs] at h
    obtain ⟨ao, cap, he, hl⟩ := h
    exact ⟨ao, cap, he, hb, _, Sl.soft (K := kLyU) (fun _ _ ⟨_, _, _, q, h1, h2, h3⟩ => ⟨_, _, _, q, soft_Fd h1, soft_En h2, soft_I h3⟩) rfl rfl hl⟩
  have HAB : Hid (∀ y ∈ ls, y.abv.length ≤ 9223372036854775806) := hab
  clear hab
  have HA : Hid (a ≤ 9223372036854775807 ∧ b ≤ 9223372036854775807 ∧ c ≤ 9223372036854775807) := ⟨ra, rb, rc⟩
  have HF1 : Hid (fitT ls a a = true) := fit_refl ls a
  have e0 : (b == 0) = false := by rw [beq_eq_false_iff_ne]; omega
  have d16 : decide (16 ≤ b) = true := by simp [h16]
  have HIN : Hid (inT ls (b - 16) = true) := by show _ = _; simp [inT, hin]; omega
  have HWR : Hid (wrap64 (b - 16) = b - 16) := by show _ = _; unfold wrap64; omega
  obtain ⟨off, hoff⟩ : ∃ off, (lyAt ls (b - 16)).off = off := ⟨_, rfl⟩
  have HOF : Hid ((lyAt ls (b - 16)).off = off) := hoff
  have eo : (off == -1) = true := by rw [← hoff, hof]; rfl
  clear h16 hin hof hoff
  clear hv hok hs ra rb rc
  have hR2 := hR
  have hz : (w.alloc (.cells #[.int .i64 p.main, .slice pa p.cls.length pc] 24)).heap.size = w.heap.size + 1 := by simp
  have HZ : Hid ((w.alloc (.cells #[.int .i64 p.main, .slice pa p.cls.length pc] 24)).heap.size = w.heap.size + 1) := hz
  have HR0 : Hid (kPg.R (w.alloc (.cells #[.int .i64 p.main, .slice pa p.cls.length pc] 24)) S p [.int .i64 p.main, .slice pa p.cls.length pc]) := kPg.keep (fun k hk => Below.heap_alloc _ _ _ (hS k hk)) hR
  have HB0 : Hid ((w.alloc (.cells #[.int .i64 p.main, .slice pa p.cls.length pc] 24)).heap[w.heap.size]? = some (.cells #[.int .i64 p.main, .slice pa p.cls.length pc] 24 (0, 0))) := heap_alloc_new _ _
  have HW : Hid (Below w.heap.size w (w.alloc (.cells #[.int .i64 p.main, .slice pa p.cls.length pc] 24))) := (Below.refl _ _).alloc (Nat.le_refl _) _
  have HS : Hid (∀ k, S k → k < w.heap.size) := hS
  have HSH : Hid (Shr (gPg p)) := hl
  have hA := awake17 (w.alloc (.cells #[.int .i64 p.main, .slice pa p.cls.length pc] 24))
  clear hz hR hR2 hS hl
  go_enter Tryd.func4, Tryd.ntmps4
  go_wp2_with (first
    | (go_at_call 8; refine hA.mono ?_; rintro e u0 ⟨rfl, hb0⟩; have hbx : u0.heap[w.heap.size]? = some (.cells #[.int .i64 p.main, .slice pa p.cls.length pc] 24 (0, 0)) := (hb0.block _ (by rw [HZ.out]; omega)).trans HB0.out; have HX0 : Hid (u0.heap[w.heap.size]? = some (.cells #[.int .i64 p.main, .slice pa p.cls.length pc] 24 (0, 0))) := hbx; have HU0 : Hid (Below w.heap.size w u0) := HW.out.trans (hb0.mono (by rw [HZ.out]; omega)); have HR1 : Hid (kPg.R u0 S p [.int .i64 p.main, .slice pa p.cls.length pc]) := kPg.keep (fun k hk => hb0.block k (by have := HS.out k hk; rw [HZ.out]; omega)) HR0.out; have hWi := within_any u0 (fun k hk => by have := HS.out k hk; have := HU0.out.size; omega) HR1.out HSH.out; rw [HV.out] at hWi; clear hA hb0 hbx)
    | (refine wpList_load_row rfl 24 _ rfl w.heap.size rfl 24 _ (0, 0) _ HX0.out Tryd.underlying24 rfl infoRPg ?_)
    | (go_at_call 7; refine hWi.mono ?_; rintro e u1 ⟨rfl, hb1⟩; have hbx1 : u1.heap[w.heap.size]? = some (.cells #[.int .i64 p.main, .slice pa p.cls.length pc] 24 (0, 0)) := (hb1.block _ (Array.getElem?_eq_some_iff.1 HX0.out).1).trans HX0.out; have HX1 : Hid (u1.heap[w.heap.size]? = some (.cells #[.int .i64 p.main, .slice pa p.cls.length pc] 24 (0, 0))) := hbx1; have HU1 : Hid (Below w.heap.size w u1) := HU0.out.trans (hb1.mono HU0.out.size); have HR2 : Hid (kPg.R u1 S p [.int .i64 p.main, .slice pa p.cls.length pc]) := kPg.keep (fun k hk => hb1.block k (by have := HS.out k hk; have := HU0.out.size; omega)) HR1.out; have hLd := (load_at HOK.out (fun k hk => by have := HS.out k hk; have := HU1.out.size; omega) HR2.out).mono (HLP.out u1); clear hWi hb1 hbx1 HX0)
    | (refine wpList_load_row rfl 24 _ rfl w.heap.size rfl 24 _ (0, 0) _ HX1.out Tryd.underlying24 rfl infoRPg ?_)
    | (go_at_call 9; refine hLd.mono ?_; rintro e u2 ⟨ao, cap, rfl, hb2, L, hs2⟩; have HU2 : Hid (Below w.heap.size w u2) := HU1.out.trans (hb2.mono HU1.out.size); have hF1 := tfits_ok hs2 HAB.out a a HA.out.1 HA.out.1; rw [HF1.out] at hF1; obtain ⟨i, hi, hil, B, o, a3, c3, rfl, k1, -, -⟩ := ly_get hs2 HIN.out; have hi16 : wrap64 (b - 16) = (i : Int) := (by rw [← hi]; exact HWR.out); have hil2 : (i : Int) < (ls.length : Int) := (by omega); have k2 : u2.cell? ⟨B, o + i * 4 + 1, none⟩ = some (.int .i64 off) := (by rw [k1]; exact congrArg _ (congrArg _ HOF.out)); clear hi k1 hil; clear hLd hb2 hs2)
    | (go_at_call 15; first
      | (refine hF1.mono ?_; clear hF1; rintro e w9 ⟨rfl, hw9⟩; replace hw9 := hw9.symm; subst hw9)
      | (refine hF2.mono ?_; clear hF2; rintro e w9 ⟨rfl, hw9⟩; replace hw9 := hw9.symm; subst hw9)
      | (refine hF3.mono ?_; clear hF3; rintro e w9 ⟨rfl, hw9⟩; replace hw9 := hw9.symm; subst hw9)
      | (refine hF4.mono ?_; clear hF4; rintro e w9 ⟨rfl, hw9⟩; replace hw9 := hw9.symm; subst hw9)))
  go_ret
  exact ⟨by first | rfl | simp, HU2.out⟩
set_option maxHeartbeats 4000000 in
set_option maxRecDepth 20000 in
theorem order_in {S : Nat → Prop} {p : Pg} {pa : Option Addr} {pc : Nat} (a b c : Int) (w : World) (hS : ∀ k, S k → k < w.heap.size) (hR : kPg.R w S p [.int .i64 p.main, .slice pa p.cls.length pc]) (hl : Shr (gPg p)) (hv : wthP p = true) (hok : Okz p) {ls : List Ly} (hs : loadJ p = .ok ls) (hab : ∀ y ∈ ls, y.abv.length ≤ 9223372036854775806) (ra : a ≤ 9223372036854775807) (rb : b ≤ 9223372036854775807) (rc : c ≤ 9223372036854775807) (h0 : b ≠ 0) (h16 : 16 ≤ b) (hin : b - 16 < (ls.length : Int)) (hof : (lyAt ls (b - 16)).off ≠ -1) {x2 x3 x4 : Bool} (f2 : fitT ls a b = x2) (f3 : fitT ls b c = x3) (f4 : fitT ls a c = x4) (hx : (!x2 || (!x3 || x4)) = true) : Calls Tryd.prog 4 #[.agg #[.int .i64 p.main, .slice pa p.cls.length pc], .int .i64 a, .int .i64 b, .int .i64 c] w fun e w' => e = .returned (.bool true) ∧ Below w.heap.size w w' := by
  have HV : Hid (wthP p = true) := hv
  have HOK : Hid (Okz p) := hok
  have HLP : Hid (∀ (u : World) (e : Ending) (w' : World), LdP p u e w' → ∃ ao cap, e = .returned (.tuple #[.slice ao ls.length cap, .int .i64 0, .int .i64 0]) ∧ Below u.heap.size u w' ∧ ∃ L, Sl kLy w' L (.slice ao ls.length cap) ls) := fun u e w' h => by
    obtain ⟨hb, h⟩ := h
    rw [hs] at h
    obtain ⟨ao, cap, he, hl⟩ := h
    exact ⟨ao, cap, he, hb, _, Sl.soft (K := kLyU) (fun _ _ ⟨_, _, _, q, h1, h2, h3⟩ => ⟨_, _, _, q, soft_Fd h1, soft_En h2, soft_I h3⟩) rfl rfl hl⟩
  have HAB : Hid (∀ y ∈ ls, y.abv.length ≤ 9223372036854775806) := hab
  clear hab
  have HA : Hid (a ≤ 9223372036854775807 ∧ b ≤ 9223372036854775807 ∧ c ≤ 9223372036854775807) := ⟨ra, rb, rc⟩
  have HF1 : Hid (fitT ls a a = true) := fit_refl ls a
  have HF2 : Hid (fitT ls a b = x2) := f2
  have HF3 : Hid (fitT ls b c = x3) := f3
  have HF4 : Hid (fitT ls a c = x4) := f4
  clear f2 f3 f4
  have e0 : (b == 0) = false := by rw [beq_eq_false_iff_ne]; omega
  have d16 : decide (16 ≤ b) = true := by simp [h16]
  have HIN : Hid (inT ls (b - 16) = true) := by show _ = _; simp [inT, hin]; omega
  have HWR : Hid (wrap64 (b - 16) = b - 16) := by show _ = _; unfold wrap64; omega
  obtain ⟨off, hoff⟩ : ∃ off, (lyAt ls (b - 16)).off = off := ⟨_, rfl⟩
  have HOF : Hid ((lyAt ls (b - 16)).off = off) := hoff
  have eo : (off == -1) = false := by rw [← hoff]; simp [hof]
  clear h0 h16 hin hof hoff
  clear hv hok hs ra rb rc
  have hR2 := hR
  have hz : (w.alloc (.cells #[.int .i64 p.main, .slice pa p.cls.length pc] 24)).heap.size = w.heap.size + 1 := by simp
  have HZ : Hid ((w.alloc (.cells #[.int .i64 p.main, .slice pa p.cls.length pc] 24)).heap.size = w.heap.size + 1) := hz
  have HR0 : Hid (kPg.R (w.alloc (.cells #[.int .i64 p.main, .slice pa p.cls.length pc] 24)) S p [.int .i64 p.main, .slice pa p.cls.length pc]) := kPg.keep (fun k hk => Below.heap_alloc _ _ _ (hS k hk)) hR
  have HB0 : Hid ((w.alloc (.cells #[.int .i64 p.main, .slice pa p.cls.length pc] 24)).heap[w.heap.size]? = some (.cells #[.int .i64 p.main, .slice pa p.cls.length pc] 24 (0, 0))) := heap_alloc_new _ _
  have HW : Hid (Below w.heap.size w (w.alloc (.cells #[.int .i64 p.main, .slice pa p.cls.length pc] 24))) := (Below.refl _ _).alloc (Nat.le_refl _) _
  have HS : Hid (∀ k, S k → k < w.heap.size) := hS
  have HSH : Hid (Shr (gPg p)) := hl
  have hA := awake17 (w.alloc (.cells #[.int .i64 p.main, .slice pa p.cls.length pc] 24))
  clear hz hR hR2 hS hl
  rcases x2 with _ | _ <;> rcases x3 with _ | _ <;> rcases x4 with _ | _ <;> first | (exact absurd hx (by decide)) | skip
  all_goals clear hx
  all_goals (
  go_enter Tryd.func4, Tryd.ntmps4
  go_wp2_with (first
    | (go_at_call 8; refine hA.mono ?_; rintro e u0 ⟨rfl, hb0⟩; have hbx : u0.heap[w.heap.size]? = some (.cells #[.int .i64 p.main, .slice pa p.cls.length pc] 24 (0, 0)) := (hb0.block _ (by rw [HZ.out]; omega)).trans HB0.out; have HX0 : Hid (u0.heap[w.heap.size]? = some (.cells #[.int .i64 p.main, .slice pa p.cls.length pc] 24 (0, 0))) := hbx; have HU0 : Hid (Below w.heap.size w u0) := HW.out.trans (hb0.mono (by rw [HZ.out]; omega)); have HR1 : Hid (kPg.R u0 S p [.int .i64 p.main, .slice pa p.cls.length pc]) := kPg.keep (fun k hk => hb0.block k (by have := HS.out k hk; rw [HZ.out]; omega)) HR0.out; have hWi := within_any u0 (fun k hk => by have := HS.out k hk; have := HU0.out.size; omega) HR1.out HSH.out; rw [HV.out] at hWi; clear hA hb0 hbx)
    | (refine wpList_load_row rfl 24 _ rfl w.heap.size rfl 24 _ (0, 0) _ HX0.out Tryd.underlying24 rfl infoRPg ?_)
    | (go_at_call 7; refine hWi.mono ?_; rintro e u1 ⟨rfl, hb1⟩; have hbx1 : u1.heap[w.heap.size]? = some (.cells #[.int .i64 p.main, .slice pa p.cls.length pc] 24 (0, 0)) := (hb1.block _ (Array.getElem?_eq_some_iff.1 HX0.out).1).trans HX0.out; have HX1 : Hid (u1.heap[w.heap.size]? = some (.cells #[.int .i64 p.main, .slice pa p.cls.length pc] 24 (0, 0))) := hbx1; have HU1 : Hid (Below w.heap.size w u1) := HU0.out.trans (hb1.mono HU0.out.size); have HR2 : Hid (kPg.R u1 S p [.int .i64 p.main, .slice pa p.cls.length pc]) := kPg.keep (fun k hk => hb1.block k (by have := HS.out k hk; have := HU0.out.size; omega)) HR1.out; have hLd := (load_at HOK.out (fun k hk => by have := HS.out k hk; have := HU1.out.size; omega) HR2.out).mono (HLP.out u1); clear hWi hb1 hbx1 HX0)
    | (refine wpList_load_row rfl 24 _ rfl w.heap.size rfl 24 _ (0, 0) _ HX1.out Tryd.underlying24 rfl infoRPg ?_)
    | (go_at_call 9; refine hLd.mono ?_; rintro e u2 ⟨ao, cap, rfl, hb2, L, hs2⟩; have HU2 : Hid (Below w.heap.size w u2) := HU1.out.trans (hb2.mono HU1.out.size); have hF1 := tfits_ok hs2 HAB.out a a HA.out.1 HA.out.1; rw [HF1.out] at hF1; have hF2 := tfits_ok hs2 HAB.out a b HA.out.1 HA.out.2.1; rw [HF2.out] at hF2; have hF3 := tfits_ok hs2 HAB.out b c HA.out.2.1 HA.out.2.2; rw [HF3.out] at hF3; have hF4 := tfits_ok hs2 HAB.out a c HA.out.1 HA.out.2.2; rw [HF4.out] at hF4; obtain ⟨i, hi, hil, B, o, a3, c3, rfl, k1, -, -⟩ := ly_get hs2 HIN.out; have hi16 : wrap64 (b - 16) = (i : Int) := (by rw [← hi]; exact HWR.out); have hil2 : (i : Int) < (ls.length : Int) := (by omega); have k2 : u2.cell? ⟨B, o + i * 4 + 1, none⟩ = some (.int .i64 off) := (by rw [k1]; exact congrArg _ (congrArg _ HOF.out)); clear hi k1 hil; clear hLd hb2 hs2)
    | (go_at_call 15; first
      | (refine hF1.mono ?_; clear hF1; rintro e w9 ⟨rfl, hw9⟩; replace hw9 := hw9.symm; subst hw9)
      | (refine hF2.mono ?_; clear hF2; rintro e w9 ⟨rfl, hw9⟩; replace hw9 := hw9.symm; subst hw9)
      | (refine hF3.mono ?_; clear hF3; rintro e w9 ⟨rfl, hw9⟩; replace hw9 := hw9.symm; subst hw9)
      | (refine hF4.mono ?_; clear hF4; rintro e w9 ⟨rfl, hw9⟩; replace hw9 := hw9.symm; subst hw9)))
  go_ret
  exact ⟨by first | rfl | simp, HU2.out⟩)
set_option maxHeartbeats 4000000 in
set_option maxRecDepth 20000 in
theorem order_far {S : Nat → Prop} {p : Pg} {pa : Option Addr} {pc : Nat} (a b c : Int) (w : World) (hS : ∀ k, S k → k < w.heap.size) (hR : kPg.R w S p [.int .i64 p.main, .slice pa p.cls.length pc]) (hl : Shr (gPg p)) (hv : wthP p = true) (hok : Okz p) {ls : List Ly} (hs : loadJ p = .ok ls) (hab : ∀ y ∈ ls, y.abv.length ≤ 9223372036854775806) (ra : a ≤ 9223372036854775807) (rb : b ≤ 9223372036854775807) (rc : c ≤ 9223372036854775807) (h0 : b ≠ 0) (h16 : 16 ≤ b) (hin : (ls.length : Int) ≤ b - 16) {x2 x3 x4 : Bool} (f2 : fitT ls a b = x2) (f3 : fitT ls b c = x3) (f4 : fitT ls a c = x4) (hx : (!x2 || (!x3 || x4)) = true) : Calls Tryd.prog 4 #[.agg #[.int .i64 p.main, .slice pa p.cls.length pc], .int .i64 a, .int .i64 b, .int .i64 c] w fun e w' => e = .returned (.bool true) ∧ Below w.heap.size w w' := by
  have HV : Hid (wthP p = true) := hv
  have HOK : Hid (Okz p) := hok
  have HLP : Hid (∀ (u : World) (e : Ending) (w' : World), LdP p u e w' → ∃ ao cap, e = .returned (.tuple #[.slice ao ls.length cap, .int .i64 0, .int .i64 0]) ∧ Below u.heap.size u w' ∧ ∃ L, Sl kLy w' L (.slice ao ls.length cap) ls) := fun u e w' h => by
    obtain ⟨hb, h⟩ := h
    rw [hs] at h
    obtain ⟨ao, cap, he, hl⟩ := h
    exact ⟨ao, cap, he, hb, _, Sl.soft (K := kLyU) (fun _ _ ⟨_, _, _, q, h1, h2, h3⟩ => ⟨_, _, _, q, soft_Fd h1, soft_En h2, soft_I h3⟩) rfl rfl hl⟩
  have HAB : Hid (∀ y ∈ ls, y.abv.length ≤ 9223372036854775806) := hab
  clear hab
  have HA : Hid (a ≤ 9223372036854775807 ∧ b ≤ 9223372036854775807 ∧ c ≤ 9223372036854775807) := ⟨ra, rb, rc⟩
  have HF1 : Hid (fitT ls a a = true) := fit_refl ls a
  have HF2 : Hid (fitT ls a b = x2) := f2
  have HF3 : Hid (fitT ls b c = x3) := f3
  have HF4 : Hid (fitT ls a c = x4) := f4
  clear f2 f3 f4
  have e0 : (b == 0) = false := by rw [beq_eq_false_iff_ne]; omega
  have d16 : decide (16 ≤ b) = true := by simp [h16]
  obtain ⟨i, hi⟩ : ∃ i : Int, b - 16 = i := ⟨_, rfl⟩
  have hwi : wrap64 (b - 16) = i := by rw [← hi]; unfold wrap64; omega
  have hd : decide (i < (ls.length : Int)) = false := by simp; omega
  clear h0 h16 hin hi
  clear hv hok hs ra rb rc
  have hR2 := hR
  have hz : (w.alloc (.cells #[.int .i64 p.main, .slice pa p.cls.length pc] 24)).heap.size = w.heap.size + 1 := by simp
  have HZ : Hid ((w.alloc (.cells #[.int .i64 p.main, .slice pa p.cls.length pc] 24)).heap.size = w.heap.size + 1) := hz
  have HR0 : Hid (kPg.R (w.alloc (.cells #[.int .i64 p.main, .slice pa p.cls.length pc] 24)) S p [.int .i64 p.main, .slice pa p.cls.length pc]) := kPg.keep (fun k hk => Below.heap_alloc _ _ _ (hS k hk)) hR
  have HB0 : Hid ((w.alloc (.cells #[.int .i64 p.main, .slice pa p.cls.length pc] 24)).heap[w.heap.size]? = some (.cells #[.int .i64 p.main, .slice pa p.cls.length pc] 24 (0, 0))) := heap_alloc_new _ _
  have HW : Hid (Below w.heap.size w (w.alloc (.cells #[.int .i64 p.main, .slice pa p.cls.length pc] 24))) := (Below.refl _ _).alloc (Nat.le_refl _) _
  have HS : Hid (∀ k, S k → k < w.heap.size) := hS
  have HSH : Hid (Shr (gPg p)) := hl
  have hA := awake17 (w.alloc (.cells #[.int .i64 p.main, .slice pa p.cls.length pc] 24))
  clear hz hR hR2 hS hl
  rcases x2 with _ | _ <;> rcases x3 with _ | _ <;> rcases x4 with _ | _ <;> first | (exact absurd hx (by decide)) | skip
  all_goals clear hx
  all_goals (
  go_enter Tryd.func4, Tryd.ntmps4
  go_wp2_with (first
    | (go_at_call 8; refine hA.mono ?_; rintro e u0 ⟨rfl, hb0⟩; have hbx : u0.heap[w.heap.size]? = some (.cells #[.int .i64 p.main, .slice pa p.cls.length pc] 24 (0, 0)) := (hb0.block _ (by rw [HZ.out]; omega)).trans HB0.out; have HX0 : Hid (u0.heap[w.heap.size]? = some (.cells #[.int .i64 p.main, .slice pa p.cls.length pc] 24 (0, 0))) := hbx; have HU0 : Hid (Below w.heap.size w u0) := HW.out.trans (hb0.mono (by rw [HZ.out]; omega)); have HR1 : Hid (kPg.R u0 S p [.int .i64 p.main, .slice pa p.cls.length pc]) := kPg.keep (fun k hk => hb0.block k (by have := HS.out k hk; rw [HZ.out]; omega)) HR0.out; have hWi := within_any u0 (fun k hk => by have := HS.out k hk; have := HU0.out.size; omega) HR1.out HSH.out; rw [HV.out] at hWi; clear hA hb0 hbx)
    | (refine wpList_load_row rfl 24 _ rfl w.heap.size rfl 24 _ (0, 0) _ HX0.out Tryd.underlying24 rfl infoRPg ?_)
    | (go_at_call 7; refine hWi.mono ?_; rintro e u1 ⟨rfl, hb1⟩; have hbx1 : u1.heap[w.heap.size]? = some (.cells #[.int .i64 p.main, .slice pa p.cls.length pc] 24 (0, 0)) := (hb1.block _ (Array.getElem?_eq_some_iff.1 HX0.out).1).trans HX0.out; have HX1 : Hid (u1.heap[w.heap.size]? = some (.cells #[.int .i64 p.main, .slice pa p.cls.length pc] 24 (0, 0))) := hbx1; have HU1 : Hid (Below w.heap.size w u1) := HU0.out.trans (hb1.mono HU0.out.size); have HR2 : Hid (kPg.R u1 S p [.int .i64 p.main, .slice pa p.cls.length pc]) := kPg.keep (fun k hk => hb1.block k (by have := HS.out k hk; have := HU0.out.size; omega)) HR1.out; have hLd := (load_at HOK.out (fun k hk => by have := HS.out k hk; have := HU1.out.size; omega) HR2.out).mono (HLP.out u1); clear hWi hb1 hbx1 HX0)
    | (refine wpList_load_row rfl 24 _ rfl w.heap.size rfl 24 _ (0, 0) _ HX1.out Tryd.underlying24 rfl infoRPg ?_)
    | (go_at_call 9; refine hLd.mono ?_; rintro e u2 ⟨ao, cap, rfl, hb2, L, hs2⟩; have HU2 : Hid (Below w.heap.size w u2) := HU1.out.trans (hb2.mono HU1.out.size); have hF1 := tfits_ok hs2 HAB.out a a HA.out.1 HA.out.1; rw [HF1.out] at hF1; have hF2 := tfits_ok hs2 HAB.out a b HA.out.1 HA.out.2.1; rw [HF2.out] at hF2; have hF3 := tfits_ok hs2 HAB.out b c HA.out.2.1 HA.out.2.2; rw [HF3.out] at hF3; have hF4 := tfits_ok hs2 HAB.out a c HA.out.1 HA.out.2.2; rw [HF4.out] at hF4; clear hLd hb2 hs2)
    | (go_at_call 15; first
      | (refine hF1.mono ?_; clear hF1; rintro e w9 ⟨rfl, hw9⟩; replace hw9 := hw9.symm; subst hw9)
      | (refine hF2.mono ?_; clear hF2; rintro e w9 ⟨rfl, hw9⟩; replace hw9 := hw9.symm; subst hw9)
      | (refine hF3.mono ?_; clear hF3; rintro e w9 ⟨rfl, hw9⟩; replace hw9 := hw9.symm; subst hw9)
      | (refine hF4.mono ?_; clear hF4; rintro e w9 ⟨rfl, hw9⟩; replace hw9 := hw9.symm; subst hw9)))
  go_ret
  exact ⟨by first | rfl | simp, HU2.out⟩)
set_option maxHeartbeats 4000000 in
set_option maxRecDepth 20000 in
theorem order_low {S : Nat → Prop} {p : Pg} {pa : Option Addr} {pc : Nat} (a b c : Int) (w : World) (hS : ∀ k, S k → k < w.heap.size) (hR : kPg.R w S p [.int .i64 p.main, .slice pa p.cls.length pc]) (hl : Shr (gPg p)) (hv : wthP p = true) (hok : Okz p) {ls : List Ly} (hs : loadJ p = .ok ls) (hab : ∀ y ∈ ls, y.abv.length ≤ 9223372036854775806) (ra : a ≤ 9223372036854775807) (rb : b ≤ 9223372036854775807) (rc : c ≤ 9223372036854775807) (h0 : b ≠ 0) (h16 : b < 16) {x2 x3 x4 : Bool} (f2 : fitT ls a b = x2) (f3 : fitT ls b c = x3) (f4 : fitT ls a c = x4) (hx : (!x2 || (!x3 || x4)) = true) : Calls Tryd.prog 4 #[.agg #[.int .i64 p.main, .slice pa p.cls.length pc], .int .i64 a, .int .i64 b, .int .i64 c] w fun e w' => e = .returned (.bool true) ∧ Below w.heap.size w w' := by
  have HV : Hid (wthP p = true) := hv
  have HOK : Hid (Okz p) := hok
  have HLP : Hid (∀ (u : World) (e : Ending) (w' : World), LdP p u e w' → ∃ ao cap, e = .returned (.tuple #[.slice ao ls.length cap, .int .i64 0, .int .i64 0]) ∧ Below u.heap.size u w' ∧ ∃ L, Sl kLy w' L (.slice ao ls.length cap) ls) := fun u e w' h => by
    obtain ⟨hb, h⟩ := h
    rw [hs] at h
    obtain ⟨ao, cap, he, hl⟩ := h
    exact ⟨ao, cap, he, hb, _, Sl.soft (K := kLyU) (fun _ _ ⟨_, _, _, q, h1, h2, h3⟩ => ⟨_, _, _, q, soft_Fd h1, soft_En h2, soft_I h3⟩) rfl rfl hl⟩
  have HAB : Hid (∀ y ∈ ls, y.abv.length ≤ 9223372036854775806) := hab
  clear hab
  have HA : Hid (a ≤ 9223372036854775807 ∧ b ≤ 9223372036854775807 ∧ c ≤ 9223372036854775807) := ⟨ra, rb, rc⟩
  have HF1 : Hid (fitT ls a a = true) := fit_refl ls a
  have HF2 : Hid (fitT ls a b = x2) := f2
  have HF3 : Hid (fitT ls b c = x3) := f3
  have HF4 : Hid (fitT ls a c = x4) := f4
  clear f2 f3 f4
  have e0 : (b == 0) = false := by rw [beq_eq_false_iff_ne]; omega
  have d16 : decide (16 ≤ b) = false := by simp; omega
  clear h0 h16
  clear hv hok hs ra rb rc
  have hR2 := hR
  have hz : (w.alloc (.cells #[.int .i64 p.main, .slice pa p.cls.length pc] 24)).heap.size = w.heap.size + 1 := by simp
  have HZ : Hid ((w.alloc (.cells #[.int .i64 p.main, .slice pa p.cls.length pc] 24)).heap.size = w.heap.size + 1) := hz
  have HR0 : Hid (kPg.R (w.alloc (.cells #[.int .i64 p.main, .slice pa p.cls.length pc] 24)) S p [.int .i64 p.main, .slice pa p.cls.length pc]) := kPg.keep (fun k hk => Below.heap_alloc _ _ _ (hS k hk)) hR
  have HB0 : Hid ((w.alloc (.cells #[.int .i64 p.main, .slice pa p.cls.length pc] 24)).heap[w.heap.size]? = some (.cells #[.int .i64 p.main, .slice pa p.cls.length pc] 24 (0, 0))) := heap_alloc_new _ _
  have HW : Hid (Below w.heap.size w (w.alloc (.cells #[.int .i64 p.main, .slice pa p.cls.length pc] 24))) := (Below.refl _ _).alloc (Nat.le_refl _) _
  have HS : Hid (∀ k, S k → k < w.heap.size) := hS
  have HSH : Hid (Shr (gPg p)) := hl
  have hA := awake17 (w.alloc (.cells #[.int .i64 p.main, .slice pa p.cls.length pc] 24))
  clear hz hR hR2 hS hl
  rcases x2 with _ | _ <;> rcases x3 with _ | _ <;> rcases x4 with _ | _ <;> first | (exact absurd hx (by decide)) | skip
  all_goals clear hx
  all_goals (
  go_enter Tryd.func4, Tryd.ntmps4
  go_wp2_with (first
    | (go_at_call 8; refine hA.mono ?_; rintro e u0 ⟨rfl, hb0⟩; have hbx : u0.heap[w.heap.size]? = some (.cells #[.int .i64 p.main, .slice pa p.cls.length pc] 24 (0, 0)) := (hb0.block _ (by rw [HZ.out]; omega)).trans HB0.out; have HX0 : Hid (u0.heap[w.heap.size]? = some (.cells #[.int .i64 p.main, .slice pa p.cls.length pc] 24 (0, 0))) := hbx; have HU0 : Hid (Below w.heap.size w u0) := HW.out.trans (hb0.mono (by rw [HZ.out]; omega)); have HR1 : Hid (kPg.R u0 S p [.int .i64 p.main, .slice pa p.cls.length pc]) := kPg.keep (fun k hk => hb0.block k (by have := HS.out k hk; rw [HZ.out]; omega)) HR0.out; have hWi := within_any u0 (fun k hk => by have := HS.out k hk; have := HU0.out.size; omega) HR1.out HSH.out; rw [HV.out] at hWi; clear hA hb0 hbx)
    | (refine wpList_load_row rfl 24 _ rfl w.heap.size rfl 24 _ (0, 0) _ HX0.out Tryd.underlying24 rfl infoRPg ?_)
    | (go_at_call 7; refine hWi.mono ?_; rintro e u1 ⟨rfl, hb1⟩; have hbx1 : u1.heap[w.heap.size]? = some (.cells #[.int .i64 p.main, .slice pa p.cls.length pc] 24 (0, 0)) := (hb1.block _ (Array.getElem?_eq_some_iff.1 HX0.out).1).trans HX0.out; have HX1 : Hid (u1.heap[w.heap.size]? = some (.cells #[.int .i64 p.main, .slice pa p.cls.length pc] 24 (0, 0))) := hbx1; have HU1 : Hid (Below w.heap.size w u1) := HU0.out.trans (hb1.mono HU0.out.size); have HR2 : Hid (kPg.R u1 S p [.int .i64 p.main, .slice pa p.cls.length pc]) := kPg.keep (fun k hk => hb1.block k (by have := HS.out k hk; have := HU0.out.size; omega)) HR1.out; have hLd := (load_at HOK.out (fun k hk => by have := HS.out k hk; have := HU1.out.size; omega) HR2.out).mono (HLP.out u1); clear hWi hb1 hbx1 HX0)
    | (refine wpList_load_row rfl 24 _ rfl w.heap.size rfl 24 _ (0, 0) _ HX1.out Tryd.underlying24 rfl infoRPg ?_)
    | (go_at_call 9; refine hLd.mono ?_; rintro e u2 ⟨ao, cap, rfl, hb2, L, hs2⟩; have HU2 : Hid (Below w.heap.size w u2) := HU1.out.trans (hb2.mono HU1.out.size); have hF1 := tfits_ok hs2 HAB.out a a HA.out.1 HA.out.1; rw [HF1.out] at hF1; have hF2 := tfits_ok hs2 HAB.out a b HA.out.1 HA.out.2.1; rw [HF2.out] at hF2; have hF3 := tfits_ok hs2 HAB.out b c HA.out.2.1 HA.out.2.2; rw [HF3.out] at hF3; have hF4 := tfits_ok hs2 HAB.out a c HA.out.1 HA.out.2.2; rw [HF4.out] at hF4; clear hLd hb2 hs2)
    | (go_at_call 15; first
      | (refine hF1.mono ?_; clear hF1; rintro e w9 ⟨rfl, hw9⟩; replace hw9 := hw9.symm; subst hw9)
      | (refine hF2.mono ?_; clear hF2; rintro e w9 ⟨rfl, hw9⟩; replace hw9 := hw9.symm; subst hw9)
      | (refine hF3.mono ?_; clear hF3; rintro e w9 ⟨rfl, hw9⟩; replace hw9 := hw9.symm; subst hw9)
      | (refine hF4.mono ?_; clear hF4; rintro e w9 ⟨rfl, hw9⟩; replace hw9 := hw9.symm; subst hw9)))
  go_ret
  exact ⟨by first | rfl | simp, HU2.out⟩)
theorem order_walk {S : Nat → Prop} {p : Pg} {cs : List Value} (a b c : Int) (ra : (Lit.int .i64 a).wf = true) (rb : (Lit.int .i64 b).wf = true) (rc : (Lit.int .i64 c).wf = true) (w : World) (hS : ∀ k, S k → k < w.heap.size) (hR : kPg.R w S p cs) (hl : wPg p ≤ 1048576) (hr : rPg p) : Calls Tryd.prog 4 #[.agg cs.toArray, .int .i64 a, .int .i64 b, .int .i64 c] w fun e w' => e = .returned (.bool true) ∧ Below w.heap.size w w' := by
  have hR2 := hR
  obtain ⟨y, rfl, pa, pc, rfl, -⟩ := hR2
  have ra := (rg_wf ra).2
  have rb := (rg_wf rb).2
  have rc := (rg_wf rc).2
  have hsh := shr_wt hl
  rcases hv : wthP p with _ | _
  · exact order_out a b c w hS hR hsh hv
  have hok := okz_of (wth_all hv) hr
  rcases hs : loadJ p with s | ls
  · exact order_err a b c w hS hR hsh hv hok hs
  obtain ⟨rfl, hg⟩ := load_gp hs
  have hab := all_abv hg hok
  by_cases h0 : b = 0
  · exact order_b0 a b c w hS hR hsh hv hok hs hab ra rb rc h0
  have hx : (16 ≤ b → inT (allJ p) (b - 16) = true → (lyAt (allJ p) (b - 16)).off ≠ -1) → (!fitT (allJ p) a b || (!fitT (allJ p) b c || fitT (allJ p) a c)) = true := by
    intro hf
    rcases h1 : fitT (allJ p) a b with _ | _
    · rfl
    rcases h2 : fitT (allJ p) b c with _ | _
    · rfl
    rw [fit_trans (sup_ok hg.b1) hg.fc h0 hf h1 h2]
    rfl
  by_cases h16 : 16 ≤ b
  · by_cases hin : b - 16 < ((allJ p).length : Int)
    · by_cases hof : (lyAt (allJ p) (b - 16)).off = -1
      · exact order_face a b c w hS hR hsh hv hok hs hab ra rb rc h16 hin hof
      · exact order_in a b c w hS hR hsh hv hok hs hab ra rb rc h0 h16 hin hof rfl rfl rfl (hx fun _ _ => hof)
    · exact order_far a b c w hS hR hsh hv hok hs hab ra rb rc h0 h16 (by omega) rfl rfl rfl (hx fun _ q => by simp [inT] at q; omega)
  · exact order_low a b c w hS hR hsh hv hok hs hab ra rb rc h0 (by omega) rfl rfl rfl (hx fun q => absurd q h16)
end Go.Proofs.YtloppgibgohggaaDoor
