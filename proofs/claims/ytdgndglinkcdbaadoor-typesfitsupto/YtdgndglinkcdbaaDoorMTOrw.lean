/- TypesOrder: Within, and the walk. -/
import Derived.Test.YtdgndglinkcdbaaDoorMTOkz
import Derived.Test.YtdgndglinkcdbaaDoorMGT1
import Derived.Test.YtdgndglinkcdbaaDoorMGWC
namespace Go.Proofs.YtdgndglinkcdbaaDoor
open Go.RowKit

/-- What gneissref14.Within answers. -/
def wthP (p : Pg) : Bool := wrE p == 0 || (wrE p == 1403 || wrE p == 1406)
theorem wth_all {p : Pg} (h : wthP p = true) : (gPg p).all okC = true := by
  unfold wthP wrE encP at h
  by_cases hc : (gPg p).all okC = true
  · exact hc
  · rw [if_neg hc] at h
    simp at h
set_option maxHeartbeats 4000000 in
set_option maxRecDepth 20000 in
theorem within_any {S : Nat → Prop} {p : Pg} {pa : Option Addr} {pc : Nat} (w : World) (hS : ∀ k, S k → k < w.heap.size) (hR : kPg.R w S p [.int .i64 p.main, .slice pa p.cls.length pc]) (hl : Shr (gPg p)) : Calls Tryd.prog 4 #[.agg #[.int .i64 p.main, .slice pa p.cls.length pc]] w fun e w' => e = .returned (.bool (wthP p)) ∧ Below w.heap.size w w' := by
  have hz : (w.alloc (.cells #[.int .i64 p.main, .slice pa p.cls.length pc] 24)).heap.size = w.heap.size + 1 := by simp
  have hR0 : kPg.R (w.alloc (.cells #[.int .i64 p.main, .slice pa p.cls.length pc] 24)) S p [.int .i64 p.main, .slice pa p.cls.length pc] := kPg.keep (fun k hk => Below.heap_alloc _ _ _ (hS k hk)) hR
  have hC := qEncode_any (w.alloc (.cells #[.int .i64 p.main, .slice pa p.cls.length pc] 24)) (fun k hk => by have := hS k hk; rw [hz]; omega) hR0 hl
  have hC1 : Calls Tryd.prog 17 #[.agg #[.int .i64 p.main, .slice pa p.cls.length pc]] (w.alloc (.cells #[.int .i64 p.main, .slice pa p.cls.length pc] 24)) fun e w' => e = .returned (.tuple #[.string (wrS p), .int .i64 (wrE p)]) ∧ Below w.heap.size w w' := by
    refine hC.mono ?_
    intro e w' hE
    obtain ⟨rfl, hb⟩ := enp2 hE
    exact ⟨rfl, ((Below.refl _ _).alloc (Nat.le_refl _) _).trans (hb.mono (by rw [hz]; omega))⟩
  have hB0 : (w.alloc (.cells #[.int .i64 p.main, .slice pa p.cls.length pc] 24)).heap[w.heap.size]? = some (.cells #[.int .i64 p.main, .slice pa p.cls.length pc] 24 (0, 0)) := heap_alloc_new _ _
  have HB0 : Hid ((w.alloc (.cells #[.int .i64 p.main, .slice pa p.cls.length pc] 24)).heap[w.heap.size]? = some (.cells #[.int .i64 p.main, .slice pa p.cls.length pc] 24 (0, 0))) := hB0
  have hv : wthP p = (wrE p == 0 || (wrE p == 1403 || wrE p == 1406)) := rfl
  generalize wthP p = V at hv ⊢
  generalize wrE p = E at hv hC1
  generalize wrS p = Z at hC1
  clear hC hR0 hR hS hl hz hB0
  by_cases h0 : E = 0
  · subst h0
    obtain rfl : V = true := by rw [hv]; rfl
    clear hv
    go_enter Tryd.func4, Tryd.ntmps4
    go_wp2_with (first
      | (refine wpList_load_row rfl 24 _ rfl w.heap.size rfl 24 _ (0, 0) _ HB0.out Tryd.underlying24 rfl infoRPg ?_)
      | (go_at_call 17; refine hC1.mono ?_; rintro e u1 ⟨rfl, hb⟩; have HB1 : Hid (Below w.heap.size w u1) := hb; clear hC1 hb))
    go_ret
    exact ⟨rfl, HB1.out⟩
  have e0 : (E == 0) = false := by simp [h0]
  by_cases h1 : E = 1403
  · subst h1
    obtain rfl : V = true := by rw [hv]; rfl
    clear hv h0 e0
    go_enter Tryd.func4, Tryd.ntmps4
    go_wp2_with (first
      | (refine wpList_load_row rfl 24 _ rfl w.heap.size rfl 24 _ (0, 0) _ HB0.out Tryd.underlying24 rfl infoRPg ?_)
      | (go_at_call 17; refine hC1.mono ?_; rintro e u1 ⟨rfl, hb⟩; have HB1 : Hid (Below w.heap.size w u1) := hb; clear hC1 hb))
    go_ret
    exact ⟨rfl, HB1.out⟩
  have e1 : (E == 1403) = false := by simp [h1]
  obtain ⟨Q, hQ⟩ : ∃ Q, (E == 1406) = Q := ⟨_, rfl⟩
  obtain rfl : V = Q := by rw [hv, e0, e1, hQ]; rfl
  clear hv h0 h1
  go_enter Tryd.func4, Tryd.ntmps4
  go_wp2_with (first
    | (refine wpList_load_row rfl 24 _ rfl w.heap.size rfl 24 _ (0, 0) _ HB0.out Tryd.underlying24 rfl infoRPg ?_)
    | (go_at_call 17; refine hC1.mono ?_; rintro e u1 ⟨rfl, hb⟩; have HB1 : Hid (Below w.heap.size w u1) := hb; clear hC1 hb))
  go_ret
  exact ⟨by first | rfl | simp [hQ], HB1.out⟩
theorem load_gp {p : Pg} {ls : List Ly} (h : loadJ p = .ok ls) : ls = allJ p ∧ Gp p := by
  unfold loadJ at h
  by_cases h8 : (st8 p).1 = 0
  · rw [if_pos h8] at h
    have h7 : (st7 p).1 = 0 := by
      refine Classical.byContradiction fun hn => ?_
      unfold st8 at h8
      rw [if_neg hn] at h8
      exact hn h8
    refine ⟨by injection h with h; exact h.symm, ?_⟩
    unfold st7 at h7
    exact st6_gp (runJ_ok (by decide) h7).1
  · rw [if_neg h8] at h
    cases h
theorem load_er {p : Pg} {s : Fs} (h : loadJ p = .error s) : s.1 ≠ 0 := by
  unfold loadJ at h
  by_cases h8 : (st8 p).1 = 0
  · rw [if_pos h8] at h
    cases h
  · rw [if_neg h8] at h
    injection h with h
    rw [← h]; exact h8
theorem tins_len (x : Int) : ∀ l : List Int, (insJ x l).length = l.length + 1
  | [] => rfl
  | a :: l => by
    unfold insJ
    split
    · simp
    · simp [tins_len x l]
theorem tfold_len : ∀ (xs o : List Int), (xs.foldl (fun o x => insJ x o) o).length = xs.length + o.length
  | [], o => by simp
  | x :: xs, o => by rw [List.foldl_cons, tfold_len xs, tins_len, List.length_cons]; omega
theorem all_abv {p : Pg} (hG : Gp p) (hz : Okz p) : ∀ y ∈ allJ p, y.abv.length ≤ 9223372036854775806 := by
  intro y hy
  unfold allJ at hy
  obtain ⟨i, hi, rfl⟩ := List.mem_map.1 hy
  have hi := List.mem_range.1 hi
  rw [ly_abv]
  have hk : isJ p (i : Nat) = true := by
    unfold nJ at hi
    simp only [isJ, Bool.and_eq_true, decide_eq_true_eq]
    omega
  have h := (above_gd (sup_ok hG.b1) hG.fc (nJ p + 1) (i : Nat) [] hk ⟨by simp, fun x hx => by cases hx⟩).1.le
  unfold abvJ sortJ
  rw [tfold_len]
  have := hz.n
  have hn : nJ p = 11 + p.cls.length := rfl
  simp only [List.length_nil]
  omega
theorem load_at {p : Pg} (hz : Okz p) {w : World} {S : Nat → Prop} (hS : ∀ k, S k → k < w.heap.size) {pa : Option Addr} {pc : Nat} (hR : kPg.R w S p [.int .i64 p.main, .slice pa p.cls.length pc]) : Calls Tryd.prog 6 #[.agg #[.int .i64 p.main, .slice pa p.cls.length pc]] w (LdP p w) := by
  obtain ⟨y, hy, h1⟩ := hR
  obtain rfl : y = .slice pa p.cls.length pc := by simpa using hy.symm
  exact Load_any hz hS h1
end Go.Proofs.YtdgndglinkcdbaaDoor
