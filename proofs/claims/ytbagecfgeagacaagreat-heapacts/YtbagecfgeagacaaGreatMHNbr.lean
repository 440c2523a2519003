/- The places' rows; the numbers of all cells. -/
import Derived.Test.YtbagecfgeagacaaGreatMHTac
import Derived.Test.YtbagecfgeagacaaGreatMHMath
namespace Go.Proofs.YtbagecfgeagacaaGreat
open Go.RowKit
/-- A cell's keeper. -/
def kty (c : Cel) : TypeId := if c.ob = true then 89 else 92
def kvl (so s : Nat) (c : Cel) : Value := if c.ob = true then .pointer (some ⟨so, 0, none⟩) else .agg #[.pointer (some ⟨s, 0, none⟩)]
/-- A place as it lies in memory. -/
def rowP (so s : Nat) : Option Cel → List Value
  | none => [.int .i64 0, .int .i64 0, .int .i64 0, .nilIface, .int .i64 0, .bool false]
  | some c => [.int .i64 c.kind, .int .i64 c.cls, .int .i64 c.n, .iface (kty c) (kvl so s c), .int .i64 c.at_, .bool true]
def nums : Nat → List (Option Cel) → List Int
  | _, [] => []
  | k, none :: r => nums (k + 1) r
  | k, some _ :: r => ((k : Int) + 1) :: nums (k + 1) r
theorem nums_len : ∀ (k : Nat) (S : List (Option Cel)), (nums k S).length = cntS S
  | _, [] => rfl
  | k, none :: r => nums_len (k + 1) r
  | k, some _ :: r => by simp only [nums, cntS, List.length_cons, nums_len (k + 1) r]; omega
theorem nums_mem : ∀ (k : Nat) (S : List (Option Cel)) (u : Int), u ∈ nums k S → ∃ (i : Nat) (c : Cel), u = (k : Int) + i + 1 ∧ S[i]? = some (some c)
  | _, [], u, h => by simp [nums] at h
  | k, none :: r, u, h => by
    obtain ⟨i, c, h1, h2⟩ := nums_mem (k + 1) r u h
    exact ⟨i + 1, c, by omega, by simpa using h2⟩
  | k, some d :: r, u, h => by
    rcases List.mem_cons.1 h with q | q
    · exact ⟨0, d, by omega, rfl⟩
    · obtain ⟨i, c, h1, h2⟩ := nums_mem (k + 1) r u q
      exact ⟨i + 1, c, by omega, by simpa using h2⟩
theorem nums_rise : ∀ (k : Nat) (S : List (Option Cel)), (nums k S).Pairwise (· < ·)
  | _, [] => List.Pairwise.nil
  | k, none :: r => nums_rise (k + 1) r
  | k, some _ :: r => List.pairwise_cons.2 ⟨fun u hu => by
      obtain ⟨i, c, h1, _⟩ := nums_mem (k + 1) r u hu
      omega, nums_rise (k + 1) r⟩
theorem nums_none : ∀ (k : Nat) (S : List (Option Cel)) (i : Nat), S[i]? = some none → nums k (S.take (i + 1)) = nums k (S.take i)
  | _, [], i, h => by simp at h
  | k, a :: r, 0, h => by simp at h; subst h; simp [nums]
  | k, none :: r, i + 1, h => by simp only [List.take_succ_cons, nums]; exact nums_none (k + 1) r i (by simpa using h)
  | k, some d :: r, i + 1, h => by simp only [List.take_succ_cons, nums]; rw [nums_none (k + 1) r i (by simpa using h)]
theorem nums_some : ∀ (k : Nat) (S : List (Option Cel)) (i : Nat) (c : Cel), S[i]? = some (some c) → nums k (S.take (i + 1)) = nums k (S.take i) ++ [(k : Int) + i + 1]
  | _, [], i, c, h => by simp at h
  | k, a :: r, 0, c, h => by simp at h; subst h; simp [nums]
  | k, none :: r, i + 1, c, h => by
    simp only [List.take_succ_cons, nums]
    rw [nums_some (k + 1) r i c (by simpa using h)]
    congr 2; omega
  | k, some d :: r, i + 1, c, h => by
    simp only [List.take_succ_cons, nums, List.cons_append]
    rw [nums_some (k + 1) r i c (by simpa using h)]
    congr 3; omega
theorem nums_le (S : List (Option Cel)) (i : Nat) : (nums 0 (S.take i)).length ≤ S.length := by
  have h : ∀ T : List (Option Cel), cntS T ≤ T.length := by
    intro T
    induction T with
    | nil => exact Nat.le_refl _
    | cons a r ih => cases a <;> simp only [cntS, List.length_cons] <;> omega
  rw [nums_len]
  exact Nat.le_trans (h _) (by rw [List.length_take]; omega)
theorem rowP_len (so s : Nat) (c : Option Cel) : (rowP so s c).length = 6 := by cases c <;> rfl
attribute [local go_sem ↓] app_C
set_option maxRecDepth 20000 in
set_option maxHeartbeats 1000000 in
theorem numbers_ok {w : World} {h so s : Nat} {vc : Value} {S : List (Option Cel)} (c3 : w.cell? ⟨h, 3, none⟩ = some vc) (hR : Rs w 0 99 6 vc (S.map (rowP so s))) (hL : S.length ≤ 100000) :
    Calls Tryz.prog 27 #[.pointer (some ⟨h, 3, none⟩)] w fun e w' => ∃ v, e = .returned v ∧ Ri w' w.heap.size v (nums 0 S) ∧ Below w.heap.size w w' := by
  have hh : h < w.heap.size := cell_in1 c3
  obtain ⟨ao, cap, rfl⟩ := hR.form
  have hlen : (S.map (rowP so s)).length = S.length := List.length_map _
  rw [hlen] at c3 hR
  have HC : Hid (∀ i, i < S.length → ∃ p a, ao = some ⟨p, 0, none⟩ ∧ S[i]? = some a ∧ p < w.heap.size ∧ w.rangeAt p (i * 6) (rowP so s a)) := fun i hi => by
    obtain ⟨p, e, hp, _, _, hc⟩ := hR.cells (by rw [hlen]; omega)
    have hS : S[i]? = some S[i] := List.getElem?_eq_getElem hi
    exact ⟨p, S[i], e, hS, hp.2, hc i _ (by rw [List.getElem?_map, hS]; rfl)⟩
  have HN : Hid (∀ i, (nums 0 (S.take i)).length ≤ S.length) := nums_le S
  have HE : Hid (nums 0 (S.take S.length) = nums 0 S) := (show _ = _ by rw [List.take_length])
  clear hR hlen
  generalize hM : S.length = M at *
  go_enter Tryz.func27, Tryz.ntmps27
  go_wp2
  go_loopg [3, 11] (M + 1) (fun kx s3 s11 wr => ∃ (j : Nat) (sa : Option Addr) (sc : Nat), s3 = .slice sa (nums 0 (S.take j)).length sc ∧ s11 = .int .i64 j ∧ j ≤ M ∧ M - j ≤ kx ∧ Ri wr w.heap.size (.slice sa (nums 0 (S.take j)).length sc) (nums 0 (S.take j)) ∧ Below w.heap.size w wr)
  case atStart => exact ⟨0, none, 0, rfl, rfl, by omega, by omega, Ri.nil _ _, Below.refl _ _⟩
  case round =>
    obtain ⟨j, sa, sc, rfl, rfl, hj, hk, hU, hb⟩ := hrel
    by_cases hlt : j < M
    · have hl : (j : Int) < (M : Int) := by omega
      obtain ⟨p, a, rfl, hS, hp, hr⟩ := HC.out j hlt
      have hp2 : p < wr.heap.size := Nat.lt_of_lt_of_le hp hb.size
      have hr2 : wr.rangeAt p (j * 6) (rowP so s a) := fun i v hv => (cell_of1 (hb.block p hp)).trans (hr i v hv)
      have hj2 : j < 100000 := by omega
      cases a with
      | none =>
        have cc := six_cells hr2
        have e := nums_none 0 S j hS
        have HU : Hid (∀ w2, Below wr.heap.size wr w2 → Ri w2 w.heap.size (.slice sa (nums 0 (S.take (j + 1))).length sc) (nums 0 (S.take (j + 1)))) := fun w2 q => by rw [e]; exact hU.below q
        have He : Hid (nums 0 (S.take (j + 1)) = nums 0 (S.take j)) := e
        have HB : Hid (Below w.heap.size w wr) := hb
        clear e hU hr hr2 hS hb
        go_wp2
        go_roundg (M - (j + 1))
        case measure => omega
        case rel => exact ⟨j + 1, sa, sc, by rw [He.out], by go_num, by omega, by omega, HU.out _ ((Below.refl _ _).alloc (Nat.le_refl _) _), HB.out.trans (((Below.refl _ _).alloc (Nat.le_refl _) _).mono HB.out.size)⟩
      | some c =>
        have cc := six_cells hr2
        have e := nums_some 0 S j c hS
        obtain ⟨A, hA⟩ : ∃ A : Obj, A = .cells #[.int .i64 c.kind, .int .i64 c.cls, .int .i64 c.n, .iface (kty c) (kvl so s c), .int .i64 c.at_, .bool true] 99 := ⟨_, rfl⟩
        have hU1 : Ri (wr.alloc A) w.heap.size (.slice sa (nums 0 (S.take j)).length sc) (nums 0 (S.take j)) := hU.below ((Below.refl _ _).alloc (Nat.le_refl _) _)
        have hz := heap_alloc_new (wr.alloc A) (.cells #[.int .i64 ((j : Int) + 1)] 3)
        obtain ⟨ao', sc', w3, hrun, hU3, hg, hat⟩ := hU1.more ((j : Int) + 1) (by have := hb.size; rw [Go.Deep.nblk_alloc]; omega) (by have := HN.out j; omega) hz ((Below.refl _ _).alloc (Nat.le_refl _) _)
        rw [Go.Deep.nblk_alloc, hA] at hrun
        have HU : Hid (nums 0 (S.take (j + 1)) = nums 0 (S.take j) ++ [(j : Int) + 1] ∧ Ri w3 w.heap.size (.slice ao' ((nums 0 (S.take j)).length + 1) sc') (nums 0 (S.take j) ++ [(j : Int) + 1]) ∧ Below w.heap.size w w3) := by
          refine ⟨by rw [e]; congr 2; omega, hU3, hb.trans ⟨hg.os, hg.tape, hg.output, Nat.le_trans (by rw [Go.Deep.nblk_alloc]; omega) hg.size, fun k hk => ?_⟩⟩
          have hs := hb.size
          refine (hg.block k (by rw [Go.Deep.nblk_alloc]; omega) (fun q => ?_)).trans (Below.heap_alloc _ _ _ (by omega))
          have := (hU1.lt q.symm).1
          omega
        generalize hn : (nums 0 (S.take j)).length = n at *
        have HB : Hid (n = n) := rfl
        clear e hU hU1 hU3 hg hat hz hr hr2 hS hb hA
        go_wp2
        go_roundg (M - (j + 1))
        case measure => omega
        case rel =>
          obtain ⟨u1, u2, u3⟩ := HU.out
          have u4 : (nums 0 (S.take (j + 1))).length = n + 1 := by rw [u1, List.length_append, hn]; rfl
          exact ⟨j + 1, ao', sc', by rw [u4], by go_num, by omega, by omega, by rw [u4, u1]; exact u2, u3⟩
    · obtain rfl : j = M := by omega
      have hl : ¬ (j : Int) < (j : Int) := by omega
      go_wp2
      go_ret
      exact ⟨_, rfl, by rw [← HE.out]; exact hU, hb⟩
end Go.Proofs.YtbagecfgeagacaaGreat
