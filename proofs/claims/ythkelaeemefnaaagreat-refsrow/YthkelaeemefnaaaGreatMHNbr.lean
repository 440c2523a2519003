/- The places' rows; the numbers of all cells. -/
import Derived.Test.YthkelaeemefnaaaGreatMH1
import Derived.Test.YthkelaeemefnaaaGreatMHMath
namespace Go.Proofs.YthkelaeemefnaaaGreat
open Go.RowKit
/-- A cell's keeper. -/
def kty (c : Cel) : TypeId := if c.ob = true then 150 else 153
def kvl (so s : Nat) (c : Cel) : Value := if c.ob = true then .pointer (some ⟨so, 0, none⟩) else .agg #[.pointer (some ⟨s, 0, none⟩)]
/-- A cell and its number as they lie in memory. -/
def rowN (so s : Nat) (x : Nat × Cel) : List Value := [.int .i64 ((x.1 : Int) + 1), .int .i64 x.2.kind, .int .i64 x.2.cls, .int .i64 x.2.n, .iface (kty x.2) (kvl so s x.2), .int .i64 x.2.at_]
def rowsN (so s : Nat) (S : List (Option Cel)) : List (List Value) := (pres 0 S).map (rowN so s)
def nums : Nat → List (Option Cel) → List Int
  | _, [] => []
  | k, none :: r => nums (k + 1) r
  | k, some _ :: r => ((k : Int) + 1) :: nums (k + 1) r
theorem nums_len : ∀ (k : Nat) (S : List (Option Cel)), (nums k S).length = cntS S
  | _, [] => rfl
  | k, none :: r => nums_len (k + 1) r
  | k, some _ :: r => by simp only [nums, cntS, List.length_cons, nums_len (k + 1) r]; omega
theorem nums_mem : ∀ (k : Nat) (S : List (Option Cel)) (u : Int), u ∈ nums k S → ∃ (i : Nat) (c : Cel), u = (k : Int) + i + 1 ∧ S[i]? = some (some c)
  | _, [], u, h => by simp [nums] at h
  | k, none :: r, u, h => by
    obtain ⟨i, c, h1, h2⟩ := nums_mem (k + 1) r u h
    exact ⟨i + 1, c, by omega, by simpa using h2⟩
  | k, some d :: r, u, h => by
    rcases List.mem_cons.1 h with q | q
    · exact ⟨0, d, by omega, rfl⟩
    · obtain ⟨i, c, h1, h2⟩ := nums_mem (k + 1) r u q
      exact ⟨i + 1, c, by omega, by simpa using h2⟩
theorem nums_rise : ∀ (k : Nat) (S : List (Option Cel)), (nums k S).Pairwise (· < ·)
  | _, [] => List.Pairwise.nil
  | k, none :: r => nums_rise (k + 1) r
  | k, some _ :: r => List.pairwise_cons.2 ⟨fun u hu => by
      obtain ⟨i, c, h1, _⟩ := nums_mem (k + 1) r u hu
      omega, nums_rise (k + 1) r⟩
theorem nums_none : ∀ (k : Nat) (S : List (Option Cel)) (i : Nat), S[i]? = some none → nums k (S.take (i + 1)) = nums k (S.take i)
  | _, [], i, h => by simp at h
  | k, a :: r, 0, h => by simp at h; subst h; simp [nums]
  | k, none :: r, i + 1, h => by simp only [List.take_succ_cons, nums]; exact nums_none (k + 1) r i (by simpa using h)
  | k, some d :: r, i + 1, h => by simp only [List.take_succ_cons, nums]; rw [nums_none (k + 1) r i (by simpa using h)]
theorem nums_some : ∀ (k : Nat) (S : List (Option Cel)) (i : Nat) (c : Cel), S[i]? = some (some c) → nums k (S.take (i + 1)) = nums k (S.take i) ++ [(k : Int) + i + 1]
  | _, [], i, c, h => by simp at h
  | k, a :: r, 0, c, h => by simp at h; subst h; simp [nums]
  | k, none :: r, i + 1, c, h => by
    simp only [List.take_succ_cons, nums]
    rw [nums_some (k + 1) r i c (by simpa using h)]
    congr 2; omega
  | k, some d :: r, i + 1, c, h => by
    simp only [List.take_succ_cons, nums, List.cons_append]
    rw [nums_some (k + 1) r i c (by simpa using h)]
    congr 3; omega
theorem nums_le (S : List (Option Cel)) (i : Nat) : (nums 0 (S.take i)).length ≤ S.length := by
  have h : ∀ T : List (Option Cel), cntS T ≤ T.length := by
    intro T
    induction T with
    | nil => exact Nat.le_refl _
    | cons a r ih => cases a <;> simp only [cntS, List.length_cons] <;> omega
  rw [nums_len]
  exact Nat.le_trans (h _) (by rw [List.length_take]; omega)
theorem infoZ : (Tryz.prog.info? 3).map (fun i => (i.zero, i.size, i.bytes)) = some (some (.int .i64 0), 1, 8) := by kernel_rfl
theorem Ri.more {w : World} {B : Nat} {v : Value} {U : List Int} (h : Ri w B v U) (x : Int) (hB : B ≤ w.heap.size) (hn : U.length ≤ 100000) {W : World} {a : Nat} (hW : W.heap[a]? = some (.cells #[.int .i64 x] 3 (0, 0))) (hbW : Below w.heap.size w W) :
    ∃ ao cap w', (appC #[32, 32] 32 #[v, .slice (some ⟨a, 0, none⟩) 1 1]).run Tryz.prog W = .ok (.slice ao (U.length + 1) cap) w' ∧ Ri w' B (.slice ao (U.length + 1) cap) (U ++ [x]) ∧ w.grownBy w' v.ownBlock ∧ ((Value.slice ao (U.length + 1) cap).ownBlock = v.ownBlock ∨ ∃ j, (Value.slice ao (U.length + 1) cap).ownBlock = some j ∧ w.heap.size ≤ j) := by
  obtain ⟨i0, hi0, hzz⟩ := Option.map_eq_some_iff.1 infoZ
  simp only [Prod.mk.injEq] at hzz
  obtain ⟨hz0, hz1, hz2⟩ := hzz
  exact h.app (P := Tryz.prog) (t := 32) (ty := 32) Tryz.underlying32 hi0 hz0 hz1 hz2 rfl x hB (by unfold maxLen; omega) (by omega) hW hbW
theorem nums_pres : ∀ (k : Nat) (S : List (Option Cel)), nums k S = (pres k S).map (fun x => (x.1 : Int) + 1)
  | _, [] => rfl
  | k, none :: r => nums_pres (k + 1) r
  | k, some _ :: r => by simp only [nums, pres, List.map_cons, nums_pres (k + 1) r]
theorem rowsN_len (so s : Nat) (S : List (Option Cel)) : (rowsN so s S).length = (nums 0 S).length := by unfold rowsN; rw [nums_pres, List.length_map, List.length_map]
theorem nums_few (S : List (Option Cel)) : (nums 0 S).length ≤ S.length := by rw [nums_len]; exact cntS_le S
theorem rowsN_key (so s : Nat) (S : List (Option Cel)) : KeyC (rowsN so s S) (nums 0 S) := by
  refine ⟨rowsN_len so s S, fun i r hr => ?_⟩
  unfold rowsN at hr
  rw [List.getElem?_map] at hr
  obtain ⟨x, hx, rfl⟩ := Option.map_eq_some_iff.1 hr
  exact ⟨_, _, _, _, _, _, _, by rw [nums_pres, List.getElem?_map, hx]; rfl, rfl⟩
theorem rowsN_one (so s : Nat) (S : List (Option Cel)) : ∀ r ∈ rowsN so s S, ∀ u ∈ r, u.oneCell' = true := fun r hr u hu => by
  obtain ⟨x, _, rfl⟩ := List.mem_map.1 hr
  simp only [rowN, List.mem_cons, List.not_mem_nil, or_false] at hu
  rcases hu with rfl | rfl | rfl | rfl | rfl | rfl <;> rfl
/-- Where a cell's row is. -/
theorem rowsN_at (so s : Nat) {S : List (Option Cel)} {i : Nat} {c : Cel} (hi : S[i]? = some (some c)) : ∃ j : Nat, (rowsN so s S)[j]? = some (rowN so s (i, c)) ∧ (nums 0 S)[j]? = some ((i : Int) + 1) ∧ rowsN so s (S.set i none) = (rowsN so s S).eraseIdx j := by
  obtain ⟨j, h1, h2⟩ := pres_gone 0 S i c hi
  rw [Nat.zero_add] at h1
  refine ⟨j, by unfold rowsN; rw [List.getElem?_map, h1]; rfl, by rw [nums_pres, List.getElem?_map, h1]; rfl, ?_⟩
  unfold rowsN
  rw [h2, List.eraseIdx_eq_take_drop_succ, List.eraseIdx_eq_take_drop_succ, List.map_append, List.map_take, List.map_drop]
theorem nums_has (S : List (Option Cel)) (t : Int) (hn : ∀ (i : Nat) (cl : Cel), t = (i : Int) + 1 → S[i]? ≠ some (some cl)) : hasK (nums 0 S) t = false := by
  cases h : hasK (nums 0 S) t with
  | false => rfl
  | true =>
    obtain ⟨i, c, h1, h2⟩ := nums_mem 0 S t ((hasK_iff _ _).1 h)
    exact absurd h2 (hn i c (by omega))
attribute [local go_sem ↓] app_C
set_option maxRecDepth 20000 in
set_option maxHeartbeats 1000000 in
theorem numbers_ok {w : World} {h so s : Nat} {vc : Value} {S : List (Option Cel)} (c3 : w.cell? ⟨h, 3, none⟩ = some vc) (hR : Rs w 0 170 6 vc (rowsN so s S)) (hL : S.length ≤ 100000) :
    Calls Tryz.prog 106 #[.pointer (some ⟨h, 3, none⟩)] w fun e w' => ∃ v, e = .returned v ∧ Ri w' w.heap.size v (nums 0 S) ∧ Below w.heap.size w w' := by
  have hh : h < w.heap.size := cell_in1 c3
  obtain ⟨ao, cap, rfl⟩ := hR.form
  have hlen := rowsN_len so s S
  have hfew := nums_few S
  have HC : Hid (∀ i, i < (nums 0 S).length → ∃ (p : Nat) (x a b c u : Int) (ty : TypeId) (d : Value), ao = some ⟨p, 0, none⟩ ∧ (nums 0 S)[i]? = some x ∧ p < w.heap.size ∧ w.rangeAt p (i * 6) [.int .i64 x, .int .i64 a, .int .i64 b, .int .i64 c, .iface ty d, .int .i64 u]) := fun i hi => by
    obtain ⟨p, e, hp, _, _, hc⟩ := hR.cells (by rw [hlen]; omega)
    have hri : (rowsN so s S)[i]? = some (rowsN so s S)[i] := List.getElem?_eq_getElem (by rw [hlen]; exact hi)
    obtain ⟨x, a, b, c, u, ty, d, h1, h2⟩ := (rowsN_key so s S).2 i _ hri
    exact ⟨p, x, a, b, c, u, ty, d, e, h1, hp.2, by rw [← h2]; exact hc i _ hri⟩
  rw [hlen] at c3
  clear hR hlen
  generalize hU0 : nums 0 S = U at *
  generalize hM : U.length = M at *
  have HM : Hid (U.length = M) := hM
  clear hM hU0
  go_enter Tryz.func106, Tryz.ntmps106
  go_wp2
  go_loopg [3, 11] (M + 1) (fun kx s3 s11 wr => ∃ (j : Nat) (sa : Option Addr) (sc : Nat), s3 = .slice sa j sc ∧ s11 = .int .i64 j ∧ j ≤ M ∧ M - j ≤ kx ∧ Ri wr w.heap.size (.slice sa j sc) (U.take j) ∧ Below w.heap.size w wr)
  case atStart => exact ⟨0, none, 0, rfl, rfl, by omega, by omega, Ri.nil _ _, Below.refl _ _⟩
  case round =>
    obtain ⟨j, sa, sc, rfl, rfl, hj, hk, hU, hb⟩ := hrel
    by_cases hlt : j < M
    · have hl : (j : Int) < (M : Int) := by omega
      obtain ⟨p, x, a, b, c, u, ty, d, rfl, hx, hp, hr⟩ := HC.out j hlt
      have hp2 : p < wr.heap.size := Nat.lt_of_lt_of_le hp hb.size
      have hr2 : wr.rangeAt p (j * 6) [.int .i64 x, .int .i64 a, .int .i64 b, .int .i64 c, .iface ty d, .int .i64 u] := fun i v hv => (cell_of1 (hb.block p hp)).trans (hr i v hv)
      have hj2 : j < 100000 := by omega
      have cc := six_cells hr2
      have e : U.take (j + 1) = U.take j ++ [x] := by rw [List.take_add_one, hx]; rfl
      have ej : (U.take j).length = j := by rw [List.length_take, HM.out]; omega
      obtain ⟨A, hA⟩ : ∃ A : Obj, A = .cells #[.int .i64 x, .int .i64 a, .int .i64 b, .int .i64 c, .iface ty d, .int .i64 u] 170 := ⟨_, rfl⟩
      have hU1 : Ri (wr.alloc A) w.heap.size (.slice sa j sc) (U.take j) := hU.below ((Below.refl _ _).alloc (Nat.le_refl _) _)
      have hz := heap_alloc_new (wr.alloc A) (.cells #[.int .i64 x] 3)
      obtain ⟨ao', sc', w3, hrun, hU3, hg, hat⟩ := hU1.more x (by have := hb.size; rw [Go.Deep.nblk_alloc]; omega) (by rw [ej]; omega) hz ((Below.refl _ _).alloc (Nat.le_refl _) _)
      rw [Go.Deep.nblk_alloc, hA, ej] at hrun
      rw [ej] at hU3
      have HU : Hid (U.take (j + 1) = U.take j ++ [x] ∧ Ri w3 w.heap.size (.slice ao' (j + 1) sc') (U.take j ++ [x]) ∧ Below w.heap.size w w3) := by
        refine ⟨e, hU3, hb.trans ⟨hg.os, hg.tape, hg.output, Nat.le_trans (by rw [Go.Deep.nblk_alloc]; omega) hg.size, fun k hk => ?_⟩⟩
        have hs := hb.size
        refine (hg.block k (by rw [Go.Deep.nblk_alloc]; omega) (fun q => ?_)).trans (Below.heap_alloc _ _ _ (by omega))
        have := (hU1.lt q.symm).1
        omega
      clear e hU hU1 hU3 hg hat hz hr hr2 hx hb hA ej
      go_wp2
      go_roundg (M - (j + 1))
      case measure => omega
      case rel =>
        obtain ⟨u1, u2, u3⟩ := HU.out
        exact ⟨j + 1, ao', sc', rfl, by go_num, by omega, by omega, by rw [u1]; exact u2, u3⟩
    · obtain rfl : j = M := by omega
      have hl : ¬ (j : Int) < (j : Int) := by omega
      have et : U.take j = U := by rw [← HM.out, List.take_length]
      go_wp2
      go_ret
      exact ⟨_, rfl, by rw [← et]; exact hU, hb⟩
end Go.Proofs.YthkelaeemefnaaaGreat
