/- A table of monitors: New. -/
import Derived.Test.YtdkbdmlodngneaaMNNot
import Derived.Laws.CopyOwn
import Derived.Deep.RegionLaw
namespace Go.Proofs.Ytdkbdmlodngneaa
open Go.RowKit
theorem ninfo3s : (Try.prog.info? 3).map (·.size) = some 1 := by kernel_rfl
theorem nmask (y : Nat) (hy : y ≤ 4096) : bits BinOp.and .u64 (y : Int) 4294967295 = (y : Int) := by
  have e : (BitVec.ofInt 64 (y : Int) &&& BitVec.ofInt 64 4294967295).toNat = ((y : Int) % 18446744073709551616).toNat % 4294967296 := by
    rw [BitVec.toNat_and, BitVec.toNat_ofInt, show (BitVec.ofInt 64 4294967295).toNat = 2 ^ 32 - 1 from by decide, Nat.and_two_pow_sub_one_eq_mod]; rfl
  show IntKind.u64.wrap ((BitVec.ofInt 64 (y : Int) &&& BitVec.ofInt 64 4294967295).toNat : Nat) = (y : Int)
  rw [e, IntKind.wrap_u64]; omega
theorem nmul64 (y : Nat) (hy : y ≤ 4096) (w : World) :
    Calls Try.prog 26 #[.int .u64 1, .int .u64 y] w fun e w' => e = .returned (.tuple #[.int .u64 0, .int .u64 y]) ∧ w' = w := by
  have m1 := nmask y hy
  have m0 : bits BinOp.and .u64 0 4294967295 = 0 := by kernel_rfl
  have m2 : bits BinOp.and .u64 1 4294967295 = 1 := by kernel_rfl
  have d1 : (y : Int) / 4294967296 = 0 := by omega
  go_enter Try.func26, Try.ntmps26
  go_wp2
  go_ret2
  exact ⟨rfl, rfl⟩
theorem nmul (y : Nat) (hy : y ≤ 4096) (w : World) :
    Calls Try.prog 22 #[.int .u64 1, .int .u64 y] w fun e w' => e = .returned (.tuple #[.int .u64 0, .int .u64 y]) ∧ w' = w := by
  go_enter Try.func22, Try.ntmps22
  go_wp2_with (go_at_call 26; refine (nmul64 y hy _).mono ?_; rintro e w1 ⟨rfl, hw1⟩; replace hw1 := hw1.symm; subst hw1)
  go_ret2
  exact ⟨rfl, rfl⟩
/-- A copy, by a name that the walk does not open. -/
def cpN (ats : Array TypeId) (ty : TypeId) (args : Array Value) : Sem Value := Builtin.copy_ ats ty args
theorem cp_N (ats : Array TypeId) (ty : TypeId) (args : Array Value) : Builtin.copy_ ats ty args = cpN ats ty args := rfl
theorem ncopy {w : World} {g N n m : Nat} (a : Addr) (sLen sCap dLen dCap : Nat) (hm : m = Nat.min sLen dLen) (hfit : n + m ≤ N) (hr : w.rowIs g 3 N (fun _ => .int .i64 0)) (hs : ∀ j, j < m → w.cell? (a.add j) = some (.int .i64 0)) :
    ∃ w', (cpN #[38, 38] 3 #[.slice (some ⟨g, n, none⟩) dLen dCap, .slice (some a) sLen sCap]).run Try.prog w = .ok (.int .i64 m) w' ∧ w'.rowIs g 3 N (fun _ => .int .i64 0) ∧ Bt (fun k => k = g) w w' := by
  obtain ⟨cur, hg, hn, hc⟩ := hr
  have hrun := run_copy_row Try.prog w 38 38 3 3 g n dLen dCap a sLen sCap cur 3 (List.replicate m (.int .i64 0)) Try.underlying38 ninfo3s hg (by simp [hm])
    (fun j v hj => by
      obtain ⟨hj1, hj2⟩ := List.getElem?_eq_some_iff.1 hj
      rw [List.length_replicate] at hj1
      rw [hs j hj1, ← hj2]; simp) (by simp [hn]; omega) (fun v hv => by rw [List.eq_of_mem_replicate hv]; rfl)
  rw [List.length_replicate] at hrun
  refine ⟨_, hrun, ⟨_, setRow_heap w g _ _ 3 _ hg, by simp; omega, fun i hi => ?_⟩, ⟨rfl, rfl, rfl, by simp [World.setRow], fun k hk e => setRow_other w g k _ e⟩⟩
  rw [List.getElem?_toArray, List.append_assoc]
  by_cases h1 : i < n
  · rw [List.getElem?_append_left (by simp; omega), List.getElem?_take, if_pos h1, Array.getElem?_toList, hc i hi]
  · rw [List.getElem?_append_right (by simp; omega)]
    have hl : (List.take n cur.toList).length = n := by simp; omega
    rw [hl]
    by_cases h2 : i < n + m
    · rw [List.getElem?_append_left (by simp; omega), List.getElem?_replicate, if_pos (by omega)]
    · rw [List.getElem?_append_right (by simp; omega), List.length_replicate, List.getElem?_drop, Array.getElem?_toList, show n + m + (i - n - m) = i by omega, hc i hi]
attribute [local go_sem ↓] cp_N
set_option maxRecDepth 20000 in
set_option maxHeartbeats 1000000 in
theorem nrep_ok (N b : Nat) (h1 : 1 ≤ N) (h2 : N ≤ 4096) {w : World} (hb : w.cell? ⟨b, 0, none⟩ = some (.int .i64 0)) (hlt : b < w.heap.size) :
    Calls Try.prog 14 #[.slice (some ⟨b, 0, none⟩) 1 1, .int .i64 N] w fun e w' => ∃ g, e = .returned (.slice (some ⟨g, 0, none⟩) N N) ∧ w'.rowIs g 3 N (fun _ => .int .i64 0) ∧ Below w.heap.size w w' ∧ w.heap.size ≤ g := by
  have hmk := run_make_row' (P := Try.prog) 38 3 (.int .i64 0) 8 Try.underlying38 info3 rfl .i64 .i64 N (by omega) (by omega)
  have HB : Hid (Below w.heap.size w (w.alloc (.cells (madeCells #[.int .i64 0] N) 3))) := (Below.refl w.heap.size w).alloc (Nat.le_refl _) _
  have hr0 : (w.alloc (.cells (madeCells #[.int .i64 0] N) 3)).rowIs w.heap.size 3 N (fun _ => .int .i64 0) := World.rowIs_made w (.int .i64 0) N 3
  have hb0 : (w.alloc (.cells (madeCells #[.int .i64 0] N) 3)).cell? ⟨b, 0, none⟩ = some (.int .i64 0) := (World.cell?_of_block (a := ⟨b, 0, none⟩) (Below.heap_alloc _ _ _ hlt)).trans hb
  obtain ⟨w1, hc1, hr1, ht1⟩ := ncopy (n := 0) (m := 1) ⟨b, 0, none⟩ 1 1 N N (by rw [show Nat.min 1 N = min 1 N from rfl]; omega) (by omega) hr0 (fun j hj => by
    obtain rfl : j = 0 := (by omega)
    exact hb0)
  have HB1 : Hid (Below w.heap.size w w1) := Bt.under HB.out HB.out.size (fun k hk => Nat.le_of_eq hk.symm) ht1
  have HR1 : Hid (w1.rowIs w.heap.size 3 N (fun _ => .int .i64 0)) := hr1
  have d1 : decide ((N : Int) < 0) = false := by simp <;> omega
  have d2 : decide ((9223372036854775807 : Int) < (N : Int)) = false := by simp <;> omega
  clear hr0 hb0 hr1 ht1 hb HB
  go_enter Try.func14, Try.ntmps14
  go_wp2_with (go_at_call 22; refine (nmul N h2 _).mono ?_; rintro e w9 ⟨rfl, hw9⟩; replace hw9 := hw9.symm; subst hw9)
  clear hc1 hmk d1 d2
  generalize hgs : w.heap.size = g at HR1 HB1 ⊢
  have HG : Hid (w.heap.size = g) := hgs
  clear hgs
  go_loopg [8] N (fun kx v8 wr => ∃ n : Nat, v8 = .int .i64 n ∧ 1 ≤ n ∧ n ≤ N ∧ N - n ≤ kx ∧ Hid (wr.rowIs g 3 N (fun _ => .int .i64 0)) ∧ Hid (Below g w wr))
  case atStart => exact ⟨1, rfl, by omega, by omega, by omega, HR1, HB1⟩
  case round =>
    clear HB1 HR1
    obtain ⟨n, rfl, hn1, hnN, hkx, hr, hb⟩ := hrel
    by_cases hlt : n < N
    · obtain ⟨m, hm⟩ : ∃ m, m = min n (N - n) := ⟨_, rfl⟩
      have hm1 : 1 ≤ m ∧ n + m ≤ N := by omega
      obtain ⟨w2, hc2, hr2, ht2⟩ := ncopy (w := wr.drew) (g := g) (N := N) (n := n) (m := m) ⟨g, 0, none⟩ n N (N - n) (N - n) hm hm1.2 hr.out.drew (fun j hj => by
        rw [show (⟨g, 0, none⟩ : Addr).add j = ⟨g, j, none⟩ by unfold Addr.add; split <;> simp_all]
        rw [hr.out.drew.cell (show j < N by omega)])
      have HR2 : Hid (w2.rowIs g 3 N (fun _ => .int .i64 0)) := hr2
      have HB2 : Hid (Below g w w2) := Bt.under hb.out.drew (by have := hb.out.drew.size; have := HG.out; omega) (fun k hk => Nat.le_of_eq hk.symm) ht2
      have hne : ¬ N = n := by omega
      have hlt' : (n : Int) < (N : Int) := by omega
      have hn0 : (0 : Int) ≤ (n : Int) := by omega
      have hn2 : (n : Int) ≤ (N : Int) := by omega
      clear hr hb ht2 hr2 hm
      go_wp2
      go_region
      go_wp2
      go_roundg (N - (n + m))
      case rel => exact ⟨n + m, by go_num, by omega, by omega, by omega, HR2, HB2⟩
      case measure => omega
    · obtain rfl : n = N := by omega
      have hlt' : ¬ (n : Int) < (n : Int) := by omega
      go_wp2
      go_ret
      exact ⟨_, rfl, hr.out, by rw [HG.out]; exact hb.out, Nat.le_of_eq HG.out⟩
theorem new0 (w : World) : (w.alloc (.cells #[.int .i64 0] 3)).cell? ⟨w.heap.size, 0, none⟩ = some (.int .i64 0) := by
  have h : (w.alloc (.cells #[.int .i64 0] 3)).heap[w.heap.size]? = some (.cells #[.int .i64 0] 3 (0, 0)) := Array.getElem?_push_size
  unfold World.cell?
  rw [h]
  rfl
/-- The new table. -/
def mt0 (N : Nat) : Mt := ⟨N, fun _ => 0, fun _ => none, fun _ => none, []⟩
set_option maxRecDepth 20000 in
theorem nnew_ok (N : Nat) (h1 : 1 ≤ N) (h2 : N ≤ 8) (w : World) : Calls Try.prog 6 #[.int .i64 N] w fun e w' => ∃ s, e = .returned (.tuple #[.pointer (some ⟨s, 0, none⟩), .int .i64 0]) ∧ Mn w.heap.size w' s (mt0 N) 0 ∧ Below w.heap.size w w' := by
  have hmm := @run_makeMap Try.prog
  have d1 : decide ((N : Int) < 1) = false := by simp; omega
  have d2 : decide ((8 : Int) < (N : Int)) = false := by simp; omega
  have hR := nrep_ok N w.heap.size h1 (by omega) (w := w.alloc (.cells #[.int .i64 0] 3)) (new0 w) (by show w.heap.size < (w.heap.push _).size; rw [Array.size_push]; omega)
  have HM : Hid (∀ w1 g, w1.rowIs g 3 N (fun _ => .int .i64 0) → Below (w.alloc (.cells #[.int .i64 0] 3)).heap.size (w.alloc (.cells #[.int .i64 0] 3)) w1 → (w.alloc (.cells #[.int .i64 0] 3)).heap.size ≤ g → MnC w.heap.size (((w1.alloc (.map #[] 0)).alloc (.map #[] 0)).alloc (.cells #[.slice (some ⟨g, 0, none⟩) N N, .map (some w1.heap.size), .slice none 0 0, .map (some (w1.heap.size + 1))] 46)) (w1.heap.size + 2) g w1.heap.size (w1.heap.size + 1) (.slice none 0 0) (mt0 N) 0 ∧ Below w.heap.size w (((w1.alloc (.map #[] 0)).alloc (.map #[] 0)).alloc (.cells #[.slice (some ⟨g, 0, none⟩) N N, .map (some w1.heap.size), .slice none 0 0, .map (some (w1.heap.size + 1))] 46))) := fun w1 g hg hb hgl => by
    have hz0 : (w.alloc (.cells #[.int .i64 0] 3)).heap.size = w.heap.size + 1 := Array.size_push _
    have hz := hb.size
    have hza : (w1.alloc (.map #[] 0)).heap.size = w1.heap.size + 1 := Array.size_push _
    have hzb : ((w1.alloc (.map #[] 0)).alloc (.map #[] 0)).heap.size = w1.heap.size + 2 := by rw [show ((w1.alloc (.map #[] 0)).alloc (.map #[] 0)).heap.size = (w1.alloc (.map #[] 0)).heap.size + 1 from Array.size_push _, hza]
    obtain ⟨cs, q1, q2⟩ := hg
    have hgs : g < w1.heap.size := (Array.getElem?_eq_some_iff.1 q1).1
    refine ⟨⟨⟨by omega, by omega, by omega, by omega⟩, ?_, ⟨cs, ?_, q2⟩, ?_, ?_, by omega, Rs.nil _ _ _ _, h2, by omega, Nat.le_refl _⟩, ?_⟩
    · have := @Array.getElem?_push_size _ ((w1.alloc (.map #[] 0)).alloc (.map #[] 0)).heap (Obj.cells #[.slice (some ⟨g, 0, none⟩) N N, .map (some w1.heap.size), .slice none 0 0, .map (some (w1.heap.size + 1))] 46 (0, 0))
      rw [hzb] at this
      exact this
    · rw [Below.heap_alloc _ _ _ (by omega), Below.heap_alloc _ _ _ (by omega), Below.heap_alloc _ _ _ (by omega)]; exact q1
    · exact (Mv.made kO w1).of_block (by rw [Below.heap_alloc _ _ _ (by omega), Below.heap_alloc _ _ _ (by omega)])
    · have := Mv.made kB (w1.alloc (.map #[] 0))
      rw [hza] at this
      exact this.of_block (by rw [Below.heap_alloc _ _ _ (by omega)])
    · have b0 : Below w.heap.size w w1 := ((Below.refl _ w).alloc (Nat.le_refl _) _).trans (hb.mono (by omega))
      exact ((b0.alloc (by omega) _).alloc (by omega) _).alloc (by omega) _
  go_enter Try.func6, Try.ntmps6
  go_wp2_with (go_at_call 14; refine hR.mono ?_; rintro e w1 ⟨g, rfl, hg, hb, hgl⟩; have HN : Hid _ := HM.out w1 g hg hb hgl; clear hg hb hgl hR)
  go_ret2
  exact ⟨_, rfl, ⟨_, _, _, _, HN.out.1⟩, HN.out.2⟩
end Go.Proofs.Ytdkbdmlodngneaa
