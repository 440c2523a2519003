/- slices.Repeat of one number; New. -/
import Derived.Test.YtcafmloinmdeeaaMRing
import Derived.Laws.CopyOwn
import Derived.Deep.RegionLaw
import Derived.Deep.RegionHeld3
namespace Go.Proofs.Ytcafmloinmdeeaa
open Go.RowKit
theorem minfo3 : (Try.prog.info? 3).map (fun i => (i.zero, i.size, i.bytes)) = some (some (.int .i64 0), 1, 8) := by kernel_rfl
theorem minfo3s : (Try.prog.info? 3).map (·.size) = some 1 := by kernel_rfl
theorem mmask (y : Nat) (hy : y ≤ 4096) : bits BinOp.and .u64 (y : Int) 4294967295 = (y : Int) := by
  have e : (BitVec.ofInt 64 (y : Int) &&& BitVec.ofInt 64 4294967295).toNat = ((y : Int) % 18446744073709551616).toNat % 4294967296 := by
    rw [BitVec.toNat_and, BitVec.toNat_ofInt, show (BitVec.ofInt 64 4294967295).toNat = 2 ^ 32 - 1 from by decide, Nat.and_two_pow_sub_one_eq_mod]; rfl
  show IntKind.u64.wrap ((BitVec.ofInt 64 (y : Int) &&& BitVec.ofInt 64 4294967295).toNat : Nat) = (y : Int)
  rw [e, IntKind.wrap_u64]; omega
theorem mul64_one (y : Nat) (hy : y ≤ 4096) (w : World) :
    Calls Try.prog 27 #[.int .u64 1, .int .u64 y] w fun e w' => e = .returned (.tuple #[.int .u64 0, .int .u64 y]) ∧ w' = w := by
  have m1 := mmask y hy
  have m0 : bits BinOp.and .u64 0 4294967295 = 0 := by kernel_rfl
  have m2 : bits BinOp.and .u64 1 4294967295 = 1 := by kernel_rfl
  have d1 : (y : Int) / 4294967296 = 0 := by omega
  go_enter Try.func27, Try.ntmps27
  go_wp2
  go_ret2
  exact ⟨rfl, rfl⟩
theorem mul_one (y : Nat) (hy : y ≤ 4096) (w : World) :
    Calls Try.prog 22 #[.int .u64 1, .int .u64 y] w fun e w' => e = .returned (.tuple #[.int .u64 0, .int .u64 y]) ∧ w' = w := by
  go_enter Try.func22, Try.ntmps22
  go_wp2_with (go_at_call 27; refine (mul64_one y hy _).mono ?_; rintro e w1 ⟨rfl, hw1⟩; replace hw1 := hw1.symm; subst hw1)
  go_ret2
  exact ⟨rfl, rfl⟩
def ones (n : Nat) : Nat → Int := fun i => if i < n then 1 else 0
/-- A copy, by a name that the walk does not open. -/
def cpM (ats : Array TypeId) (ty : TypeId) (args : Array Value) : Sem Value := Builtin.copy_ ats ty args
theorem cp_M (ats : Array TypeId) (ty : TypeId) (args : Array Value) : Builtin.copy_ ats ty args = cpM ats ty args := rfl
theorem mcopy {w : World} {g N n m : Nat} (a : Addr) (sLen sCap dLen dCap : Nat) (hm : m = Nat.min sLen dLen) (hfit : n + m ≤ N) (hr : w.rowIs g 3 N (fun i => .int .i64 (ones n i))) (hs : ∀ j, j < m → w.cell? (a.add j) = some (.int .i64 1)) :
    ∃ w', (cpM #[29, 29] 3 #[.slice (some ⟨g, n, none⟩) dLen dCap, .slice (some a) sLen sCap]).run Try.prog w = .ok (.int .i64 m) w' ∧ w'.rowIs g 3 N (fun i => .int .i64 (ones (n + m) i)) ∧ Bt (fun k => k = g) w w' := by
  obtain ⟨cur, hg, hn, hc⟩ := hr
  have hrun := run_copy_row Try.prog w 29 29 3 3 g n dLen dCap a sLen sCap cur 3 (List.replicate m (.int .i64 1)) Try.underlying29 minfo3s hg (by simp [hm])
    (fun j v hj => by
      obtain ⟨hj1, hj2⟩ := List.getElem?_eq_some_iff.1 hj
      rw [List.length_replicate] at hj1
      rw [hs j hj1, ← hj2]; simp) (by simp [hn]; omega) (fun v hv => by rw [List.eq_of_mem_replicate hv]; rfl)
  rw [List.length_replicate] at hrun
  refine ⟨_, hrun, ⟨_, setRow_heap w g _ _ 3 _ hg, by simp; omega, fun i hi => ?_⟩, ⟨rfl, rfl, rfl, by simp [World.setRow], fun k hk e => setRow_other w g k _ e⟩⟩
  rw [List.getElem?_toArray, List.append_assoc]
  by_cases h1 : i < n
  · rw [List.getElem?_append_left (by simp; omega), List.getElem?_take, if_pos h1, Array.getElem?_toList, hc i hi]
    simp [ones, h1, show i < n + m by omega]
  · rw [List.getElem?_append_right (by simp; omega)]
    have hl : (List.take n cur.toList).length = n := by simp; omega
    rw [hl]
    by_cases h2 : i < n + m
    · rw [List.getElem?_append_left (by simp; omega), List.getElem?_replicate, if_pos (by omega)]
      simp [ones, h2]
    · rw [List.getElem?_append_right (by simp; omega), List.length_replicate, List.getElem?_drop, Array.getElem?_toList, show n + m + (i - n - m) = i by omega, hc i hi]
      simp [ones, h1, h2]
attribute [local go_sem ↓] cp_M
set_option maxRecDepth 20000 in
set_option maxHeartbeats 1000000 in
theorem repeat_ok (N b : Nat) (h1 : 1 ≤ N) (h2 : N ≤ 4096) {w : World} (hb : w.cell? ⟨b, 0, none⟩ = some (.int .i64 1)) (hlt : b < w.heap.size) :
    Calls Try.prog 14 #[.slice (some ⟨b, 0, none⟩) 1 1, .int .i64 N] w fun e w' => ∃ g, e = .returned (.slice (some ⟨g, 0, none⟩) N N) ∧ w'.rowIs g 3 N (fun _ => .int .i64 1) ∧ Below w.heap.size w w' ∧ w.heap.size ≤ g := by
  have hmk := run_make_row' (P := Try.prog) 29 3 (.int .i64 0) 8 Try.underlying29 minfo3 rfl .i64 .i64 N (by omega) (by omega)
  have HB : Hid (Below w.heap.size w (w.alloc (.cells (madeCells #[.int .i64 0] N) 3))) := (Below.refl w.heap.size w).alloc (Nat.le_refl _) _
  have hr0 : (w.alloc (.cells (madeCells #[.int .i64 0] N) 3)).rowIs w.heap.size 3 N (fun i => .int .i64 (ones 0 i)) := (World.rowIs_made w (.int .i64 0) N 3).congr (fun i _ => by simp [ones])
  have hb0 : (w.alloc (.cells (madeCells #[.int .i64 0] N) 3)).cell? ⟨b, 0, none⟩ = some (.int .i64 1) := (World.cell?_of_block (a := ⟨b, 0, none⟩) (Below.heap_alloc _ _ _ hlt)).trans hb
  obtain ⟨w1, hc1, hr1, ht1⟩ := mcopy (m := 1) ⟨b, 0, none⟩ 1 1 N N (by rw [show Nat.min 1 N = min 1 N from rfl]; omega) (by omega) hr0 (fun j hj => by
    obtain rfl : j = 0 := (by omega)
    exact hb0)
  have HB1 : Hid (Below w.heap.size w w1) := Bt.under HB.out HB.out.size (fun k hk => Nat.le_of_eq hk.symm) ht1
  have HR1 : Hid (w1.rowIs w.heap.size 3 N (fun i => .int .i64 (ones 1 i))) := hr1
  have d1 : decide ((N : Int) < 0) = false := by simp <;> omega
  have d2 : decide ((9223372036854775807 : Int) < (N : Int)) = false := by simp <;> omega
  clear hr0 hb0 hr1 ht1 hb HB
  go_enter Try.func14, Try.ntmps14
  go_wp2_with (go_at_call 22; refine (mul_one N h2 _).mono ?_; rintro e w9 ⟨rfl, hw9⟩; replace hw9 := hw9.symm; subst hw9)
  clear hc1 hmk d1 d2
  generalize hgs : w.heap.size = g at HR1 HB1 ⊢
  have HG : Hid (w.heap.size = g) := hgs
  clear hgs
  go_loopg [8] N (fun kx v8 wr => ∃ n : Nat, v8 = .int .i64 n ∧ 1 ≤ n ∧ n ≤ N ∧ N - n ≤ kx ∧ Hid (wr.rowIs g 3 N (fun i => .int .i64 (ones n i))) ∧ Hid (Below g w wr))
  case atStart => exact ⟨1, rfl, by omega, by omega, by omega, HR1, HB1⟩
  case round =>
    clear HB1 HR1
    obtain ⟨n, rfl, hn1, hnN, hkx, hr, hb⟩ := hrel
    by_cases hlt : n < N
    · obtain ⟨m, hm⟩ : ∃ m, m = min n (N - n) := ⟨_, rfl⟩
      have hm1 : 1 ≤ m ∧ n + m ≤ N := by omega
      obtain ⟨w2, hc2, hr2, ht2⟩ := mcopy (w := wr.drew) (g := g) (N := N) (n := n) (m := m) ⟨g, 0, none⟩ n N (N - n) (N - n) hm hm1.2 hr.out.drew (fun j hj => by
        rw [show (⟨g, 0, none⟩ : Addr).add j = ⟨g, j, none⟩ by unfold Addr.add; split <;> simp_all]
        rw [hr.out.drew.cell (show j < N by omega)]
        simp [ones, show j < n by omega])
      have HR2 : Hid (w2.rowIs g 3 N (fun i => .int .i64 (ones (n + m) i))) := hr2
      have HB2 : Hid (Below g w w2) := Bt.under hb.out.drew (by have := hb.out.drew.size; have := HG.out; omega) (fun k hk => Nat.le_of_eq hk.symm) ht2
      have hne : ¬ N = n := by omega
      have hlt' : (n : Int) < (N : Int) := by omega
      have hn0 : (0 : Int) ≤ (n : Int) := by omega
      have hn2 : (n : Int) ≤ (N : Int) := by omega
      clear hr hb ht2 hr2 hm
      go_wp2
      go_region
      go_wp2
      go_roundg (N - (n + m))
      case rel => exact ⟨n + m, by go_num, by omega, by omega, by omega, HR2, HB2⟩
      case measure => omega
    · obtain rfl : n = N := by omega
      have hlt' : ¬ (n : Int) < (n : Int) := by omega
      go_wp2
      go_ret
      exact ⟨_, rfl, hr.out.congr (fun i hi => by simp [ones, hi]), by rw [HG.out]; exact hb.out, Nat.le_of_eq HG.out⟩
end Go.Proofs.Ytcafmloinmdeeaa
