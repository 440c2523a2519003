/- A slice of ints as an argument; masks. -/
import Derived.Test.YthkelaeemefnaaaGreatMS4
import Derived.Deep.DeepAppendWide
import Derived.Deep.Upon
import Derived.Maps.AppendAt
namespace Go.Proofs.YthkelaeemefnaaaGreat
open Go.RowKit

theorem mask3 (n : Int) : bits BinOp.and .i64 n 3 = n % 4 := by
  have e : (BitVec.ofInt 64 n &&& BitVec.ofInt 64 3).toNat = (n % 18446744073709551616).toNat % 4 := by
    rw [BitVec.toNat_and, BitVec.toNat_ofInt, show (BitVec.ofInt 64 3).toNat = 2 ^ 2 - 1 from by decide, Nat.and_two_pow_sub_one_eq_mod]; rfl
  show IntKind.i64.wrap ((BitVec.ofInt 64 n &&& BitVec.ofInt 64 3).toNat : Nat) = n % 4
  rw [e, IntKind.wrap_i64]; omega
theorem masked3 (n : Int) : ∃ r : Nat, bits BinOp.and .i64 n 3 = (r : Int) ∧ r < 4 := ⟨(n % 4).toNat, by rw [mask3]; omega, by omega⟩
theorem mask7 (n : Int) : bits BinOp.and .i64 n 7 = n % 8 := by
  have e : (BitVec.ofInt 64 n &&& BitVec.ofInt 64 7).toNat = (n % 18446744073709551616).toNat % 8 := by
    rw [BitVec.toNat_and, BitVec.toNat_ofInt, show (BitVec.ofInt 64 7).toNat = 2 ^ 3 - 1 from by decide, Nat.and_two_pow_sub_one_eq_mod]; rfl
  show IntKind.i64.wrap ((BitVec.ofInt 64 n &&& BitVec.ofInt 64 7).toNat : Nat) = n % 8
  rw [e, IntKind.wrap_i64]; omega
theorem masked7 (n : Int) : ∃ r : Nat, bits BinOp.and .i64 n 7 = (r : Int) ∧ r < 8 := ⟨(n % 8).toNat, by rw [mask7]; omega, by omega⟩
theorem mask15 (n : Int) : bits BinOp.and .i64 n 15 = n % 16 := by
  have e : (BitVec.ofInt 64 n &&& BitVec.ofInt 64 15).toNat = (n % 18446744073709551616).toNat % 16 := by
    rw [BitVec.toNat_and, BitVec.toNat_ofInt, show (BitVec.ofInt 64 15).toNat = 2 ^ 4 - 1 from by decide, Nat.and_two_pow_sub_one_eq_mod]; rfl
  show IntKind.i64.wrap ((BitVec.ofInt 64 n &&& BitVec.ofInt 64 15).toNat : Nat) = n % 16
  rw [e, IntKind.wrap_i64]; omega
theorem masked15 (n : Int) : ∃ r : Nat, bits BinOp.and .i64 n 15 = (r : Int) ∧ r < 16 := ⟨(n % 16).toNat, by rw [mask15]; omega, by omega⟩
theorem mask31 (n : Int) : bits BinOp.and .i64 n 31 = n % 32 := by
  have e : (BitVec.ofInt 64 n &&& BitVec.ofInt 64 31).toNat = (n % 18446744073709551616).toNat % 32 := by
    rw [BitVec.toNat_and, BitVec.toNat_ofInt, show (BitVec.ofInt 64 31).toNat = 2 ^ 5 - 1 from by decide, Nat.and_two_pow_sub_one_eq_mod]; rfl
  show IntKind.i64.wrap ((BitVec.ofInt 64 n &&& BitVec.ofInt 64 31).toNat : Nat) = n % 32
  rw [e, IntKind.wrap_i64]; omega
theorem masked31 (n : Int) : ∃ r : Nat, bits BinOp.and .i64 n 31 = (r : Int) ∧ r < 32 := ⟨(n % 32).toNat, by rw [mask31]; omega, by omega⟩
theorem mask63 (n : Int) : bits BinOp.and .i64 n 63 = n % 64 := by
  have e : (BitVec.ofInt 64 n &&& BitVec.ofInt 64 63).toNat = (n % 18446744073709551616).toNat % 64 := by
    rw [BitVec.toNat_and, BitVec.toNat_ofInt, show (BitVec.ofInt 64 63).toNat = 2 ^ 6 - 1 from by decide, Nat.and_two_pow_sub_one_eq_mod]; rfl
  show IntKind.i64.wrap ((BitVec.ofInt 64 n &&& BitVec.ofInt 64 63).toNat : Nat) = n % 64
  rw [e, IntKind.wrap_i64]; omega
theorem masked63 (n : Int) : ∃ r : Nat, bits BinOp.and .i64 n 63 = (r : Int) ∧ r < 64 := ⟨(n % 64).toNat, by rw [mask63]; omega, by omega⟩
theorem mask255 (n : Int) : bits BinOp.and .i64 n 255 = n % 256 := by
  have e : (BitVec.ofInt 64 n &&& BitVec.ofInt 64 255).toNat = (n % 18446744073709551616).toNat % 256 := by
    rw [BitVec.toNat_and, BitVec.toNat_ofInt, show (BitVec.ofInt 64 255).toNat = 2 ^ 8 - 1 from by decide, Nat.and_two_pow_sub_one_eq_mod]; rfl
  show IntKind.i64.wrap ((BitVec.ofInt 64 n &&& BitVec.ofInt 64 255).toNat : Nat) = n % 256
  rw [e, IntKind.wrap_i64]; omega
theorem masked255 (n : Int) : ∃ r : Nat, bits BinOp.and .i64 n 255 = (r : Int) ∧ r < 256 := ⟨(n % 256).toNat, by rw [mask255]; omega, by omega⟩
theorem mask1023 (n : Int) : bits BinOp.and .i64 n 1023 = n % 1024 := by
  have e : (BitVec.ofInt 64 n &&& BitVec.ofInt 64 1023).toNat = (n % 18446744073709551616).toNat % 1024 := by
    rw [BitVec.toNat_and, BitVec.toNat_ofInt, show (BitVec.ofInt 64 1023).toNat = 2 ^ 10 - 1 from by decide, Nat.and_two_pow_sub_one_eq_mod]; rfl
  show IntKind.i64.wrap ((BitVec.ofInt 64 n &&& BitVec.ofInt 64 1023).toNat : Nat) = n % 1024
  rw [e, IntKind.wrap_i64]; omega
theorem masked1023 (n : Int) : ∃ r : Nat, bits BinOp.and .i64 n 1023 = (r : Int) ∧ r < 1024 := ⟨(n % 1024).toNat, by rw [mask1023]; omega, by omega⟩
/-- A slice of n ints that can be read: its i-th is f i. -/
def Ints (w : World) (v : Value) (n : Nat) (f : Nat → Int) : Prop :=
  ∃ (ao : Option Addr) (cap : Nat), v = .slice ao n cap ∧ (n = 0 ∨ ∃ B o : Nat, ao = some ⟨B, o, none⟩ ∧ B < w.heap.size ∧ ∀ i, i < n → w.cell? ⟨B, o + i, none⟩ = some (.int .i64 (f i)))
theorem Ints.below {w w' : World} {v : Value} {n : Nat} {f : Nat → Int} (h : Ints w v n f) (hb : Below w.heap.size w w') : Ints w' v n f := by
  obtain ⟨ao, cap, rfl, h0 | ⟨B, o, rfl, hB, hc⟩⟩ := h
  · exact ⟨ao, cap, rfl, Or.inl h0⟩
  · exact ⟨_, cap, rfl, Or.inr ⟨B, o, rfl, Nat.lt_of_lt_of_le hB hb.size, fun i hi => (World.cell?_of_block (a := ⟨B, o + i, none⟩) (hb.block B hB)).trans (hc i hi)⟩⟩
end Go.Proofs.YthkelaeemefnaaaGreat
/- Rows of ints that a call makes itself and appends to: told by a function of the index. -/
namespace Go.Proofs.YthkelaeemefnaaaGreat
open Go.RowKit

/-- The cells of n ints. -/
def cellsOf (n : Nat) (f : Nat → Int) : List Value := (List.range n).map fun i => .int .i64 (f i)
theorem cellsOf_length (n : Nat) (f : Nat → Int) : (cellsOf n f).length = n := by simp [cellsOf]
theorem cellsOf_get {n : Nat} {f : Nat → Int} {j : Nat} (h : j < n) : (cellsOf n f)[j]? = some (.int .i64 (f j)) := by simp [cellsOf, h]
theorem cellsOf_inv {n : Nat} {f : Nat → Int} {j : Nat} {u : Value} (h : (cellsOf n f)[j]? = some u) : j < n ∧ u = .int .i64 (f j) := by
  have hj : j < n := by
    have := (List.getElem?_eq_some_iff.1 h).1
    rwa [cellsOf_length] at this
  rw [cellsOf_get hj] at h
  exact ⟨hj, (Option.some.inj h).symm⟩
theorem cellsOf_one {n : Nat} {f : Nat → Int} : ∀ u ∈ cellsOf n f, u.oneCell' = true := by
  intro u hu
  obtain ⟨i, _, rfl⟩ := List.mem_map.1 hu
  rfl
/-- n of f, then g. -/
def cat (n : Nat) (f g : Nat → Int) : Nat → Int := fun i => if i < n then f i else g (i - n)
theorem cellsOf_cat (n m : Nat) (f g : Nat → Int) : cellsOf n f ++ cellsOf m g = cellsOf (n + m) (cat n f g) := by
  unfold cellsOf
  rw [List.range_add, List.map_append, List.map_map]
  congr 1
  · apply List.map_congr_left
    intro i hi
    have := List.mem_range.1 hi
    simp [cat, this]
  · apply List.map_congr_left
    intro i hi
    have h2 : ¬ n + i < n := by omega
    simp only [cat, Function.comp, h2, if_false, Nat.add_sub_cancel_left]
theorem cellsOf_congr {n : Nat} {f g : Nat → Int} (h : ∀ i, i < n → f i = g i) : cellsOf n f = cellsOf n g := by
  unfold cellsOf
  apply List.map_congr_left
  intro i hi
  rw [h i (List.mem_range.1 hi)]

/-- v is a row of n ints from block B on, or nil; its i-th is f i. -/
def Mine (w : World) (B : Nat) (v : Value) (n : Nat) (f : Nat → Int) : Prop := w.ownsRow B 3 1 v n (cellsOf n f)
theorem Mine.congr {w : World} {B : Nat} {v : Value} {n : Nat} {f g : Nat → Int} (h : Mine w B v n f) (e : ∀ i, i < n → f i = g i) : Mine w B v n g := by
  unfold Mine; rw [← cellsOf_congr e]; exact h
theorem Mine.below {w w' : World} {B : Nat} {v : Value} {n : Nat} {f : Nat → Int} (h : Mine w B v n f) (k : Below w.heap.size w w') : Mine w' B v n f :=
  World.ownsRow.kept h (row := none) ⟨k.os, k.tape, k.output, k.size, fun i hi _ => k.block i hi⟩ (by cases h : v.ownBlock <;> simp)
theorem Mine.nil (w : World) (B : Nat) (f : Nat → Int) : Mine w B (.slice none 0 0) 0 f := World.ownsRow_nil w B 3 1
/-- A literal without an element. -/
theorem Mine.empty (w : World) (B : Nat) (f : Nat → Int) (hB : B ≤ w.heap.size) : Mine (w.alloc (.cells #[] 3)) B (.slice (some ⟨w.heap.size, 0, none⟩) 0 0) 0 f := World.ownsRow_made w #[] 0 hB (by decide) rfl
theorem Mine.shape {w : World} {B : Nat} {v : Value} {n : Nat} {f : Nat → Int} (h : Mine w B v n f) (hn : 0 < n) : ∃ p cap, v = .slice (some ⟨p, 0, none⟩) n cap ∧ B ≤ p ∧ n ≤ cap ∧ p < w.heap.size ∧
    ∃ cur : Array Value, w.heap[p]? = some (.cells cur 3 (0, 0)) ∧ cur.size = cap ∧ cap ≤ maxLen ∧ ∀ i, i < n → cur[i]? = some (.int .i64 (f i)) := by
  rcases h.2 with ⟨_, h0⟩ | ⟨g, cap, cur, rfl, hb, hg, hc, hm, hs, ht⟩
  · omega
  · refine ⟨g, cap, rfl, hb, hc, (Array.getElem?_eq_some_iff.1 hg).1, cur, hg, by simpa using hs, hm, fun i hi => ?_⟩
    have := cellsOf_get (f := f) hi
    rw [← ht, List.getElem?_take, if_pos (by omega)] at this
    simpa using this
theorem Mine.ints {w : World} {B : Nat} {v : Value} {n : Nat} {f : Nat → Int} (h : Mine w B v n f) : Ints w v n f := by
  rcases h.2 with ⟨rfl, rfl⟩ | ⟨g, cap, cur, rfl, hb, hg, hc, hm, hs, ht⟩
  · exact ⟨none, 0, rfl, Or.inl rfl⟩
  · refine ⟨_, _, rfl, Or.inr ⟨g, 0, rfl, (Array.getElem?_eq_some_iff.1 hg).1, fun i hi => ?_⟩⟩
    have := cellsOf_get (f := f) hi
    rw [← ht, List.getElem?_take, if_pos (by omega)] at this
    rw [Nat.zero_add]
    simp only [World.cell?, hg]
    simpa using this
theorem grown_below {w w' : World} {B : Nat} {v : Value} {n : Nat} {f : Nat → Int} (h : Mine w B v n f) (hg : w.grownBy w' v.ownBlock) (hB : B ≤ w.heap.size) : Below B w w' :=
  ⟨hg.os, hg.tape, hg.output, hg.size, fun k hk => hg.block k (by omega) (fun e => by have := (World.ownsRow.lt h k e.symm).1; omega)⟩
theorem add_lit (B o j : Nat) : (⟨B, o, none⟩ : Addr).add j = ⟨B, o + j, none⟩ := by unfold Addr.add; split <;> simp_all

theorem app {w : World} {B : Nat} {v x : Value} {n m : Nat} {f g : Nat → Int} (h : Mine w B v n f) (hx : Ints w x m g) (hB : B ≤ w.heap.size) (hb : n + m ≤ 26388279066624) :
    ∃ v' w', (Builtin.append_ #[32, 32] 32 #[v, x]).run Tryz.prog w = .ok v' w' ∧ Mine w' B v' (n + m) (cat n f g) ∧ Below B w w' ∧ w.grownBy w' v.ownBlock := by
  obtain ⟨i, hi, hzz⟩ := Option.map_eq_some_iff.1 info3
  simp only [Prod.mk.injEq] at hzz
  obtain ⟨hz, hs, hby⟩ := hzz
  obtain ⟨ao, cap, rfl, hv⟩ := hx
  have hcat : cellsOf n f ++ cellsOf m g = cellsOf (n + m) (cat n f g) := cellsOf_cat n m f g
  have key : ∀ (a : Addr), ao = some a → (∀ j u, (cellsOf m g)[j]? = some u → w.cell? (a.add j) = some u) → ∃ v' w', (Builtin.append_ #[32, 32] 32 #[v, .slice ao m cap]).run Tryz.prog w = .ok v' w' ∧ Mine w' B v' (n + m) (cat n f g) ∧ Below B w w' ∧ w.grownBy w' v.ownBlock := by
    rintro a rfl hc
    obtain ⟨v', w', hr, ho, hg, _⟩ := run_append_own_wide (P := Tryz.prog) w B 32 32 3 i _ 1 8 Tryz.underlying32 hi hz hs hby rfl (by decide) v n (cellsOf n f) h a m cap (cellsOf m g) (by rw [cellsOf_length, Nat.mul_one]) hc cellsOf_one (by unfold maxLen; omega) (by omega) hB
    exact ⟨v', w', hr, by unfold Mine; rw [← hcat]; exact ho, grown_below h hg hB, hg⟩
  rcases hv with rfl | ⟨C, o, rfl, hC, hc⟩
  · cases ao with
    | some a => exact key a rfl fun j u hj => by simp [cellsOf] at hj
    | none =>
      have hle : ∃ base sCap, v = .slice base n sCap ∧ n ≤ sCap := by
        rcases h.2 with ⟨rfl, rfl⟩ | ⟨g, cap, cur, rfl, _, _, hc, _⟩
        · exact ⟨_, _, rfl, Nat.le_refl _⟩
        · exact ⟨_, _, rfl, hc⟩
      obtain ⟨base, sCap, rfl, hle⟩ := hle
      have hr := run_append_nothing (P := Tryz.prog) w 32 32 32 3 i Tryz.underlying32 hi base n sCap hle _ (Src.ofNil w Tryz.underlying32 cap)
      exact ⟨_, _, hr, h.congr (fun i hi => by simp [cat, hi]), Below.refl _ _, ⟨rfl, rfl, rfl, Nat.le_refl _, fun _ _ _ => rfl⟩⟩
  · exact key _ rfl fun j u hj => by
      obtain ⟨hjm, rfl⟩ := cellsOf_inv hj
      rw [add_lit]; exact hc j hjm

theorem ints1 (w : World) (x : Int) : Ints (w.alloc (.cells #[.int .i64 x] 3)) (.slice (some ⟨w.heap.size, 0, none⟩) 1 1) 1 (fun _ => x) :=
  ⟨_, _, rfl, Or.inr ⟨_, _, rfl, by simp, fun i hi => by
    obtain rfl : i = 0 := by omega
    simp only [World.cell?, heap_alloc_new]; rfl⟩⟩
/-- An append whose run is known. -/
theorem wpList_app {P : Program} {ops : Array Oper} {rest : List Oper} {o : Oper} {a : Act} {Q : Exit → Act → World → Prop} {w w' : World} {v vx v' : Value} (s x : Operand) (hr : (Builtin.append_ #[32, 32] 32 #[v, vx]).run P w = .ok v' w')
    (hgd : o.guard = none) (ho : o.op = .call { callee := .builtin .append, args := #[s, x], argTypes := #[32, 32] }) (hty : o.type = 32) (hs : a.eval s = v) (hx : a.eval x = vx) (h : wpList P ops Q rest (a.put o.dst v') w') : wpList P ops Q (o :: rest) a w := by
  refine wpList_plain hgd fun K hK => ?_
  unfold Oper.wp execOp
  simp only [ho, hty, resolve, invoke, builtin, Sem.run_bind, Sem.run_pure, Result.andThen_ok, List.map_toArray, List.map_cons, List.map_nil, hs, hx, hr]
  exact hK _ _ h
/-- One more at a row's end: in its own block, or in a new one. -/
theorem app1 {w : World} {B : Nat} {v : Value} {n : Nat} {f : Nat → Int} (h : Mine w B v n f) (x : Int) (hB : B ≤ w.heap.size) (hn : n ≤ 1000) :
    ∃ p cap w', (Builtin.append_ #[32, 32] 32 #[v, .slice (some ⟨w.heap.size, 0, none⟩) 1 1]).run Tryz.prog (w.alloc (.cells #[.int .i64 x] 3)) = .ok (.slice (some ⟨p, 0, none⟩) (n + 1) cap) w' ∧
      Mine w' B (.slice (some ⟨p, 0, none⟩) (n + 1) cap) (n + 1) (cat n f (fun _ => x)) ∧ w.grownBy w' v.ownBlock ∧ (v.ownBlock = some p ∨ w.heap.size ≤ p) := by
  obtain ⟨i, hi, hzz⟩ := Option.map_eq_some_iff.1 info3
  simp only [Prod.mk.injEq] at hzz
  obtain ⟨hz, hs, hby⟩ := hzz
  have hcat : cellsOf n f ++ cellsOf 1 (fun _ => x) = cellsOf (n + 1) (cat n f (fun _ => x)) := cellsOf_cat n 1 f _
  obtain ⟨v', w', hr, ho, hg, _, hat⟩ := run_append_own_at (P := Tryz.prog) (w.alloc (.cells #[.int .i64 x] 3)) B 32 32 3 i _ 1 8 Tryz.underlying32 hi hz hs hby rfl (by decide) v n (cellsOf n f) (h.below ((Below.refl _ _).alloc (Nat.le_refl _) _)) ⟨w.heap.size, 0, none⟩ 1 1 (cellsOf 1 (fun _ => x)) (by rw [cellsOf_length, Nat.mul_one]) (cell_one_new w (.int .i64 x) 3) cellsOf_one (by unfold maxLen; omega) (by omega) (by simp; omega)
  rw [hcat] at ho
  have ho' : Mine w' B v' (n + 1) (cat n f (fun _ => x)) := ho
  obtain ⟨p, cap, rfl, _⟩ := ho'.shape (by omega)
  refine ⟨p, cap, w', hr, ho', ⟨hg.os, hg.tape, hg.output, Nat.le_trans (by simp) hg.size, fun k hk e => (hg.block k (by simp; omega) e).trans (Below.heap_alloc _ _ k hk)⟩, ?_⟩
  rcases hat with q | q
  · exact .inl q.symm
  · have : p = (w.alloc (.cells #[.int .i64 x] 3)).heap.size := by simpa [Value.ownBlock] using q
    exact .inr (by rw [this]; simp)

end Go.Proofs.YthkelaeemefnaaaGreat
