/- Blocks behind allocs and stores; rows of several classes: plain helps for laws that build programs. -/
import Derived.Test.YtbbmgjcabmjjdaaGreatDoorMY43
namespace Go.Proofs.YtbbmgjcabmjjdaaGreatDoor
open Go.RowKit

theorem sz_al (W : World) (o : Obj) : (W.alloc o).heap.size = W.heap.size + 1 := World.size_alloc _ _
theorem sz_sc (W : World) (a : Addr) (v : Value) : (W.setCell a v).heap.size = W.heap.size := by simp [World.setCell]
theorem hp_al (W : World) (cs : Array Value) (T : TypeId) (k : Nat) : (W.alloc (.cells cs T)).heap[k]? = if k = W.heap.size then some (.cells cs T (0, 0)) else W.heap[k]? := by
  by_cases h : k = W.heap.size
  · rw [if_pos h, h]; exact heap_alloc_new W _
  · rw [if_neg h]
    by_cases hl : k < W.heap.size
    · exact Below.heap_alloc _ _ _ hl
    · rw [Array.getElem?_eq_none (by rw [sz_al]; omega), Array.getElem?_eq_none (by omega)]
theorem hp_sc (W : World) (b i : Nat) (v : Value) (k : Nat) : (W.setCell ⟨b, i, none⟩ v).heap[k]? = if k = b then (W.heap[k]?).map (fun o => match o with
    | .cells cs T f => .cells (cs.setIfInBounds i v) T f
    | o => o) else W.heap[k]? := by
  by_cases h : k = b
  · rw [if_pos h]
    subst h
    simp only [World.setCell, Array.getElem?_modify, if_true]
    rcases W.heap[k]? with _ | o
    · rfl
    · cases o <;> rfl
  · rw [if_neg h]; exact Below.heap_setCell _ _ _ _ h
theorem Sl.blk {α : Type} {K : Kd α} {w : World} {S : Nat → Prop} {b n c : Nat} {T : TypeId} {cs : Array Value} (CS : List (List Value)) {xs : List α} (hb : w.heap[b]? = some (.cells cs T (0, 0))) (hS : S b) (hn : xs.length = n) (hl : CS.length = n) (hcs : cs.toList = CS.flatten) (hlen : n ≤ 1000) (hR : ∀ (i : Nat) (x : α) (r : List Value), xs[i]? = some x → CS[i]? = some r → K.R w S x r) : Sl K w S (.slice (some ⟨b, 0, none⟩) n c) xs := by
  subst hn
  have hk : ∀ r ∈ CS, r.length = K.k := fun r hr => by
    obtain ⟨i, hi, rfl⟩ := List.getElem_of_mem hr
    exact K.len (hR i (xs[i]'(by omega)) _ (List.getElem?_eq_getElem _) (List.getElem?_eq_getElem hi))
  refine ⟨_, c, rfl, by unfold maxLen; omega, .inr ⟨b, 0, rfl, hS, ⟨(Array.getElem?_eq_some_iff.1 hb).1, fun _ j => by simp [World.frozen?, hb]⟩, fun i x hx => ?_⟩⟩
  have hi := (List.getElem?_eq_some_iff.1 hx).1
  obtain ⟨r, hr⟩ : ∃ r, CS[i]? = some r := ⟨_, List.getElem?_eq_getElem (by omega)⟩
  refine ⟨r, hR i x r hx hr, fun j u hu => ?_⟩
  have hj := (List.getElem?_eq_some_iff.1 hu).1
  have hrk := hk r (List.mem_of_getElem? hr)
  have h1 := flat_at CS hk i r hr j (by omega)
  rw [hu, ← hcs, Array.getElem?_toList] at h1
  rw [Nat.zero_add]
  exact bxq_cell hb h1
theorem mask3 (n : Int) : bits BinOp.and .i64 n 3 = n % 4 := by
  have e : (BitVec.ofInt 64 n &&& BitVec.ofInt 64 3).toNat = (n % 18446744073709551616).toNat % 4 := by
    rw [BitVec.toNat_and, BitVec.toNat_ofInt, show (BitVec.ofInt 64 3).toNat = 2 ^ 2 - 1 from by decide, Nat.and_two_pow_sub_one_eq_mod]; rfl
  show IntKind.i64.wrap ((BitVec.ofInt 64 n &&& BitVec.ofInt 64 3).toNat : Nat) = n % 4
  rw [e, IntKind.wrap_i64]; omega
theorem masked3 (n : Int) : bits BinOp.and .i64 n 3 = 0 ∨ bits BinOp.and .i64 n 3 = 1 ∨ bits BinOp.and .i64 n 3 = 2 ∨ bits BinOp.and .i64 n 3 = 3 := by rw [mask3]; omega
end Go.Proofs.YtbbmgjcabmjjdaaGreatDoor
