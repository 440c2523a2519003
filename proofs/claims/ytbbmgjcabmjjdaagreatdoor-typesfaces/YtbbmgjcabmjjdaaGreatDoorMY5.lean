/- Rows that are copied: CopyInts, CopyFields. -/
import Derived.Test.YtbbmgjcabmjjdaaGreatDoorMY4
import Derived.Test.YtbbmgjcabmjjdaaGreatDoorMY3
import Derived.Deep.LoopGhost
import Derived.Deep.RegionHeld3
import Derived.Deep.DeepCutAuto
namespace Go.Proofs.YtbbmgjcabmjjdaaGreatDoor
open Go.RowKit

def tinyM : Md := ⟨⟨#[109, 97, 105, 110]⟩, true, [], 0, 0, 0, [⟨29, 0, 0⟩], [], []⟩
def tinyC : Cs := ⟨⟨#[77]⟩, false, false, 0, [], [], [], [tinyM]⟩
def tinyP : Pg := ⟨11, [tinyC]⟩
theorem Sl.one1 {α : Type} {K : Kd α} {w : World} {S : Nat → Prop} {b c : Nat} {cs : Array Value} {T : TypeId} {x : α} (hb : w.heap[b]? = some (.cells cs T (0, 0))) (hS : S b) (hR : K.R w S x cs.toList) : Sl K w S (.slice (some ⟨b, 0, none⟩) 1 c) [x] := by
  refine ⟨_, c, rfl, by show 1 ≤ maxLen; unfold maxLen; omega, .inr ⟨b, 0, rfl, hS, ⟨(Array.getElem?_eq_some_iff.1 hb).1, fun _ j => by simp [World.frozen?, hb]⟩, fun i y hy => ?_⟩⟩
  cases i with
  | zero =>
    simp at hy; subst hy
    refine ⟨_, hR, fun j u hu => ?_⟩
    rw [Nat.zero_mul, Nat.zero_add, Nat.zero_add]
    simp [World.cell?, hb]
    simpa using hu
  | succ i => simp at hy
set_option maxHeartbeats 2000000 in
set_option maxRecDepth 20000 in
theorem Tiny_any (w : World) : Calls Tryz.prog 9 #[] w fun e w' => Below w.heap.size w w' ∧ ∃ v, e = .returned v ∧ Nw kPg w tinyP v w' := by
  go_enter Tryz.func9, Tryz.ntmps9
  go_wp2
  have s1 : (w.alloc (.cells #[.int .i64 11, .slice (some ⟨w.heap.size + 1 + 1 + 1 + 1, 0, none⟩) 1 1] 37)).heap.size = w.heap.size + 1 := by simp
  have s2 : ((w.alloc (.cells #[.int .i64 11, .slice (some ⟨w.heap.size + 1 + 1 + 1 + 1, 0, none⟩) 1 1] 37)).alloc (.cells #[.int .i64 29, .int .i64 0, .int .i64 0] 24)).heap.size = w.heap.size + 1 + 1 := by simp
  have s3 : (((w.alloc (.cells #[.int .i64 11, .slice (some ⟨w.heap.size + 1 + 1 + 1 + 1, 0, none⟩) 1 1] 37)).alloc (.cells #[.int .i64 29, .int .i64 0, .int .i64 0] 24)).alloc (.cells #[.string ⟨#[109, 97, 105, 110]⟩, .bool true, .slice none 0 0, .int .i64 0, .int .i64 0, .int .i64 0, .slice (some ⟨w.heap.size + 1, 0, none⟩) 1 1, .slice none 0 0, .slice none 0 0] 30)).heap.size = w.heap.size + 1 + 1 + 1 := by simp
  have s4 : ((((w.alloc (.cells #[.int .i64 11, .slice (some ⟨w.heap.size + 1 + 1 + 1 + 1, 0, none⟩) 1 1] 37)).alloc (.cells #[.int .i64 29, .int .i64 0, .int .i64 0] 24)).alloc (.cells #[.string ⟨#[109, 97, 105, 110]⟩, .bool true, .slice none 0 0, .int .i64 0, .int .i64 0, .int .i64 0, .slice (some ⟨w.heap.size + 1, 0, none⟩) 1 1, .slice none 0 0, .slice none 0 0] 30)).alloc (.cells #[.string ⟨#[109, 97, 105, 110]⟩, .bool true, .slice none 0 0, .int .i64 0, .int .i64 0, .int .i64 0, .slice (some ⟨w.heap.size + 1, 0, none⟩) 1 1, .slice none 0 0, .slice none 0 0] 30)).heap.size = w.heap.size + 1 + 1 + 1 + 1 := by simp
  have b1 := heap_alloc_new w (.cells #[.int .i64 11, .slice (some ⟨w.heap.size + 1 + 1 + 1 + 1, 0, none⟩) 1 1] 37)
  have b2 := heap_alloc_new (w.alloc (.cells #[.int .i64 11, .slice (some ⟨w.heap.size + 1 + 1 + 1 + 1, 0, none⟩) 1 1] 37)) (.cells #[.int .i64 29, .int .i64 0, .int .i64 0] 24)
  have b4 := heap_alloc_new (((w.alloc (.cells #[.int .i64 11, .slice (some ⟨w.heap.size + 1 + 1 + 1 + 1, 0, none⟩) 1 1] 37)).alloc (.cells #[.int .i64 29, .int .i64 0, .int .i64 0] 24)).alloc (.cells #[.string ⟨#[109, 97, 105, 110]⟩, .bool true, .slice none 0 0, .int .i64 0, .int .i64 0, .int .i64 0, .slice (some ⟨w.heap.size + 1, 0, none⟩) 1 1, .slice none 0 0, .slice none 0 0] 30)) (.cells #[.string ⟨#[109, 97, 105, 110]⟩, .bool true, .slice none 0 0, .int .i64 0, .int .i64 0, .int .i64 0, .slice (some ⟨w.heap.size + 1, 0, none⟩) 1 1, .slice none 0 0, .slice none 0 0] 30)
  have b5 := heap_alloc_new ((((w.alloc (.cells #[.int .i64 11, .slice (some ⟨w.heap.size + 1 + 1 + 1 + 1, 0, none⟩) 1 1] 37)).alloc (.cells #[.int .i64 29, .int .i64 0, .int .i64 0] 24)).alloc (.cells #[.string ⟨#[109, 97, 105, 110]⟩, .bool true, .slice none 0 0, .int .i64 0, .int .i64 0, .int .i64 0, .slice (some ⟨w.heap.size + 1, 0, none⟩) 1 1, .slice none 0 0, .slice none 0 0] 30)).alloc (.cells #[.string ⟨#[109, 97, 105, 110]⟩, .bool true, .slice none 0 0, .int .i64 0, .int .i64 0, .int .i64 0, .slice (some ⟨w.heap.size + 1, 0, none⟩) 1 1, .slice none 0 0, .slice none 0 0] 30)) (.cells #[.string ⟨#[77]⟩, .bool false, .bool false, .int .i64 0, .slice none 0 0, .slice none 0 0, .slice none 0 0, .slice (some ⟨w.heap.size + 1 + 1 + 1, 0, none⟩) 1 1] 34)
  rw [s1] at b2
  rw [s3] at b4
  rw [s4] at b5
  have hB : Below w.heap.size w (((((w.alloc (.cells #[.int .i64 11, .slice (some ⟨w.heap.size + 1 + 1 + 1 + 1, 0, none⟩) 1 1] 37)).alloc (.cells #[.int .i64 29, .int .i64 0, .int .i64 0] 24)).alloc (.cells #[.string ⟨#[109, 97, 105, 110]⟩, .bool true, .slice none 0 0, .int .i64 0, .int .i64 0, .int .i64 0, .slice (some ⟨w.heap.size + 1, 0, none⟩) 1 1, .slice none 0 0, .slice none 0 0] 30)).alloc (.cells #[.string ⟨#[109, 97, 105, 110]⟩, .bool true, .slice none 0 0, .int .i64 0, .int .i64 0, .int .i64 0, .slice (some ⟨w.heap.size + 1, 0, none⟩) 1 1, .slice none 0 0, .slice none 0 0] 30)).alloc (.cells #[.string ⟨#[77]⟩, .bool false, .bool false, .int .i64 0, .slice none 0 0, .slice none 0 0, .slice none 0 0, .slice (some ⟨w.heap.size + 1 + 1 + 1, 0, none⟩) 1 1] 34)) := (((((Below.refl _ _).alloc (Nat.le_refl _) _).alloc (by omega) _).alloc (by omega) _).alloc (by omega) _).alloc (by omega) _
  have c1 : (((((w.alloc (.cells #[.int .i64 11, .slice (some ⟨w.heap.size + 1 + 1 + 1 + 1, 0, none⟩) 1 1] 37)).alloc (.cells #[.int .i64 29, .int .i64 0, .int .i64 0] 24)).alloc (.cells #[.string ⟨#[109, 97, 105, 110]⟩, .bool true, .slice none 0 0, .int .i64 0, .int .i64 0, .int .i64 0, .slice (some ⟨w.heap.size + 1, 0, none⟩) 1 1, .slice none 0 0, .slice none 0 0] 30)).alloc (.cells #[.string ⟨#[109, 97, 105, 110]⟩, .bool true, .slice none 0 0, .int .i64 0, .int .i64 0, .int .i64 0, .slice (some ⟨w.heap.size + 1, 0, none⟩) 1 1, .slice none 0 0, .slice none 0 0] 30)).alloc (.cells #[.string ⟨#[77]⟩, .bool false, .bool false, .int .i64 0, .slice none 0 0, .slice none 0 0, .slice none 0 0, .slice (some ⟨w.heap.size + 1 + 1 + 1, 0, none⟩) 1 1] 34)).heap[w.heap.size]? = some (.cells #[.int .i64 11, .slice (some ⟨w.heap.size + 1 + 1 + 1 + 1, 0, none⟩) 1 1] 37) := by
    rw [Below.heap_alloc _ _ _ (by omega), Below.heap_alloc _ _ _ (by omega), Below.heap_alloc _ _ _ (by omega), Below.heap_alloc _ _ _ (by omega)]; exact b1
  have c2 : (((((w.alloc (.cells #[.int .i64 11, .slice (some ⟨w.heap.size + 1 + 1 + 1 + 1, 0, none⟩) 1 1] 37)).alloc (.cells #[.int .i64 29, .int .i64 0, .int .i64 0] 24)).alloc (.cells #[.string ⟨#[109, 97, 105, 110]⟩, .bool true, .slice none 0 0, .int .i64 0, .int .i64 0, .int .i64 0, .slice (some ⟨w.heap.size + 1, 0, none⟩) 1 1, .slice none 0 0, .slice none 0 0] 30)).alloc (.cells #[.string ⟨#[109, 97, 105, 110]⟩, .bool true, .slice none 0 0, .int .i64 0, .int .i64 0, .int .i64 0, .slice (some ⟨w.heap.size + 1, 0, none⟩) 1 1, .slice none 0 0, .slice none 0 0] 30)).alloc (.cells #[.string ⟨#[77]⟩, .bool false, .bool false, .int .i64 0, .slice none 0 0, .slice none 0 0, .slice none 0 0, .slice (some ⟨w.heap.size + 1 + 1 + 1, 0, none⟩) 1 1] 34)).heap[w.heap.size + 1]? = some (.cells #[.int .i64 29, .int .i64 0, .int .i64 0] 24) := by
    rw [Below.heap_alloc _ _ _ (by omega), Below.heap_alloc _ _ _ (by omega), Below.heap_alloc _ _ _ (by omega)]; exact b2
  have c4 : (((((w.alloc (.cells #[.int .i64 11, .slice (some ⟨w.heap.size + 1 + 1 + 1 + 1, 0, none⟩) 1 1] 37)).alloc (.cells #[.int .i64 29, .int .i64 0, .int .i64 0] 24)).alloc (.cells #[.string ⟨#[109, 97, 105, 110]⟩, .bool true, .slice none 0 0, .int .i64 0, .int .i64 0, .int .i64 0, .slice (some ⟨w.heap.size + 1, 0, none⟩) 1 1, .slice none 0 0, .slice none 0 0] 30)).alloc (.cells #[.string ⟨#[109, 97, 105, 110]⟩, .bool true, .slice none 0 0, .int .i64 0, .int .i64 0, .int .i64 0, .slice (some ⟨w.heap.size + 1, 0, none⟩) 1 1, .slice none 0 0, .slice none 0 0] 30)).alloc (.cells #[.string ⟨#[77]⟩, .bool false, .bool false, .int .i64 0, .slice none 0 0, .slice none 0 0, .slice none 0 0, .slice (some ⟨w.heap.size + 1 + 1 + 1, 0, none⟩) 1 1] 34)).heap[w.heap.size + 1 + 1 + 1]? = some (.cells #[.string ⟨#[109, 97, 105, 110]⟩, .bool true, .slice none 0 0, .int .i64 0, .int .i64 0, .int .i64 0, .slice (some ⟨w.heap.size + 1, 0, none⟩) 1 1, .slice none 0 0, .slice none 0 0] 30) := by
    rw [Below.heap_alloc _ _ _ (by omega)]; exact b4
  have s5 : (((((w.alloc (.cells #[.int .i64 11, .slice (some ⟨w.heap.size + 1 + 1 + 1 + 1, 0, none⟩) 1 1] 37)).alloc (.cells #[.int .i64 29, .int .i64 0, .int .i64 0] 24)).alloc (.cells #[.string ⟨#[109, 97, 105, 110]⟩, .bool true, .slice none 0 0, .int .i64 0, .int .i64 0, .int .i64 0, .slice (some ⟨w.heap.size + 1, 0, none⟩) 1 1, .slice none 0 0, .slice none 0 0] 30)).alloc (.cells #[.string ⟨#[109, 97, 105, 110]⟩, .bool true, .slice none 0 0, .int .i64 0, .int .i64 0, .int .i64 0, .slice (some ⟨w.heap.size + 1, 0, none⟩) 1 1, .slice none 0 0, .slice none 0 0] 30)).alloc (.cells #[.string ⟨#[77]⟩, .bool false, .bool false, .int .i64 0, .slice none 0 0, .slice none 0 0, .slice none 0 0, .slice (some ⟨w.heap.size + 1 + 1 + 1, 0, none⟩) 1 1] 34)).heap.size = w.heap.size + 1 + 1 + 1 + 1 + 1 := by simp
  refine bodyPost_ret (results_cell_row rfl _ _ w.heap.size 37 _ (0, 0) _ rfl c1 Tryz.underlying37 rfl infoRPg) rfl ?_
  refine ⟨hB, _, rfl, _, ⟨_, rfl, ?_⟩, rfl⟩
  refine Sl.one1 (K := kCs) (x := tinyC) b5 (And.intro (by omega) (by omega)) ⟨_, _, _, _, rfl, Sl.nil _ _ _, Sl.nil _ _ _, Sl.nil _ _ _, ?_⟩
  refine Sl.one1 (K := kMd) (x := tinyM) c4 (And.intro (by omega) (by omega)) ⟨_, _, _, _, rfl, Sl.nil _ _ _, ?_, Sl.nil _ _ _, Sl.nil _ _ _⟩
  exact Sl.one1 (K := kIs) (x := ⟨29, 0, 0⟩) c2 (And.intro (by omega) (by omega)) rfl
end Go.Proofs.YtbbmgjcabmjjdaaGreatDoor
namespace Go.Proofs.YtbbmgjcabmjjdaaGreatDoor
open Go.RowKit

theorem Sl.at_ {α : Type} {K : Kd α} {w : World} {S : Nat → Prop} {ao : Option Addr} {n cap : Nat} {xs : List α} (h : Sl K w S (.slice ao n cap) xs) {i : Nat} {c : α} (hc : xs[i]? = some c) :
    ∃ b o, ao = some ⟨b, o, none⟩ ∧ ∃ cs, K.R w S c cs ∧ ∀ j u, cs[j]? = some u → w.cell? ⟨b, o + (i * K.k + j), none⟩ = some u := by
  obtain ⟨ao2, cp, e, _, hh⟩ := h
  injection e with e _ _
  rcases hh with q | ⟨b, o, q1, q2, q3, q4⟩
  · rw [q] at hc; simp at hc
  · obtain ⟨cs, r1, r2⟩ := q4 i c hc
    exact ⟨b, o, e.trans q1, cs, r1, r2⟩

end Go.Proofs.YtbbmgjcabmjjdaaGreatDoor
namespace Go.Proofs.YtbbmgjcabmjjdaaGreatDoor
open Go.RowKit

end Go.Proofs.YtbbmgjcabmjjdaaGreatDoor
namespace Go.Proofs.YtbbmgjcabmjjdaaGreatDoor
open Go.RowKit

theorem box2 (w : World) (o1 o2 : Obj) : w.heap.size ≠ w.heap.size + 1 ∧ ((w.alloc o1).alloc o2).drew.heap[w.heap.size]? = some o1 ∧ ((w.alloc o1).alloc o2).drew.heap[w.heap.size + 1]? = some o2 ∧ Below w.heap.size w ((w.alloc o1).alloc o2).drew := by
  have s1 : (w.alloc o1).heap.size = w.heap.size + 1 := by simp
  have h1 := heap_alloc_new w o1
  have h2 := heap_alloc_new (w.alloc o1) o2
  rw [s1] at h2
  refine ⟨by omega, ?_, h2, (((Below.refl _ _).alloc (Nat.le_refl _) _).alloc (by omega) _).drew⟩
  show ((w.alloc o1).alloc o2).heap[w.heap.size]? = _
  rw [Below.heap_alloc _ _ _ (by omega)]; exact h1
theorem box2' (w : World) (o1 o2 : Obj) : w.heap.size + 1 ≠ w.heap.size ∧ ((w.alloc o1).alloc o2).drew.heap[w.heap.size + 1]? = some o2 ∧ ((w.alloc o1).alloc o2).drew.heap[w.heap.size]? = some o1 ∧ Below w.heap.size w ((w.alloc o1).alloc o2).drew := by
  obtain ⟨a, b, c, d⟩ := box2 w o1 o2
  exact ⟨by omega, c, b, d⟩
theorem cell_lt {w : World} {b o : Nat} {v : Value} (h : w.cell? ⟨b, o, none⟩ = some v) : b < w.heap.size := by
  apply Nat.lt_of_not_le
  intro hn
  have e : w.heap[b]? = none := Array.getElem?_eq_none hn
  simp only [World.cell?, e] at h
  cases h
theorem below_un {B : Nat} {w w' : World} (h : Below B w.drew w') : Below B w w' := ⟨h.os, h.tape, h.output, h.size, h.block⟩
end Go.Proofs.YtbbmgjcabmjjdaaGreatDoor
namespace Go.Proofs.YtbbmgjcabmjjdaaGreatDoor
open Go.RowKit

/-- Of what w held nothing has turned but blocks in X. -/
structure Bs (X : Nat → Prop) (w w' : World) : Prop where
  os : w'.os = w.os
  tape : w'.tape = w.tape
  output : w'.output = w.output
  size : w.heap.size ≤ w'.heap.size
  block : ∀ k, k < w.heap.size → ¬ X k → w'.heap[k]? = w.heap[k]?
theorem Bs.refl (X : Nat → Prop) (w : World) : Bs X w w := ⟨rfl, rfl, rfl, Nat.le_refl _, fun _ _ _ => rfl⟩
theorem Bs.trans {X : Nat → Prop} {a b c : World} (h : Bs X a b) (k : Bs X b c) : Bs X a c :=
  ⟨k.os.trans h.os, k.tape.trans h.tape, k.output.trans h.output, Nat.le_trans h.size k.size, fun i hi e => (k.block i (Nat.lt_of_lt_of_le hi h.size) e).trans (h.block i hi e)⟩
theorem Bs.of_bx {X : Nat → Prop} {rh : Nat} {w w' : World} (h : Bx rh w w') (hX : X rh) : Bs X w w' := ⟨h.os, h.tape, h.output, h.size, fun k hk e => h.block k hk (fun e2 => e (by rw [e2]; exact hX))⟩
theorem Bs.set {X : Nat → Prop} {w : World} {b j : Nat} {v : Value} (hX : X b) : Bs X w (w.setCell ⟨b, j, none⟩ v) :=
  ⟨rfl, rfl, rfl, by simp [World.setCell], fun k _ e => Below.heap_setCell _ _ _ _ (fun e2 => e (by rw [e2]; exact hX))⟩

section
variable {α : Type} {K : Kd α} {T : TypeId} {Z : Stt × Option (List α)} {p : Prs α} {s : ByteArray} {rh mb : Nat} {tb : TypeId} {row : Value → Array Value} {X : Nat → Prop} {w : World} {N i : Nat} {v : Value} {wr : World}
end
end Go.Proofs.YtbbmgjcabmjjdaaGreatDoor
/- The document's own reader: method. -/
namespace Go.Proofs.YtbbmgjcabmjjdaaGreatDoor
open Go.RowKit

section
variable {w : World} {rh : Nat} {s : ByteArray} {tb : TypeId} {zr row : Array Value} {t : Stt} {u : World}
end
def alive (t : Stt) : Bool := match t with
  | .ok _ => true
  | .error _ => false
theorem blk_ltD {u : World} {b : Nat} {o : Obj} (h : u.heap[b]? = some o) : b < u.heap.size := (Array.getElem?_eq_some_iff.1 h).1
/-- A list that was read since. -/
def Lk {α : Type} (K : Kd α) (w u : World) (v : Value) (xs : List α) : Prop := Sl K u (fun k => w.heap.size + 2 ≤ k ∧ k < u.heap.size) v xs
theorem Lk.call {α : Type} {K : Kd α} {w u u' : World} {v : Value} {xs : List α} {rh : Nat} (h : Lk K w u v xs) (hb : Bx rh u u') (hrh : rh < w.heap.size) : Lk K w u' v xs :=
  (Sl.keep (fun k hk => hb.block k hk.2 (by have := hk.1; omega)) h).mono fun k hk => ⟨hk.1, Nat.lt_of_lt_of_le hk.2 hb.size⟩
theorem Lk.set {α : Type} {K : Kd α} {w u : World} {v : Value} {xs : List α} (h : Lk K w u v xs) (j : Nat) (x : Value) : Lk K w (u.setCell ⟨w.heap.size + 1, j, none⟩ x) v xs :=
  (Sl.keep (fun k hk => Below.heap_setCell _ _ _ _ (show k ≠ w.heap.size + 1 by have := hk.1; omega)) h).mono fun k hk => ⟨hk.1, by simp [World.setCell]; exact hk.2⟩
theorem md_state (s : ByteArray) (t : Stt) : (stp pMd s t).1 = (stp (pList 64 pMp) s (stp (pList 16 pHd) s (stp (pList 300 pIs) s (stp (pUp 24 1402) s (stp (pUp 24 1402) s (stp pNum s (stp (pList 8 pNum) s (stp (pUp 1 1402) s (stp pName s t).1).1).1).1).1).1).1).1).1 := by
  rw [show pMd = pMap _ _ from rfl, (stp_map _ _ _ _).1, (stp_seq _ _ _ _).1, (stp_seq _ _ _ _).1, (stp_seq _ _ _ _).1, (stp_seq _ _ _ _).1, (stp_seq _ _ _ _).1, (stp_seq _ _ _ _).1, (stp_seq _ _ _ _).1, (stp_seq _ _ _ _).1, show (stp pFl1 s (stp pName s t).1).1 = (stp (pUp 1 1402) s (stp pName s t).1).1 from (stp_map _ _ _ _).1]
theorem stp_some {α : Type} {p : Prs α} {s : ByteArray} {t : Stt} {y : α} (h : (stp p s t).2 = some y) : ∃ b, (stp p s t).1 = .ok b := by
  cases t with
  | error e => cases h
  | ok a =>
    rcases hp : p s a with e | ⟨x, b⟩
    · rw [stp_err hp] at h; cases h
    · rw [stp_ok hp]; exact ⟨b, rfl⟩
theorem md_val {s : ByteArray} {t : Stt} {y : Md} (hy : (stp pMd s t).2 = some y) {x0 : ByteArray} {x1 x3 x4 x5 : Int} {x2 : List Int} {x6 : List Is} {x8 : List Hd} {x10 : List Mp} (h0 : ∀ z, (stp pName s t).2 = some z → x0 = z) (h1 : ∀ z, (stp (pUp 1 1402) s (stp pName s t).1).2 = some z → x1 = z) (h2 : ∀ z, (stp (pList 8 pNum) s (stp (pUp 1 1402) s (stp pName s t).1).1).2 = some z → x2 = z) (h3 : ∀ z, (stp pNum s (stp (pList 8 pNum) s (stp (pUp 1 1402) s (stp pName s t).1).1).1).2 = some z → x3 = z) (h4 : ∀ z, (stp (pUp 24 1402) s (stp pNum s (stp (pList 8 pNum) s (stp (pUp 1 1402) s (stp pName s t).1).1).1).1).2 = some z → x4 = z) (h5 : ∀ z, (stp (pUp 24 1402) s (stp (pUp 24 1402) s (stp pNum s (stp (pList 8 pNum) s (stp (pUp 1 1402) s (stp pName s t).1).1).1).1).1).2 = some z → x5 = z) (h6 : ∀ z, (stp (pList 300 pIs) s (stp (pUp 24 1402) s (stp (pUp 24 1402) s (stp pNum s (stp (pList 8 pNum) s (stp (pUp 1 1402) s (stp pName s t).1).1).1).1).1).1).2 = some z → x6 = z) (h8 : ∀ z, (stp (pList 16 pHd) s (stp (pList 300 pIs) s (stp (pUp 24 1402) s (stp (pUp 24 1402) s (stp pNum s (stp (pList 8 pNum) s (stp (pUp 1 1402) s (stp pName s t).1).1).1).1).1).1).1).2 = some z → x8 = z) (h10 : ∀ z, (stp (pList 64 pMp) s (stp (pList 16 pHd) s (stp (pList 300 pIs) s (stp (pUp 24 1402) s (stp (pUp 24 1402) s (stp pNum s (stp (pList 8 pNum) s (stp (pUp 1 1402) s (stp pName s t).1).1).1).1).1).1).1).1).2 = some z → x10 = z) : (⟨x0, x1 == 1, x2, x3, x4, x5, x6, x8, x10⟩ : Md) = y := by
  have hfl : (stp pFl1 s (stp pName s t).1).1 = (stp (pUp 1 1402) s (stp pName s t).1).1 := (stp_map _ _ _ _).1
  rw [show pMd = pMap _ _ from rfl, (stp_map _ _ _ _).2, Option.map_eq_some_iff] at hy
  obtain ⟨z, hz, rfl⟩ := hy
  obtain ⟨g0, k0⟩ := (stp_seq _ _ _ _).2 _ hz
  obtain ⟨g1, k1⟩ := (stp_seq _ _ _ _).2 _ k0
  rw [hfl] at k1
  obtain ⟨g2, k2⟩ := (stp_seq _ _ _ _).2 _ k1
  obtain ⟨g3, k3⟩ := (stp_seq _ _ _ _).2 _ k2
  obtain ⟨g4, k4⟩ := (stp_seq _ _ _ _).2 _ k3
  obtain ⟨g5, k5⟩ := (stp_seq _ _ _ _).2 _ k4
  obtain ⟨g6, k6⟩ := (stp_seq _ _ _ _).2 _ k5
  obtain ⟨g8, k8⟩ := (stp_seq _ _ _ _).2 _ k6
  rw [show pFl1 = pMap _ _ from rfl, (stp_map _ _ _ _).2, Option.map_eq_some_iff] at g1
  obtain ⟨f, hf, hf2⟩ := g1
  obtain ⟨b, hb⟩ := stp_some hf
  obtain ⟨u1, u2⟩ := up_bound hb h1
  obtain rfl := h1 _ hf
  have e1 : (x1 == 1) = z.2.1 := by
    rw [← hf2]
    rcases (by omega : x1 = 0 ∨ x1 = 1) with rfl | rfl <;> rfl
  rw [h0 _ g0, e1, h2 _ g2, h3 _ g3, h4 _ g4, h5 _ g5, h6 _ g6, h8 _ g8, h10 _ k8]
end Go.Proofs.YtbbmgjcabmjjdaaGreatDoor
namespace Go.Proofs.YtbbmgjcabmjjdaaGreatDoor
open Go.RowKit

theorem run_app_zero (w : World) (t e : TypeId) (i : TypeInfo) (ht : Tryz.prog.underlying t = some (.slice e)) (hi : Tryz.prog.info? e = some i) (a : Option Addr) (c g : Nat) : (Builtin.append_ #[t, t] t #[.slice (some ⟨g, 0, none⟩) 0 0, .slice a 0 c]).run Tryz.prog w = .ok (.slice (some ⟨g, 0, none⟩) 0 0) w := by
  simp [Builtin.append_, run_underlying ht, sizeOf, typeInfo, hi, Builtin.lenOf, Builtin.firstCells]
  cases a <;> rfl
def appY (ats : Array TypeId) (ty : TypeId) (args : Array Value) := Builtin.append_ ats ty args
theorem app_Y (ats : Array TypeId) (ty : TypeId) (args : Array Value) : Builtin.append_ ats ty args = appY ats ty args := rfl
theorem flat_cells {α : Type} {K : Kd α} {cl : α → List Value} (hc : ∀ w S x cs, K.R w S x cs → cs = cl x) {w : World} {S : Nat → Prop} {ao : Option Addr} {l c : Nat} {xs : List α} (h : Sl K w S (.slice ao l c) xs) (hx : 0 < xs.length) :
    ∃ b o, ao = some ⟨b, o, none⟩ ∧ S b ∧ b < w.heap.size ∧ ((xs.map cl).flatten.length = xs.length * K.k) ∧ ∀ j u, (xs.map cl).flatten[j]? = some u → w.cell? ((⟨b, o, none⟩ : Addr).add j) = some u := by
  obtain ⟨ao2, cp, e, _, hh⟩ := h
  injection e with e _ _
  rcases hh with q | ⟨b, o, q1, q2, q3, q4⟩
  · rw [q] at hx; simp at hx
  have hl : ∀ r ∈ xs.map cl, r.length = K.k := fun r hr => by
    obtain ⟨x, hx, rfl⟩ := List.mem_map.1 hr
    obtain ⟨i, hi, rfl⟩ := List.getElem_of_mem hx
    obtain ⟨cs, r1, _⟩ := q4 i _ (List.getElem?_eq_getElem hi)
    rw [← hc _ _ _ _ r1]; exact K.len r1
  have hlen : (xs.map cl).flatten.length = xs.length * K.k := by
    rw [List.length_flatten, List.map_map]
    have : ∀ ys : List (List Value), (∀ r ∈ ys, r.length = K.k) → (ys.map List.length).sum = ys.length * K.k := by
      intro ys
      induction ys with
      | nil => intro _; simp
      | cons y ys ih =>
        intro hy
        rw [List.map_cons, List.sum_cons, ih (fun r hr => hy r (by simp [hr])), hy y (by simp), List.length_cons, Nat.add_mul]; omega
    have := this (xs.map cl) hl
    rw [List.map_map, List.length_map] at this; exact this
  refine ⟨b, o, e.trans q1, q2, q3.1, hlen, fun j u hu => ?_⟩
  have hj : j < xs.length * K.k := by rw [← hlen]; exact (List.getElem?_eq_some_iff.1 hu).1
  have hi : j / K.k < xs.length := (Nat.div_lt_iff_lt_mul K.pos).2 hj
  obtain ⟨cs, r1, r2⟩ := q4 (j / K.k) _ (List.getElem?_eq_getElem hi)
  have hm := Nat.mod_lt j K.pos
  have hjj : j / K.k * K.k + j % K.k = j := by rw [Nat.mul_comm]; exact Nat.div_add_mod j K.k
  have hf := flat_at (xs.map cl) hl (j / K.k) (cl xs[j / K.k]) (by rw [List.getElem?_map, List.getElem?_eq_getElem hi]; rfl) (j % K.k) hm
  rw [hjj] at hf
  rw [hf] at hu
  have hadd : (⟨b, o, none⟩ : Addr).add j = ⟨b, o + j, none⟩ := by unfold Addr.add; split <;> simp_all
  rw [hadd, ← hjj]
  exact r2 _ u (by rw [hc _ _ _ _ r1]; exact hu)
/-- A copy that was made since. -/
def Cpd {α : Type} (K : Kd α) (w : World) (xs : List α) (v : Value) (w' : World) : Prop := Below w.heap.size w w' ∧ Sl K w' (fun k => w.heap.size ≤ k ∧ k < w'.heap.size) v xs
theorem cpd_of {α : Type} {K : Kd α} {T : TypeId} {cl : α → List Value} (hc : ∀ w S x, K.R w S x (cl x)) {w w2 : World} {o : Obj} {xs : List α} {v : Value} (hown : w2.ownsRow w.heap.size T K.k v xs.length ([] ++ (xs.map cl).flatten)) (hg : (w.alloc o).grownBy w2 (some w.heap.size)) : Cpd K w xs v w2 := by
  have hsz : (w.alloc o).heap.size = w.heap.size + 1 := by simp
  have hgs := hg.size
  refine ⟨⟨hg.os, hg.tape, hg.output, by omega, fun k hk => by rw [hg.block k (by omega) (fun e => by cases e; omega), Below.heap_alloc _ _ _ hk]⟩, Gro.sl (T := T) ⟨xs.map cl, by simp, fun i x hx => ⟨cl x, by rw [List.getElem?_map, hx]; rfl, hc _ _ _⟩, hown⟩⟩
theorem cpd_nil {α : Type} (K : Kd α) (w : World) (T : TypeId) : Cpd K w [] (.slice (some ⟨w.heap.size, 0, none⟩) 0 0) (w.alloc (.cells #[] T)) :=
  ⟨(Below.refl _ _).alloc (Nat.le_refl _) _, ⟨_, 0, rfl, Nat.zero_le _, .inl rfl⟩⟩
theorem own_empty (w : World) (T : TypeId) (k : Nat) : (w.alloc (.cells #[] T)).ownsRow w.heap.size T k (.slice (some ⟨w.heap.size, 0, none⟩) 0 0) 0 [] :=
  ⟨by simp, .inr ⟨w.heap.size, 0, #[], rfl, Nat.le_refl _, heap_alloc_new _ _, Nat.le_refl _, Nat.zero_le _, by simp, by simp⟩⟩
def clI (x : Int) : List Value := [.int .i64 x]
def clFd (x : Fd) : List Value := [.string x.nm, .int .i64 x.ty]
def clIs (x : Is) : List Value := [.int .i64 x.op, .int .i64 x.a, .int .i64 x.b]
def clHd (x : Hd) : List Value := [.int .i64 x.fr, .int .i64 x.to, .int .i64 x.at_, .int .i64 x.cl]
theorem one_flat {α : Type} {cl : α → List Value} (h : ∀ x, ∀ u ∈ cl x, u.oneCell' = true) (xs : List α) : ∀ u ∈ (xs.map cl).flatten, u.oneCell' = true := fun u hu => by
  obtain ⟨l, hl, hu⟩ := List.mem_flatten.1 hu
  obtain ⟨x, -, rfl⟩ := List.mem_map.1 hl
  exact h x u hu
attribute [local go_sem ↓] app_Y
end Go.Proofs.YtbbmgjcabmjjdaaGreatDoor
/- A row that is gathered in a cell of a box, each element made since. -/
namespace Go.Proofs.YtbbmgjcabmjjdaaGreatDoor
open Go.RowKit

def GIm {α : Type} (K : Kd α) (T : TypeId) (tb : TypeId) (row : Value → Array Value) (mb : Nat) (u : World) (xs : List α) (v : Value) (wr : World) : Prop :=
  Gro K T u.heap.size wr v xs ∧ Bs (fun k => k = mb) u wr ∧ wr.heap[mb]? = some (.cells (row v) tb (0, 0))
section
variable {α : Type} {K : Kd α} {T tb : TypeId} {row : Value → Array Value} {mb : Nat} {u : World} {xs : List α} {v : Value} {wr : World}
theorem GIm.start (h : u.heap[mb]? = some (.cells (row (.slice none 0 0)) tb (0, 0))) : GIm K T tb row mb u [] (.slice none 0 0) u := ⟨Gro.nil _ _ _ _, Bs.refl _ _, h⟩
theorem GIm.fin (h : GIm K T tb row mb u xs v wr) : Sl K wr (fun b => u.heap.size ≤ b ∧ b < wr.heap.size) v xs := h.1.sl
theorem GIm.app (h : GIm K T tb row mb u xs v wr) (hmb : mb < u.heap.size) {j : Nat} (hrow : ∀ z, (row v).setIfInBounds j z = row z) {Ts : TypeId} {i : TypeInfo} {z : Value} {bytes : Nat} (ht : Tryz.prog.underlying Ts = some (.slice T)) (hi : Tryz.prog.info? T = some i) (hz : i.zero = some z) (hsize : i.size = K.k) (hby : i.bytes = bytes) (hzs : z.cells.size = K.k) (hbb : bytes ≤ 1000)
    {w1 : World} (hb : Below wr.heap.size wr w1) {x : α} {cs : List Value} (hR : K.R w1 (fun b => wr.heap.size ≤ b ∧ b < w1.heap.size) x cs) (hn : xs.length ≤ 1073741824) :
    w1.heap[mb]? = some (.cells (row v) tb (0, 0)) ∧ ∃ g cap w2, (appY #[Ts, Ts] Ts #[v, .slice (some ⟨w1.heap.size, 0, none⟩) 1 1]).run Tryz.prog (w1.alloc (.cells cs.toArray T)) = .ok (.slice (some ⟨g, 0, none⟩) (xs.length + 1) cap) w2 ∧ w2.heap[mb]? = some (.cells (row v) tb (0, 0)) ∧ GIm K T tb row mb u (xs ++ [x]) (.slice (some ⟨g, 0, none⟩) (xs.length + 1) cap) (w2.setCell ⟨mb, j, none⟩ (.slice (some ⟨g, 0, none⟩) (xs.length + 1) cap)) := by
  obtain ⟨h5, h4, h7⟩ := h
  have hws := h4.size
  have hbz := hb.size
  have hml : mb < wr.heap.size := by omega
  have hG : Gro K T u.heap.size w1 v xs := h5.kept (row := none) ⟨hb.os, hb.tape, hb.output, hb.size, fun k hk _ => hb.block k hk⟩ (fun b e => by cases e)
  obtain ⟨fs, hf⟩ := hG.own
  have hm1 : w1.heap[mb]? = some (.cells (row v) tb (0, 0)) := (hb.block mb hml).trans h7
  refine ⟨hm1, ?_⟩
  have hsz : (w1.alloc (.cells cs.toArray T)).heap.size = w1.heap.size + 1 := by simp
  have hbyt : (xs.length + 1) * bytes ≤ 140737488355328 := by
    have : (xs.length + 1) * bytes ≤ 1073741825 * 1000 := Nat.mul_le_mul (by omega) hbb
    omega
  obtain ⟨g, cap, w2, hr, hown, hg, hat, -⟩ := run_append_lies (P := Tryz.prog) (w1.alloc (.cells cs.toArray T)) Ts Ts u.heap.size T i z K.k bytes ht hi hz hsize hby hzs K.pos v xs.length fs (hf.alloc _) ⟨w1.heap.size, 0, none⟩ 1 1 cs (by rw [K.len hR]; omega) (fun j u hu => news_at w1 cs.toArray T j u (by simpa using hu)) (K.one hR) (by decide) (by unfold maxLen; omega) hbyt (by omega) _ rfl
  have hv : ∀ g, v.ownBlock = some g → g < wr.heap.size ∧ u.heap.size ≤ g := fun g hg => by
    rcases h5.shape with e | ⟨g', cap, e, hge, hlt⟩
    · rw [e] at hg; cases hg
    · rw [e] at hg
      have : g' = g := by simpa [Value.ownBlock] using hg
      omega
  have hA := hG.app hR (by omega) (fun g hg => (hv g hg).1) hf hown hg hat
  have hlow : ∀ k, k < u.heap.size → w2.heap[k]? = w1.heap[k]? := fun k hk => by
    rw [hg.block k (by omega) (fun e => by have := (hv k e.symm).2; omega), Below.heap_alloc _ _ _ (by omega)]
  have hm2 := (hlow mb hmb).trans hm1
  have hgs := hg.size
  refine ⟨g, cap, w2, hr, hm2, hA.kept (row := some mb) ⟨rfl, rfl, rfl, by simp [World.setCell], fun k _ e => Below.heap_setCell _ _ _ _ (fun e2 => e (by rw [e2]))⟩ (fun b e => by cases e; exact hmb), ?_, ?_⟩
  · refine ⟨hg.os.trans (hb.os.trans h4.os), hg.tape.trans (hb.tape.trans h4.tape), hg.output.trans (hb.output.trans h4.output), ?_, fun k hk hx => ?_⟩
    · simp only [World.setCell, Array.size_modify]; omega
    · rw [Below.heap_setCell _ _ _ _ hx, hlow k hk, hb.block k (by omega)]
      exact h4.block k hk hx
  · have := hset (k := j) hm2 (.slice (some ⟨g, 0, none⟩) (xs.length + 1) cap)
    rw [hrow] at this; exact this
end
/-- A copy of a row of plain structs, in the walk: the run of 'append([]T{}, a...)'. -/
theorem cpy_run {α : Type} {K KU : Kd α} {cl : α → List Value} {T Ts : TypeId} {i : TypeInfo} {z : Value} {bytes : Nat} (ht : Tryz.prog.underlying Ts = some (.slice T)) (hi : Tryz.prog.info? T = some i) (hz : i.zero = some z) (hsize : i.size = K.k) (hby : i.bytes = bytes) (hzs : z.cells.size = K.k) (hbb : bytes ≤ 1000) (hk : KU.k = K.k)
    (hc : ∀ w S x cs, K.R w S x cs → cs = cl x) (hcU : ∀ w S x, KU.R w S x (cl x)) (h1 : ∀ x, ∀ u ∈ cl x, u.oneCell' = true) {w : World} {S : Nat → Prop} {a : Option Addr} {c : Nat} {xs : List α} (hv : Sl K w S (.slice a xs.length c) xs) (hl : xs.length ≤ 1073741824) {H : Nat} (hH : w.heap.size = H) :
    ∃ ao cap w2, (appY #[Ts, Ts] Ts #[.slice (some ⟨H, 0, none⟩) 0 0, .slice a xs.length c]).run Tryz.prog (w.alloc (.cells #[] T)) = .ok (.slice ao xs.length cap) w2 ∧ Cpd KU w xs (.slice ao xs.length cap) w2 := by
  subst hH
  rcases Nat.eq_zero_or_pos xs.length with h0 | h0
  · have hx : xs = [] := List.eq_nil_of_length_eq_zero h0
    subst hx
    exact ⟨_, _, _, run_app_zero (w.alloc (.cells #[] T)) Ts T i ht hi a c w.heap.size, cpd_nil _ _ _⟩
  · obtain ⟨b, o, rfl, -, hb, hlen, hcell⟩ := flat_cells hc hv h0
    have hbyt : (0 + xs.length) * bytes ≤ 140737488355328 := by
      have : (0 + xs.length) * bytes ≤ 1073741824 * 1000 := Nat.mul_le_mul (by omega) hbb
      omega
    obtain ⟨g, cap, w2, hr, hown, hg, hat, -⟩ := run_append_lies (P := Tryz.prog) (w.alloc (.cells #[] T)) Ts Ts w.heap.size T i z K.k bytes ht hi hz hsize hby hzs K.pos _ 0 [] (own_empty w T K.k) ⟨b, o, none⟩ xs.length c (xs.map cl).flatten hlen (fun j u hu => by
      have hadd : (⟨b, o, none⟩ : Addr).add j = ⟨b, o + j, none⟩ := by unfold Addr.add; split <;> simp_all
      have := hcell j u hu
      rw [hadd] at this ⊢
      rw [cell_same (Below.heap_alloc _ _ _ hb)]; exact this) (one_flat h1 xs) h0 (by unfold maxLen; omega) hbyt (by simp) _ rfl
    rw [Nat.zero_add] at hr hown
    exact ⟨_, _, _, hr, cpd_of (K := KU) (T := T) hcU (by rw [hk]; exact hown) hg⟩
end Go.Proofs.YtbbmgjcabmjjdaaGreatDoor
