/- The document's own reader: a row that is gathered in a cell of a struct's box; the box while a struct is read. -/
import Derived.Test.YtbdfpodglfpjnaaGreatMY5
import Derived.Test.YtbdfpodglfpjnaaGreatMLMem
import Derived.Deep.LoopGhost
import Derived.Deep.RegionHeld3
import Derived.Deep.DeepCutAuto
namespace Go.Proofs.YtbdfpodglfpjnaaGreat
open Go.RowKit

def tinyM : Md := ⟨⟨#[109, 97, 105, 110]⟩, true, [], 0, 0, 0, [⟨29, 0, 0⟩], [], []⟩
def tinyC : Cs := ⟨⟨#[77]⟩, false, false, 0, [], [], [], [tinyM]⟩
def tinyP : Pg := ⟨11, [tinyC]⟩
theorem Sl.one1 {α : Type} {K : Kd α} {w : World} {S : Nat → Prop} {b c : Nat} {cs : Array Value} {T : TypeId} {x : α} (hb : w.heap[b]? = some (.cells cs T (0, 0))) (hS : S b) (hR : K.R w S x cs.toList) : Sl K w S (.slice (some ⟨b, 0, none⟩) 1 c) [x] := by
  refine ⟨_, c, rfl, by show 1 ≤ maxLen; unfold maxLen; omega, .inr ⟨b, 0, rfl, hS, ⟨(Array.getElem?_eq_some_iff.1 hb).1, fun _ j => by simp [World.frozen?, hb]⟩, fun i y hy => ?_⟩⟩
  cases i with
  | zero =>
    simp at hy; subst hy
    refine ⟨_, hR, fun j u hu => ?_⟩
    rw [Nat.zero_mul, Nat.zero_add, Nat.zero_add]
    simp [World.cell?, hb]
    simpa using hu
  | succ i => simp at hy
set_option maxHeartbeats 2000000 in
set_option maxRecDepth 20000 in
theorem Tiny_any (w : World) : Calls Tryz.prog 20 #[] w fun e w' => Below w.heap.size w w' ∧ ∃ v, e = .returned v ∧ Nw kPg w tinyP v w' := by
  go_enter Tryz.func20, Tryz.ntmps20
  go_wp2
  have s1 : (w.alloc (.cells #[.int .i64 11, .slice (some ⟨w.heap.size + 1 + 1 + 1 + 1, 0, none⟩) 1 1] 25)).heap.size = w.heap.size + 1 := by simp
  have s2 : ((w.alloc (.cells #[.int .i64 11, .slice (some ⟨w.heap.size + 1 + 1 + 1 + 1, 0, none⟩) 1 1] 25)).alloc (.cells #[.int .i64 29, .int .i64 0, .int .i64 0] 44)).heap.size = w.heap.size + 1 + 1 := by simp
  have s3 : (((w.alloc (.cells #[.int .i64 11, .slice (some ⟨w.heap.size + 1 + 1 + 1 + 1, 0, none⟩) 1 1] 25)).alloc (.cells #[.int .i64 29, .int .i64 0, .int .i64 0] 44)).alloc (.cells #[.string ⟨#[109, 97, 105, 110]⟩, .bool true, .slice none 0 0, .int .i64 0, .int .i64 0, .int .i64 0, .slice (some ⟨w.heap.size + 1, 0, none⟩) 1 1, .slice none 0 0, .slice none 0 0] 39)).heap.size = w.heap.size + 1 + 1 + 1 := by simp
  have s4 : ((((w.alloc (.cells #[.int .i64 11, .slice (some ⟨w.heap.size + 1 + 1 + 1 + 1, 0, none⟩) 1 1] 25)).alloc (.cells #[.int .i64 29, .int .i64 0, .int .i64 0] 44)).alloc (.cells #[.string ⟨#[109, 97, 105, 110]⟩, .bool true, .slice none 0 0, .int .i64 0, .int .i64 0, .int .i64 0, .slice (some ⟨w.heap.size + 1, 0, none⟩) 1 1, .slice none 0 0, .slice none 0 0] 39)).alloc (.cells #[.string ⟨#[109, 97, 105, 110]⟩, .bool true, .slice none 0 0, .int .i64 0, .int .i64 0, .int .i64 0, .slice (some ⟨w.heap.size + 1, 0, none⟩) 1 1, .slice none 0 0, .slice none 0 0] 39)).heap.size = w.heap.size + 1 + 1 + 1 + 1 := by simp
  have b1 := heap_alloc_new w (.cells #[.int .i64 11, .slice (some ⟨w.heap.size + 1 + 1 + 1 + 1, 0, none⟩) 1 1] 25)
  have b2 := heap_alloc_new (w.alloc (.cells #[.int .i64 11, .slice (some ⟨w.heap.size + 1 + 1 + 1 + 1, 0, none⟩) 1 1] 25)) (.cells #[.int .i64 29, .int .i64 0, .int .i64 0] 44)
  have b4 := heap_alloc_new (((w.alloc (.cells #[.int .i64 11, .slice (some ⟨w.heap.size + 1 + 1 + 1 + 1, 0, none⟩) 1 1] 25)).alloc (.cells #[.int .i64 29, .int .i64 0, .int .i64 0] 44)).alloc (.cells #[.string ⟨#[109, 97, 105, 110]⟩, .bool true, .slice none 0 0, .int .i64 0, .int .i64 0, .int .i64 0, .slice (some ⟨w.heap.size + 1, 0, none⟩) 1 1, .slice none 0 0, .slice none 0 0] 39)) (.cells #[.string ⟨#[109, 97, 105, 110]⟩, .bool true, .slice none 0 0, .int .i64 0, .int .i64 0, .int .i64 0, .slice (some ⟨w.heap.size + 1, 0, none⟩) 1 1, .slice none 0 0, .slice none 0 0] 39)
  have b5 := heap_alloc_new ((((w.alloc (.cells #[.int .i64 11, .slice (some ⟨w.heap.size + 1 + 1 + 1 + 1, 0, none⟩) 1 1] 25)).alloc (.cells #[.int .i64 29, .int .i64 0, .int .i64 0] 44)).alloc (.cells #[.string ⟨#[109, 97, 105, 110]⟩, .bool true, .slice none 0 0, .int .i64 0, .int .i64 0, .int .i64 0, .slice (some ⟨w.heap.size + 1, 0, none⟩) 1 1, .slice none 0 0, .slice none 0 0] 39)).alloc (.cells #[.string ⟨#[109, 97, 105, 110]⟩, .bool true, .slice none 0 0, .int .i64 0, .int .i64 0, .int .i64 0, .slice (some ⟨w.heap.size + 1, 0, none⟩) 1 1, .slice none 0 0, .slice none 0 0] 39)) (.cells #[.string ⟨#[77]⟩, .bool false, .bool false, .int .i64 0, .slice none 0 0, .slice none 0 0, .slice none 0 0, .slice (some ⟨w.heap.size + 1 + 1 + 1, 0, none⟩) 1 1] 31)
  rw [s1] at b2
  rw [s3] at b4
  rw [s4] at b5
  have hB : Below w.heap.size w (((((w.alloc (.cells #[.int .i64 11, .slice (some ⟨w.heap.size + 1 + 1 + 1 + 1, 0, none⟩) 1 1] 25)).alloc (.cells #[.int .i64 29, .int .i64 0, .int .i64 0] 44)).alloc (.cells #[.string ⟨#[109, 97, 105, 110]⟩, .bool true, .slice none 0 0, .int .i64 0, .int .i64 0, .int .i64 0, .slice (some ⟨w.heap.size + 1, 0, none⟩) 1 1, .slice none 0 0, .slice none 0 0] 39)).alloc (.cells #[.string ⟨#[109, 97, 105, 110]⟩, .bool true, .slice none 0 0, .int .i64 0, .int .i64 0, .int .i64 0, .slice (some ⟨w.heap.size + 1, 0, none⟩) 1 1, .slice none 0 0, .slice none 0 0] 39)).alloc (.cells #[.string ⟨#[77]⟩, .bool false, .bool false, .int .i64 0, .slice none 0 0, .slice none 0 0, .slice none 0 0, .slice (some ⟨w.heap.size + 1 + 1 + 1, 0, none⟩) 1 1] 31)) := (((((Below.refl _ _).alloc (Nat.le_refl _) _).alloc (by omega) _).alloc (by omega) _).alloc (by omega) _).alloc (by omega) _
  have c1 : (((((w.alloc (.cells #[.int .i64 11, .slice (some ⟨w.heap.size + 1 + 1 + 1 + 1, 0, none⟩) 1 1] 25)).alloc (.cells #[.int .i64 29, .int .i64 0, .int .i64 0] 44)).alloc (.cells #[.string ⟨#[109, 97, 105, 110]⟩, .bool true, .slice none 0 0, .int .i64 0, .int .i64 0, .int .i64 0, .slice (some ⟨w.heap.size + 1, 0, none⟩) 1 1, .slice none 0 0, .slice none 0 0] 39)).alloc (.cells #[.string ⟨#[109, 97, 105, 110]⟩, .bool true, .slice none 0 0, .int .i64 0, .int .i64 0, .int .i64 0, .slice (some ⟨w.heap.size + 1, 0, none⟩) 1 1, .slice none 0 0, .slice none 0 0] 39)).alloc (.cells #[.string ⟨#[77]⟩, .bool false, .bool false, .int .i64 0, .slice none 0 0, .slice none 0 0, .slice none 0 0, .slice (some ⟨w.heap.size + 1 + 1 + 1, 0, none⟩) 1 1] 31)).heap[w.heap.size]? = some (.cells #[.int .i64 11, .slice (some ⟨w.heap.size + 1 + 1 + 1 + 1, 0, none⟩) 1 1] 25) := by
    rw [Below.heap_alloc _ _ _ (by omega), Below.heap_alloc _ _ _ (by omega), Below.heap_alloc _ _ _ (by omega), Below.heap_alloc _ _ _ (by omega)]; exact b1
  have c2 : (((((w.alloc (.cells #[.int .i64 11, .slice (some ⟨w.heap.size + 1 + 1 + 1 + 1, 0, none⟩) 1 1] 25)).alloc (.cells #[.int .i64 29, .int .i64 0, .int .i64 0] 44)).alloc (.cells #[.string ⟨#[109, 97, 105, 110]⟩, .bool true, .slice none 0 0, .int .i64 0, .int .i64 0, .int .i64 0, .slice (some ⟨w.heap.size + 1, 0, none⟩) 1 1, .slice none 0 0, .slice none 0 0] 39)).alloc (.cells #[.string ⟨#[109, 97, 105, 110]⟩, .bool true, .slice none 0 0, .int .i64 0, .int .i64 0, .int .i64 0, .slice (some ⟨w.heap.size + 1, 0, none⟩) 1 1, .slice none 0 0, .slice none 0 0] 39)).alloc (.cells #[.string ⟨#[77]⟩, .bool false, .bool false, .int .i64 0, .slice none 0 0, .slice none 0 0, .slice none 0 0, .slice (some ⟨w.heap.size + 1 + 1 + 1, 0, none⟩) 1 1] 31)).heap[w.heap.size + 1]? = some (.cells #[.int .i64 29, .int .i64 0, .int .i64 0] 44) := by
    rw [Below.heap_alloc _ _ _ (by omega), Below.heap_alloc _ _ _ (by omega), Below.heap_alloc _ _ _ (by omega)]; exact b2
  have c4 : (((((w.alloc (.cells #[.int .i64 11, .slice (some ⟨w.heap.size + 1 + 1 + 1 + 1, 0, none⟩) 1 1] 25)).alloc (.cells #[.int .i64 29, .int .i64 0, .int .i64 0] 44)).alloc (.cells #[.string ⟨#[109, 97, 105, 110]⟩, .bool true, .slice none 0 0, .int .i64 0, .int .i64 0, .int .i64 0, .slice (some ⟨w.heap.size + 1, 0, none⟩) 1 1, .slice none 0 0, .slice none 0 0] 39)).alloc (.cells #[.string ⟨#[109, 97, 105, 110]⟩, .bool true, .slice none 0 0, .int .i64 0, .int .i64 0, .int .i64 0, .slice (some ⟨w.heap.size + 1, 0, none⟩) 1 1, .slice none 0 0, .slice none 0 0] 39)).alloc (.cells #[.string ⟨#[77]⟩, .bool false, .bool false, .int .i64 0, .slice none 0 0, .slice none 0 0, .slice none 0 0, .slice (some ⟨w.heap.size + 1 + 1 + 1, 0, none⟩) 1 1] 31)).heap[w.heap.size + 1 + 1 + 1]? = some (.cells #[.string ⟨#[109, 97, 105, 110]⟩, .bool true, .slice none 0 0, .int .i64 0, .int .i64 0, .int .i64 0, .slice (some ⟨w.heap.size + 1, 0, none⟩) 1 1, .slice none 0 0, .slice none 0 0] 39) := by
    rw [Below.heap_alloc _ _ _ (by omega)]; exact b4
  have s5 : (((((w.alloc (.cells #[.int .i64 11, .slice (some ⟨w.heap.size + 1 + 1 + 1 + 1, 0, none⟩) 1 1] 25)).alloc (.cells #[.int .i64 29, .int .i64 0, .int .i64 0] 44)).alloc (.cells #[.string ⟨#[109, 97, 105, 110]⟩, .bool true, .slice none 0 0, .int .i64 0, .int .i64 0, .int .i64 0, .slice (some ⟨w.heap.size + 1, 0, none⟩) 1 1, .slice none 0 0, .slice none 0 0] 39)).alloc (.cells #[.string ⟨#[109, 97, 105, 110]⟩, .bool true, .slice none 0 0, .int .i64 0, .int .i64 0, .int .i64 0, .slice (some ⟨w.heap.size + 1, 0, none⟩) 1 1, .slice none 0 0, .slice none 0 0] 39)).alloc (.cells #[.string ⟨#[77]⟩, .bool false, .bool false, .int .i64 0, .slice none 0 0, .slice none 0 0, .slice none 0 0, .slice (some ⟨w.heap.size + 1 + 1 + 1, 0, none⟩) 1 1] 31)).heap.size = w.heap.size + 1 + 1 + 1 + 1 + 1 := by simp
  refine bodyPost_ret (results_cell_row rfl _ _ w.heap.size 25 _ (0, 0) _ rfl c1 Tryz.underlying25 rfl infoRPg) rfl ?_
  refine ⟨hB, _, rfl, _, ⟨_, rfl, ?_⟩, rfl⟩
  refine Sl.one1 (K := kCs) (x := tinyC) b5 (And.intro (by omega) (by omega)) ⟨_, _, _, _, rfl, Sl.nil _ _ _, Sl.nil _ _ _, Sl.nil _ _ _, ?_⟩
  refine Sl.one1 (K := kMd) (x := tinyM) c4 (And.intro (by omega) (by omega)) ⟨_, _, _, _, rfl, Sl.nil _ _ _, ?_, Sl.nil _ _ _, Sl.nil _ _ _⟩
  exact Sl.one1 (K := kIs) (x := ⟨29, 0, 0⟩) c2 (And.intro (by omega) (by omega)) rfl
end Go.Proofs.YtbdfpodglfpjnaaGreat
namespace Go.Proofs.YtbdfpodglfpjnaaGreat
open Go.RowKit

theorem Sl.at_ {α : Type} {K : Kd α} {w : World} {S : Nat → Prop} {ao : Option Addr} {n cap : Nat} {xs : List α} (h : Sl K w S (.slice ao n cap) xs) {i : Nat} {c : α} (hc : xs[i]? = some c) :
    ∃ b o, ao = some ⟨b, o, none⟩ ∧ ∃ cs, K.R w S c cs ∧ ∀ j u, cs[j]? = some u → w.cell? ⟨b, o + (i * K.k + j), none⟩ = some u := by
  obtain ⟨ao2, cp, e, _, hh⟩ := h
  injection e with e _ _
  rcases hh with q | ⟨b, o, q1, q2, q3, q4⟩
  · rw [q] at hc; simp at hc
  · obtain ⟨cs, r1, r2⟩ := q4 i c hc
    exact ⟨b, o, e.trans q1, cs, r1, r2⟩

set_option maxHeartbeats 2000000 in
set_option maxRecDepth 20000 in
theorem SameInts_eq {Sa Sb : Nat → Prop} {va vb : Value} {xs : List Int} {w : World} (hA : Sl kI w Sa va xs) (hB : Sl kI w Sb vb xs) :
    Calls Tryz.prog 19 #[va, vb] w fun e w' => e = .returned (.bool true) ∧ ∃ m, w' = w.drewN m := by
  have hA2 := hA
  have hB2 := hB
  obtain ⟨aa, ca, rfl, hmx, -⟩ := hA2
  obtain ⟨ab, cb, rfl, -, -⟩ := hB2
  have HC : Hid (∀ i c, xs[i]? = some c → (∃ b o, aa = some ⟨b, o, none⟩ ∧ ∃ cs, kI.R w Sa c cs ∧ ∀ j u, cs[j]? = some u → w.cell? ⟨b, o + (i * 1 + j), none⟩ = some u) ∧ (∃ b o, ab = some ⟨b, o, none⟩ ∧ ∃ cs, kI.R w Sb c cs ∧ ∀ j u, cs[j]? = some u → w.cell? ⟨b, o + (i * 1 + j), none⟩ = some u)) := fun i c hc => ⟨hA.at_ hc, hB.at_ hc⟩
  clear hA hB
  unfold maxLen at hmx
  go_enter Tryz.func19, Tryz.ntmps19
  go_wp2
  go_loopg [5] (xs.length + 1) (fun kx s5 wr => ∃ i : Nat, s5 = .int .i64 i ∧ i ≤ xs.length ∧ xs.length - i ≤ kx ∧ Hid (∃ m, wr = w.drewN m))
  case atStart => exact ⟨0, rfl, by omega, by omega, 0, rfl⟩
  case round =>
    obtain ⟨i, rfl, hi, hk, HL⟩ := hrel
    by_cases hlt : i < xs.length
    · obtain ⟨c, hc⟩ : ∃ c, xs[i]? = some c := ⟨_, List.getElem?_eq_getElem hlt⟩
      obtain ⟨⟨ap, ao, rfl, cs1, r1, ha⟩, ⟨bp, bo, rfl, cs2, r2, hb⟩⟩ := HC.out i c hc
      obtain ⟨m, rfl⟩ := HL.out
      clear HL
      obtain rfl := r1
      obtain rfl := r2
      have a0 : w.cell? ⟨ap, ao + i, none⟩ = some (.int .i64 c) := by have := ha 0 _ rfl; rw [show ao + (i * 1 + 0) = ao + i by omega] at this; exact this
      have b0 : w.cell? ⟨bp, bo + i, none⟩ = some (.int .i64 c) := by have := hb 0 _ rfl; rw [show bo + (i * 1 + 0) = bo + i by omega] at this; exact this
      have hl2 : (i : Int) < (xs.length : Int) := by omega
      clear HC ha hb hc
      go_wp2_with (fail)
      go_quiet (fail)
      go_wp2
      go_roundg (xs.length - (i + 1))
      case measure => omega
      case rel => exact ⟨i + 1, by go_num, by omega, by omega, _, rfl⟩
    · have hn : i = xs.length := by omega
      subst hn
      have hl : ¬ ((xs.length : Nat) : Int) < ((xs.length : Nat) : Int) := by omega
      clear HC
      go_wp2
      go_ret
      exact ⟨rfl, HL.out⟩

end Go.Proofs.YtbdfpodglfpjnaaGreat
namespace Go.Proofs.YtbdfpodglfpjnaaGreat
open Go.RowKit

end Go.Proofs.YtbdfpodglfpjnaaGreat
namespace Go.Proofs.YtbdfpodglfpjnaaGreat
open Go.RowKit

theorem box2 (w : World) (o1 o2 : Obj) : w.heap.size ≠ w.heap.size + 1 ∧ ((w.alloc o1).alloc o2).drew.heap[w.heap.size]? = some o1 ∧ ((w.alloc o1).alloc o2).drew.heap[w.heap.size + 1]? = some o2 ∧ Below w.heap.size w ((w.alloc o1).alloc o2).drew := by
  have s1 : (w.alloc o1).heap.size = w.heap.size + 1 := by simp
  have h1 := heap_alloc_new w o1
  have h2 := heap_alloc_new (w.alloc o1) o2
  rw [s1] at h2
  refine ⟨by omega, ?_, h2, (((Below.refl _ _).alloc (Nat.le_refl _) _).alloc (by omega) _).drew⟩
  show ((w.alloc o1).alloc o2).heap[w.heap.size]? = _
  rw [Below.heap_alloc _ _ _ (by omega)]; exact h1
theorem box2' (w : World) (o1 o2 : Obj) : w.heap.size + 1 ≠ w.heap.size ∧ ((w.alloc o1).alloc o2).drew.heap[w.heap.size + 1]? = some o2 ∧ ((w.alloc o1).alloc o2).drew.heap[w.heap.size]? = some o1 ∧ Below w.heap.size w ((w.alloc o1).alloc o2).drew := by
  obtain ⟨a, b, c, d⟩ := box2 w o1 o2
  exact ⟨by omega, c, b, d⟩
theorem cell_lt {w : World} {b o : Nat} {v : Value} (h : w.cell? ⟨b, o, none⟩ = some v) : b < w.heap.size := by
  apply Nat.lt_of_not_le
  intro hn
  have e : w.heap[b]? = none := Array.getElem?_eq_none hn
  simp only [World.cell?, e] at h
  cases h
theorem below_un {B : Nat} {w w' : World} (h : Below B w.drew w') : Below B w w' := ⟨h.os, h.tape, h.output, h.size, h.block⟩
end Go.Proofs.YtbdfpodglfpjnaaGreat
namespace Go.Proofs.YtbdfpodglfpjnaaGreat
open Go.RowKit

/-- Of what w held nothing has turned but blocks in X. -/
structure Bs (X : Nat → Prop) (w w' : World) : Prop where
  os : w'.os = w.os
  tape : w'.tape = w.tape
  output : w'.output = w.output
  size : w.heap.size ≤ w'.heap.size
  block : ∀ k, k < w.heap.size → ¬ X k → w'.heap[k]? = w.heap[k]?
theorem Bs.refl (X : Nat → Prop) (w : World) : Bs X w w := ⟨rfl, rfl, rfl, Nat.le_refl _, fun _ _ _ => rfl⟩
theorem Bs.trans {X : Nat → Prop} {a b c : World} (h : Bs X a b) (k : Bs X b c) : Bs X a c :=
  ⟨k.os.trans h.os, k.tape.trans h.tape, k.output.trans h.output, Nat.le_trans h.size k.size, fun i hi e => (k.block i (Nat.lt_of_lt_of_le hi h.size) e).trans (h.block i hi e)⟩
theorem Bs.of_bx {X : Nat → Prop} {rh : Nat} {w w' : World} (h : Bx rh w w') (hX : X rh) : Bs X w w' := ⟨h.os, h.tape, h.output, h.size, fun k hk e => h.block k hk (fun e2 => e (by rw [e2]; exact hX))⟩
theorem Bs.set {X : Nat → Prop} {w : World} {b j : Nat} {v : Value} (hX : X b) : Bs X w (w.setCell ⟨b, j, none⟩ v) :=
  ⟨rfl, rfl, rfl, by simp [World.setCell], fun k _ e => Below.heap_setCell _ _ _ _ (fun e2 => e (by rw [e2]; exact hX))⟩

section
variable {α : Type} {K : Kd α} {T : TypeId} {Z : Stt × Option (List α)} {p : Prs α} {s : ByteArray} {rh mb : Nat} {tb : TypeId} {row : Value → Array Value} {X : Nat → Prop} {w : World} {N i : Nat} {v : Value} {wr : World}
end
end Go.Proofs.YtbdfpodglfpjnaaGreat
/- The document's own reader: method. -/
namespace Go.Proofs.YtbdfpodglfpjnaaGreat
open Go.RowKit

section
variable {w : World} {rh : Nat} {s : ByteArray} {tb : TypeId} {zr row : Array Value} {t : Stt} {u : World}
end
def alive (t : Stt) : Bool := match t with
  | .ok _ => true
  | .error _ => false
theorem blk_ltD {u : World} {b : Nat} {o : Obj} (h : u.heap[b]? = some o) : b < u.heap.size := (Array.getElem?_eq_some_iff.1 h).1
/-- A list that was read since. -/
def Lk {α : Type} (K : Kd α) (w u : World) (v : Value) (xs : List α) : Prop := Sl K u (fun k => w.heap.size + 2 ≤ k ∧ k < u.heap.size) v xs
theorem Lk.call {α : Type} {K : Kd α} {w u u' : World} {v : Value} {xs : List α} {rh : Nat} (h : Lk K w u v xs) (hb : Bx rh u u') (hrh : rh < w.heap.size) : Lk K w u' v xs :=
  (Sl.keep (fun k hk => hb.block k hk.2 (by have := hk.1; omega)) h).mono fun k hk => ⟨hk.1, Nat.lt_of_lt_of_le hk.2 hb.size⟩
theorem Lk.set {α : Type} {K : Kd α} {w u : World} {v : Value} {xs : List α} (h : Lk K w u v xs) (j : Nat) (x : Value) : Lk K w (u.setCell ⟨w.heap.size + 1, j, none⟩ x) v xs :=
  (Sl.keep (fun k hk => Below.heap_setCell _ _ _ _ (show k ≠ w.heap.size + 1 by have := hk.1; omega)) h).mono fun k hk => ⟨hk.1, by simp [World.setCell]; exact hk.2⟩
theorem md_state (s : ByteArray) (t : Stt) : (stp pMd s t).1 = (stp (pList 64 pMp) s (stp (pList 16 pHd) s (stp (pList 300 pIs) s (stp (pUp 24 1402) s (stp (pUp 24 1402) s (stp pNum s (stp (pList 8 pNum) s (stp (pUp 1 1402) s (stp pName s t).1).1).1).1).1).1).1).1).1 := by
  rw [show pMd = pMap _ _ from rfl, (stp_map _ _ _ _).1, (stp_seq _ _ _ _).1, (stp_seq _ _ _ _).1, (stp_seq _ _ _ _).1, (stp_seq _ _ _ _).1, (stp_seq _ _ _ _).1, (stp_seq _ _ _ _).1, (stp_seq _ _ _ _).1, (stp_seq _ _ _ _).1, show (stp pFl1 s (stp pName s t).1).1 = (stp (pUp 1 1402) s (stp pName s t).1).1 from (stp_map _ _ _ _).1]
theorem stp_some {α : Type} {p : Prs α} {s : ByteArray} {t : Stt} {y : α} (h : (stp p s t).2 = some y) : ∃ b, (stp p s t).1 = .ok b := by
  cases t with
  | error e => cases h
  | ok a =>
    rcases hp : p s a with e | ⟨x, b⟩
    · rw [stp_err hp] at h; cases h
    · rw [stp_ok hp]; exact ⟨b, rfl⟩
theorem md_val {s : ByteArray} {t : Stt} {y : Md} (hy : (stp pMd s t).2 = some y) {x0 : ByteArray} {x1 x3 x4 x5 : Int} {x2 : List Int} {x6 : List Is} {x8 : List Hd} {x10 : List Mp} (h0 : ∀ z, (stp pName s t).2 = some z → x0 = z) (h1 : ∀ z, (stp (pUp 1 1402) s (stp pName s t).1).2 = some z → x1 = z) (h2 : ∀ z, (stp (pList 8 pNum) s (stp (pUp 1 1402) s (stp pName s t).1).1).2 = some z → x2 = z) (h3 : ∀ z, (stp pNum s (stp (pList 8 pNum) s (stp (pUp 1 1402) s (stp pName s t).1).1).1).2 = some z → x3 = z) (h4 : ∀ z, (stp (pUp 24 1402) s (stp pNum s (stp (pList 8 pNum) s (stp (pUp 1 1402) s (stp pName s t).1).1).1).1).2 = some z → x4 = z) (h5 : ∀ z, (stp (pUp 24 1402) s (stp (pUp 24 1402) s (stp pNum s (stp (pList 8 pNum) s (stp (pUp 1 1402) s (stp pName s t).1).1).1).1).1).2 = some z → x5 = z) (h6 : ∀ z, (stp (pList 300 pIs) s (stp (pUp 24 1402) s (stp (pUp 24 1402) s (stp pNum s (stp (pList 8 pNum) s (stp (pUp 1 1402) s (stp pName s t).1).1).1).1).1).1).2 = some z → x6 = z) (h8 : ∀ z, (stp (pList 16 pHd) s (stp (pList 300 pIs) s (stp (pUp 24 1402) s (stp (pUp 24 1402) s (stp pNum s (stp (pList 8 pNum) s (stp (pUp 1 1402) s (stp pName s t).1).1).1).1).1).1).1).2 = some z → x8 = z) (h10 : ∀ z, (stp (pList 64 pMp) s (stp (pList 16 pHd) s (stp (pList 300 pIs) s (stp (pUp 24 1402) s (stp (pUp 24 1402) s (stp pNum s (stp (pList 8 pNum) s (stp (pUp 1 1402) s (stp pName s t).1).1).1).1).1).1).1).1).2 = some z → x10 = z) : (⟨x0, x1 == 1, x2, x3, x4, x5, x6, x8, x10⟩ : Md) = y := by
  have hfl : (stp pFl1 s (stp pName s t).1).1 = (stp (pUp 1 1402) s (stp pName s t).1).1 := (stp_map _ _ _ _).1
  rw [show pMd = pMap _ _ from rfl, (stp_map _ _ _ _).2, Option.map_eq_some_iff] at hy
  obtain ⟨z, hz, rfl⟩ := hy
  obtain ⟨g0, k0⟩ := (stp_seq _ _ _ _).2 _ hz
  obtain ⟨g1, k1⟩ := (stp_seq _ _ _ _).2 _ k0
  rw [hfl] at k1
  obtain ⟨g2, k2⟩ := (stp_seq _ _ _ _).2 _ k1
  obtain ⟨g3, k3⟩ := (stp_seq _ _ _ _).2 _ k2
  obtain ⟨g4, k4⟩ := (stp_seq _ _ _ _).2 _ k3
  obtain ⟨g5, k5⟩ := (stp_seq _ _ _ _).2 _ k4
  obtain ⟨g6, k6⟩ := (stp_seq _ _ _ _).2 _ k5
  obtain ⟨g8, k8⟩ := (stp_seq _ _ _ _).2 _ k6
  rw [show pFl1 = pMap _ _ from rfl, (stp_map _ _ _ _).2, Option.map_eq_some_iff] at g1
  obtain ⟨f, hf, hf2⟩ := g1
  obtain ⟨b, hb⟩ := stp_some hf
  obtain ⟨u1, u2⟩ := up_bound hb h1
  obtain rfl := h1 _ hf
  have e1 : (x1 == 1) = z.2.1 := by
    rw [← hf2]
    rcases (by omega : x1 = 0 ∨ x1 = 1) with rfl | rfl <;> rfl
  rw [h0 _ g0, e1, h2 _ g2, h3 _ g3, h4 _ g4, h5 _ g5, h6 _ g6, h8 _ g8, h10 _ k8]
end Go.Proofs.YtbdfpodglfpjnaaGreat
