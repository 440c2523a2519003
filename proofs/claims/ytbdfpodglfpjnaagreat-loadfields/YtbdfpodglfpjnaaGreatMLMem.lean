/- A program as it lies in memory; the reader's box; what a call that reads leaves. -/
import Derived.Test.YtbdfpodglfpjnaaGreatMGL0
import Derived.ProofKit
import Derived.BigQuiet
import Derived.Deep.OwnRows
import Derived.Deep.RegionWith
import Derived.Laws.Rows
import Derived.Deep.Draws
namespace Go.Proofs.YtbdfpodglfpjnaaGreat
open Go.RowKit

/-- A kind of data that lies in k cells; S: the blocks that it reaches. -/
structure Kd (α : Type) where
  k : Nat
  uf : Bool
  pos : 0 < k
  R : World → (Nat → Prop) → α → List Value → Prop
  len : ∀ {w S x cs}, R w S x cs → cs.length = k
  one : ∀ {w S x cs}, R w S x cs → ∀ u ∈ cs, u.oneCell' = true
  keep : ∀ {w w' : World} {S : Nat → Prop} {x cs}, (∀ b, S b → w'.heap[b]? = w.heap[b]?) → R w S x cs → R w' S x cs
  mono : ∀ {w : World} {S S' : Nat → Prop} {x cs}, (∀ b, S b → S' b) → R w S x cs → R w S' x cs

/-- A block that is there; u: nothing of it is shared with a string. -/
def Blk (u : Bool) (w : World) (b : Nat) : Prop := b < w.heap.size ∧ (u = true → ∀ j, w.frozen? ⟨b, j, none⟩ = false)
/-- v is a slice of these. -/
def Sl {α : Type} (K : Kd α) (w : World) (S : Nat → Prop) (v : Value) (xs : List α) : Prop :=
  ∃ ao cap, v = .slice ao xs.length cap ∧ xs.length ≤ maxLen ∧ (xs = [] ∨ ∃ b o, ao = some ⟨b, o, none⟩ ∧ S b ∧ Blk K.uf w b ∧
    ∀ i x, xs[i]? = some x → ∃ cs, K.R w S x cs ∧ ∀ j u, cs[j]? = some u → w.cell? ⟨b, o + (i * K.k + j), none⟩ = some u)
theorem cell_same {w w' : World} {b : Nat} (h : w'.heap[b]? = w.heap[b]?) (o : Nat) : w'.cell? ⟨b, o, none⟩ = w.cell? ⟨b, o, none⟩ := World.cell?_of_block (w := w) h
theorem lt_same {w w' : World} {b : Nat} (h : w'.heap[b]? = w.heap[b]?) (hb : b < w.heap.size) : b < w'.heap.size := by
  have h1 : w.heap[b]? = some w.heap[b] := Array.getElem?_eq_getElem hb
  rw [h1] at h
  exact (Array.getElem?_eq_some_iff.1 h).1
theorem Blk.same {u : Bool} {w w' : World} {b : Nat} (h : w'.heap[b]? = w.heap[b]?) (hb : Blk u w b) : Blk u w' b := ⟨lt_same h hb.1, fun hu j => by have := hb.2 hu j; simp only [World.frozen?, h] at this ⊢; exact this⟩
theorem Sl.keep {α : Type} {K : Kd α} {w w' : World} {S : Nat → Prop} {v : Value} {xs : List α} (e : ∀ b, S b → w'.heap[b]? = w.heap[b]?) (h : Sl K w S v xs) : Sl K w' S v xs := by
  obtain ⟨ao, cap, hv, hn, h⟩ := h
  refine ⟨ao, cap, hv, hn, h.imp_right ?_⟩
  rintro ⟨b, o, h1, h2, h3, h4⟩
  refine ⟨b, o, h1, h2, h3.same (e b h2), fun i x hx => ?_⟩
  obtain ⟨cs, r1, r2⟩ := h4 i x hx
  exact ⟨cs, K.keep e r1, fun j u hu => by rw [cell_same (e b h2)]; exact r2 j u hu⟩
theorem Sl.mono {α : Type} {K : Kd α} {w : World} {S S' : Nat → Prop} {v : Value} {xs : List α} (e : ∀ b, S b → S' b) (h : Sl K w S v xs) : Sl K w S' v xs := by
  obtain ⟨ao, cap, hv, hn, h⟩ := h
  refine ⟨ao, cap, hv, hn, h.imp_right ?_⟩
  rintro ⟨b, o, h1, h2, h3, h4⟩
  refine ⟨b, o, h1, e b h2, h3, fun i x hx => ?_⟩
  obtain ⟨cs, r1, r2⟩ := h4 i x hx
  exact ⟨cs, K.mono e r1, r2⟩
theorem Sl.one {α : Type} {K : Kd α} {w : World} {S : Nat → Prop} {v : Value} {xs : List α} (h : Sl K w S v xs) : v.oneCell' = true := by
  obtain ⟨ao, cap, rfl, _⟩ := h; rfl
theorem Sl.nil {α : Type} (K : Kd α) (w : World) (S : Nat → Prop) : Sl K w S (.slice none 0 0) [] := ⟨none, 0, rfl, Nat.zero_le _, .inl rfl⟩

def kIb (u : Bool) : Kd Int where
  uf := u
  k := 1
  pos := by decide
  R := fun _ _ x cs => cs = [.int .i64 x]
  len := by rintro _ _ _ _ rfl; rfl
  one := by rintro _ _ _ _ rfl; simp [Value.oneCell']
  keep := fun _ h => h
  mono := fun _ h => h
abbrev kI := kIb false
abbrev kIU := kIb true
def kFdb (u : Bool) : Kd Fd where
  uf := u
  k := 2
  pos := by decide
  R := fun _ _ x cs => cs = [.string x.nm, .int .i64 x.ty]
  len := by rintro _ _ _ _ rfl; rfl
  one := by rintro _ _ _ _ rfl; simp [Value.oneCell']
  keep := fun _ h => h
  mono := fun _ h => h
abbrev kFd := kFdb false
abbrev kFdU := kFdb true
def kIsb (u : Bool) : Kd Is where
  uf := u
  k := 3
  pos := by decide
  R := fun _ _ x cs => cs = [.int .i64 x.op, .int .i64 x.a, .int .i64 x.b]
  len := by rintro _ _ _ _ rfl; rfl
  one := by rintro _ _ _ _ rfl; simp [Value.oneCell']
  keep := fun _ h => h
  mono := fun _ h => h
abbrev kIs := kIsb false
abbrev kIsU := kIsb true
def kHdb (u : Bool) : Kd Hd where
  uf := u
  k := 4
  pos := by decide
  R := fun _ _ x cs => cs = [.int .i64 x.fr, .int .i64 x.to, .int .i64 x.at_, .int .i64 x.cl]
  len := by rintro _ _ _ _ rfl; rfl
  one := by rintro _ _ _ _ rfl; simp [Value.oneCell']
  keep := fun _ h => h
  mono := fun _ h => h
abbrev kHd := kHdb false
abbrev kHdU := kHdb true
def kMpb (u : Bool) : Kd Mp where
  uf := u
  k := 3
  pos := by decide
  R := fun w S x cs => ∃ v1 v2, cs = [.int .i64 x.at_, v1, v2] ∧ Sl (kIb u) w S v1 x.lo ∧ Sl (kIb u) w S v2 x.st
  len := by rintro _ _ _ _ ⟨_, _, rfl, _⟩; rfl
  one := by
    rintro _ _ _ _ ⟨_, _, rfl, h1, h2⟩ u hu
    simp at hu
    rcases hu with rfl | rfl | rfl
    · rfl
    · exact h1.one
    · exact h2.one
  keep := by rintro _ _ _ _ _ e ⟨_, _, rfl, h1, h2⟩; exact ⟨_, _, rfl, h1.keep e, h2.keep e⟩
  mono := by rintro _ _ _ _ _ e ⟨_, _, rfl, h1, h2⟩; exact ⟨_, _, rfl, h1.mono e, h2.mono e⟩
abbrev kMp := kMpb false
abbrev kMpU := kMpb true
def kMdb (u : Bool) : Kd Md where
  uf := u
  k := 9
  pos := by decide
  R := fun w S x cs => ∃ v1 v2 v3 v4, cs = [.string x.nm, .bool x.stc, v1, .int .i64 x.ret, .int .i64 x.lo, .int .i64 x.st, v2, v3, v4] ∧ Sl (kIb u) w S v1 x.args ∧ Sl (kIsb u) w S v2 x.code ∧ Sl (kHdb u) w S v3 x.tab ∧ Sl (kMpb u) w S v4 x.maps
  len := by rintro _ _ _ _ ⟨_, _, _, _, rfl, _⟩; rfl
  one := by
    rintro _ _ _ _ ⟨_, _, _, _, rfl, h1, h2, h3, h4⟩ u hu
    simp at hu
    rcases hu with rfl | rfl | rfl | rfl | rfl | rfl | rfl | rfl | rfl
    · rfl
    · rfl
    · exact h1.one
    · rfl
    · rfl
    · rfl
    · exact h2.one
    · exact h3.one
    · exact h4.one
  keep := by rintro _ _ _ _ _ e ⟨_, _, _, _, rfl, h1, h2, h3, h4⟩; exact ⟨_, _, _, _, rfl, h1.keep e, h2.keep e, h3.keep e, h4.keep e⟩
  mono := by rintro _ _ _ _ _ e ⟨_, _, _, _, rfl, h1, h2, h3, h4⟩; exact ⟨_, _, _, _, rfl, h1.mono e, h2.mono e, h3.mono e, h4.mono e⟩
abbrev kMd := kMdb false
abbrev kMdU := kMdb true
def kCsb (u : Bool) : Kd Cs where
  uf := u
  k := 8
  pos := by decide
  R := fun w S x cs => ∃ v1 v2 v3 v4, cs = [.string x.nm, .bool x.face, .bool x.fin, .int .i64 x.sup, v1, v2, v3, v4] ∧ Sl (kIb u) w S v1 x.faces ∧ Sl (kFdb u) w S v2 x.flds ∧ Sl (kFdb u) w S v3 x.stcs ∧ Sl (kMdb u) w S v4 x.mds
  len := by rintro _ _ _ _ ⟨_, _, _, _, rfl, _⟩; rfl
  one := by
    rintro _ _ _ _ ⟨_, _, _, _, rfl, h1, h2, h3, h4⟩ u hu
    simp at hu
    rcases hu with rfl | rfl | rfl | rfl | rfl | rfl | rfl | rfl
    · rfl
    · rfl
    · rfl
    · rfl
    · exact h1.one
    · exact h2.one
    · exact h3.one
    · exact h4.one
  keep := by rintro _ _ _ _ _ e ⟨_, _, _, _, rfl, h1, h2, h3, h4⟩; exact ⟨_, _, _, _, rfl, h1.keep e, h2.keep e, h3.keep e, h4.keep e⟩
  mono := by rintro _ _ _ _ _ e ⟨_, _, _, _, rfl, h1, h2, h3, h4⟩; exact ⟨_, _, _, _, rfl, h1.mono e, h2.mono e, h3.mono e, h4.mono e⟩
abbrev kCs := kCsb false
abbrev kCsU := kCsb true
def kPgb (u : Bool) : Kd Pg where
  uf := u
  k := 2
  pos := by decide
  R := fun w S x cs => ∃ v1, cs = [.int .i64 x.main, v1] ∧ Sl (kCsb u) w S v1 x.cls
  len := by rintro _ _ _ _ ⟨_, rfl, _⟩; rfl
  one := by
    rintro _ _ _ _ ⟨_, rfl, h1⟩ u hu
    simp at hu
    rcases hu with rfl | rfl
    · rfl
    · exact h1.one
  keep := by rintro _ _ _ _ _ e ⟨_, rfl, h1⟩; exact ⟨_, rfl, h1.keep e⟩
  mono := by rintro _ _ _ _ _ e ⟨_, rfl, h1⟩; exact ⟨_, rfl, h1.mono e⟩

abbrev kPg := kPgb false
abbrev kPgU := kPgb true
theorem Sl.soft {α : Type} {K K' : Kd α} {w : World} {S : Nat → Prop} {v : Value} {xs : List α} (hR : ∀ x cs, K.R w S x cs → K'.R w S x cs) (hk : K'.k = K.k) (hu : K'.uf = false) (h : Sl K w S v xs) : Sl K' w S v xs := by
  obtain ⟨ao, cap, hv, hn, h⟩ := h
  refine ⟨ao, cap, hv, hn, h.imp_right ?_⟩
  rintro ⟨b, o, h1, h2, h3, h4⟩
  refine ⟨b, o, h1, h2, ⟨h3.1, fun e => by rw [hu] at e; cases e⟩, fun i x hx => ?_⟩
  obtain ⟨cs, r1, r2⟩ := h4 i x hx
  exact ⟨cs, hR _ _ r1, fun j u hj => by rw [hk]; exact r2 j u hj⟩
theorem soft_I {w : World} {S : Nat → Prop} {v : Value} {xs : List Int} (h : Sl kIU w S v xs) : Sl kI w S v xs := Sl.soft (K := kIU) (fun _ _ h => h) rfl rfl h
theorem soft_Fd {w : World} {S : Nat → Prop} {v : Value} {xs : List Fd} (h : Sl kFdU w S v xs) : Sl kFd w S v xs := Sl.soft (K := kFdU) (fun _ _ h => h) rfl rfl h
theorem soft_Is {w : World} {S : Nat → Prop} {v : Value} {xs : List Is} (h : Sl kIsU w S v xs) : Sl kIs w S v xs := Sl.soft (K := kIsU) (fun _ _ h => h) rfl rfl h
theorem soft_Hd {w : World} {S : Nat → Prop} {v : Value} {xs : List Hd} (h : Sl kHdU w S v xs) : Sl kHd w S v xs := Sl.soft (K := kHdU) (fun _ _ h => h) rfl rfl h
theorem soft_Mp {w : World} {S : Nat → Prop} {v : Value} {xs : List Mp} (h : Sl kMpU w S v xs) : Sl kMp w S v xs := Sl.soft (K := kMpU) (fun _ _ ⟨_, _, e, h1, h2⟩ => ⟨_, _, e, soft_I h1, soft_I h2⟩) rfl rfl h
theorem soft_Md {w : World} {S : Nat → Prop} {v : Value} {xs : List Md} (h : Sl kMdU w S v xs) : Sl kMd w S v xs := Sl.soft (K := kMdU) (fun _ _ ⟨_, _, _, _, e, h1, h2, h3, h4⟩ => ⟨_, _, _, _, e, soft_I h1, soft_Is h2, soft_Hd h3, soft_Mp h4⟩) rfl rfl h
theorem soft_Cs {w : World} {S : Nat → Prop} {v : Value} {xs : List Cs} (h : Sl kCsU w S v xs) : Sl kCs w S v xs := Sl.soft (K := kCsU) (fun _ _ ⟨_, _, _, _, e, h1, h2, h3, h4⟩ => ⟨_, _, _, _, e, soft_I h1, soft_Fd h2, soft_Fd h3, soft_Md h4⟩) rfl rfl h
theorem soft_Pg {w : World} {S : Nat → Prop} {x : Pg} {cs : List Value} (h : kPgU.R w S x cs) : kPg.R w S x cs := by
  obtain ⟨_, e, h1⟩ := h; exact ⟨_, e, soft_Cs h1⟩

/-- v is such a struct. -/
def Vl {α : Type} (K : Kd α) (w : World) (S : Nat → Prop) (v : Value) (x : α) : Prop := ∃ cs, K.R w S x cs ∧ v = .agg cs.toArray

theorem hset {w : World} {s k : Nat} {arr : Array Value} {t : TypeId} (h : w.heap[s]? = some (.cells arr t (0, 0))) (x : Value) : (w.setCell ⟨s, k, none⟩ x).heap[s]? = some (.cells (arr.setIfInBounds k x) t (0, 0)) := by
  simp [World.setCell, Array.getElem?_modify, h]
/-- Of what w held nothing has turned but the block rh. -/
structure Bx (rh : Nat) (w w' : World) : Prop where
  os : w'.os = w.os
  tape : w'.tape = w.tape
  output : w'.output = w.output
  size : w.heap.size ≤ w'.heap.size
  block : ∀ k, k < w.heap.size → k ≠ rh → w'.heap[k]? = w.heap[k]?
theorem Bx.refl (rh : Nat) (w : World) : Bx rh w w := ⟨rfl, rfl, rfl, Nat.le_refl _, fun _ _ _ => rfl⟩
theorem Bx.trans {rh : Nat} {a b c : World} (h : Bx rh a b) (k : Bx rh b c) : Bx rh a c :=
  ⟨k.os.trans h.os, k.tape.trans h.tape, k.output.trans h.output, Nat.le_trans h.size k.size, fun i hi e1 => (k.block i (Nat.lt_of_lt_of_le hi h.size) e1).trans (h.block i hi e1)⟩
theorem Bx.of_below {rh : Nat} {w w' : World} (h : Below w.heap.size w w') : Bx rh w w' := ⟨h.os, h.tape, h.output, h.size, fun k hk _ => h.block k hk⟩
theorem Bx.set {rh : Nat} {a w : World} (h : Bx rh a w) (i : Nat) (v : Value) : Bx rh a (w.setCell ⟨rh, i, none⟩ v) :=
  h.trans ⟨rfl, rfl, rfl, by simp [World.setCell], fun k _ e => Below.heap_setCell _ _ _ _ e⟩
/-- A fault that is thrown. -/
abbrev Flt (q : Nat) (c : Int) : Ending := .panicked [{ v := .iface 75 (.agg #[.int .i64 q, .int .i64 c]), recovered := false }]
set_option maxRecDepth 20000 in
theorem throw_any (q c : Int) (w : World) : Calls Tryz.prog 41 #[.int .i64 q, .int .i64 c] w fun e w' => e = .panicked [{ v := .iface 75 (.agg #[.int .i64 q, .int .i64 c]), recovered := false }] ∧ w' = w := by
  go_enter Tryz.func41, Tryz.ntmps41
  go_wp2
  exact ⟨rfl, rfl, rfl⟩
/-- A struct that was made since w. -/
def Nw {α : Type} (K : Kd α) (w : World) (x : α) (v : Value) (w' : World) : Prop := Vl K w' (fun k => w.heap.size ≤ k ∧ k < w'.heap.size) v x
def Ns {α : Type} (K : Kd α) (w : World) (x : List α) (v : Value) (w' : World) : Prop := Sl K w' (fun k => w.heap.size ≤ k ∧ k < w'.heap.size) v x
def vI (x : Int) (v : Value) (_ : World) : Prop := v = .int .i64 x
def vT (x : ByteArray) (v : Value) (_ : World) : Prop := v = .string x
theorem below_drewN (w : World) (n B : Nat) : Below B w (w.drewN n) := ⟨rfl, rfl, rfl, Nat.le_refl _, fun _ _ => rfl⟩
end Go.Proofs.YtbdfpodglfpjnaaGreat
