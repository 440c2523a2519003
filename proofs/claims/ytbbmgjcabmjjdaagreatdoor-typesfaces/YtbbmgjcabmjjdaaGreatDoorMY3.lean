/- The document's own Get, Put, GetText, PutText: what each answers, whatever it is asked. -/
import Derived.Test.YtbbmgjcabmjjdaaGreatDoorMGL0
import Derived.ProofKit
import Derived.BigQuiet
import Derived.Deep.OwnRows
import Derived.Deep.RegionWith
import Derived.Laws.Rows
import Derived.Deep.Draws
import Derived.Deep.AppendLies
import Derived.StillTailTactics
import Derived.Laws.Strings
import Derived.Deep.LoopGhost
import Derived.Laws.Tables
import Derived.Test.YtbbmgjcabmjjdaaGreatDoorMY1
namespace Go.Proofs.YtbbmgjcabmjjdaaGreatDoor
open Go.RowKit

/-- A kind of data that lies in k cells; S: the blocks that it reaches. -/
structure Kd (α : Type) where
  k : Nat
  uf : Bool
  pos : 0 < k
  R : World → (Nat → Prop) → α → List Value → Prop
  len : ∀ {w S x cs}, R w S x cs → cs.length = k
  one : ∀ {w S x cs}, R w S x cs → ∀ u ∈ cs, u.oneCell' = true
  keep : ∀ {w w' : World} {S : Nat → Prop} {x cs}, (∀ b, S b → w'.heap[b]? = w.heap[b]?) → R w S x cs → R w' S x cs
  mono : ∀ {w : World} {S S' : Nat → Prop} {x cs}, (∀ b, S b → S' b) → R w S x cs → R w S' x cs

/-- A block that is there; u: nothing of it is shared with a string. -/
def Blk (u : Bool) (w : World) (b : Nat) : Prop := b < w.heap.size ∧ (u = true → ∀ j, w.frozen? ⟨b, j, none⟩ = false)
/-- v is a slice of these. -/
def Sl {α : Type} (K : Kd α) (w : World) (S : Nat → Prop) (v : Value) (xs : List α) : Prop :=
  ∃ ao cap, v = .slice ao xs.length cap ∧ xs.length ≤ maxLen ∧ (xs = [] ∨ ∃ b o, ao = some ⟨b, o, none⟩ ∧ S b ∧ Blk K.uf w b ∧
    ∀ i x, xs[i]? = some x → ∃ cs, K.R w S x cs ∧ ∀ j u, cs[j]? = some u → w.cell? ⟨b, o + (i * K.k + j), none⟩ = some u)
theorem cell_same {w w' : World} {b : Nat} (h : w'.heap[b]? = w.heap[b]?) (o : Nat) : w'.cell? ⟨b, o, none⟩ = w.cell? ⟨b, o, none⟩ := World.cell?_of_block (w := w) h
theorem lt_same {w w' : World} {b : Nat} (h : w'.heap[b]? = w.heap[b]?) (hb : b < w.heap.size) : b < w'.heap.size := by
  have h1 : w.heap[b]? = some w.heap[b] := Array.getElem?_eq_getElem hb
  rw [h1] at h
  exact (Array.getElem?_eq_some_iff.1 h).1
theorem Blk.same {u : Bool} {w w' : World} {b : Nat} (h : w'.heap[b]? = w.heap[b]?) (hb : Blk u w b) : Blk u w' b := ⟨lt_same h hb.1, fun hu j => by have := hb.2 hu j; simp only [World.frozen?, h] at this ⊢; exact this⟩
theorem Sl.keep {α : Type} {K : Kd α} {w w' : World} {S : Nat → Prop} {v : Value} {xs : List α} (e : ∀ b, S b → w'.heap[b]? = w.heap[b]?) (h : Sl K w S v xs) : Sl K w' S v xs := by
  obtain ⟨ao, cap, hv, hn, h⟩ := h
  refine ⟨ao, cap, hv, hn, h.imp_right ?_⟩
  rintro ⟨b, o, h1, h2, h3, h4⟩
  refine ⟨b, o, h1, h2, h3.same (e b h2), fun i x hx => ?_⟩
  obtain ⟨cs, r1, r2⟩ := h4 i x hx
  exact ⟨cs, K.keep e r1, fun j u hu => by rw [cell_same (e b h2)]; exact r2 j u hu⟩
theorem Sl.mono {α : Type} {K : Kd α} {w : World} {S S' : Nat → Prop} {v : Value} {xs : List α} (e : ∀ b, S b → S' b) (h : Sl K w S v xs) : Sl K w S' v xs := by
  obtain ⟨ao, cap, hv, hn, h⟩ := h
  refine ⟨ao, cap, hv, hn, h.imp_right ?_⟩
  rintro ⟨b, o, h1, h2, h3, h4⟩
  refine ⟨b, o, h1, e b h2, h3, fun i x hx => ?_⟩
  obtain ⟨cs, r1, r2⟩ := h4 i x hx
  exact ⟨cs, K.mono e r1, r2⟩
theorem Sl.one {α : Type} {K : Kd α} {w : World} {S : Nat → Prop} {v : Value} {xs : List α} (h : Sl K w S v xs) : v.oneCell' = true := by
  obtain ⟨ao, cap, rfl, _⟩ := h; rfl
theorem Sl.nil {α : Type} (K : Kd α) (w : World) (S : Nat → Prop) : Sl K w S (.slice none 0 0) [] := ⟨none, 0, rfl, Nat.zero_le _, .inl rfl⟩

def kIb (u : Bool) : Kd Int where
  uf := u
  k := 1
  pos := by decide
  R := fun _ _ x cs => cs = [.int .i64 x]
  len := by rintro _ _ _ _ rfl; rfl
  one := by rintro _ _ _ _ rfl; simp [Value.oneCell']
  keep := fun _ h => h
  mono := fun _ h => h
abbrev kI := kIb false
abbrev kIU := kIb true
def kFdb (u : Bool) : Kd Fd where
  uf := u
  k := 2
  pos := by decide
  R := fun _ _ x cs => cs = [.string x.nm, .int .i64 x.ty]
  len := by rintro _ _ _ _ rfl; rfl
  one := by rintro _ _ _ _ rfl; simp [Value.oneCell']
  keep := fun _ h => h
  mono := fun _ h => h
abbrev kFd := kFdb false
abbrev kFdU := kFdb true
def kIsb (u : Bool) : Kd Is where
  uf := u
  k := 3
  pos := by decide
  R := fun _ _ x cs => cs = [.int .i64 x.op, .int .i64 x.a, .int .i64 x.b]
  len := by rintro _ _ _ _ rfl; rfl
  one := by rintro _ _ _ _ rfl; simp [Value.oneCell']
  keep := fun _ h => h
  mono := fun _ h => h
abbrev kIs := kIsb false
abbrev kIsU := kIsb true
def kHdb (u : Bool) : Kd Hd where
  uf := u
  k := 4
  pos := by decide
  R := fun _ _ x cs => cs = [.int .i64 x.fr, .int .i64 x.to, .int .i64 x.at_, .int .i64 x.cl]
  len := by rintro _ _ _ _ rfl; rfl
  one := by rintro _ _ _ _ rfl; simp [Value.oneCell']
  keep := fun _ h => h
  mono := fun _ h => h
abbrev kHd := kHdb false
abbrev kHdU := kHdb true
def kMpb (u : Bool) : Kd Mp where
  uf := u
  k := 3
  pos := by decide
  R := fun w S x cs => ∃ v1 v2, cs = [.int .i64 x.at_, v1, v2] ∧ Sl (kIb u) w S v1 x.lo ∧ Sl (kIb u) w S v2 x.st
  len := by rintro _ _ _ _ ⟨_, _, rfl, _⟩; rfl
  one := by
    rintro _ _ _ _ ⟨_, _, rfl, h1, h2⟩ u hu
    simp at hu
    rcases hu with rfl | rfl | rfl
    · rfl
    · exact h1.one
    · exact h2.one
  keep := by rintro _ _ _ _ _ e ⟨_, _, rfl, h1, h2⟩; exact ⟨_, _, rfl, h1.keep e, h2.keep e⟩
  mono := by rintro _ _ _ _ _ e ⟨_, _, rfl, h1, h2⟩; exact ⟨_, _, rfl, h1.mono e, h2.mono e⟩
abbrev kMp := kMpb false
abbrev kMpU := kMpb true
def kMdb (u : Bool) : Kd Md where
  uf := u
  k := 9
  pos := by decide
  R := fun w S x cs => ∃ v1 v2 v3 v4, cs = [.string x.nm, .bool x.stc, v1, .int .i64 x.ret, .int .i64 x.lo, .int .i64 x.st, v2, v3, v4] ∧ Sl (kIb u) w S v1 x.args ∧ Sl (kIsb u) w S v2 x.code ∧ Sl (kHdb u) w S v3 x.tab ∧ Sl (kMpb u) w S v4 x.maps
  len := by rintro _ _ _ _ ⟨_, _, _, _, rfl, _⟩; rfl
  one := by
    rintro _ _ _ _ ⟨_, _, _, _, rfl, h1, h2, h3, h4⟩ u hu
    simp at hu
    rcases hu with rfl | rfl | rfl | rfl | rfl | rfl | rfl | rfl | rfl
    · rfl
    · rfl
    · exact h1.one
    · rfl
    · rfl
    · rfl
    · exact h2.one
    · exact h3.one
    · exact h4.one
  keep := by rintro _ _ _ _ _ e ⟨_, _, _, _, rfl, h1, h2, h3, h4⟩; exact ⟨_, _, _, _, rfl, h1.keep e, h2.keep e, h3.keep e, h4.keep e⟩
  mono := by rintro _ _ _ _ _ e ⟨_, _, _, _, rfl, h1, h2, h3, h4⟩; exact ⟨_, _, _, _, rfl, h1.mono e, h2.mono e, h3.mono e, h4.mono e⟩
abbrev kMd := kMdb false
abbrev kMdU := kMdb true
def kCsb (u : Bool) : Kd Cs where
  uf := u
  k := 8
  pos := by decide
  R := fun w S x cs => ∃ v1 v2 v3 v4, cs = [.string x.nm, .bool x.face, .bool x.fin, .int .i64 x.sup, v1, v2, v3, v4] ∧ Sl (kIb u) w S v1 x.faces ∧ Sl (kFdb u) w S v2 x.flds ∧ Sl (kFdb u) w S v3 x.stcs ∧ Sl (kMdb u) w S v4 x.mds
  len := by rintro _ _ _ _ ⟨_, _, _, _, rfl, _⟩; rfl
  one := by
    rintro _ _ _ _ ⟨_, _, _, _, rfl, h1, h2, h3, h4⟩ u hu
    simp at hu
    rcases hu with rfl | rfl | rfl | rfl | rfl | rfl | rfl | rfl
    · rfl
    · rfl
    · rfl
    · rfl
    · exact h1.one
    · exact h2.one
    · exact h3.one
    · exact h4.one
  keep := by rintro _ _ _ _ _ e ⟨_, _, _, _, rfl, h1, h2, h3, h4⟩; exact ⟨_, _, _, _, rfl, h1.keep e, h2.keep e, h3.keep e, h4.keep e⟩
  mono := by rintro _ _ _ _ _ e ⟨_, _, _, _, rfl, h1, h2, h3, h4⟩; exact ⟨_, _, _, _, rfl, h1.mono e, h2.mono e, h3.mono e, h4.mono e⟩
abbrev kCs := kCsb false
abbrev kCsU := kCsb true
def kPgb (u : Bool) : Kd Pg where
  uf := u
  k := 2
  pos := by decide
  R := fun w S x cs => ∃ v1, cs = [.int .i64 x.main, v1] ∧ Sl (kCsb u) w S v1 x.cls
  len := by rintro _ _ _ _ ⟨_, rfl, _⟩; rfl
  one := by
    rintro _ _ _ _ ⟨_, rfl, h1⟩ u hu
    simp at hu
    rcases hu with rfl | rfl
    · rfl
    · exact h1.one
  keep := by rintro _ _ _ _ _ e ⟨_, rfl, h1⟩; exact ⟨_, rfl, h1.keep e⟩
  mono := by rintro _ _ _ _ _ e ⟨_, rfl, h1⟩; exact ⟨_, rfl, h1.mono e⟩

abbrev kPg := kPgb false
abbrev kPgU := kPgb true
theorem Sl.soft {α : Type} {K K' : Kd α} {w : World} {S : Nat → Prop} {v : Value} {xs : List α} (hR : ∀ x cs, K.R w S x cs → K'.R w S x cs) (hk : K'.k = K.k) (hu : K'.uf = false) (h : Sl K w S v xs) : Sl K' w S v xs := by
  obtain ⟨ao, cap, hv, hn, h⟩ := h
  refine ⟨ao, cap, hv, hn, h.imp_right ?_⟩
  rintro ⟨b, o, h1, h2, h3, h4⟩
  refine ⟨b, o, h1, h2, ⟨h3.1, fun e => by rw [hu] at e; cases e⟩, fun i x hx => ?_⟩
  obtain ⟨cs, r1, r2⟩ := h4 i x hx
  exact ⟨cs, hR _ _ r1, fun j u hj => by rw [hk]; exact r2 j u hj⟩
theorem soft_I {w : World} {S : Nat → Prop} {v : Value} {xs : List Int} (h : Sl kIU w S v xs) : Sl kI w S v xs := Sl.soft (K := kIU) (fun _ _ h => h) rfl rfl h
theorem soft_Fd {w : World} {S : Nat → Prop} {v : Value} {xs : List Fd} (h : Sl kFdU w S v xs) : Sl kFd w S v xs := Sl.soft (K := kFdU) (fun _ _ h => h) rfl rfl h
theorem soft_Is {w : World} {S : Nat → Prop} {v : Value} {xs : List Is} (h : Sl kIsU w S v xs) : Sl kIs w S v xs := Sl.soft (K := kIsU) (fun _ _ h => h) rfl rfl h
theorem soft_Hd {w : World} {S : Nat → Prop} {v : Value} {xs : List Hd} (h : Sl kHdU w S v xs) : Sl kHd w S v xs := Sl.soft (K := kHdU) (fun _ _ h => h) rfl rfl h
theorem soft_Mp {w : World} {S : Nat → Prop} {v : Value} {xs : List Mp} (h : Sl kMpU w S v xs) : Sl kMp w S v xs := Sl.soft (K := kMpU) (fun _ _ ⟨_, _, e, h1, h2⟩ => ⟨_, _, e, soft_I h1, soft_I h2⟩) rfl rfl h
theorem soft_Md {w : World} {S : Nat → Prop} {v : Value} {xs : List Md} (h : Sl kMdU w S v xs) : Sl kMd w S v xs := Sl.soft (K := kMdU) (fun _ _ ⟨_, _, _, _, e, h1, h2, h3, h4⟩ => ⟨_, _, _, _, e, soft_I h1, soft_Is h2, soft_Hd h3, soft_Mp h4⟩) rfl rfl h
theorem soft_Cs {w : World} {S : Nat → Prop} {v : Value} {xs : List Cs} (h : Sl kCsU w S v xs) : Sl kCs w S v xs := Sl.soft (K := kCsU) (fun _ _ ⟨_, _, _, _, e, h1, h2, h3, h4⟩ => ⟨_, _, _, _, e, soft_I h1, soft_Fd h2, soft_Fd h3, soft_Md h4⟩) rfl rfl h
theorem soft_Pg {w : World} {S : Nat → Prop} {x : Pg} {cs : List Value} (h : kPgU.R w S x cs) : kPg.R w S x cs := by
  obtain ⟨_, e, h1⟩ := h; exact ⟨_, e, soft_Cs h1⟩

/-- v is such a struct. -/
def Vl {α : Type} (K : Kd α) (w : World) (S : Nat → Prop) (v : Value) (x : α) : Prop := ∃ cs, K.R w S x cs ∧ v = .agg cs.toArray

theorem hset {w : World} {s k : Nat} {arr : Array Value} {t : TypeId} (h : w.heap[s]? = some (.cells arr t (0, 0))) (x : Value) : (w.setCell ⟨s, k, none⟩ x).heap[s]? = some (.cells (arr.setIfInBounds k x) t (0, 0)) := by
  simp [World.setCell, Array.getElem?_modify, h]
/-- Of what w held nothing has turned but the block rh. -/
structure Bx (rh : Nat) (w w' : World) : Prop where
  os : w'.os = w.os
  tape : w'.tape = w.tape
  output : w'.output = w.output
  size : w.heap.size ≤ w'.heap.size
  block : ∀ k, k < w.heap.size → k ≠ rh → w'.heap[k]? = w.heap[k]?
theorem Bx.refl (rh : Nat) (w : World) : Bx rh w w := ⟨rfl, rfl, rfl, Nat.le_refl _, fun _ _ _ => rfl⟩
theorem Bx.trans {rh : Nat} {a b c : World} (h : Bx rh a b) (k : Bx rh b c) : Bx rh a c :=
  ⟨k.os.trans h.os, k.tape.trans h.tape, k.output.trans h.output, Nat.le_trans h.size k.size, fun i hi e1 => (k.block i (Nat.lt_of_lt_of_le hi h.size) e1).trans (h.block i hi e1)⟩
theorem Bx.of_below {rh : Nat} {w w' : World} (h : Below w.heap.size w w') : Bx rh w w' := ⟨h.os, h.tape, h.output, h.size, fun k hk _ => h.block k hk⟩
theorem Bx.set {rh : Nat} {a w : World} (h : Bx rh a w) (i : Nat) (v : Value) : Bx rh a (w.setCell ⟨rh, i, none⟩ v) :=
  h.trans ⟨rfl, rfl, rfl, by simp [World.setCell], fun k _ e => Below.heap_setCell _ _ _ _ e⟩
/-- A fault that is thrown. -/
abbrev Flt (q : Nat) (c : Int) : Ending := .panicked [{ v := .iface 61 (.agg #[.int .i64 q, .int .i64 c]), recovered := false }]
set_option maxRecDepth 20000 in
theorem throw_any (q c : Int) (w : World) : Calls Tryz.prog 40 #[.int .i64 q, .int .i64 c] w fun e w' => e = .panicked [{ v := .iface 61 (.agg #[.int .i64 q, .int .i64 c]), recovered := false }] ∧ w' = w := by
  go_enter Tryz.func40, Tryz.ntmps40
  go_wp2
  exact ⟨rfl, rfl, rfl⟩
/-- A struct that was made since w. -/
def Nw {α : Type} (K : Kd α) (w : World) (x : α) (v : Value) (w' : World) : Prop := Vl K w' (fun k => w.heap.size ≤ k ∧ k < w'.heap.size) v x
def Ns {α : Type} (K : Kd α) (w : World) (x : List α) (v : Value) (w' : World) : Prop := Sl K w' (fun k => w.heap.size ≤ k ∧ k < w'.heap.size) v x
def vI (x : Int) (v : Value) (_ : World) : Prop := v = .int .i64 x
def vT (x : ByteArray) (v : Value) (_ : World) : Prop := v = .string x
theorem below_drewN (w : World) (n B : Nat) : Below B w (w.drewN n) := ⟨rfl, rfl, rfl, Nat.le_refl _, fun _ _ => rfl⟩
end Go.Proofs.YtbbmgjcabmjjdaaGreatDoor
namespace Go.Proofs.YtbbmgjcabmjjdaaGreatDoor
open Go.RowKit

theorem flat_len {k : Nat} : ∀ R : List (List Value), (∀ r ∈ R, r.length = k) → R.flatten.length = R.length * k
  | [], _ => by simp
  | a :: R, h => by
    rw [List.flatten_cons, List.length_append, h a (by simp), flat_len R (fun r hr => h r (by simp [hr])), List.length_cons, Nat.succ_mul]; omega
theorem flat_at {k : Nat} : ∀ (R : List (List Value)), (∀ r ∈ R, r.length = k) → ∀ (i : Nat) (r : List Value), R[i]? = some r → ∀ j, j < k → R.flatten[i * k + j]? = r[j]?
  | [], _, i, r, h, _, _ => by simp at h
  | a :: R, hl, 0, r, h, j, hj => by
    simp at h; subst h
    rw [List.flatten_cons, List.getElem?_append_left (by rw [hl a (by simp)]; omega)]; simp
  | a :: R, hl, i + 1, r, h, j, hj => by
    have ha := hl a (by simp)
    have e : (i + 1) * k = i * k + k := Nat.succ_mul i k
    rw [List.flatten_cons, List.getElem?_append_right (by omega), ha, show (i + 1) * k + j - k = i * k + j by omega]
    exact flat_at R (fun r hr => hl r (by simp [hr])) i r (by simpa using h) j hj

/-- The blocks that the row's structs reach. -/
def Sx (base : Nat) (w : World) (v : Value) (b : Nat) : Prop := base ≤ b ∧ b < w.heap.size ∧ v.ownBlock ≠ some b
structure Gro {α : Type} (K : Kd α) (T : TypeId) (base : Nat) (w : World) (v : Value) (xs : List α) : Prop where
  css : ∃ css : List (List Value), css.length = xs.length ∧ (∀ (i : Nat) (x : α), xs[i]? = some x → ∃ cs, css[i]? = some cs ∧ K.R w (Sx base w v) x cs) ∧ w.ownsRow base T K.k v xs.length css.flatten

section
variable {α : Type} {K : Kd α} {T : TypeId} {base : Nat} {w : World} {v : Value} {xs : List α}
theorem Gro.nil (K : Kd α) (T : TypeId) (base : Nat) (w : World) : Gro K T base w (.slice none 0 0) [] :=
  ⟨[], rfl, fun i x h => by simp at h, World.ownsRow_nil _ _ _ _⟩
theorem Gro.shape (h : Gro K T base w v xs) : v = .slice none 0 0 ∨ ∃ g cap, v = .slice (some ⟨g, 0, none⟩) xs.length cap ∧ base ≤ g ∧ g < w.heap.size := by
  obtain ⟨css, _, _, h3⟩ := h.css
  rcases h3.2 with ⟨h1, _⟩ | ⟨g, cap, cur, h1, h2, h4, _⟩
  · exact .inl h1
  · exact .inr ⟨g, cap, h1, h2, (Array.getElem?_eq_some_iff.1 h4).1⟩
theorem Gro.slice (h : Gro K T base w v xs) : ∃ ao cap, v = .slice ao xs.length cap := by
  obtain ⟨css, _, _, h3⟩ := h.css
  rcases h3.2 with ⟨h1, h2⟩ | ⟨g, cap, cur, h1, _⟩
  · rw [h2]; exact ⟨none, 0, h1⟩
  · exact ⟨_, cap, h1⟩
theorem Gro.kept (h : Gro K T base w v xs) {w' : World} {row : Option Nat} (hg : w.grownBy w' row) (hr : ∀ b, row = some b → b < base) : Gro K T base w' v xs := by
  obtain ⟨css, h1, h2, h3⟩ := h.css
  refine ⟨css, h1, fun i x hx => ?_, h3.kept hg ?_⟩
  · obtain ⟨cs, e1, e2⟩ := h2 i x hx
    refine ⟨cs, e1, K.mono (S := Sx base w v) (fun b hb => ⟨hb.1, Nat.lt_of_lt_of_le hb.2.1 hg.size, hb.2.2⟩) (K.keep (fun b hb => hg.block b hb.2.1 (fun e => ?_)) e2)⟩
    have := hr b e.symm
    have := hb.1
    omega
  · rcases h.shape with e | ⟨g, cap, e, hb, _⟩
    · left; rw [e]; rfl
    · right
      rw [e]
      intro e2
      have := hr g e2.symm
      omega
theorem Gro.bx (h : Gro K T base w v xs) {w' : World} {rh : Nat} (hb : Bx rh w w') (hr : rh < base) : Gro K T base w' v xs :=
  h.kept (row := some rh) ⟨hb.os, hb.tape, hb.output, hb.size, fun k hk e => hb.block k hk (fun e2 => e (by rw [e2]))⟩ (fun b e => by cases e; exact hr)
theorem Gro.own (h : Gro K T base w v xs) : ∃ fs, w.ownsRow base T K.k v xs.length fs := by
  obtain ⟨css, _, _, h3⟩ := h.css; exact ⟨_, h3⟩

/-- One more: w the world in which the new one was made, w' behind append. -/
theorem Gro.app (h : Gro K T base w v xs) {x : α} {cs : List Value} {lo : Nat} (hx : K.R w (fun b => lo ≤ b ∧ b < w.heap.size) x cs) (hlo : base ≤ lo) (hv : ∀ g, v.ownBlock = some g → g < lo)
    {o : Obj} {w' : World} {g cap : Nat} {fs : List Value} (hf : w.ownsRow base T K.k v xs.length fs)
    (hown : w'.ownsRow base T K.k (.slice (some ⟨g, 0, none⟩) (xs.length + 1) cap) (xs.length + 1) (fs ++ cs)) (hg : (w.alloc o).grownBy w' v.ownBlock) (hat : v.ownBlock = some g ∨ g = (w.alloc o).heap.size) :
    Gro K T base w' (.slice (some ⟨g, 0, none⟩) (xs.length + 1) cap) (xs ++ [x]) := by
  obtain ⟨css, h1, h2, h3⟩ := h.css
  have hfs : fs = css.flatten := by
    rcases hf.2 with ⟨e1, e2⟩ | ⟨g1, c1, u1, e1, _, e3, _, _, _, e7⟩
    · have a1 := hf.1; rw [e2] at a1; have a2 := h3.1; rw [e2] at a2
      rw [Nat.zero_mul] at a1 a2
      rw [List.length_eq_zero_iff.1 a1, List.length_eq_zero_iff.1 a2]
    · rcases h3.2 with ⟨d1, _⟩ | ⟨g2, c2, u2, d1, _, d3, _, _, _, d7⟩
      · rw [d1] at e1; cases e1
      · rw [d1] at e1
        injection e1 with i1 i2 i3
        injection i1 with i1
        injection i1 with i1
        subst i1
        rw [d3] at e3
        injection e3 with e3
        injection e3 with e3
        rw [← e7, ← d7, e3]
  have hsz : (w.alloc o).heap.size = w.heap.size + 1 := by simp
  have same : ∀ b, b < w.heap.size → v.ownBlock ≠ some b → w'.heap[b]? = w.heap[b]? := fun b hb hn => by
    rw [hg.block b (by omega) (fun e => hn e.symm)]; exact Below.heap_alloc _ _ _ hb
  have size : w.heap.size ≤ w'.heap.size := by have := hg.size; omega
  refine ⟨css ++ [cs], by simp [h1], fun i y hy => ?_, ?_⟩
  · by_cases hi : i < xs.length
    · rw [List.getElem?_append_left hi] at hy
      obtain ⟨c, e1, e2⟩ := h2 i y hy
      refine ⟨c, by rw [List.getElem?_append_left (by omega)]; exact e1, K.mono (S := Sx base w v) (fun b hb => ⟨hb.1, by have := hb.2.1; omega, fun e => ?_⟩) (K.keep (fun b hb => same b hb.2.1 hb.2.2) e2)⟩
      have e' : g = b := by simpa [Value.ownBlock] using e
      subst e'
      rcases hat with q | q
      · exact hb.2.2 q
      · have := hb.2.1; omega
    · rw [List.getElem?_append_right (by omega)] at hy
      have hi0 : i = xs.length := by
        by_cases e : i = xs.length
        · exact e
        · rw [List.getElem?_eq_none (by simp; omega)] at hy; cases hy
      subst hi0
      simp at hy
      subst hy
      refine ⟨cs, by rw [List.getElem?_append_right (by omega), h1]; simp, K.mono (S := fun b => lo ≤ b ∧ b < w.heap.size) (fun b hb => ⟨by omega, by omega, fun e => ?_⟩) (K.keep (fun b hb => same b hb.2 (fun e => ?_)) hx)⟩
      · have e' : g = b := by simpa [Value.ownBlock] using e
        subst e'
        rcases hat with q | q
        · have := hv _ q; omega
        · omega
      · have := hv _ e; omega
  · rw [List.length_append, List.length_singleton, List.flatten_append, ← hfs]
    simpa using hown
/-- The slice that it is. -/
theorem Gro.sl (h : Gro K T base w v xs) : Sl K w (fun b => base ≤ b ∧ b < w.heap.size) v xs := by
  obtain ⟨css, h1, h2, h3⟩ := h.css
  have hl : ∀ r ∈ css, r.length = K.k := fun r hr => by
    obtain ⟨i, hi, rfl⟩ := List.getElem_of_mem hr
    obtain ⟨cs, e1, e2⟩ := h2 i (xs[i]'(by omega)) (List.getElem?_eq_getElem (by omega))
    rw [List.getElem?_eq_getElem hi] at e1
    cases e1
    exact K.len e2
  rcases h3.2 with ⟨e1, e2⟩ | ⟨g, cap, cur, e1, e2, e3, e4, e5, _⟩
  · exact ⟨none, 0, by rw [e1, e2], by rw [e2]; exact Nat.zero_le _, .inl (List.length_eq_zero_iff.1 e2)⟩
  · refine ⟨_, cap, e1, Nat.le_trans e4 e5, .inr ⟨g, 0, rfl, ⟨e2, (Array.getElem?_eq_some_iff.1 e3).1⟩, ⟨(Array.getElem?_eq_some_iff.1 e3).1, fun _ j => by simp [World.frozen?, e3]⟩, fun i x hx => ?_⟩⟩
    obtain ⟨cs, c1, c2⟩ := h2 i x hx
    refine ⟨cs, K.mono (S := Sx base w v) (fun b hb => ⟨hb.1, hb.2.1⟩) c2, fun j u hu => ?_⟩
    have hj : j < K.k := by
      have := K.len c2
      have := (List.getElem?_eq_some_iff.1 hu).1
      omega
    have hi : i < xs.length := (List.getElem?_eq_some_iff.1 hx).1
    rw [e1] at h3
    rw [Nat.zero_add, h3.cellAt (i * K.k + j) (by
      have : (i + 1) * K.k ≤ xs.length * K.k := Nat.mul_le_mul_right _ (by omega)
      rw [Nat.succ_mul] at this; omega), flat_at css hl i cs c1 j hj]
    exact hu
end

/-- The new struct's cells, in the block that it was laid in. -/
theorem news_at (w : World) (cs : Array Value) (T : TypeId) : ∀ j u, cs.toList[j]? = some u → (w.alloc (.cells cs T)).cell? ((⟨w.heap.size, 0, none⟩ : Addr).add j) = some u := fun j u h => by
  have := World.news_of_block (w := w.alloc (.cells cs T)) (B := w.heap.size) (cs := cs) (t := T) (fr := (0, 0)) (heap_alloc_new w _)
  exact this j u h
end Go.Proofs.YtbbmgjcabmjjdaaGreatDoor
namespace Go.Proofs.YtbbmgjcabmjjdaaGreatDoor
open Go.RowKit

end Go.Proofs.YtbbmgjcabmjjdaaGreatDoor
namespace Go.Proofs.YtbbmgjcabmjjdaaGreatDoor
open Go.RowKit

def okCh (s : ByteArray) (k : Nat) : Prop := ∀ j (h : j < s.size), j < k → (isL s[j] || isD s[j]) = true
theorem all_yes {s : ByteArray} (h : okCh s s.size) : s.data.toList.all (fun c => isL c || isD c) = true := by
  rw [List.all_eq_true]
  intro c hc
  obtain ⟨j, hj, rfl⟩ := List.getElem_of_mem hc
  have hj' : j < s.size := by simpa using hj
  exact h j hj' hj'
theorem all_no {s : ByteArray} {k : Nat} (hk : k < s.size) (h : (isL s[k] || isD s[k]) = false) : s.data.toList.all (fun c => isL c || isD c) = false := by
  rw [List.all_eq_false]
  refine ⟨s[k], ?_, by rw [h]; decide⟩
  have : s[k] = s.data.toList[k]'(by simpa using hk) := rfl
  rw [this]; exact List.getElem_mem _

theorem isNm_empty {s : ByteArray} (h : s.size = 0) : isNm s = false := by simp [isNm, h]
theorem isNm_long {s : ByteArray} (h : 16 < s.size) : isNm s = false := by
  unfold isNm
  have : decide (s.size ≤ 16) = false := by simp; omega
  rw [this]; simp
theorem get0 {s : ByteArray} (h : 0 < s.size) : s.data[0]? = some s[0] := Array.getElem?_eq_getElem h
theorem isNm_digit {s : ByteArray} (h : 0 < s.size) (hd : isD s[0] = true) : isNm s = false := by
  unfold isNm
  rw [get0 h]; simp [hd]
theorem isNm_rest {s : ByteArray} (h : 0 < s.size) (h2 : s.size ≤ 16) (hd : isD s[0] = false) : isNm s = s.data.toList.all (fun c => isL c || isD c) := by
  unfold isNm
  have e1 : (s.size == 0) = false := by rw [beq_eq_false_iff_ne]; omega
  have e2 : decide (s.size ≤ 16) = true := by simp; omega
  rw [get0 h, e1, e2]; simp [hd]
theorem ne_empty {s : ByteArray} (h : 0 < s.size) : s.toList.isEmpty = false := by
  rw [ByteArray.toList_eq]
  cases hl : s.data.toList with
  | nil =>
    have h2 : s.data.toList.length = s.size := by simp
    rw [hl] at h2
    change 0 = s.size at h2
    omega
  | cons a l => rfl
theorem empty_of {s : ByteArray} (h : s.size = 0) : s = ⟨#[]⟩ := by
  apply ByteArray.ext; exact Array.eq_empty_of_size_eq_zero h

theorem pName_ok {s : ByteArray} {a : Nat} (h : tC s a 16 = 0) (h2 : isNm (tS s a 16) = true) : pName s a = .ok (tS s a 16, (tT s a 16).toNat) := by unfold pName; rw [if_pos h, if_pos h2]
theorem pName_bad {s : ByteArray} {a : Nat} (h : tC s a 16 = 0) (h2 : isNm (tS s a 16) = false) : pName s a = .error (a, 1403) := by unfold pName; rw [if_pos h, if_neg (by rw [h2]; decide)]
theorem pName_no {s : ByteArray} {a : Nat} (h : tC s a 16 ≠ 0) : pName s a = .error (a, ofW (tC s a 16)) := by unfold pName; rw [if_neg h]
theorem tT_nat {s : ByteArray} {a : Nat} (ha : a ≤ s.size) (h : tC s a 16 = 0) : tT s a 16 = ((tT s a 16).toNat : Int) ∧ (tS s a 16).size ≤ s.size := by
  have g0 : gC s a = 0 := by
    apply Classical.byContradiction; intro h'
    rw [(t_err (most := 16) h').1] at h; exact h' h
  have g1 : ¬ (gN s a < 0 ∨ (16 : Int) < gN s a) := by
    intro h'; rw [(t_long g0 h').1] at h; cases h
  have g2 : ¬ (s.size : Int) - gT s a < gN s a := by
    intro h'; rw [(t_cut g0 g1 h').1] at h; cases h
  obtain ⟨_, t2, t3⟩ := t_ok g0 g1 g2
  obtain ⟨n, b1, b2, b3, b4, b5⟩ := num_back ha g0
  rw [t3, b1, t2, ByteArray.size_extract]
  exact ⟨by omega, by omega⟩

end Go.Proofs.YtbbmgjcabmjjdaaGreatDoor
namespace Go.Proofs.YtbbmgjcabmjjdaaGreatDoor
open Go.RowKit

section
variable {α : Type} {K : Kd α} {T : TypeId} {p : Prs α} {s : ByteArray} {rh : Nat} {w : World} {n : Nat} {tot : Rr (List α)} {i : Nat} {v : Value} {wr : World}
end
end Go.Proofs.YtbbmgjcabmjjdaaGreatDoor
namespace Go.Proofs.YtbbmgjcabmjjdaaGreatDoor
open Go.RowKit

theorem infoLI : (Tryz.prog.info? 3).map (fun i => (i.zero, i.size, i.bytes)) = some (some (.int .i64 0), 1, 8) := by kernel_rfl

end Go.Proofs.YtbbmgjcabmjjdaaGreatDoor
namespace Go.Proofs.YtbbmgjcabmjjdaaGreatDoor
open Go.RowKit

/-- The blocks that came since. -/
def So (w0 w : World) (b : Nat) : Prop := w0.heap.size + 2 ≤ b ∧ b < w.heap.size

section
variable {w0 : World} {rh : Nat} {s : ByteArray} {T : TypeId} {zs cs : Array Value} {b c : Nat} {w w1 : World}
theorem so_set {α : Type} {K : Kd α} {v u : Value} {xs : List α} {j : Nat} (h : Sl K w (So w0 w) v xs) : Sl K (w.setCell ⟨w0.heap.size + 1, j, none⟩ u) (So w0 (w.setCell ⟨w0.heap.size + 1, j, none⟩ u)) v xs :=
  (h.keep (w' := w.setCell ⟨w0.heap.size + 1, j, none⟩ u) fun k hk => Below.heap_setCell _ _ _ _ (by show k ≠ w0.heap.size + 1; have := hk.1; omega)).mono fun k hk => ⟨hk.1, by have := hk.2; simpa [World.setCell] using this⟩
theorem sl_end {α : Type} {K : Kd α} {v : Value} {xs : List α} {W : World} (h : Sl K w (So w0 w) v xs) (hB : ∀ k, k ≠ w0.heap.size → W.heap[k]? = w.heap[k]?) (hz : W.heap.size = w.heap.size) : Sl K W (fun k => w0.heap.size ≤ k ∧ k < W.heap.size) v xs :=
  (h.keep (w' := W) fun k hk => hB k (by have := hk.1; omega)).mono fun k hk => ⟨by have := hk.1; omega, by rw [hz]; exact hk.2⟩
end
theorem heap_far (w : World) (B j : Nat) (v : Value) {k : Nat} (h : k ≠ B) : (w.setCell ⟨B, j, none⟩ v).heap[k]? = w.heap[k]? := Below.heap_setCell _ _ _ _ h
theorem bnd_assoc {α β γ : Type} (r : Rr α) (f : α → Nat → Rr β) (g : β → Nat → Rr γ) : bnd (bnd r f) g = bnd r fun x b => bnd (f x b) g := by
  cases r with
  | ok y => rfl
  | error e => rfl
theorem flag_bits {y : Int} (h1 : 0 ≤ y) (h2 : y ≤ 3) : (bits BinOp.and IntKind.i64 y 1 != 0) = decide (y % 2 = 1) ∧ (bits BinOp.and IntKind.i64 y 2 != 0) = decide (2 ≤ y) := by
  rcases (show y = 0 ∨ y = 1 ∨ y = 2 ∨ y = 3 by omega) with rfl | rfl | rfl | rfl <;> decide
end Go.Proofs.YtbbmgjcabmjjdaaGreatDoor
namespace Go.Proofs.YtbbmgjcabmjjdaaGreatDoor
open Go.RowKit

theorem infoRFd : (Tryz.prog.info? 71).map (·.size) = some 2 := by kernel_rfl
theorem pFd_eq (s : ByteArray) (a : Nat) : pFd s a = bnd (pName s a) fun x1 b1 => bnd (pNum s b1) fun x2 b2 => .ok (⟨x1, x2⟩, b2) := by
  unfold pFd
  simp only [pMap, pSeq, bnd_assoc, bnd_ok]

end Go.Proofs.YtbbmgjcabmjjdaaGreatDoor
/- Reading a ins. -/
namespace Go.Proofs.YtbbmgjcabmjjdaaGreatDoor
open Go.RowKit

theorem infoRIs : (Tryz.prog.info? 24).map (·.size) = some 3 := by kernel_rfl
theorem pIs_eq (s : ByteArray) (a : Nat) : pIs s a = bnd (pNum s a) fun x1 b1 => bnd (pNum s b1) fun x2 b2 => bnd (pNum s b2) fun x3 b3 => .ok (⟨x1, x2, x3⟩, b3) := by
  unfold pIs
  simp only [pMap, pSeq, bnd_assoc, bnd_ok]

end Go.Proofs.YtbbmgjcabmjjdaaGreatDoor
/- Reading a handler. -/
namespace Go.Proofs.YtbbmgjcabmjjdaaGreatDoor
open Go.RowKit

theorem infoRHd : (Tryz.prog.info? 216).map (·.size) = some 4 := by kernel_rfl
theorem pHd_eq (s : ByteArray) (a : Nat) : pHd s a = bnd (pNum s a) fun x1 b1 => bnd (pNum s b1) fun x2 b2 => bnd (pNum s b2) fun x3 b3 => bnd (pNum s b3) fun x4 b4 => .ok (⟨x1, x2, x3, x4⟩, b4) := by
  unfold pHd
  simp only [pMap, pSeq, bnd_assoc, bnd_ok]

end Go.Proofs.YtbbmgjcabmjjdaaGreatDoor
namespace Go.Proofs.YtbbmgjcabmjjdaaGreatDoor
open Go.RowKit

theorem infoLF : (Tryz.prog.info? 71).map (fun i => (i.zero, i.size, i.bytes)) = some (some (.agg #[.string ⟨#[]⟩, .int .i64 0]), 2, 24) := by kernel_rfl

end Go.Proofs.YtbbmgjcabmjjdaaGreatDoor
namespace Go.Proofs.YtbbmgjcabmjjdaaGreatDoor
open Go.RowKit

theorem pw_le {k P : Nat} (hk : k ≤ 4) (h : P = 128 ^ k) : 1 ≤ P ∧ P ≤ 268435456 := by
  rcases pow_le_4 hk with e | e | e | e | e <;> subst e <;> simp only [Nat.reducePow] at h <;> omega

theorem mid {c : Nat} {P : Int} (h0 : 0 ≤ P) (h : P ≤ 268435456) : 0 ≤ (c : Int) % 128 * P ∧ (c : Int) % 128 * P ≤ 34091302912 := by
  constructor
  · exact Int.mul_nonneg (by omega) h0
  · have h1 : (c : Int) % 128 * P ≤ 127 * P := Int.mul_le_mul_of_nonneg_right (by omega) h0
    omega

theorem Z_nat {c zn k : Nat} {z P : Int} (hz : z = (zn : Int)) (hP : P = ((128 ^ k : Nat) : Int)) : z + (c : Int) % 128 * P = ((zn + c % 128 * 128 ^ k : Nat) : Int) := by
  rw [hz, hP, Int.natCast_add, Int.natCast_mul]; rfl

theorem Z_lt {c zn k : Nat} {z P : Int} (hk : k ≤ 4) (hz : z = (zn : Int)) (hP : P = ((128 ^ k : Nat) : Int)) (hl : z < P) (hc : c < 256) (hb : bad c k = false) : z + (c : Int) % 128 * P < 4294967296 := by
  have := (word_eq (z := zn) hc hk (by omega) hb).2
  rw [Z_nat hz hP]
  omega

theorem Z_ge {c zn k : Nat} {z P : Int} (hk : k = 4) (hz : z = (zn : Int)) (hP : P = ((128 ^ k : Nat) : Int)) (h1 : 15 < c) (h2 : c < 128) : 4294967296 ≤ z + (c : Int) % 128 * P := by
  rw [Z_nat hz hP]
  subst hk
  have h3 : 16 * 268435456 ≤ c % 128 * 268435456 := Nat.mul_le_mul_right _ (by omega)
  have h4 : (128 : Nat) ^ 4 = 268435456 := rfl
  rw [h4]
  omega

theorem pow_le_int {k : Nat} {P : Int} (hk : k ≤ 4) (h : P = ((128 ^ k : Nat) : Int)) : 1 ≤ P ∧ P ≤ 268435456 := by
  have := pw_le hk rfl
  omega

theorem z_step {c : Nat} {z P : Int} (h : z < P) (hP : 1 ≤ P) : z + (c : Int) % 128 * P < P * 128 := by
  have h1 : (c : Int) % 128 * P ≤ 127 * P := Int.mul_le_mul_of_nonneg_right (by omega) (by omega)
  omega

theorem zag_odd {n : Nat} {Z : Int} (h : Z = (n : Int)) (hp : Z % 2 = 1) : -(Z / 2) - 1 = zag n := by
  subst h; unfold zag; rw [if_neg (by omega)]; omega
theorem zag_even {n : Nat} {Z : Int} (h : Z = (n : Int)) (hp : ¬ Z % 2 = 1) : Z / 2 = zag n := by
  subst h; unfold zag; rw [if_pos (by omega)]; omega

theorem tl_eq {a k : Nat} (n : Nat) : (a : Int) + (k : Int) + 1 = tlOf a (n, k + 1, 0) := by
  unfold tlOf; simp only [if_pos]; omega

theorem prt_int {z : Nat} : ((z : Int) % 128 + 128) = ((prt z).toNat : Int) := by rw [prt_nat]; omega

theorem zig_pos {x : Int} (h : 0 ≤ x) : Value.int .i64 (2 * x) = Value.int .i64 (zig x : Nat) := by
  have : (zig x : Int) = 2 * x := by unfold zig; rw [if_pos h]; omega
  rw [this]
theorem zig_neg {x : Int} (h : x < 0) : Value.int .i64 (-2 * x - 1) = Value.int .i64 (zig x : Nat) := by
  have : (zig x : Int) = -2 * x - 1 := by unfold zig; rw [if_neg (by omega)]; omega
  rw [this]

end Go.Proofs.YtbbmgjcabmjjdaaGreatDoor
