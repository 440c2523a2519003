/- A map as it lies in memory, told by a function of its keys. -/
import Derived.Test.YtdkbdmlodngneaaMKMath
import Derived.WalkKit
import Derived.ProofKit
import Derived.BigQuiet
import Derived.Deep.OwnRows
import Derived.Deep.RegionWith
import Derived.Laws.Rows
import Derived.Deep.Draws
import Derived.Maps.OwnSet
import Derived.MapViews
import Derived.Carry
namespace Go.Proofs.Ytdkbdmlodngneaa
open Go.RowKit

/-- How keys and elements lie: keys of α as key, elements of β as val, which reads as dat; zv: the element type's zero. -/
structure Mk (α β : Type) where
  k : TypeId
  e : TypeId
  t : TypeId
  key : α → Value
  ok : α → Prop
  val : β → Value
  dat : β → DataW Unit
  R : Value → Option (DataW Unit × List MemPlace)
  zv : β
  keyed : Maps.Keyed Try.prog k
  ht : Try.prog.underlying t = some (.map k e)
  hz : ∀ w, (zeroValue e).run Try.prog w = .ok (val zv) w
  hkey : ∀ x, ok x → ∃ l, keyOf Try.prog k (key x) = some l
  inj : ∀ x y, key x = key y → x = y
  hR : ∀ y, R (val y) = some (dat y, [])
  inv : ∀ v y ps, R v = some (dat y, ps) → v = val y

/-- Block m is a map that tells f (of the keys that may be); c bounds what was stored. -/
def Mv {α β : Type} (K : Mk α β) (w : World) (m : Nat) (f : α → Option β) (c : Nat) : Prop :=
  ∃ D : DataW Unit, w.ownsMap Try.prog K.k K.R m c D ∧ ∀ x l, keyOf Try.prog K.k (K.key x) = some l → match f x with
    | none => Maps.has D l = false
    | some y => Maps.has D l = true ∧ ∀ z, D.atKey l z = K.dat y
section
variable {α β : Type} {K : Mk α β} {w w' : World} {m c : Nat} {f : α → Option β}
theorem Mv.of_block (h : Mv K w m f c) (e : w'.heap[m]? = w.heap[m]?) : Mv K w' m f c := by
  obtain ⟨D, ⟨es, clock, hb, r⟩, h2⟩ := h
  exact ⟨D, ⟨es, clock, e.trans hb, r⟩, h2⟩
theorem Mv.lt (h : Mv K w m f c) : m < w.heap.size := let ⟨_, h1, _⟩ := h; h1.lt
theorem Mv.is_map (h : Mv K w m f c) : ∃ es clock, w.heap[m]? = some (.map es clock) := let ⟨_, ⟨es, clock, hb, _⟩, _⟩ := h; ⟨es, clock, hb⟩
theorem Mv.mono (h : Mv K w m f c) {c' : Nat} (hc : c ≤ c') : Mv K w m f c' := let ⟨D, h1, h2⟩ := h; ⟨D, h1.mono hc, h2⟩
theorem Mv.congr (h : Mv K w m f c) {g : α → Option β} (e : ∀ x, f x = g x) : Mv K w m g c := by
  have : f = g := funext e
  subst this; exact h
theorem Mv.made (K : Mk α β) (w : World) : Mv K (w.alloc (.map #[] 0)) w.heap.size (fun _ => none) 0 :=
  ⟨_, World.ownsMap_made w Try.prog K.k K.R, fun _ _ _ => rfl⟩
theorem Mv.look (h : Mv K w m f c) {x : α} (hx : K.ok x) : (Instr.lookup K.t (.map (some m)) (K.key x) true).run Try.prog w = .ok (.tuple #[K.val ((f x).getD K.zv), .bool (f x).isSome]) w := by
  obtain ⟨D, h1, h2⟩ := h
  obtain ⟨l, hl⟩ := K.hkey x hx
  obtain ⟨v, ps, hrun, hv⟩ := h1.look_ok K.keyed K.ht (K.hz w) (K.hR K.zv) hl
  have h3 := h2 x l hl
  rcases hf : f x with _ | y
  · rw [hf] at h3
    rw [Maps.atKey_of_not_has h3] at hv
    rw [hrun, K.inv _ _ _ hv, h3]; rfl
  · rw [hf] at h3
    rw [h3.2] at hv
    rw [hrun, K.inv _ _ _ hv, h3.1]; rfl
theorem Mv.store [DecidableEq α] (h : Mv K w m f c) (hc : c < maxLen) {x : α} (hx : K.ok x) (y : β) :
    ∃ w', (Instr.mapUpdate K.t (.map (some m)) (K.key x) (K.val y)).run Try.prog w = .ok () w' ∧ Mv K w' m (fun z => if z = x then some y else f z) (c + 1) ∧ w.mapTurned w' m := by
  obtain ⟨D, h1, h2⟩ := h
  obtain ⟨l, hl⟩ := K.hkey x hx
  obtain ⟨w', hrun, ho, ht⟩ := h1.store K.keyed K.ht hc hl (K.hR y)
  refine ⟨w', hrun, ⟨_, ho, fun z l' hl' => ?_⟩, ht⟩
  have hkl := K.keyed.key hl
  by_cases e : z = x
  · subst e
    have : l' = l := by rw [hl] at hl'; injection hl' with hl'; exact hl'.symm
    subst this
    simp only [if_true]
    exact ⟨Maps.has_put_same h1.isMap hkl _, fun z => Maps.atKey_put_same h1.isMap hkl _ _⟩
  · have hne : l' ≠ l := fun q => by subst q; exact e (K.inj _ _ (K.keyed.inj hl' hl))
    simp only [if_neg e]
    have h3 := h2 z l' hl'
    rcases hf : f z with _ | y2
    · rw [hf] at h3; show Maps.has _ _ = false; rw [Maps.has_put_other hne]; exact h3
    · rw [hf] at h3
      exact ⟨by rw [Maps.has_put_other hne]; exact h3.1, fun q => by rw [Maps.atKey_put_other hne]; exact h3.2 q⟩
theorem Mv.drop [DecidableEq α] (h : Mv K w m f c) {x : α} (hx : K.ok x) (ty : TypeId) :
    ∃ w', (Builtin.delete_ #[K.t, K.k] ty #[.map (some m), K.key x]).run Try.prog w = .ok (.tuple #[]) w' ∧ Mv K w' m (fun z => if z = x then none else f z) c ∧ w.mapTurned w' m := by
  obtain ⟨D, h1, h2⟩ := h
  obtain ⟨l, hl⟩ := K.hkey x hx
  obtain ⟨w', hrun, ho, ht⟩ := h1.drop K.keyed K.ht hl ty
  refine ⟨w', hrun, ⟨_, ho, fun z l' hl' => ?_⟩, ht⟩
  by_cases e : z = x
  · subst e
    have : l' = l := by rw [hl] at hl'; injection hl' with hl'; exact hl'.symm
    subst this
    simp only [if_true]
    exact Maps.has_del_same
  · have hne : l' ≠ l := fun q => by subst q; exact e (K.inj _ _ (K.keyed.inj hl' hl))
    simp only [if_neg e]
    have h3 := h2 z l' hl'
    rcases hf : f z with _ | y2
    · rw [hf] at h3; show Maps.has _ _ = false; rw [Maps.has_del_other hne]; exact h3
    · rw [hf] at h3
      exact ⟨by rw [Maps.has_del_other hne]; exact h3.1, fun q => by rw [Maps.atKey_del_other hne]; exact h3.2 q⟩
end
end Go.Proofs.Ytdkbdmlodngneaa
