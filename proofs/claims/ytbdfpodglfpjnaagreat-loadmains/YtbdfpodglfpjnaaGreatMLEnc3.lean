/- encode, whatever the program. -/
import Derived.Test.YtbdfpodglfpjnaaGreatMGLE
import Derived.Test.YtbdfpodglfpjnaaGreatMY5
namespace Go.Proofs.YtbdfpodglfpjnaaGreat
open Go.RowKit

theorem big_name (l : List Pt) (h : l.all okC = true ∧ l.all okT = true ∧ l.all okN = true) : ∀ p ∈ l, (p.kd ≠ 1 → p.nm.size = 0) → okP p = true ∧ p.nm.size ≤ maxLen := fun p hp hz => by
  have h1 := List.all_eq_true.1 h.1 p hp
  have h2 := List.all_eq_true.1 h.2.1 p hp
  have h3 := List.all_eq_true.1 h.2.2 p hp
  have hok : okP p = true := by unfold okP; rw [h1, h2, h3]; rfl
  refine ⟨hok, ?_⟩
  unfold maxLen
  rcases bts_len hok with q | q
  · omega
  · have := hz q; omega
/-- Only names bear texts. -/
def nmOk (p : Pt) : Prop := p.kd ≠ 1 → p.nm.size = 0
theorem nm_num (x : Int) : nmOk (ptN x) := fun _ => rfl
theorem nm_txt (s : ByteArray) : nmOk (ptT s) := fun h => absurd rfl h
theorem nm_siz (x m : Int) : nmOk (ptS x m) := fun _ => rfl
theorem nm_list {α : Type} {g : α → List Pt} (m : Int) (hg : ∀ x, ∀ p ∈ g x, nmOk p) (xs : List α) : ∀ p ∈ ptL m g xs, nmOk p := fun p hp => by
  rcases List.mem_cons.1 hp with rfl | hp
  · exact fun _ => rfl
  · obtain ⟨x, _, hx⟩ := List.mem_flatMap.1 hp
    exact hg x p hx
theorem nm_gN (x : Int) : ∀ p ∈ gN1 x, nmOk p := fun p hp => by rw [List.mem_singleton.1 hp]; exact nm_num x
theorem nm_gFd (f : Fd) : ∀ p ∈ gFd f, nmOk p := fun p hp => by
  simp [gFd] at hp; rcases hp with rfl | rfl
  · exact nm_txt _
  · exact nm_num _
theorem nm_gIs (f : Is) : ∀ p ∈ gIs f, nmOk p := fun p hp => by
  simp [gIs] at hp; rcases hp with rfl | rfl | rfl <;> exact nm_num _
theorem nm_gHd (f : Hd) : ∀ p ∈ gHd f, nmOk p := fun p hp => by
  simp [gHd] at hp; rcases hp with rfl | rfl | rfl | rfl <;> exact nm_num _
theorem nm_gMp (f : Mp) : ∀ p ∈ gMp f, nmOk p := fun p hp => by
  simp only [gMp, List.mem_cons, List.mem_append] at hp
  rcases hp with rfl | hp | hp
  · exact nm_num _
  · exact nm_list 24 nm_gN _ p hp
  · exact nm_list 24 nm_gN _ p hp
theorem nm_gMd (f : Md) : ∀ p ∈ gMd f, nmOk p := fun p hp => by
  simp only [gMd, List.mem_cons, List.mem_append] at hp
  rcases hp with rfl | rfl | hp | rfl | rfl | rfl | hp | hp | hp
  · exact nm_txt _
  · exact nm_num _
  · exact nm_list 8 nm_gN _ p hp
  · exact nm_num _
  · exact nm_siz _ _
  · exact nm_siz _ _
  · exact nm_list 300 nm_gIs _ p hp
  · exact nm_list 16 nm_gHd _ p hp
  · exact nm_list 64 nm_gMp _ p hp
theorem nm_gCs (f : Cs) : ∀ p ∈ gCs f, nmOk p := fun p hp => by
  simp only [gCs, List.mem_cons, List.mem_append] at hp
  rcases hp with rfl | rfl | rfl | hp | hp | hp | hp
  · exact nm_txt _
  · exact nm_num _
  · exact nm_num _
  · exact nm_list 8 nm_gN _ p hp
  · exact nm_list 24 nm_gFd _ p hp
  · exact nm_list 24 nm_gFd _ p hp
  · exact nm_list 24 nm_gMd _ p hp
theorem nm_gPg (f : Pg) : ∀ p ∈ gPg f, nmOk p := fun p hp => by
  simp only [gPg, List.mem_cons] at hp
  rcases hp with rfl | hp
  · exact nm_num _
  · exact nm_list 40 nm_gCs _ p hp

/-- The program lies where it lay; its box too. -/
structure Ps (w : World) (cs : Array Value) (S : Nat → Prop) (p : Pg) (u : World) : Prop where
  bel : Below w.heap.size w u
  box : u.heap[w.heap.size]? = some (.cells cs 25 (0, 0))
  dat : kPg.R u S p cs.toList
theorem Ps.keep {w u u' : World} {cs : Array Value} {S : Nat → Prop} {p : Pg} (h : Ps w cs S p u) (hS : ∀ k, S k → k < w.heap.size) (hb : ∀ k, k ≤ w.heap.size → u'.heap[k]? = u.heap[k]?) (h1 : u'.os = u.os) (h2 : u'.tape = u.tape) (h3 : u'.output = u.output) (h4 : u.heap.size ≤ u'.heap.size) : Ps w cs S p u' :=
  ⟨h.bel.trans ⟨h1, h2, h3, h4, fun k hk => hb k (by omega)⟩, by rw [hb _ (Nat.le_refl _)]; exact h.box, kPg.keep (fun k hk => hb k (by have := hS k hk; omega)) h.dat⟩
theorem Ps.lt {w u : World} {cs : Array Value} {S : Nat → Prop} {p : Pg} (h : Ps w cs S p u) : w.heap.size < u.heap.size := (Array.getElem?_eq_some_iff.1 h.box).1

theorem Ps.fb {w u u' : World} {cs : Array Value} {S : Nat → Prop} {p : Pg} (h : Ps w cs S p u) (hS : ∀ k, S k → k < w.heap.size) (hf : Fb none_ u u') : Ps w cs S p u' :=
  h.keep hS (fun k hk => hf.block k (by have := h.lt; omega) (fun o => o)) hf.os hf.tape hf.output hf.size
theorem Ps.alloc {w u : World} {cs : Array Value} {S : Nat → Prop} {p : Pg} (h : Ps w cs S p u) (hS : ∀ k, S k → k < w.heap.size) (o : Obj) : Ps w cs S p (u.alloc o) :=
  h.keep hS (fun k hk => Below.heap_alloc _ _ _ (by have := h.lt; omega)) rfl rfl rfl (by simp)
end Go.Proofs.YtbdfpodglfpjnaaGreat
