/- What stands in the loop that reads a list: for every kind of list. -/
import Derived.Test.YtajghalljkphiaaGreatMLGro
import Derived.Test.YtajghalljkphiaaGreatMLName
import Derived.Deep.LoopGhost
namespace Go.Proofs.YtajghalljkphiaaGreat
open Go.RowKit

/-- i of n are read. -/
def LIn {α : Type} (K : Kd α) (T : TypeId) (p : Prs α) (s : ByteArray) (rh : Nat) (w : World) (n : Nat) (tot : Rr (List α)) (i : Nat) (v : Value) (wr : World) : Prop :=
  ∃ xs b, xs.length = i ∧ b ≤ s.size ∧ Rb wr rh s b ∧ Bx rh w wr ∧ Gro K T w.heap.size wr v xs ∧ tot = bnd (pMany p (n - i) s b) fun ys c => .ok (xs ++ ys, c)

section
variable {α : Type} {K : Kd α} {T : TypeId} {p : Prs α} {s : ByteArray} {rh : Nat} {w : World} {n : Nat} {tot : Rr (List α)} {i : Nat} {v : Value} {wr : World}
theorem LIn.start {most : Int} {a b : Nat} {x : Int} (hp : pUp most 1404 s a = .ok (x, b)) (hb : b ≤ s.size) {w1 : World} (hR : Rb w1 rh s b) (hB : Bx rh w w1) :
    LIn K T p s rh w x.toNat (pList most p s a) 0 (.slice none 0 0) w1 :=
  ⟨[], b, rfl, hb, hR, hB, Gro.nil _ _ _ _, by unfold pList; rw [hp, bnd_ok]; cases pMany p (x.toNat - 0) s b with
    | ok y => rfl
    | error e => rfl⟩
theorem LIn.fin (h : LIn K T p s rh w n tot n v wr) : RdP tot (Ns K w) s rh w (.returned v) wr := by
  obtain ⟨xs, b, _, _, h3, h4, h5, h6⟩ := h
  rw [Nat.sub_self] at h6
  have h6' : tot = .ok (xs ++ [], b) := h6
  rw [List.append_nil] at h6'
  rw [h6']
  refine ⟨h4, v, rfl, ?_, h3⟩
  exact h5.sl
theorem LIn.next (h : LIn K T p s rh w n tot i v wr) (hi : i < n) (hrh : rh < w.heap.size) : ∃ xs b, xs.length = i ∧ b ≤ s.size ∧ Rb wr rh s b ∧ Bx rh w wr ∧ Gro K T w.heap.size wr v xs ∧
    (∀ e, p s b = .error e → tot = .error e) ∧ (∀ x c w1, p s b = .ok (x, c) → c ≤ s.size → Bx rh wr w1 → Rb w1 rh s c → Gro K T w.heap.size w1 v xs ∧ (∃ fs, w1.ownsRow w.heap.size T K.k v i fs) ∧
      ∀ cs fs o w2 g cap, K.R w1 (fun b => wr.heap.size ≤ b ∧ b < w1.heap.size) x cs → w1.ownsRow w.heap.size T K.k v i fs → w2.ownsRow w.heap.size T K.k (.slice (some ⟨g, 0, none⟩) (i + 1) cap) (i + 1) (fs ++ cs) →
        (w1.alloc o).grownBy w2 v.ownBlock → (v.ownBlock = some g ∨ g = (w1.alloc o).heap.size) → LIn K T p s rh w n tot (i + 1) (.slice (some ⟨g, 0, none⟩) (i + 1) cap) w2) := by
  obtain ⟨xs, b, h1, h2, h3, h4, h5, h6⟩ := h
  have hn : n - i = (n - (i + 1)) + 1 := by omega
  rw [hn, pMany_succ] at h6
  refine ⟨xs, b, h1, h2, h3, h4, h5, fun e he => by rw [h6, he, bnd_err, bnd_err], fun x c w1 hx hc hb hr => ?_⟩
  have hG := h5.bx hb hrh
  have hO := hG.own
  rw [h1] at hO
  refine ⟨hG, hO, fun cs fs o w2 g cap hK hf hown hg hat => ?_⟩
  subst h1
  have hv : ∀ g, v.ownBlock = some g → g < wr.heap.size := fun g hg => by
    rcases h5.shape with e | ⟨g', cap, e, _, hlt⟩
    · rw [e] at hg; cases hg
    · rw [e] at hg
      have : g' = g := by simpa [Value.ownBlock] using hg
      omega
  have hA := hG.app hK h4.size hv hf hown hg hat
  have hrw : rh < w1.heap.size := hr.lt
  have hsz : (w1.alloc o).heap.size = w1.heap.size + 1 := by simp
  have hne : v.ownBlock ≠ some rh := fun e => by
    rcases h5.shape with e' | ⟨g', cap, e', hb', _⟩
    · rw [e'] at e; cases e
    · rw [e'] at e
      have : g' = rh := by simpa [Value.ownBlock] using e
      omega
  refine ⟨xs ++ [x], c, by simp, hc, ?_, ?_, hA, ?_⟩
  · unfold Rb
    rw [hg.block rh (by omega) (fun e => hne e.symm), Below.heap_alloc _ _ _ hrw]
    exact hr
  · have hx2 := h4.trans hb
    have hz := hx2.size
    refine ⟨hg.os.trans hx2.os, hg.tape.trans hx2.tape, hg.output.trans hx2.output, by have := hg.size; omega, fun k hk e => ?_⟩
    have hne2 : v.ownBlock ≠ some k := fun e => by
      rcases h5.shape with e' | ⟨g', cap, e', hb', _⟩
      · rw [e'] at e; cases e
      · rw [e'] at e
        have : g' = k := by simpa [Value.ownBlock] using e
        omega
    rw [hg.block k (by omega) (fun e => hne2 e.symm), Below.heap_alloc _ _ _ (by omega)]
    exact hx2.block k hk e
  · rw [h6, hx, bnd_ok]
    cases pMany p (n - (xs.length + 1)) s c with
    | ok y => simp [bnd]
    | error e => rfl
end
end Go.Proofs.YtajghalljkphiaaGreat
