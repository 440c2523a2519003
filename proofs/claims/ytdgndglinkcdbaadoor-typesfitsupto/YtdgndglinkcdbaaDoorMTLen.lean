/- Lists that are lent: CopyInts with what is its own, LendInts, KeptInts. -/
import Derived.Test.YtdgndglinkcdbaaDoorMGCX
import Derived.Test.YtdgndglinkcdbaaDoorMLSame
namespace Go.Proofs.YtdgndglinkcdbaaDoor
open Go.RowKit

attribute [local go_sem ↓] app_Y
/-- What a copy of ints leaves: a row of its own. -/
def Cpo (w : World) (xs : List Int) (v : Value) (w' : World) : Prop := Below w.heap.size w w' ∧ w'.ownsRow w.heap.size 3 1 v xs.length (xs.map clI).flatten
set_option maxHeartbeats 1000000 in
set_option maxRecDepth 20000 in
theorem copyO_ok {w : World} {S : Nat → Prop} {v : Value} {xs : List Int} (hv : Sl kI w S v xs) (hl : xs.length ≤ 1073741824) : Calls Tryd.prog 29 #[v] w fun e w' => ∃ g cap, e = .returned (.slice (some ⟨g, 0, none⟩) xs.length cap) ∧ Cpo w xs (.slice (some ⟨g, 0, none⟩) xs.length cap) w' := by
  obtain ⟨i0, hi, hz0, hz1, hz2⟩ := info_parts infoLI
  have hv2 := hv
  obtain ⟨a, c, rfl, -⟩ := hv2
  rcases Nat.eq_zero_or_pos xs.length with h0 | h0
  · have hx : xs = [] := List.eq_nil_of_length_eq_zero h0
    subst hx
    have hr : (appY _ _ _).run _ _ = _ := run_app_zero (w.alloc (.cells #[] 3)) 25 3 i0 Tryd.underlying25 hi a c w.heap.size
    clear hv hi hz0 hz1 hz2
    go_enter Tryd.func29, Tryd.ntmps29
    go_wp2_with (fail)
    go_ret
    exact ⟨_, _, rfl, (Below.refl _ _).alloc (Nat.le_refl _) _, own_empty w 3 1⟩
  · obtain ⟨b, o, rfl, -, hb, hlen, hcell⟩ := flat_cells (cl := clI) (fun _ _ _ _ h => h) hv h0
    have HC : Hid (∀ j u, (xs.map clI).flatten[j]? = some u → (w.alloc (.cells #[] 3)).cell? ((⟨b, o, none⟩ : Addr).add j) = some u) := fun j u hu => by
      have hadd : (⟨b, o, none⟩ : Addr).add j = ⟨b, o + j, none⟩ := by unfold Addr.add; split <;> simp_all
      have := hcell j u hu
      rw [hadd] at this ⊢
      rw [cell_same (Below.heap_alloc _ _ _ hb)]; exact this
    have HL : Hid ((xs.map clI).flatten.length = xs.length * 1) := hlen
    clear hv hcell hlen
    go_enter Tryd.func29, Tryd.ntmps29
    go_wp2_with (at_builtin; refine wpList_append_lies _ rfl _ _ 25 rfl w.heap.size 3 i0 (.int .i64 0) 1 8 Tryd.underlying25 hi hz0 hz1 hz2 rfl (by decide) _ 0 [] rfl (own_empty w 3 1) ⟨b, o, none⟩ xs.length _ _ rfl HL.out HC.out (one_flat (by intro x u hu; simp [clI] at hu; rcases hu with rfl <;> rfl) xs) h0 (by unfold maxLen; omega) (by omega) (by simp) _ rfl ?_; intro g cap w2 hown hgrow hat hlt3; have HO : Hid (Cpo w xs (.slice (some ⟨g, 0, none⟩) xs.length cap) w2) := ⟨(cpd_of (K := kIU) (T := 3) (cl := clI) (fun _ _ _ => rfl) (by rw [Nat.zero_add] at hown; exact hown) hgrow).1, by rw [Nat.zero_add] at hown; exact hown⟩; clear hown hgrow hat)
    go_ret
    exact ⟨g, cap, rfl, HO.out⟩
/-- A list that is lent: two more stand behind it. -/
def Lnt (w : World) (B : Nat) (v : Value) (xs : List Int) : Prop := ∃ g cap, v = .slice (some ⟨g, 0, none⟩) xs.length cap ∧ xs.length + 2 ≤ cap ∧ cap ≤ maxLen ∧ B ≤ g ∧ g < w.heap.size ∧ ∀ (i : Nat) (x : Int), (xs ++ [-7777, -8888])[i]? = some x → w.cell? ⟨g, i, none⟩ = some (.int .i64 x)
theorem Lnt.keep {w w' : World} {B : Nat} {v : Value} {xs : List Int} (h : Lnt w B v xs) (hb : Below w.heap.size w w') : Lnt w' B v xs := by
  obtain ⟨g, cap, rfl, h1, h2, h3, h4, h5⟩ := h
  exact ⟨g, cap, rfl, h1, h2, h3, Nat.lt_of_lt_of_le h4 hb.size, fun i x hx => by rw [cell_same (hb.block g h4)]; exact h5 i x hx⟩
theorem Lnt.sl {w : World} {B : Nat} {v : Value} {xs : List Int} (h : Lnt w B v xs) : Sl kI w (fun k => B ≤ k ∧ k < w.heap.size) v xs := by
  obtain ⟨g, cap, rfl, h1, h2, h3, h4, h5⟩ := h
  refine ⟨_, cap, rfl, by omega, .inr ⟨g, 0, rfl, ⟨h3, h4⟩, ⟨h4, fun e => by cases e⟩, fun i x hx => ⟨[.int .i64 x], rfl, fun j u hu => ?_⟩⟩⟩
  have hj : j = 0 := by
    have := (List.getElem?_eq_some_iff.1 hu).1
    simpa using this
  subst hj
  simp at hu
  subst hu
  have := h5 i x (by rw [List.getElem?_append_left (List.getElem?_eq_some_iff.1 hx).1]; exact hx)
  rw [show 0 + (i * kI.k + 0) = i by show 0 + (i * 1 + 0) = i; omega]
  exact this
theorem flat_clI (xs : List Int) : (xs.map clI).flatten = xs.map fun x => Value.int .i64 x := by
  induction xs with
  | nil => rfl
  | cons x xs ih => simp only [List.map_cons, List.flatten_cons, ih]; rfl
theorem lnt_of {w : World} {B g cap : Nat} {xs : List Int} (h : w.ownsRow B 3 1 (.slice (some ⟨g, 0, none⟩) (xs.length + 2) cap) (xs.length + 2) ((xs.map clI).flatten ++ [.int .i64 (-7777), .int .i64 (-8888)])) : Lnt w B (.slice (some ⟨g, 0, none⟩) xs.length cap) xs := by
  have h2 := h
  rcases h2.2 with ⟨e1, _⟩ | ⟨g', cap', cur, e1, e2, e3, e4, e5, _⟩
  · cases e1
  · cases e1
    refine ⟨g, cap, rfl, e4, e5, e2, (Array.getElem?_eq_some_iff.1 e3).1, fun i x hx => ?_⟩
    have hi : i < xs.length + 2 := by
      have := (List.getElem?_eq_some_iff.1 hx).1
      simpa using this
    rw [h.cellAt i (by omega), flat_clI]
    have e : (xs.map fun x => Value.int .i64 x) ++ [.int .i64 (-7777), .int .i64 (-8888)] = (xs ++ [-7777, -8888]).map fun x => Value.int .i64 x := by simp
    rw [e, List.getElem?_map, hx]; rfl
theorem own_ge {u : World} {B g cap n : Nat} {T : TypeId} {k : Nat} {xs : List Value} (h : u.ownsRow B T k (.slice (some ⟨g, 0, none⟩) n cap) n xs) : B ≤ g := by
  rcases h.2 with ⟨e1, _⟩ | ⟨g', cap', cur, e1, e2, _⟩
  · cases e1
  · cases e1; exact e2
theorem lent_below {w u1 w2 : World} {o : Obj} {g : Nat} (hb : Below w.heap.size w u1) (hg : w.heap.size ≤ g) (h : (u1.alloc o).grownBy w2 (some g)) : Below w.heap.size w w2 := by
  have h1 := h.size
  have h2 := hb.size
  have h3 : (u1.alloc o).heap.size = u1.heap.size + 1 := by simp
  refine ⟨h.os.trans hb.os, h.tape.trans hb.tape, h.output.trans hb.output, by omega, fun k hk => ?_⟩
  rw [h.block k (by omega) (fun e => by injection e with e; omega), Below.heap_alloc _ _ _ (by omega)]
  exact hb.block k hk
end Go.Proofs.YtdgndglinkcdbaaDoor
