/- A store of objects: Refs. -/
import Derived.Test.YtcdgfjfhekmajaaGreatOGone
import Derived.Shelf.SlIterI.Nil
import Derived.Shelf.SortM.Plain
import Derived.Shelf.SortM.SortNone
import Derived.Ground.GgzProg
import Derived.Ground.SlgmProg
namespace Go.Proofs.YtcdgfjfhekmajaaGreat
open Go.RowKit Go.Maps Go.Sort Go.Shelf

shelf_lay_g SlLaysZI.n7 Ggz 7 at Tryz 25 as okeys
shelf_lay_g SlLaysZI.n6 Ggz 6 at Tryz 24 as osorted
shelf_lay_g SlLaysM.n5 Slgm 5 at Tryz 47 as osort

theorem osorts (m : Nat) : AnyZI.SortsIn Tryz.prog osorted_ren Fence.wide m :=
  ⟨fun blk off cap ss W hH hblk hsz => callsIn_wide.2 (AnyM.slices_Sort_int osort blk off cap ss W hH hblk hsz),
   fun p cap W => callsIn_wide.2 (AnyM.slices_Sort_int_none osort p cap W)⟩
section
variable {w : World} {P : Nat → Prop} {so mb p b W base N : Nat} {cs : Nat → Int} {T : Int} {xs : List Int} {ws : Nat → Int} {nn : Nat} {D : DataW Unit} {O : List Ob}
theorem Sto.refs_nodup (h : Sto w P so mb p b W base N cs T xs ws nn D O) : (O.map Ob.ref).Nodup := by
  refine List.pairwise_map.2 (List.pairwise_iff_getElem.2 fun i j hi hj hij => ?_)
  exact h.inv.ref_ne (List.getElem?_eq_getElem hi) (List.getElem?_eq_getElem hj) (by omega)
theorem Sto.keys (h : Sto w P so mb p b W base N cs T xs ws nn D O) : (O.map Ob.ref).Perm (intKeys D) := by
  obtain ⟨es, hD, hpw, _⟩ := h.raw.map.entries keyed3
  obtain ⟨es', hD', hko⟩ := h.raw.map.keysOf
  obtain rfl : es = es' := by rw [hD] at hD'; simpa using hD'
  have hm := h.mp.has
  have hn := h.refs_nodup
  clear h
  subst hD
  refine perm_intKeys hpw (fun p hp => by obtain ⟨v, hv⟩ := hko p hp; obtain ⟨x, _, hx, _⟩ := Maps.keyOf_i64 Tryz.underlying3 hv; exact ⟨x, hx⟩) hn fun x => ?_
  rw [hm x, List.mem_map]
theorem Sto.few (h : Sto w P so mb p b W base N cs T xs ws nn D O) : O.length ≤ 1000 := by
  have h1 := tot_len O
  have h2 := h.inv.sum
  have h3 := h.raw.fit
  omega
/-- The numbers, rising. -/
def Rising (O : List Ob) (F : Nat → Int) : Prop := (∀ j, j + 1 < O.length → F j < F (j + 1)) ∧ ∀ j, j < O.length → ∃ o ∈ O, o.ref = F j
theorem rising_of {ss : List Int} {O : List Ob} (hn : (O.map Ob.ref).Nodup) (hp : ss.Perm (O.map Ob.ref)) : (ss.mergeSort leI).length = O.length ∧ Rising O (fun j => (ss.mergeSort leI).getD j 0) := by
  have hp2 : (ss.mergeSort leI).Perm (O.map Ob.ref) := (List.mergeSort_perm ss leI).trans hp
  have hl : (ss.mergeSort leI).length = O.length := by rw [hp2.length_eq, List.length_map]
  have tr : ∀ a b c : Int, leI a b = true → leI b c = true → leI a c = true := fun a b c h1 h2 => by simp only [leI, decide_eq_true_eq] at *; exact Int.le_trans h1 h2
  have to_ : ∀ a b : Int, (leI a b || leI b a) = true := fun a b => by simp only [leI, Bool.or_eq_true, decide_eq_true_eq]; exact Int.le_total a b
  have hs := List.pairwise_mergeSort tr to_ ss
  have hnd : (ss.mergeSort leI).Nodup := hp2.nodup_iff.2 hn
  generalize ss.mergeSort leI = L at *
  refine ⟨hl, fun j hj => ?_, fun j hj => ?_⟩
  · have h1 : j < L.length := by omega
    have h2 : j + 1 < L.length := by omega
    show L.getD j 0 < L.getD (j + 1) 0
    rw [List.getD_eq_getElem?_getD, List.getD_eq_getElem?_getD, List.getElem?_eq_getElem h1, List.getElem?_eq_getElem h2]
    have h3 := List.pairwise_iff_getElem.1 hs j (j + 1) h1 h2 (by omega)
    have h4 := List.pairwise_iff_getElem.1 hnd j (j + 1) h1 h2 (by omega)
    simp only [leI, decide_eq_true_eq] at h3
    simp only [Option.getD_some]
    omega
  · have h1 : j < L.length := by omega
    have h2 : L[j] ∈ O.map Ob.ref := hp2.mem_iff.1 (List.getElem_mem h1)
    obtain ⟨o, ho, e⟩ := List.mem_map.1 h2
    refine ⟨o, ho, ?_⟩
    show o.ref = L.getD j 0
    rw [List.getD_eq_getElem?_getD, List.getElem?_eq_getElem h1]
    exact e
theorem cells_list (L : List Int) : L.map encZ = cellsOf L.length (fun j => L.getD j 0) := by
  apply List.ext_getElem?
  intro j
  by_cases hj : j < L.length
  · rw [cellsOf_get hj, List.getElem?_map, List.getElem?_eq_getElem hj, List.getD_eq_getElem?_getD, List.getElem?_eq_getElem hj]
    rfl
  · rw [List.getElem?_eq_none (by simp; omega), List.getElem?_eq_none (by rw [cellsOf_length]; omega)]
/-- What Refs leaves. -/
def RefsPost (w : World) (O : List Ob) (e : Ending) (w' : World) : Prop := ∃ v F, e = .returned v ∧ Mine w' w.heap.size v O.length F ∧ Rising O F ∧ Below w.heap.size w w'
set_option maxRecDepth 20000 in
set_option maxHeartbeats 1000000 in
theorem refs_ok (h : Sto w P so mb p b W base N cs T xs ws nn D O) : Calls Tryz.prog 7 #[.pointer (some ⟨so, 0, none⟩)] w (RefsPost w O) := by
  refine (callsIn_wide (n := 6)).1 ?_
  have hown := h.raw.map
  have hkeys := h.keys
  have hnd := h.refs_nodup
  have hfew := h.few
  have hsz : Maps.size D = O.length := by
    have h1 := hkeys.length_eq
    rw [List.length_map] at h1
    obtain ⟨es, rfl, _⟩ := hown.keysOf
    rw [h1]
    simp [Maps.size, intKeys]
  have cc := h.raw.cells
  have hbl := hown.lt
  have hseq : SeqGives Fence.wide 2 Tryz.prog 48 #[.pointer (some ⟨w.heap.size, 0, none⟩)] encZ (fun ss => ss.Perm (intKeys D)) (Maps.size D) (w.alloc (.cells #[.map (some mb)] 62)) :=
    AnyZI.keys_gives (ρ := okeys_ren) { okeys with } Fence.wide _ trivial rfl (by omega) w.heap.size mb nn D _ (by simp) (by simp) (by
      obtain ⟨es, clock, hb, Ft, hs, hD⟩ := hown
      exact ⟨es, clock, (Below.heap_alloc _ _ mb hbl).trans hb, Ft, hs, hD⟩)
  have cK : ∀ mb W, CallsIn Fence.wide 5 Tryz.prog 25 #[.map mb] W fun e w' => e = .returned (.func (.func 48) #[] #[.pointer (some ⟨W.heap.size, 0, none⟩)]) ∧ w' = W.alloc (.cells #[.map mb] 62) := fun mb W => AnyZI.keys_in okeys Fence.wide 5 trivial rfl mb W
  have cS := AnyZI.sorted_in osorted Fence.wide 5 trivial trivial trivial trivial rfl (by omega) (osorts _) (enters_of Tryz.func47 (by kernel_rfl) rfl) 48 #[.pointer (some ⟨w.heap.size, 0, none⟩)] trivial (enters_of Tryz.func48 (by kernel_rfl) rfl) _ _ (by rw [hsz]; unfold maxLen; omega) (by rw [hsz]; omega) _ hseq
  change CallsIn _ _ Tryz.prog 24 _ _ _ at cS
  have hfK : Fence.wide.fn 25 := trivial
  have hfS : Fence.wide.fn 24 := trivial
  clear h
  refine callsIn_of_wp Tryz.func7 rfl trivial ?_ rfl
  simp only [Tryz.ntmps7, List.size_toArray, List.length_cons, List.length_nil, Nat.reduceAdd, Nat.reduceSub, Array.replicate_succ, Array.replicate_zero, List.push_toArray, List.append_toArray, List.nil_append, List.cons_append]
  gi_wp2_with (first
    | (gi_at_call 25; refine (cK _ _).mono ?_; rintro e w' ⟨rfl, rfl⟩)
    | (gi_at_call 24; refine cS.mono ?_; rintro e w' ⟨v, ss, rfl, hS, hrow, hnil, hb⟩))
  go_ret
  obtain ⟨hl, hri⟩ := rising_of hnd (hS.trans hkeys.symm)
  have hrow2 : w'.ownsRow w.heap.size 3 1 v ss.length ((ss.mergeSort leI).map encZ) := ownsRow_base_a hrow (by simp)
  refine ⟨v, _, rfl, ?_, hri, ((Below.refl _ w).alloc (Nat.le_refl _) _).trans (hb.mono (by simp))⟩
  unfold Mine
  rw [← hl, ← cells_list]
  rw [← (List.mergeSort_perm ss leI).length_eq] at hrow2
  exact hrow2
end
end Go.Proofs.YtcdgfjfhekmajaaGreat
