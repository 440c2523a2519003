/- A store of objects: Refs. -/
import Derived.Test.YtojblddfggoecaaGreatOGone
import Derived.Shelf.SlIterI.Nil
import Derived.Shelf.SortM.Plain
import Derived.Shelf.SortM.SortNone
namespace Go.Proofs.YtojblddfggoecaaGreat
open Go.RowKit Go.Maps Go.Sort Go.Shelf

def okeys_ren : Go.Shelf.Ren := ⟨fun | 7 => 25 | 10 => 48 | n => n, fun | 23 => 62 | 26 => 3 | 3 => 3 | 28 => 60 | 0 => 0 | 27 => 59 | 33 => 78 | 4 => 4 | n => n, fun | n => n⟩
theorem okeys : Go.Proofs.SlLaysZI.n7 Tryz.prog okeys_ren := {
  mixed := by kernel_rfl
  f7 := ⟨Tryz.f25.name, by decide, Tryz.func25.trans (congrArg some (by kernel_rfl))⟩
  f10 := ⟨Tryz.f48.name, by decide, Tryz.func48.trans (congrArg some (by kernel_rfl))⟩
  t0 := Tryz.underlying0
  a0 := Tryz.isAgg0
  z0 := Tryz.sizeOf0
  v0 := Tryz.zeroValue0
  t4 := Tryz.underlying4
  a4 := Tryz.isAgg4
  z4 := Tryz.sizeOf4
  v4 := Tryz.zeroValue4
  t23 := Tryz.underlying62
  a23 := Tryz.isAgg62
  z23 := Tryz.sizeOf62
  v23 := Tryz.zeroValue62
  t26 := Tryz.underlying3
  a26 := Tryz.isAgg3
  z26 := Tryz.sizeOf3
  v26 := Tryz.zeroValue3
  t27 := Tryz.underlying59
  a27 := Tryz.isAgg59
  z27 := Tryz.sizeOf59
  v27 := Tryz.zeroValue59
  t28 := Tryz.underlying60
  a28 := Tryz.isAgg60
  z28 := Tryz.sizeOf60
  v28 := Tryz.zeroValue60
  t33 := Tryz.underlying78
  a33 := Tryz.isAgg78
  z33 := Tryz.sizeOf78
  v33 := Tryz.zeroValue78 }
def osorted_ren : Go.Shelf.Ren := ⟨fun | 6 => 24 | 8 => 46 | 9 => 47 | 11 => 68 | 13 => 70 | 12 => 69 | 23 => 92 | 24 => 93 | 14 => 83 | 15 => 84 | 16 => 85 | 17 => 86 | 18 => 87 | 19 => 88 | 20 => 89 | 21 => 90 | 22 => 91 | 25 => 107 | 26 => 108 | 27 => 109 | 28 => 110 | 29 => 111 | 30 => 112 | 31 => 125 | n => n, fun | 26 => 3 | 28 => 60 | 24 => 29 | 0 => 0 | 3 => 3 | 37 => 44 | 48 => 140 | 50 => 142 | 4 => 4 | 40 => 134 | 39 => 133 | 45 => 89 | 5 => 5 | 9 => 9 | 51 => 155 | 55 => 107 | 57 => 175 | 58 => 94 | 33 => 78 | n => n, fun | n => n⟩
theorem osorted : Go.Proofs.SlLaysZI.n6 Tryz.prog osorted_ren := {
  mixed := by kernel_rfl
  f6 := ⟨Tryz.f24.name, by decide, Tryz.func24.trans (congrArg some (by kernel_rfl))⟩
  f8 := ⟨Tryz.f46.name, by decide, Tryz.func46.trans (congrArg some (by kernel_rfl))⟩
  f11 := ⟨Tryz.f68.name, by decide, Tryz.func68.trans (congrArg some (by kernel_rfl))⟩
  t0 := Tryz.underlying0
  a0 := Tryz.isAgg0
  z0 := Tryz.sizeOf0
  v0 := Tryz.zeroValue0
  t24 := Tryz.underlying29
  a24 := Tryz.isAgg29
  z24 := Tryz.sizeOf29
  v24 := Tryz.zeroValue29
  t26 := Tryz.underlying3
  a26 := Tryz.isAgg3
  z26 := Tryz.sizeOf3
  v26 := Tryz.zeroValue3
  t28 := Tryz.underlying60
  a28 := Tryz.isAgg60
  z28 := Tryz.sizeOf60
  v28 := Tryz.zeroValue60
  i26 := by kernel_rfl }
def osort_ren : Go.Shelf.Ren := ⟨fun | 5 => 47 | 8 => 70 | 7 => 69 | 19 => 92 | 20 => 93 | 10 => 83 | 11 => 84 | 12 => 85 | 13 => 86 | 14 => 87 | 15 => 88 | 16 => 89 | 17 => 90 | 18 => 91 | 30 => 107 | 31 => 108 | 32 => 109 | 33 => 110 | 34 => 111 | 35 => 112 | 40 => 125 | n => n, fun | 23 => 29 | 25 => 3 | 3 => 3 | 32 => 44 | 22 => 29 | 0 => 0 | 44 => 140 | 46 => 142 | 4 => 4 | 36 => 134 | 35 => 133 | 41 => 89 | 5 => 5 | 9 => 9 | 53 => 155 | 57 => 107 | 63 => 175 | 64 => 94 | n => n, fun | n => n⟩
theorem osort : Go.Proofs.SlLaysM.n5 Tryz.prog osort_ren := {
  mixed := by kernel_rfl
  f5 := ⟨Tryz.f47.name, by decide, Tryz.func47.trans (congrArg some (by kernel_rfl))⟩
  f7 := ⟨Tryz.f69.name, by decide, Tryz.func69.trans (congrArg some (by kernel_rfl))⟩
  f8 := Tryz.func70.trans (congrArg some (by kernel_rfl))
  f10 := ⟨Tryz.f83.name, by decide, Tryz.func83.trans (congrArg some (by kernel_rfl))⟩
  f11 := ⟨Tryz.f84.name, by decide, Tryz.func84.trans (congrArg some (by kernel_rfl))⟩
  f12 := ⟨Tryz.f85.name, by decide, Tryz.func85.trans (congrArg some (by kernel_rfl))⟩
  f13 := ⟨Tryz.f86.name, by decide, Tryz.func86.trans (congrArg some (by kernel_rfl))⟩
  f14 := ⟨Tryz.f87.name, by decide, Tryz.func87.trans (congrArg some (by kernel_rfl))⟩
  f15 := ⟨Tryz.f88.name, by decide, Tryz.func88.trans (congrArg some (by kernel_rfl))⟩
  f16 := ⟨Tryz.f89.name, by decide, Tryz.func89.trans (congrArg some (by kernel_rfl))⟩
  f17 := ⟨Tryz.f90.name, by decide, Tryz.func90.trans (congrArg some (by kernel_rfl))⟩
  f18 := ⟨Tryz.f91.name, by decide, Tryz.func91.trans (congrArg some (by kernel_rfl))⟩
  f19 := Tryz.func92.trans (congrArg some (by kernel_rfl))
  f20 := Tryz.func93.trans (congrArg some (by kernel_rfl))
  f30 := ⟨Tryz.f107.name, by decide, Tryz.func107.trans (congrArg some (by kernel_rfl))⟩
  f31 := Tryz.func108.trans (congrArg some (by kernel_rfl))
  f32 := Tryz.func109.trans (congrArg some (by kernel_rfl))
  f33 := ⟨Tryz.f110.name, by decide, Tryz.func110.trans (congrArg some (by kernel_rfl))⟩
  f34 := ⟨Tryz.f111.name, by decide, Tryz.func111.trans (congrArg some (by kernel_rfl))⟩
  f35 := ⟨Tryz.f112.name, by decide, Tryz.func112.trans (congrArg some (by kernel_rfl))⟩
  f40 := ⟨Tryz.f125.name, by decide, Tryz.func125.trans (congrArg some (by kernel_rfl))⟩
  t0 := Tryz.underlying0
  a0 := Tryz.isAgg0
  z0 := Tryz.sizeOf0
  v0 := Tryz.zeroValue0
  t3 := Tryz.underlying3
  a3 := Tryz.isAgg3
  z3 := Tryz.sizeOf3
  v3 := Tryz.zeroValue3
  t4 := Tryz.underlying4
  a4 := Tryz.isAgg4
  z4 := Tryz.sizeOf4
  v4 := Tryz.zeroValue4
  t5 := Tryz.underlying5
  a5 := Tryz.isAgg5
  z5 := Tryz.sizeOf5
  v5 := Tryz.zeroValue5
  t9 := Tryz.underlying9
  a9 := Tryz.isAgg9
  z9 := Tryz.sizeOf9
  v9 := Tryz.zeroValue9
  t22 := Tryz.underlying29
  a22 := Tryz.isAgg29
  z22 := Tryz.sizeOf29
  v22 := Tryz.zeroValue29
  t23 := Tryz.underlying29
  a23 := Tryz.isAgg29
  z23 := Tryz.sizeOf29
  v23 := Tryz.zeroValue29
  t25 := Tryz.underlying3
  a25 := Tryz.isAgg3
  z25 := Tryz.sizeOf3
  v25 := Tryz.zeroValue3
  t32 := Tryz.underlying44
  a32 := Tryz.isAgg44
  z32 := Tryz.sizeOf44
  v32 := Tryz.zeroValue44
  t35 := Tryz.underlying133
  a35 := Tryz.isAgg133
  z35 := Tryz.sizeOf133
  v35 := Tryz.zeroValue133
  t36 := Tryz.underlying134
  a36 := Tryz.isAgg134
  z36 := Tryz.sizeOf134
  v36 := Tryz.zeroValue134
  t41 := Tryz.underlying89
  a41 := Tryz.isAgg89
  z41 := Tryz.sizeOf89
  v41 := Tryz.zeroValue89
  t44 := Tryz.underlying140
  a44 := Tryz.isAgg140
  z44 := Tryz.sizeOf140
  v44 := Tryz.zeroValue140
  t46 := Tryz.underlying142
  a46 := Tryz.isAgg142
  z46 := Tryz.sizeOf142
  v46 := Tryz.zeroValue142
  t53 := Tryz.underlying155
  a53 := Tryz.isAgg155
  z53 := Tryz.sizeOf155
  v53 := Tryz.zeroValue155
  t57 := Tryz.underlying107
  a57 := Tryz.isAgg107
  z57 := Tryz.sizeOf107
  v57 := Tryz.zeroValue107
  t63 := Tryz.underlying175
  a63 := Tryz.isAgg175
  z63 := Tryz.sizeOf175
  v63 := Tryz.zeroValue175
  t64 := Tryz.underlying94
  a64 := Tryz.isAgg94
  z64 := Tryz.sizeOf94
  v64 := Tryz.zeroValue94 }

theorem osorts (m : Nat) : AnyZI.SortsIn Tryz.prog osorted_ren Fence.wide m :=
  ⟨fun blk off cap ss W hH hblk hsz => callsIn_wide.2 (AnyM.slices_Sort_int osort blk off cap ss W hH hblk hsz),
   fun p cap W => callsIn_wide.2 (AnyM.slices_Sort_int_none osort p cap W)⟩
section
variable {w : World} {P : Nat → Prop} {so mb p b W base N G : Nat} {cs : Nat → Int} {T : Int} {xs : List Int} {ws : Nat → Int} {nn : Nat} {D : DataW Unit} {O : List Ob}
theorem Sto.refs_nodup (h : Sto w P so mb p b W base N G cs T xs ws nn D O) : (O.map Ob.ref).Nodup := by
  refine List.pairwise_map.2 (List.pairwise_iff_getElem.2 fun i j hi hj hij => ?_)
  exact h.inv.ref_ne (List.getElem?_eq_getElem hi) (List.getElem?_eq_getElem hj) (by omega)
theorem Sto.keys (h : Sto w P so mb p b W base N G cs T xs ws nn D O) : (O.map Ob.ref).Perm (intKeys D) := by
  obtain ⟨es, hD, hpw, _⟩ := h.raw.map.entries keyed3
  obtain ⟨es', hD', hko⟩ := h.raw.map.keysOf
  obtain rfl : es = es' := by rw [hD] at hD'; simpa using hD'
  have hm := h.mp.has
  have hn := h.refs_nodup
  clear h
  subst hD
  refine perm_intKeys hpw (fun p hp => by obtain ⟨v, hv⟩ := hko p hp; obtain ⟨x, _, hx, _⟩ := Maps.keyOf_i64 Tryz.underlying3 hv; exact ⟨x, hx⟩) hn fun x => ?_
  rw [hm x, List.mem_map]
theorem Sto.few (h : Sto w P so mb p b W base N G cs T xs ws nn D O) : O.length ≤ 1000 := by
  have h1 := tot_len O
  have h2 := h.inv.sum
  have h3 := h.raw.fit
  omega
/-- The numbers, rising. -/
def Rising (O : List Ob) (F : Nat → Int) : Prop := (∀ j, j + 1 < O.length → F j < F (j + 1)) ∧ ∀ j, j < O.length → ∃ o ∈ O, o.ref = F j
theorem rising_of {ss : List Int} {O : List Ob} (hn : (O.map Ob.ref).Nodup) (hp : ss.Perm (O.map Ob.ref)) : (ss.mergeSort leI).length = O.length ∧ Rising O (fun j => (ss.mergeSort leI).getD j 0) := by
  have hp2 : (ss.mergeSort leI).Perm (O.map Ob.ref) := (List.mergeSort_perm ss leI).trans hp
  have hl : (ss.mergeSort leI).length = O.length := by rw [hp2.length_eq, List.length_map]
  have tr : ∀ a b c : Int, leI a b = true → leI b c = true → leI a c = true := fun a b c h1 h2 => by simp only [leI, decide_eq_true_eq] at *; exact Int.le_trans h1 h2
  have to_ : ∀ a b : Int, (leI a b || leI b a) = true := fun a b => by simp only [leI, Bool.or_eq_true, decide_eq_true_eq]; exact Int.le_total a b
  have hs := List.pairwise_mergeSort tr to_ ss
  have hnd : (ss.mergeSort leI).Nodup := hp2.nodup_iff.2 hn
  generalize ss.mergeSort leI = L at *
  refine ⟨hl, fun j hj => ?_, fun j hj => ?_⟩
  · have h1 : j < L.length := by omega
    have h2 : j + 1 < L.length := by omega
    show L.getD j 0 < L.getD (j + 1) 0
    rw [List.getD_eq_getElem?_getD, List.getD_eq_getElem?_getD, List.getElem?_eq_getElem h1, List.getElem?_eq_getElem h2]
    have h3 := List.pairwise_iff_getElem.1 hs j (j + 1) h1 h2 (by omega)
    have h4 := List.pairwise_iff_getElem.1 hnd j (j + 1) h1 h2 (by omega)
    simp only [leI, decide_eq_true_eq] at h3
    simp only [Option.getD_some]
    omega
  · have h1 : j < L.length := by omega
    have h2 : L[j] ∈ O.map Ob.ref := hp2.mem_iff.1 (List.getElem_mem h1)
    obtain ⟨o, ho, e⟩ := List.mem_map.1 h2
    refine ⟨o, ho, ?_⟩
    show o.ref = L.getD j 0
    rw [List.getD_eq_getElem?_getD, List.getElem?_eq_getElem h1]
    exact e
theorem cells_list (L : List Int) : L.map encZ = cellsOf L.length (fun j => L.getD j 0) := by
  apply List.ext_getElem?
  intro j
  by_cases hj : j < L.length
  · rw [cellsOf_get hj, List.getElem?_map, List.getElem?_eq_getElem hj, List.getD_eq_getElem?_getD, List.getElem?_eq_getElem hj]
    rfl
  · rw [List.getElem?_eq_none (by simp; omega), List.getElem?_eq_none (by rw [cellsOf_length]; omega)]
/-- What Refs leaves. -/
def RefsPost (w : World) (O : List Ob) (e : Ending) (w' : World) : Prop := ∃ v F, e = .returned v ∧ Mine w' w.heap.size v O.length F ∧ Rising O F ∧ Below w.heap.size w w'
set_option maxRecDepth 20000 in
set_option maxHeartbeats 1000000 in
theorem refs_ok (h : Sto w P so mb p b W base N G cs T xs ws nn D O) : Calls Tryz.prog 7 #[.pointer (some ⟨so, 0, none⟩)] w (RefsPost w O) := by
  refine (callsIn_wide (n := 6)).1 ?_
  have hown := h.raw.map
  have hkeys := h.keys
  have hnd := h.refs_nodup
  have hfew := h.few
  have hsz : Maps.size D = O.length := by
    have h1 := hkeys.length_eq
    rw [List.length_map] at h1
    obtain ⟨es, rfl, _⟩ := hown.keysOf
    rw [h1]
    simp [Maps.size, intKeys]
  have cc := h.raw.cells
  have hbl := hown.lt
  have hseq : SeqGives Fence.wide 2 Tryz.prog 48 #[.pointer (some ⟨w.heap.size, 0, none⟩)] encZ (fun ss => ss.Perm (intKeys D)) (Maps.size D) (w.alloc (.cells #[.map (some mb)] 62)) :=
    AnyZI.keys_gives (ρ := okeys_ren) { okeys with } Fence.wide _ trivial rfl (by omega) w.heap.size mb nn D _ (by simp) (by simp) (by
      obtain ⟨es, clock, hb, Ft, hs, hD⟩ := hown
      exact ⟨es, clock, (Below.heap_alloc _ _ mb hbl).trans hb, Ft, hs, hD⟩)
  have cK : ∀ mb W, CallsIn Fence.wide 5 Tryz.prog 25 #[.map mb] W fun e w' => e = .returned (.func (.func 48) #[] #[.pointer (some ⟨W.heap.size, 0, none⟩)]) ∧ w' = W.alloc (.cells #[.map mb] 62) := fun mb W => AnyZI.keys_in okeys Fence.wide 5 trivial rfl mb W
  have cS := AnyZI.sorted_in osorted Fence.wide 5 trivial trivial trivial trivial rfl (by omega) (osorts _) (enters_of Tryz.func47 (by kernel_rfl) rfl) 48 #[.pointer (some ⟨w.heap.size, 0, none⟩)] trivial (enters_of Tryz.func48 (by kernel_rfl) rfl) _ _ (by rw [hsz]; unfold maxLen; omega) (by rw [hsz]; omega) _ hseq
  change CallsIn _ _ Tryz.prog 24 _ _ _ at cS
  have hfK : Fence.wide.fn 25 := trivial
  have hfS : Fence.wide.fn 24 := trivial
  clear h
  refine callsIn_of_wp Tryz.func7 rfl trivial ?_ rfl
  simp only [Tryz.ntmps7, List.size_toArray, List.length_cons, List.length_nil, Nat.reduceAdd, Nat.reduceSub, Array.replicate_succ, Array.replicate_zero, List.push_toArray, List.append_toArray, List.nil_append, List.cons_append]
  gi_wp2_with (first
    | (gi_at_call 25; refine (cK _ _).mono ?_; rintro e w' ⟨rfl, rfl⟩)
    | (gi_at_call 24; refine cS.mono ?_; rintro e w' ⟨v, ss, rfl, hS, hrow, hnil, hb⟩))
  go_ret
  obtain ⟨hl, hri⟩ := rising_of hnd (hS.trans hkeys.symm)
  have hrow2 : w'.ownsRow w.heap.size 3 1 v ss.length ((ss.mergeSort leI).map encZ) := ownsRow_base_a hrow (by simp)
  refine ⟨v, _, rfl, ?_, hri, ((Below.refl _ w).alloc (Nat.le_refl _) _).trans (hb.mono (by simp))⟩
  unfold Mine
  rw [← hl, ← cells_list]
  rw [← (List.mergeSort_perm ss leI).length_eq] at hrow2
  exact hrow2
end
end Go.Proofs.YtojblddfggoecaaGreat
