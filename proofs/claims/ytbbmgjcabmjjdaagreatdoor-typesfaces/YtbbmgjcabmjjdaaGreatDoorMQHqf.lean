/- The program's own Load: hasEqual of fields. -/
import Derived.Test.YtbbmgjcabmjjdaaGreatDoorMY40
import Derived.Shelf.SlSortCmp.WholeK
import Derived.Shelf.SlSortCmp.NoneTotal
import Derived.Deep.RegionHeld3
namespace Go.Proofs.YtbbmgjcabmjjdaaGreatDoor
open Go.RowKit Go.Deep Go.Shelf

def hqLF_ren : Go.Shelf.Ren := ⟨fun | 6 => 120 | 15 => 138 | 14 => 137 | 28 => 154 | 29 => 132 | 20 => 146 | 21 => 147 | 22 => 148 | 23 => 149 | 24 => 150 | 25 => 151 | 26 => 152 | 27 => 153 | 46 => 164 | 47 => 165 | 48 => 166 | 49 => 167 | 50 => 168 | 57 => 181 | n => n, fun | 22 => 32 | 24 => 71 | 25 => 93 | 3 => 3 | 39 => 157 | 0 => 0 | 53 => 155 | 55 => 135 | 4 => 4 | 46 => 167 | 45 => 166 | 50 => 141 | 5 => 5 | 9 => 9 | 66 => 181 | 70 => 185 | 76 => 194 | 77 => 195 | n => n, fun | n => n⟩
theorem hqLF : Go.Proofs.SlLaysF0.n6 Tryz.prog hqLF_ren := {
  mixed := by kernel_rfl
  f6 := ⟨Tryz.f120.name, by decide, Tryz.func120.trans (congrArg some (by kernel_rfl))⟩
  f14 := ⟨Tryz.f137.name, by decide, Tryz.func137.trans (congrArg some (by kernel_rfl))⟩
  f15 := Tryz.func138.trans (congrArg some (by kernel_rfl))
  f20 := ⟨Tryz.f146.name, by decide, Tryz.func146.trans (congrArg some (by kernel_rfl))⟩
  f21 := ⟨Tryz.f147.name, by decide, Tryz.func147.trans (congrArg some (by kernel_rfl))⟩
  f22 := ⟨Tryz.f148.name, by decide, Tryz.func148.trans (congrArg some (by kernel_rfl))⟩
  f23 := ⟨Tryz.f149.name, by decide, Tryz.func149.trans (congrArg some (by kernel_rfl))⟩
  f24 := ⟨Tryz.f150.name, by decide, Tryz.func150.trans (congrArg some (by kernel_rfl))⟩
  f25 := ⟨Tryz.f151.name, by decide, Tryz.func151.trans (congrArg some (by kernel_rfl))⟩
  f26 := ⟨Tryz.f152.name, by decide, Tryz.func152.trans (congrArg some (by kernel_rfl))⟩
  f27 := ⟨Tryz.f153.name, by decide, Tryz.func153.trans (congrArg some (by kernel_rfl))⟩
  f28 := Tryz.func154.trans (congrArg some (by kernel_rfl))
  f29 := Tryz.func132.trans (congrArg some (by kernel_rfl))
  f46 := ⟨Tryz.f164.name, by decide, Tryz.func164.trans (congrArg some (by kernel_rfl))⟩
  f47 := Tryz.func165.trans (congrArg some (by kernel_rfl))
  f48 := Tryz.func166.trans (congrArg some (by kernel_rfl))
  f49 := ⟨Tryz.f167.name, by decide, Tryz.func167.trans (congrArg some (by kernel_rfl))⟩
  f50 := ⟨Tryz.f168.name, by decide, Tryz.func168.trans (congrArg some (by kernel_rfl))⟩
  f57 := ⟨Tryz.f181.name, by decide, Tryz.func181.trans (congrArg some (by kernel_rfl))⟩
  t0 := Tryz.underlying0
  a0 := Tryz.isAgg0
  z0 := Tryz.sizeOf0
  v0 := Tryz.zeroValue0
  t3 := Tryz.underlying3
  a3 := Tryz.isAgg3
  z3 := Tryz.sizeOf3
  v3 := Tryz.zeroValue3
  t4 := Tryz.underlying4
  a4 := Tryz.isAgg4
  z4 := Tryz.sizeOf4
  v4 := Tryz.zeroValue4
  t5 := Tryz.underlying5
  a5 := Tryz.isAgg5
  z5 := Tryz.sizeOf5
  v5 := Tryz.zeroValue5
  t9 := Tryz.underlying9
  a9 := Tryz.isAgg9
  z9 := Tryz.sizeOf9
  v9 := Tryz.zeroValue9
  t22 := Tryz.underlying32
  a22 := Tryz.isAgg32
  z22 := Tryz.sizeOf32
  v22 := Tryz.zeroValue32
  t25 := Tryz.underlying93
  a25 := Tryz.isAgg93
  z25 := Tryz.sizeOf93
  v25 := Tryz.zeroValue93
  t39 := Tryz.underlying157
  a39 := Tryz.isAgg157
  z39 := Tryz.sizeOf157
  v39 := Tryz.zeroValue157
  t45 := Tryz.underlying166
  a45 := Tryz.isAgg166
  z45 := Tryz.sizeOf166
  v45 := Tryz.zeroValue166
  t46 := Tryz.underlying167
  a46 := Tryz.isAgg167
  z46 := Tryz.sizeOf167
  v46 := Tryz.zeroValue167
  t50 := Tryz.underlying141
  a50 := Tryz.isAgg141
  z50 := Tryz.sizeOf141
  v50 := Tryz.zeroValue141
  t53 := Tryz.underlying155
  a53 := Tryz.isAgg155
  z53 := Tryz.sizeOf155
  v53 := Tryz.zeroValue155
  t55 := Tryz.underlying135
  a55 := Tryz.isAgg135
  z55 := Tryz.sizeOf135
  v55 := Tryz.zeroValue135
  t66 := Tryz.underlying181
  a66 := Tryz.isAgg181
  z66 := Tryz.sizeOf181
  v66 := Tryz.zeroValue181
  t70 := Tryz.underlying185
  a70 := Tryz.isAgg185
  z70 := Tryz.sizeOf185
  v70 := Tryz.zeroValue185
  t76 := Tryz.underlying194
  a76 := Tryz.isAgg194
  z76 := Tryz.sizeOf194
  v76 := Tryz.zeroValue194
  t77 := Tryz.underlying195
  a77 := Tryz.isAgg195
  z77 := Tryz.sizeOf195
  v77 := Tryz.zeroValue195 }

theorem cell_ltQ {w : World} {a : Addr} {v : Value} (h : w.cell? a = some v) : a.block < w.heap.size := by
  apply Classical.byContradiction
  intro q
  unfold World.cell? at h
  rw [Array.getElem?_eq_none (by omega)] at h
  simp at h
theorem below_drewNQ (w : World) (n B : Nat) : Below B w (w.drewN n) := ⟨rfl, rfl, rfl, Nat.le_refl _, fun _ _ => rfl⟩
/-- What SortedFunc leaves. -/
def SfP {α : Type} [Inhabited α] (enc : α → List Value) (k : Nat) (c : α → α → Int) (w : World) (U : List α) (e : Ending) (w' : World) : Prop :=
  Below w.heap.size w w' ∧ ∃ d : Array α, (d.size = U.length ∧ Go.Sort.PermIn 0 U.toArray.size U.toArray d ∧ Go.Sort.SortedIn (ltOf c) 0 U.toArray.size d) ∧
    ((U = [] ∧ e = .returned (.slice none 0 0)) ∨ U ≠ [] ∧ ∃ g cap, e = .returned (.slice (some ⟨g, 0, none⟩) U.length cap) ∧ w.heap.size ≤ g ∧ Go.Sort.HoldsK enc k w' g 0 d)
def cFd (x y : Fd) : Int := cmpS x.nm y.nm
theorem cg_fd : Cg cFd := cg_str.pull Fd.nm
theorem aggF (w : World) : (isAgg 71).run Tryz.prog w = .ok true w := by kernel_rfl
theorem sizF (w : World) : (Go.sizeOf 71).run Tryz.prog w = .ok 2 w := by kernel_rfl
theorem cmpLF [Inhabited Fd] (blk off size : Nat) (w : World) : CmpLays Tryz.prog 69 #[] encF 2 cFd blk off size w := fun m os dk _ x y => by
  refine (byName_ok x.nm y.nm x.ty y.ty (sortWorldK encF 2 w blk off m dk os)).mono ?_
  rintro e w' ⟨rfl, hl⟩
  obtain ⟨q, os', hw⟩ := hl.grow
  exact ⟨rfl, q, os', hw⟩
theorem sortF_ok [Inhabited Fd] {w w1 : World} {v : Value} {U : List Fd} (hB : Below w.heap.size w w1) (h : w1.ownsRow w.heap.size 71 2 v U.length (U.map encF).flatten) (hn : v = .slice none 0 0 ↔ U = []) (hU : U.length ≤ 1073741824) :
    Calls Tryz.prog 120 #[v, .func (.func 69) #[] #[]] w1 fun e w2 => e = .returned (.tuple #[]) ∧ SfP encF 2 cFd w U (.returned v) w2 := by
  by_cases h0 : U = []
  · obtain rfl := hn.2 h0
    subst h0
    have := AnyF.slices_SortFunc_none (P := Tryz.prog) (ρ := hqLF_ren) { hqLF with } none 0 (.func (.func 69) #[] #[]) w1
    refine this.mono ?_
    rintro e w2 ⟨rfl, rfl⟩
    exact ⟨rfl, hB, #[], ⟨rfl, ⟨rfl, fun i _ => rfl, List.Perm.refl _⟩, fun i j _ _ hj => absurd hj (by simp)⟩, .inl ⟨rfl, rfl⟩⟩
  · rcases h.2 with ⟨e1, -⟩ | ⟨g, cap, cur, e1, -⟩
    · exact absurd (hn.1 e1) h0
    · subst e1
      obtain ⟨hgl, hgB, hH⟩ := holdsK_own (k := 2) (enc := encF) (by decide) (fun _ => rfl) h
      have hcon := AnyQ.slices_SortFunc (P := Tryz.prog) (ρ := hqLF_ren) { hqLF with } 2 aggF sizF encF (fun _ => rfl) (fun x u hu => by simp [encF] at hu; rcases hu with rfl | rfl <;> rfl) cFd cg_fd.swo 69 #[] g 0 cap U.toArray w1 (enters_of Tryz.func69 (by kernel_rfl) rfl) (cmpLF g 0 U.toArray.size w1) hH hgl (by simp; omega)
      refine (show Calls Tryz.prog 120 #[.slice (some ⟨g, 0, none⟩) U.length cap, .func (.func 69) #[] #[]] w1 _ from hcon).mono ?_
      rintro e w2 ⟨rfl, d, n, os, hp, hs, rfl⟩
      have hds : d.size = U.length := by have := hp.1; simpa using this
      refine ⟨rfl, sortW_below hB hgB hB.size, d, ⟨hds, hp, hs⟩, .inr ⟨h0, g, cap, rfl, hgB, ?_⟩⟩
      exact holdsK_sortWorldK_c encF 2 w1 g 0 U.toArray d n os hH hgl (by rw [hds]; simp)
set_option maxRecDepth 20000 in
theorem sortedF_ok [Inhabited Fd] {gf : Nat} (he : Ent gf) {lb : Array Value} {U : List Fd} {w : World} (hU : U.length ≤ 1073741824) (hG : GivesQ w gf lb (fun x : Fd => #[Value.agg (encF x).toArray]) U) :
    Calls Tryz.prog 100 #[.func (.func gf) #[] lb, .func (.func 69) #[] #[]] w (SfP encF 2 cFd w U) := by
  have hC := colF_ok he hU hG
  have HS : Hid (∀ w1 v, Below w.heap.size w w1 → w1.ownsRow w.heap.size 71 2 v U.length (U.map encF).flatten → (v = .slice none 0 0 ↔ U = []) → Calls Tryz.prog 120 #[v, .func (.func 69) #[] #[]] w1 fun e w2 => e = .returned (.tuple #[]) ∧ SfP encF 2 cFd w U (.returned v) w2) := fun w1 v hb h hn => sortF_ok hb h hn hU
  clear hG he
  go_enter Tryz.func100, Tryz.ntmps100
  go_wp2_with (first
    | (go_at_call 119; refine hC.mono ?_; rintro e w1 ⟨v, rfl, h1, h2, h3⟩; have HT := HS.out w1 v h3 h1 h2; clear h1 h2 h3 hC)
    | (go_at_call 120; refine HT.mono ?_; rintro e w2 ⟨rfl, h1⟩; have HR : Hid (SfP encF 2 cFd w U (.returned v) w2) := h1; clear h1 HT))
  go_ret
  exact HR.out
set_option maxRecDepth 100000 in
set_option maxHeartbeats 4000000 in
theorem valsF_none {ao : Option Addr} {cap b1 : Nat} {w : World} (hb : w.cell? ⟨b1, 0, none⟩ = some (.slice ao 0 cap)) :
    GivesQ w 121 #[.pointer (some ⟨b1, 0, none⟩)] (fun x : Fd => #[Value.agg (encF x).toArray]) [] := by
  intro I hI hIa l Bk St W hBk hY h0 hb0
  have c1 := cell_keep hb (hI 0 W h0)
  have H0 : Hid (I 0 W ∧ Bk W) := ⟨h0, hb0⟩
  clear hY hI hIa h0 hb0 hb hBk
  refine callsIn_of_wp Tryz.func121 rfl trivial ?_ rfl
  simp only [Tryz.ntmps121, List.size_toArray, List.length_cons, List.length_nil, Nat.reduceAdd, Nat.reduceSub, Array.replicate_succ, Array.replicate_zero, List.push_toArray, List.append_toArray, List.nil_append, List.cons_append]
  gi_wp2
  clear c1
  gi_loopg [4, 7] 0 (fun k s4 v7 wr => v7 = .int .i64 0 ∧ wr = W)
  case atStart => exact ⟨rfl, rfl⟩
  case round =>
    obtain ⟨rfl, rfl⟩ := hrel
    gi_wp2
    go_end0
    exact ⟨⟨_, rfl⟩, .inl ⟨0, rfl, H0.out⟩⟩
theorem named_cF (xs : List Fd) : namedJ xs = pairJ (fun x y => cFd x y == 0) xs xs.length := by
  unfold namedJ
  congr 1
  funext x y
  exact (cmpB_zero _ _).symm
/-- The row is given whole. -/
theorem givesF {S : Nat → Prop} {u : World} {ao : Option Addr} {cap : Nat} {xs : List Fd} (h : Sl kFd u S (.slice ao xs.length cap) xs) (hS : ∀ k, S k → k < u.heap.size) (hn : xs.length ≤ 1048576) :
    GivesQ (u.alloc (.cells #[.slice ao xs.length cap] 32)) 121 #[.pointer (some ⟨u.heap.size, 0, none⟩)] (fun x : Fd => #[Value.agg (encF x).toArray]) xs := by
  have hbx : (u.alloc (.cells #[.slice ao xs.length cap] 32)).cell? ⟨u.heap.size, 0, none⟩ = some (.slice ao xs.length cap) := by
    have h : (u.alloc (.cells #[.slice ao xs.length cap] 32)).heap[u.heap.size]? = some (.cells #[.slice ao xs.length cap] 32 (0, 0)) := Array.getElem?_push_size
    unfold World.cell?
    rw [h]
    rfl
  obtain ⟨ao2, cp2, e, -, hh⟩ := h
  injection e with e1 _ e2
  subst e1 e2
  rcases hh with q | ⟨b, o, rfl, hSb, hB, hc⟩
  · subst q
    exact valsF_none hbx
  · refine valsF_gives (by omega) hbx fun i x hx j y hy => ?_
    obtain ⟨cs, rfl, hcs⟩ := hc i x hx
    exact (World.cell?_of_block (Below.heap_alloc _ _ _ (hS b hSb))).trans (hcs j y hy)
set_option maxRecDepth 20000 in
set_option maxHeartbeats 4000000 in
theorem hqF_ok : HqF := fun S u v xs h hS hn => by
  haveI : Inhabited Fd := ⟨⟨⟨#[]⟩, 0⟩⟩
  have hv := h
  obtain ⟨ao, cap, rfl, -, -⟩ := hv
  have hG := givesF h hS hn
  have hSF := sortedF_ok (enters_of Tryz.func121 (by kernel_rfl) rfl) (by omega) hG
  have hb0 : Below u.heap.size u (u.alloc (.cells #[.slice ao xs.length cap] 32)) := (Below.refl _ u).alloc (Nat.le_refl _) _
  have HB0 : Hid _ := hb0
  have hz0 : Hid ((u.alloc (.cells #[.slice ao xs.length cap] 32)).heap.size = u.heap.size + 1) := Array.size_push _
  obtain ⟨R, hR⟩ : ∃ R, namedJ xs = R := ⟨_, rfl⟩
  have HR : Hid (namedJ xs = R) := hR
  rw [hR]
  clear hG h hS hR hb0
  by_cases q : xs = []
  · have hnam : R = false := by rw [← HR.out, q]; rfl
    subst hnam
    have HQ : Hid (xs = []) := q
    clear q
    generalize xs.length = n at *
    go_enter Tryz.func74, Tryz.ntmps74
    go_wp2_with (first
      | (go_at_call 101; refine (valsF_ok _ _ _ _).mono ?_; rintro e w9 ⟨rfl, hw9⟩; replace hw9 := hw9.symm; subst hw9)
      | (go_at_call 100; refine hSF.mono ?_; rintro e w1 ⟨hb1, d, -, hd4⟩; obtain ⟨-, rfl⟩ := hd4.resolve_right (fun q => q.1 HQ.out); have HB1 : Hid (Below u.heap.size u w1) := HB0.out.trans (hb1.mono (by have := hz0.out; omega)); clear hb1 hd4 hSF))
    go_loopg [6] 0 (fun kx v6 wr => v6 = .int .i64 1 ∧ wr = w1)
    case atStart => exact ⟨rfl, rfl⟩
    case round =>
      obtain ⟨rfl, rfl⟩ := hrel
      go_wp2
      go_ret
      exact ⟨rfl, HB1.out⟩
  · have HQ : Hid (xs ≠ []) := q
    have hpos : 0 < xs.length := List.length_pos_iff.2 q
    have HNM : Hid (namedJ xs = pairJ (fun x y => cFd x y == 0) xs xs.length) := named_cF xs
    have hl : Hid (∀ m, m = xs.length → m = xs.length) := fun _ e => e
    clear q
    go_enter Tryz.func74, Tryz.ntmps74
    go_wp2_with (first
      | (go_at_call 101; refine (valsF_ok _ _ _ _).mono ?_; rintro e w9 ⟨rfl, hw9⟩; replace hw9 := hw9.symm; subst hw9)
      | (go_at_call 100; refine hSF.mono ?_; rintro e w1 ⟨hb1, d, ⟨hd1, hd2, hd3⟩, hd4⟩; obtain ⟨-, g, cp, rfl, hg, hH⟩ := hd4.resolve_left (fun q => HQ.out q.1); have HD : Hid (pairJ (fun x y => cFd x y == 0) xs xs.length = false ↔ ∀ i (hi : i + 1 < d.size), cFd d[i] d[i + 1] ≠ 0) := alike_sorted cg_fd hd1 hd2 hd3; have HHK : Hid (Go.Sort.HoldsK encF 2 w1 g 0 d) := hH; have HG : Hid (g < w1.heap.size) := cell_ltQ (hH.cell (i := 0) (c := 0) (by omega) (by decide)).1; have HB1 : Hid (Below u.heap.size u w1) := HB0.out.trans (hb1.mono (by have := hz0.out; omega)); have Hd1 : Hid (d.size = xs.length) := hd1; clear hb1 hd1 hd2 hd3 hd4 hg hH hSF))
    go_loopg [6] (xs.length + 1) (fun kx v6 wr => ∃ i k : Nat, v6 = .int .i64 i ∧ Hid (i = k + 1) ∧ i ≤ xs.length ∧ xs.length - k ≤ kx ∧ Hid (Below w1.heap.size w1 wr) ∧ Hid (∀ (j : Nat) (hj : j + 1 < d.size), j < k → cFd d[j] d[j + 1] ≠ 0))
    case atStart => exact ⟨1, 0, rfl, (rfl : 1 = 0 + 1), by omega, by omega, Below.refl _ _, fun j hj hk => absurd hk (by omega)⟩
    case round =>
      obtain ⟨i, k, rfl, hik, hk1, hkx, HW, HJ⟩ := hrel
      have hik0 := hik.out
      by_cases hlt : i < xs.length
      · have hl2 : (i : Int) < (xs.length : Int) := by omega
        have hkl : (k : Int) < (xs.length : Int) := by omega
        have hs1 : k < d.size := by rw [Hd1.out]; omega
        have hs2 : k + 1 < d.size := by rw [Hd1.out]; omega
        have keep : ∀ j v, w1.cell? ⟨g, j, none⟩ = some v → wr.cell? ⟨g, j, none⟩ = some v := fun j v h => (World.cell?_of_block (a := ⟨g, j, none⟩) (HW.out.block g HG.out)).trans h
        have a0 := keep _ _ (HHK.out.cell hs1 (c := 0) (by decide)).1
        have a1 := keep _ _ (HHK.out.cell hs1 (c := 1) (by decide)).1
        have b0 := keep _ _ (HHK.out.cell hs2 (c := 0) (by decide)).1
        have b1 := keep _ _ (HHK.out.cell hs2 (c := 1) (by decide)).1
        rw [getElem!_pos d k hs1] at a0 a1
        rw [getElem!_pos d (k + 1) hs2] at b0 b1
        rw [show 0 + k * 2 + 0 = k * 2 by omega] at a0
        rw [show 0 + k * 2 + 1 = k * 2 + 1 by omega] at a1
        rw [show 0 + (k + 1) * 2 + 0 = i * 2 by omega] at b0
        rw [show 0 + (k + 1) * 2 + 1 = i * 2 + 1 by omega] at b1
        have a0 : wr.cell? ⟨g, k * 2, none⟩ = some (.string d[k].nm) := a0
        have a1 : wr.cell? ⟨g, k * 2 + 1, none⟩ = some (.int .i64 d[k].ty) := a1
        have b0 : wr.cell? ⟨g, i * 2, none⟩ = some (.string d[k + 1].nm) := b0
        have b1 : wr.cell? ⟨g, i * 2 + 1, none⟩ = some (.int .i64 d[k + 1].ty) := b1
        have HX : Hid (∃ x y, d[k] = x ∧ d[k + 1] = y) := ⟨_, _, rfl, rfl⟩
        obtain ⟨x, hx⟩ : ∃ x, d[k] = x := ⟨_, rfl⟩
        obtain ⟨y, hy⟩ : ∃ y, d[k + 1] = y := ⟨_, rfl⟩
        rw [hx] at a0 a1
        rw [hy] at b0 b1
        have HXY : Hid (d[k] = x ∧ d[k + 1] = y) := ⟨hx, hy⟩
        have hw : wrap64 ((i : Int) - 1) = (k : Int) := by unfold wrap64; omega
        have hw3 : IntKind.i64.wrap ((i : Int) - 1) = (k : Int)   := by rw [IntKind.wrap_i64]; omega
        have hk0 : (0 : Int) ≤ (k : Int) := by omega
        have hi0 : (0 : Int) ≤ (i : Int) := by omega
        clear keep hx hy HX hik0
        have HS2 : Hid (∀ w2, Lys wr.drew w2 → Below w1.heap.size w1 w2) := fun w2 hl => HW.out.drew.trans (hl.bl.mono (by have := HW.out.size; exact this))
        have HK2 : Hid (∀ w2, Lys wr.drew w2 → w2.cell? ⟨g, k * 2, none⟩ = some (.string x.nm) ∧ w2.cell? ⟨g, k * 2 + 1, none⟩ = some (.int .i64 x.ty) ∧ w2.cell? ⟨g, i * 2, none⟩ = some (.string y.nm) ∧ w2.cell? ⟨g, i * 2 + 1, none⟩ = some (.int .i64 y.ty)) := fun w2 hl => by
          have e : w2.heap[g]? = wr.heap[g]? := hl.bl.block g (by have := HW.out.size; have := HG.out; show g < wr.heap.size; omega)
          exact ⟨(World.cell?_of_block (a := ⟨g, _, none⟩) e).trans a0, (World.cell?_of_block (a := ⟨g, _, none⟩) e).trans a1, (World.cell?_of_block (a := ⟨g, _, none⟩) e).trans b0, (World.cell?_of_block (a := ⟨g, _, none⟩) e).trans b1⟩
        replace a0 : wr.drew.cell? ⟨g, k * 2, none⟩ = some (.string x.nm) := a0
        replace a1 : wr.drew.cell? ⟨g, k * 2 + 1, none⟩ = some (.int .i64 x.ty) := a1
        replace b0 : wr.drew.cell? ⟨g, i * 2, none⟩ = some (.string y.nm) := b0
        replace b1 : wr.drew.cell? ⟨g, i * 2 + 1, none⟩ = some (.int .i64 y.ty) := b1
        obtain ⟨C, hC⟩ : ∃ C, cmpS x.nm y.nm = C := ⟨_, rfl⟩
        have HC : Hid (cmpS x.nm y.nm = C) := hC
        by_cases hc : C = 0
        · have hR : R = true := by
            have hne : ¬ ∀ i (hi : i + 1 < d.size), cFd d[i] d[i + 1] ≠ 0 := fun q => q k hs2 (by rw [HXY.out.1, HXY.out.2]; exact HC.out.trans hc)
            rcases hq : R with _ | _
            · exact absurd (HD.out.1 (by rw [← HNM.out, HR.out, hq])) hne
            · rfl
          subst hR
          have hc0 : Hid (C = 0) := hc
          subst hc
          clear HW HJ
          go_wp2_with (fail)
          go_region_held3 (fun w' => w'.cell? ⟨g, k * 2, none⟩ = some (.string x.nm) ∧ w'.cell? ⟨g, k * 2 + 1, none⟩ = some (.int .i64 x.ty) ∧ w'.cell? ⟨g, i * 2, none⟩ = some (.string y.nm) ∧ w'.cell? ⟨g, i * 2 + 1, none⟩ = some (.int .i64 y.ty)) (go_keep) ((go_at_call 69; refine (byName_ok x.nm y.nm x.ty y.ty _).mono ?_; rintro e w2 ⟨rfl, hl⟩; have HL : Hid (Below w1.heap.size w1 w2) := HS2.out _ hl; have ⟨k0, k1, k2, k3⟩ := HK2.out _ hl; rw [HC.out]; clear hl))
          go_wp2
          go_ret
          exact ⟨rfl, HB1.out.trans (HL.out.mono HB1.out.size)⟩
        · have e1 : (C == 0) = false := by simp [hc]
          have HCC : Hid (C ≠ 0) := hc
          clear hc
          go_wp2_with (fail)
          go_region_held3 (fun w' => w'.cell? ⟨g, k * 2, none⟩ = some (.string x.nm) ∧ w'.cell? ⟨g, k * 2 + 1, none⟩ = some (.int .i64 x.ty) ∧ w'.cell? ⟨g, i * 2, none⟩ = some (.string y.nm) ∧ w'.cell? ⟨g, i * 2 + 1, none⟩ = some (.int .i64 y.ty)) (go_keep) ((go_at_call 69; refine (byName_ok x.nm y.nm x.ty y.ty _).mono ?_; rintro e w2 ⟨rfl, hl⟩; have HL : Hid (Below w1.heap.size w1 w2) := HS2.out _ hl; have ⟨k0, k1, k2, k3⟩ := HK2.out _ hl; rw [HC.out]; clear hl))
          go_wp2
          go_roundg (xs.length - (k + 1))
          case measure => omega
          case rel =>
            refine ⟨i + 1, k + 1, by go_num, (by have := hik.out; exact congrArg (· + 1) this), by omega, Nat.le_refl _, HL, fun j hj hjk => ?_⟩
            by_cases e : j < k
            · exact HJ.out j hj e
            · obtain rfl : j = k := by omega
              rw [HXY.out.1, HXY.out.2]
              exact fun q => HCC.out (HC.out.symm.trans q)
      · have hl2 : ¬ (i : Int) < (xs.length : Int) := by omega
        have hR : R = false := by
          rw [← HR.out, HNM.out]
          exact HD.out.2 fun j hj => HJ.out j hj (by have := Hd1.out; omega)
        subst hR
        go_wp2
        go_ret
        exact ⟨rfl, HB1.out.trans (HW.out.mono HB1.out.size)⟩
end Go.Proofs.YtbbmgjcabmjjdaaGreatDoor
