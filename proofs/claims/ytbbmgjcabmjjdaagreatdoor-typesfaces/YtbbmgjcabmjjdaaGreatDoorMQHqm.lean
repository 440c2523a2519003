/- The program's own Load: hasEqual of methods. Written by wip/tools/qhqm_gen.py. -/
import Derived.Test.YtbbmgjcabmjjdaaGreatDoorMQHqf
import Derived.Test.YtbbmgjcabmjjdaaGreatDoorMQSi2
import Derived.Shelf.SlSortCmp.WholeK
import Derived.Shelf.SlSortCmp.NoneTotal
import Derived.Deep.RegionHeld3
namespace Go.Proofs.YtbbmgjcabmjjdaaGreatDoor
open Go.RowKit Go.Deep Go.Shelf

def hqLM_ren : Go.Shelf.Ren := ⟨fun | 6 => 123 | 15 => 138 | 14 => 140 | 28 => 154 | 29 => 132 | 20 => 155 | 21 => 156 | 22 => 157 | 23 => 158 | 24 => 159 | 25 => 160 | 26 => 161 | 27 => 162 | 46 => 169 | 47 => 165 | 48 => 166 | 49 => 170 | 50 => 171 | 57 => 182 | n => n, fun | 22 => 31 | 24 => 30 | 25 => 98 | 3 => 3 | 39 => 157 | 0 => 0 | 53 => 155 | 55 => 135 | 4 => 4 | 46 => 167 | 45 => 166 | 50 => 141 | 5 => 5 | 9 => 9 | 66 => 181 | 70 => 185 | 76 => 194 | 77 => 195 | n => n, fun | n => n⟩
theorem hqLM : Go.Proofs.SlLaysF0.n6 Tryz.prog hqLM_ren := {
  mixed := by kernel_rfl
  f6 := ⟨Tryz.f123.name, by decide, Tryz.func123.trans (congrArg some (by kernel_rfl))⟩
  f14 := ⟨Tryz.f140.name, by decide, Tryz.func140.trans (congrArg some (by kernel_rfl))⟩
  f15 := Tryz.func138.trans (congrArg some (by kernel_rfl))
  f20 := ⟨Tryz.f155.name, by decide, Tryz.func155.trans (congrArg some (by kernel_rfl))⟩
  f21 := ⟨Tryz.f156.name, by decide, Tryz.func156.trans (congrArg some (by kernel_rfl))⟩
  f22 := ⟨Tryz.f157.name, by decide, Tryz.func157.trans (congrArg some (by kernel_rfl))⟩
  f23 := ⟨Tryz.f158.name, by decide, Tryz.func158.trans (congrArg some (by kernel_rfl))⟩
  f24 := ⟨Tryz.f159.name, by decide, Tryz.func159.trans (congrArg some (by kernel_rfl))⟩
  f25 := ⟨Tryz.f160.name, by decide, Tryz.func160.trans (congrArg some (by kernel_rfl))⟩
  f26 := ⟨Tryz.f161.name, by decide, Tryz.func161.trans (congrArg some (by kernel_rfl))⟩
  f27 := ⟨Tryz.f162.name, by decide, Tryz.func162.trans (congrArg some (by kernel_rfl))⟩
  f28 := Tryz.func154.trans (congrArg some (by kernel_rfl))
  f29 := Tryz.func132.trans (congrArg some (by kernel_rfl))
  f46 := ⟨Tryz.f169.name, by decide, Tryz.func169.trans (congrArg some (by kernel_rfl))⟩
  f47 := Tryz.func165.trans (congrArg some (by kernel_rfl))
  f48 := Tryz.func166.trans (congrArg some (by kernel_rfl))
  f49 := ⟨Tryz.f170.name, by decide, Tryz.func170.trans (congrArg some (by kernel_rfl))⟩
  f50 := ⟨Tryz.f171.name, by decide, Tryz.func171.trans (congrArg some (by kernel_rfl))⟩
  f57 := ⟨Tryz.f182.name, by decide, Tryz.func182.trans (congrArg some (by kernel_rfl))⟩
  t0 := Tryz.underlying0
  a0 := Tryz.isAgg0
  z0 := Tryz.sizeOf0
  v0 := Tryz.zeroValue0
  t3 := Tryz.underlying3
  a3 := Tryz.isAgg3
  z3 := Tryz.sizeOf3
  v3 := Tryz.zeroValue3
  t4 := Tryz.underlying4
  a4 := Tryz.isAgg4
  z4 := Tryz.sizeOf4
  v4 := Tryz.zeroValue4
  t5 := Tryz.underlying5
  a5 := Tryz.isAgg5
  z5 := Tryz.sizeOf5
  v5 := Tryz.zeroValue5
  t9 := Tryz.underlying9
  a9 := Tryz.isAgg9
  z9 := Tryz.sizeOf9
  v9 := Tryz.zeroValue9
  t22 := Tryz.underlying31
  a22 := Tryz.isAgg31
  z22 := Tryz.sizeOf31
  v22 := Tryz.zeroValue31
  t25 := Tryz.underlying98
  a25 := Tryz.isAgg98
  z25 := Tryz.sizeOf98
  v25 := Tryz.zeroValue98
  t39 := Tryz.underlying157
  a39 := Tryz.isAgg157
  z39 := Tryz.sizeOf157
  v39 := Tryz.zeroValue157
  t45 := Tryz.underlying166
  a45 := Tryz.isAgg166
  z45 := Tryz.sizeOf166
  v45 := Tryz.zeroValue166
  t46 := Tryz.underlying167
  a46 := Tryz.isAgg167
  z46 := Tryz.sizeOf167
  v46 := Tryz.zeroValue167
  t50 := Tryz.underlying141
  a50 := Tryz.isAgg141
  z50 := Tryz.sizeOf141
  v50 := Tryz.zeroValue141
  t53 := Tryz.underlying155
  a53 := Tryz.isAgg155
  z53 := Tryz.sizeOf155
  v53 := Tryz.zeroValue155
  t55 := Tryz.underlying135
  a55 := Tryz.isAgg135
  z55 := Tryz.sizeOf135
  v55 := Tryz.zeroValue135
  t66 := Tryz.underlying181
  a66 := Tryz.isAgg181
  z66 := Tryz.sizeOf181
  v66 := Tryz.zeroValue181
  t70 := Tryz.underlying185
  a70 := Tryz.isAgg185
  z70 := Tryz.sizeOf185
  v70 := Tryz.zeroValue185
  t76 := Tryz.underlying194
  a76 := Tryz.isAgg194
  z76 := Tryz.sizeOf194
  v76 := Tryz.zeroValue194
  t77 := Tryz.underlying195
  a77 := Tryz.isAgg195
  z77 := Tryz.sizeOf195
  v77 := Tryz.zeroValue195 }

/-- A method that lies in memory. -/
structure AmQ (u : World) (S : Nat → Prop) where
  val : MdA
  ok : kMd.R u S val.m (encM val)
def encA {u : World} {S : Nat → Prop} (a : AmQ u S) : List Value := encM a.1
def cMd {u : World} {S : Nat → Prop} (a b : AmQ u S) : Int := sgC (sgM a.1.m) (sgM b.1.m)
theorem cg_md {u : World} {S : Nat → Prop} : Cg (cMd (u := u) (S := S)) := cg_sg.pull fun a : AmQ u S => sgM a.1.m
theorem aggM (w : World) : (isAgg 30).run Tryz.prog w = .ok true w := by kernel_rfl
theorem sizM (w : World) : (Go.sizeOf 30).run Tryz.prog w = .ok 9 w := by kernel_rfl
theorem encM_one (x : MdA) : ∀ v ∈ encM x, v.oneCell' = true := fun v hv => by
  simp [encM] at hv
  rcases hv with rfl | rfl | rfl | rfl | rfl | rfl | rfl | rfl | rfl <;> rfl
section
variable {u : World} {S : Nat → Prop}
theorem cmpLM [Inhabited (AmQ u S)] (hS : ∀ k, S k → k < u.heap.size) {w1 : World} (hB : Below u.heap.size u w1) {g : Nat} (hg : u.heap.size ≤ g) (off size : Nat) : CmpLays Tryz.prog 71 #[] (encA (u := u) (S := S)) 9 cMd g off size w1 := fun m os dk _ x y => by
  have hz := hB.size
  have hk : ∀ b, S b → (sortWorldK encA 9 w1 g off m dk os).heap[b]? = u.heap[b]? := fun b hb => by
    have := hS b hb
    exact (sortW_other (by omega) (by omega)).trans (hB.block b this)
  have hl : ∀ k, S k → k < (sortWorldK encA 9 w1 g off m dk os).heap.size := fun k hk2 => by
    have := hS k hk2
    have h2 := size_sortWorldK_c (encA (u := u) (S := S)) 9 w1 g off m dk os
    omega
  refine (byM_ok (kMd.keep hk x.2) (kMd.keep hk y.2) hl hl).mono ?_
  rintro e w' ⟨rfl, hl⟩
  obtain ⟨q, os', hw⟩ := hl.grow
  exact ⟨rfl, q, os', hw⟩
theorem sortM_ok [Inhabited (AmQ u S)] (hS : ∀ k, S k → k < u.heap.size) {w w1 : World} {v : Value} {U : List (AmQ u S)} (hB0 : Below u.heap.size u w) (hB : Below w.heap.size w w1) (h : w1.ownsRow w.heap.size 30 9 v U.length (U.map encA).flatten) (hn : v = .slice none 0 0 ↔ U = []) (hU : U.length ≤ 1073741824) :
    Calls Tryz.prog 123 #[v, .func (.func 71) #[] #[]] w1 fun e w2 => e = .returned (.tuple #[]) ∧ SfP encA 9 cMd w U (.returned v) w2 := by
  by_cases h0 : U = []
  · obtain rfl := hn.2 h0
    subst h0
    have := AnyF.slices_SortFunc_none (P := Tryz.prog) (ρ := hqLM_ren) { hqLM with } none 0 (.func (.func 71) #[] #[]) w1
    refine this.mono ?_
    rintro e w2 ⟨rfl, rfl⟩
    exact ⟨rfl, hB, #[], ⟨rfl, ⟨rfl, fun i _ => rfl, List.Perm.refl _⟩, fun i j _ _ hj => absurd hj (by simp)⟩, .inl ⟨rfl, rfl⟩⟩
  · rcases h.2 with ⟨e1, -⟩ | ⟨g, cap, cur, e1, -⟩
    · exact absurd (hn.1 e1) h0
    · subst e1
      obtain ⟨hgl, hgB, hH⟩ := holdsK_own (k := 9) (enc := encA (u := u) (S := S)) (by decide) (fun _ => rfl) h
      have hbu : Below u.heap.size u w1 := hB0.trans (hB.mono hB0.size)
      have hcon := AnyQ.slices_SortFunc (P := Tryz.prog) (ρ := hqLM_ren) { hqLM with } 9 aggM sizM (encA (u := u) (S := S)) (fun _ => rfl) (fun x v hv => encM_one x.1 v hv) cMd cg_md.swo 71 #[] g 0 cap U.toArray w1 (enters_of Tryz.func71 (by kernel_rfl) rfl) (cmpLM hS hbu (by have := hB0.size; omega) 0 U.toArray.size) hH hgl (by simp; omega)
      refine (show Calls Tryz.prog 123 #[.slice (some ⟨g, 0, none⟩) U.length cap, .func (.func 71) #[] #[]] w1 _ from hcon).mono ?_
      rintro e w2 ⟨rfl, d, n, os, hp, hs, rfl⟩
      have hds : d.size = U.length := by have := hp.1; simpa using this
      refine ⟨rfl, sortW_below hB hgB hB.size, d, ⟨hds, hp, hs⟩, .inr ⟨h0, g, cap, rfl, hgB, ?_⟩⟩
      exact holdsK_sortWorldK_c encA 9 w1 g 0 U.toArray d n os hH hgl (by rw [hds]; simp)
set_option maxRecDepth 20000 in
theorem sortedM_ok [Inhabited (AmQ u S)] (hS : ∀ k, S k → k < u.heap.size) {gf : Nat} (he : Ent gf) {lb : Array Value} {U : List (AmQ u S)} {w : World} (hB0 : Below u.heap.size u w) (hU : U.length ≤ 1073741824) (hG : GivesQ w gf lb (fun x : MdA => #[Value.agg (encM x).toArray]) (U.map AmQ.val)) :
    Calls Tryz.prog 102 #[.func (.func gf) #[] lb, .func (.func 71) #[] #[]] w (SfP encA 9 cMd w U) := by
  have hC := colM_ok he (by rw [List.length_map]; exact hU) hG
  have hfl : ((U.map AmQ.val).map encM).flatten = (U.map encA).flatten := by rw [List.map_map]; rfl
  have hnl : U.map AmQ.val = [] ↔ U = [] := List.map_eq_nil_iff
  have HS : Hid (∀ w1 v, Below w.heap.size w w1 → w1.ownsRow w.heap.size 30 9 v (U.map AmQ.val).length ((U.map AmQ.val).map encM).flatten → (v = .slice none 0 0 ↔ U.map AmQ.val = []) → Calls Tryz.prog 123 #[v, .func (.func 71) #[] #[]] w1 fun e w2 => e = .returned (.tuple #[]) ∧ SfP encA 9 cMd w U (.returned v) w2) := fun w1 v hb h hn => by
    rw [hfl, List.length_map] at h
    exact sortM_ok hS hB0 hb h (hn.trans hnl) hU
  clear hG he
  go_enter Tryz.func102, Tryz.ntmps102
  go_wp2_with (first
    | (go_at_call 122; refine hC.mono ?_; rintro e w1 ⟨v, rfl, h1, h2, h3⟩; have HT := HS.out w1 v h3 h1 h2; clear h1 h2 h3 hC)
    | (go_at_call 123; refine HT.mono ?_; rintro e w2 ⟨rfl, h1⟩; have HR : Hid (SfP encA 9 cMd w U (.returned v) w2) := h1; clear h1 HT))
  go_ret
  exact HR.out
end
set_option maxRecDepth 100000 in
set_option maxHeartbeats 4000000 in
theorem valsM_none {ao : Option Addr} {cap b1 : Nat} {w : World} (hb : w.cell? ⟨b1, 0, none⟩ = some (.slice ao 0 cap)) :
    GivesQ w 124 #[.pointer (some ⟨b1, 0, none⟩)] (fun x : MdA => #[Value.agg (encM x).toArray]) [] := by
  intro I hI hIa l Bk St W hBk hY h0 hb0
  have c1 := cell_keep hb (hI 0 W h0)
  have H0 : Hid (I 0 W ∧ Bk W) := ⟨h0, hb0⟩
  clear hY hI hIa h0 hb0 hb hBk
  refine callsIn_of_wp Tryz.func124 rfl trivial ?_ rfl
  simp only [Tryz.ntmps124, List.size_toArray, List.length_cons, List.length_nil, Nat.reduceAdd, Nat.reduceSub, Array.replicate_succ, Array.replicate_zero, List.push_toArray, List.append_toArray, List.nil_append, List.cons_append]
  gi_wp2
  clear c1
  gi_loopg [4, 7] 0 (fun k s4 v7 wr => v7 = .int .i64 0 ∧ wr = W)
  case atStart => exact ⟨rfl, rfl⟩
  case round =>
    obtain ⟨rfl, rfl⟩ := hrel
    gi_wp2
    go_end0
    exact ⟨⟨_, rfl⟩, .inl ⟨0, rfl, H0.out⟩⟩
/-- The row is given whole, each method as it lies. -/
theorem givesM {S : Nat → Prop} {u : World} {ao : Option Addr} {cap : Nat} {xs : List Md} (h : Sl kMd u S (.slice ao xs.length cap) xs) (hS : ∀ k, S k → k < u.heap.size) (hn : xs.length ≤ 1048576) :
    ∃ L : List (AmQ u S), L.length = xs.length ∧ L.map (fun a => a.1.m) = xs ∧ GivesQ (u.alloc (.cells #[.slice ao xs.length cap] 31)) 124 #[.pointer (some ⟨u.heap.size, 0, none⟩)] (fun x : MdA => #[Value.agg (encM x).toArray]) (L.map AmQ.val) := by
  have hbx : (u.alloc (.cells #[.slice ao xs.length cap] 31)).cell? ⟨u.heap.size, 0, none⟩ = some (.slice ao xs.length cap) := by
    have h : (u.alloc (.cells #[.slice ao xs.length cap] 31)).heap[u.heap.size]? = some (.cells #[.slice ao xs.length cap] 31 (0, 0)) := Array.getElem?_push_size
    unfold World.cell?
    rw [h]
    rfl
  obtain ⟨ao2, cp2, e, -, hh⟩ := h
  injection e with e1 _ e2
  subst e1 e2
  rcases hh with q | ⟨b, o, rfl, hSb, hB, hc⟩
  · subst q
    exact ⟨[], rfl, rfl, valsM_none hbx⟩
  · obtain ⟨L, hl, hL⟩ := list_ofQ (P := fun (i : Nat) (a : AmQ u S) => ∃ x, xs[i]? = some x ∧ a.1.m = x ∧ ∀ j v, (encM a.1)[j]? = some v → u.cell? ⟨b, o + (i * 9 + j), none⟩ = some v) xs.length fun i hi => by
      obtain ⟨cs, r1, r2⟩ := hc i xs[i] (List.getElem?_eq_getElem hi)
      have r1' := r1
      obtain ⟨v1, v2, v3, v4, rfl, ⟨p1, c1, rfl, -⟩, ⟨p2, c2, rfl, -⟩, ⟨p3, c3, rfl, -⟩, ⟨p4, c4, rfl, -⟩⟩ := r1'
      exact ⟨⟨⟨xs[i], p1, p2, p3, p4, c1, c2, c3, c4⟩, r1⟩, xs[i], List.getElem?_eq_getElem hi, rfl, r2⟩
    have hm : L.map (fun a => a.1.m) = xs := by
      apply List.ext_getElem?
      intro i
      rw [List.getElem?_map]
      by_cases hi : i < L.length
      · rw [List.getElem?_eq_getElem hi]
        obtain ⟨x, h1, h2, -⟩ := hL i L[i] (List.getElem?_eq_getElem hi)
        rw [h1]; exact congrArg some h2
      · rw [List.getElem?_eq_none (by omega), List.getElem?_eq_none (by omega)]; rfl
    refine ⟨L, hl, hm, valsM_gives (p := b) (o := o) (cap := cap) (by rw [List.length_map, hl]; omega) (by rw [List.length_map, hl]; exact hbx) fun i x hx j y hy => ?_⟩
    rw [List.getElem?_map] at hx
    obtain ⟨a, ha, rfl⟩ := Option.map_eq_some_iff.1 hx
    obtain ⟨x, -, -, h3⟩ := hL i a ha
    exact (World.cell?_of_block (Below.heap_alloc _ _ _ (hS b hSb))).trans (h3 j y hy)
theorem pair_mapQ {α β : Type} (f : α → β) (eq : β → β → Bool) (L : List α) (n : Nat) : pairJ eq (L.map f) n = pairJ (fun a b => eq (f a) (f b)) L n := by
  unfold pairJ rowJ
  congr 1
  funext i
  congr 1
  funext j
  unfold atJ
  rw [List.getElem?_map, List.getElem?_map]
  cases L[i]? <;> cases L[j]? <;> rfl
theorem pair_cM {u : World} {S : Nat → Prop} {L : List (AmQ u S)} {xs : List Md} (h : L.map (fun a => a.1.m) = xs) : pairJ likeM xs xs.length = pairJ (fun x y => cMd x y == 0) L L.length := by
  have hl : xs.length = L.length := by rw [← h, List.length_map]
  rw [hl, ← h, pair_mapQ]
  congr 1
  funext x y
  exact (sgC_zero (sgM x.val.m) (sgM y.val.m)).symm
set_option maxRecDepth 20000 in
set_option maxHeartbeats 8000000 in
theorem hqM_ok : HqM := fun S u v xs h hS hn => by
  have hv := h
  obtain ⟨ao, cap, rfl, -, -⟩ := hv
  obtain ⟨L, hLl, hLm, hG⟩ := givesM h hS hn
  have hb0 : Below u.heap.size u (u.alloc (.cells #[.slice ao xs.length cap] 31)) := (Below.refl _ u).alloc (Nat.le_refl _) _
  have HB0 : Hid (Below u.heap.size u (u.alloc (.cells #[.slice ao xs.length cap] 31))) := hb0
  have hz0 : Hid ((u.alloc (.cells #[.slice ao xs.length cap] 31)).heap.size = u.heap.size + 1) := Array.size_push _
  obtain ⟨R, hR⟩ : ∃ R, pairJ likeM xs xs.length = R := ⟨_, rfl⟩
  have HR : Hid (pairJ likeM xs xs.length = R) := hR
  rw [hR]
  have HS0 : Hid (∀ k, S k → k < u.heap.size) := hS
  have HLm : Hid (L.map (fun a => a.1.m) = xs) := hLm
  by_cases q : L = []
  · subst q
    obtain rfl : xs = [] := hLm.symm
    have hnam : R = false := by rw [← HR.out]; rfl
    subst hnam
    have hC := colM_ok (enters_of Tryz.func124 (by kernel_rfl) rfl) (by simp) hG
    have HS : Hid (∀ w1, Calls Tryz.prog 123 #[.slice none 0 0, .func (.func 71) #[] #[]] w1 fun e w2 => e = .returned (.tuple #[]) ∧ w2 = w1) := fun w1 => AnyF.slices_SortFunc_none (P := Tryz.prog) (ρ := hqLM_ren) { hqLM with } none 0 (.func (.func 71) #[] #[]) w1
    have hSF : Calls Tryz.prog 102 #[.func (.func 124) #[] #[.pointer (some ⟨u.heap.size, 0, none⟩)], .func (.func 71) #[] #[]] (u.alloc (.cells #[.slice ao ([] : List Md).length cap] 31)) fun e w2 => e = .returned (.slice none 0 0) ∧ Below (u.alloc (.cells #[.slice ao ([] : List Md).length cap] 31)).heap.size (u.alloc (.cells #[.slice ao ([] : List Md).length cap] 31)) w2 := by
      clear hG h hR
      go_enter Tryz.func102, Tryz.ntmps102
      go_wp2_with (first
        | (go_at_call 122; refine hC.mono ?_; rintro e w1 ⟨v, rfl, h1, h2, h3⟩; obtain rfl := h2.2 rfl; have H3 : Hid _ := h3; clear h1 h2 h3 hC)
        | (go_at_call 123; refine (HS.out _).mono ?_; rintro e w2 ⟨rfl, hw9⟩; replace hw9 := hw9.symm; subst hw9))
      go_ret
      exact ⟨rfl, H3.out⟩
    clear hG h hS hR hb0 hC hLl hLm
    generalize ([] : List Md).length = n at *
    go_enter Tryz.func75, Tryz.ntmps75
    go_wp2_with (first
      | (go_at_call 103; refine (valsM_ok _ _ _ _).mono ?_; rintro e w9 ⟨rfl, hw9⟩; replace hw9 := hw9.symm; subst hw9)
      | (go_at_call 102; refine hSF.mono ?_; rintro e w1 ⟨rfl, hb1⟩; have HB1 : Hid (Below u.heap.size u w1) := HB0.out.trans (hb1.mono (by have := hz0.out; omega)); clear hb1 hSF))
    go_loopg [6] 0 (fun kx v6 wr => v6 = .int .i64 1 ∧ wr = w1)
    case atStart => exact ⟨rfl, rfl⟩
    case round =>
      obtain ⟨rfl, rfl⟩ := hrel
      go_wp2
      go_ret
      exact ⟨rfl, HB1.out⟩
  · obtain ⟨a0, ha0⟩ := List.exists_mem_of_ne_nil L q
    haveI : Inhabited (AmQ u S) := ⟨a0⟩
    have hSF := sortedM_ok hS (enters_of Tryz.func124 (by kernel_rfl) rfl) hb0 (by omega) hG
    have HQ : Hid (L ≠ []) := q
    have hpos : 0 < L.length := List.length_pos_iff.2 q
    have hLn : L.length ≤ 1048576 := by omega
    have HNM : Hid (pairJ likeM xs xs.length = pairJ (fun x y => cMd x y == 0) L L.length) := pair_cM hLm
    have HLl : Hid (L.length = xs.length) := hLl
    clear q ha0 hG h hS hR hb0 hLm
    clear hLl
    go_enter Tryz.func75, Tryz.ntmps75
    go_wp2_with (first
      | (go_at_call 103; refine (valsM_ok _ _ _ _).mono ?_; rintro e w9 ⟨rfl, hw9⟩; replace hw9 := hw9.symm; subst hw9)
      | (go_at_call 102; refine hSF.mono ?_; rintro e w1 ⟨hb1, d, ⟨hd1, hd2, hd3⟩, hd4⟩; obtain ⟨-, g, cp, rfl, hg, hH⟩ := hd4.resolve_left (fun q => HQ.out q.1); have HD : Hid (pairJ (fun x y => cMd x y == 0) L L.length = false ↔ ∀ i (hi : i + 1 < d.size), cMd d[i] d[i + 1] ≠ 0) := alike_sorted cg_md hd1 hd2 hd3; have HHK : Hid (Go.Sort.HoldsK encA 9 w1 g 0 d) := hH; have HG : Hid (g < w1.heap.size) := cell_ltQ (hH.cell (i := 0) (c := 0) (by omega) (by decide)).1; have HB1 : Hid (Below u.heap.size u w1) := HB0.out.trans (hb1.mono (by have := hz0.out; omega)); have Hd1 : Hid (d.size = L.length) := hd1; clear hb1 hd1 hd2 hd3 hd4 hg hH hSF))
    go_loopg [6] (L.length + 1) (fun kx v6 wr => ∃ i k : Nat, v6 = .int .i64 i ∧ Hid (i = k + 1) ∧ i ≤ L.length ∧ L.length - k ≤ kx ∧ Hid (Below w1.heap.size w1 wr) ∧ Hid (∀ (j : Nat) (hj : j + 1 < d.size), j < k → cMd d[j] d[j + 1] ≠ 0))
    case atStart => exact ⟨1, 0, rfl, (rfl : 1 = 0 + 1), by omega, by omega, Below.refl _ _, fun j hj hk => absurd hk (by omega)⟩
    case round =>
      obtain ⟨i, k, rfl, hik, hk1, hkx, HW, HJ⟩ := hrel
      have hik0 := hik.out
      by_cases hlt : i < L.length
      · have hl2 : (i : Int) < (L.length : Int) := by omega
        have hkl : (k : Int) < (L.length : Int) := by omega
        have hs1 : k < d.size := by rw [Hd1.out]; omega
        have hs2 : k + 1 < d.size := by rw [Hd1.out]; omega
        have keep : ∀ j v, w1.cell? ⟨g, j, none⟩ = some v → wr.drew.cell? ⟨g, j, none⟩ = some v := fun j v h => (World.cell?_of_block (a := ⟨g, j, none⟩) (HW.out.block g HG.out)).trans h
        obtain ⟨x, hx⟩ : ∃ x, d[k] = x := ⟨_, rfl⟩
        obtain ⟨y, hy⟩ : ∃ y, d[k + 1] = y := ⟨_, rfl⟩
        have HXY : Hid (d[k] = x ∧ d[k + 1] = y) := ⟨hx, hy⟩
        have fa : ∀ c v, c < 9 → (encA x)[c]! = v → wr.drew.cell? ⟨g, k * 9 + c, none⟩ = some v := fun c v hc hv => by
          have := keep _ _ (HHK.out.cell hs1 (c := c) hc).1
          rw [getElem!_pos d k hs1, hx, hv, show 0 + k * 9 + c = k * 9 + c by omega] at this
          exact this
        have fb : ∀ c v, c < 9 → (encA y)[c]! = v → wr.drew.cell? ⟨g, i * 9 + c, none⟩ = some v := fun c v hc hv => by
          have := keep _ _ (HHK.out.cell hs2 (c := c) hc).1
          rw [getElem!_pos d (k + 1) hs2, hy, hv, show 0 + (k + 1) * 9 + c = i * 9 + c by omega] at this
          exact this
        have hu : ∀ b, S b → wr.drew.heap[b]? = u.heap[b]? := fun b hb => by
          have h1 := HS0.out b hb
          have h2 := HB1.out.size
          exact (HW.out.block b (by omega)).trans (HB1.out.block b h1)
        have hul : ∀ b, S b → b < wr.drew.heap.size := fun b hb => by
          have h1 := HS0.out b hb
          have h2 := HB1.out.size
          have h3 := HW.out.size
          show b < wr.heap.size
          omega
        have hBM0 := byM_ok (kMd.keep hu x.2) (kMd.keep hu y.2) hul hul
        obtain ⟨X, hX⟩ : ∃ X, x.1 = X := ⟨_, rfl⟩
        obtain ⟨Y, hY⟩ : ∃ Y, y.1 = Y := ⟨_, rfl⟩
        obtain ⟨C, hC⟩ : ∃ C, cMd x y = C := ⟨_, rfl⟩
        have HC : Hid (cMd x y = C) := hC
        have hBM : Calls Tryz.prog 71 #[.agg #[.string X.m.nm, .bool X.m.stc, .slice X.p1 X.m.args.length X.c1, .int .i64 X.m.ret, .int .i64 X.m.lo, .int .i64 X.m.st, .slice X.p2 X.m.code.length X.c2, .slice X.p3 X.m.tab.length X.c3, .slice X.p4 X.m.maps.length X.c4], .agg #[.string Y.m.nm, .bool Y.m.stc, .slice Y.p1 Y.m.args.length Y.c1, .int .i64 Y.m.ret, .int .i64 Y.m.lo, .int .i64 Y.m.st, .slice Y.p2 Y.m.code.length Y.c2, .slice Y.p3 Y.m.tab.length Y.c3, .slice Y.p4 Y.m.maps.length Y.c4]] wr.drew fun e u' => e = .returned (.int .i64 C) ∧ Lys wr.drew u' := by
          rw [← hC, ← hX, ← hY]
          exact hBM0
        have a0 : wr.drew.cell? ⟨g, k * 9, none⟩ = some (.string X.m.nm) := by rw [← hX]; exact fa 0 _ (by decide) rfl
        have a1 : wr.drew.cell? ⟨g, k * 9 + 1, none⟩ = some (.bool X.m.stc) := by rw [← hX]; exact fa 1 _ (by decide) rfl
        have a2 : wr.drew.cell? ⟨g, k * 9 + 2, none⟩ = some (.slice X.p1 X.m.args.length X.c1) := by rw [← hX]; exact fa 2 _ (by decide) rfl
        have a3 : wr.drew.cell? ⟨g, k * 9 + 3, none⟩ = some (.int .i64 X.m.ret) := by rw [← hX]; exact fa 3 _ (by decide) rfl
        have a4 : wr.drew.cell? ⟨g, k * 9 + 4, none⟩ = some (.int .i64 X.m.lo) := by rw [← hX]; exact fa 4 _ (by decide) rfl
        have a5 : wr.drew.cell? ⟨g, k * 9 + 5, none⟩ = some (.int .i64 X.m.st) := by rw [← hX]; exact fa 5 _ (by decide) rfl
        have a6 : wr.drew.cell? ⟨g, k * 9 + 6, none⟩ = some (.slice X.p2 X.m.code.length X.c2) := by rw [← hX]; exact fa 6 _ (by decide) rfl
        have a7 : wr.drew.cell? ⟨g, k * 9 + 7, none⟩ = some (.slice X.p3 X.m.tab.length X.c3) := by rw [← hX]; exact fa 7 _ (by decide) rfl
        have a8 : wr.drew.cell? ⟨g, k * 9 + 8, none⟩ = some (.slice X.p4 X.m.maps.length X.c4) := by rw [← hX]; exact fa 8 _ (by decide) rfl
        have b0 : wr.drew.cell? ⟨g, i * 9, none⟩ = some (.string Y.m.nm) := by rw [← hY]; exact fb 0 _ (by decide) rfl
        have b1 : wr.drew.cell? ⟨g, i * 9 + 1, none⟩ = some (.bool Y.m.stc) := by rw [← hY]; exact fb 1 _ (by decide) rfl
        have b2 : wr.drew.cell? ⟨g, i * 9 + 2, none⟩ = some (.slice Y.p1 Y.m.args.length Y.c1) := by rw [← hY]; exact fb 2 _ (by decide) rfl
        have b3 : wr.drew.cell? ⟨g, i * 9 + 3, none⟩ = some (.int .i64 Y.m.ret) := by rw [← hY]; exact fb 3 _ (by decide) rfl
        have b4 : wr.drew.cell? ⟨g, i * 9 + 4, none⟩ = some (.int .i64 Y.m.lo) := by rw [← hY]; exact fb 4 _ (by decide) rfl
        have b5 : wr.drew.cell? ⟨g, i * 9 + 5, none⟩ = some (.int .i64 Y.m.st) := by rw [← hY]; exact fb 5 _ (by decide) rfl
        have b6 : wr.drew.cell? ⟨g, i * 9 + 6, none⟩ = some (.slice Y.p2 Y.m.code.length Y.c2) := by rw [← hY]; exact fb 6 _ (by decide) rfl
        have b7 : wr.drew.cell? ⟨g, i * 9 + 7, none⟩ = some (.slice Y.p3 Y.m.tab.length Y.c3) := by rw [← hY]; exact fb 7 _ (by decide) rfl
        have b8 : wr.drew.cell? ⟨g, i * 9 + 8, none⟩ = some (.slice Y.p4 Y.m.maps.length Y.c4) := by rw [← hY]; exact fb 8 _ (by decide) rfl
        have HS2 : Hid (∀ w2, Lys wr.drew w2 → Below w1.heap.size w1 w2) := fun w2 hl => HW.out.drew.trans (hl.bl.mono (by have := HW.out.size; exact this))
        have HK2 : Hid (∀ w2, Lys wr.drew w2 → w2.cell? ⟨g, k * 9, none⟩ = some (.string X.m.nm) ∧ w2.cell? ⟨g, k * 9 + 1, none⟩ = some (.bool X.m.stc) ∧ w2.cell? ⟨g, k * 9 + 2, none⟩ = some (.slice X.p1 X.m.args.length X.c1) ∧ w2.cell? ⟨g, k * 9 + 3, none⟩ = some (.int .i64 X.m.ret) ∧ w2.cell? ⟨g, k * 9 + 4, none⟩ = some (.int .i64 X.m.lo) ∧ w2.cell? ⟨g, k * 9 + 5, none⟩ = some (.int .i64 X.m.st) ∧ w2.cell? ⟨g, k * 9 + 6, none⟩ = some (.slice X.p2 X.m.code.length X.c2) ∧ w2.cell? ⟨g, k * 9 + 7, none⟩ = some (.slice X.p3 X.m.tab.length X.c3) ∧ w2.cell? ⟨g, k * 9 + 8, none⟩ = some (.slice X.p4 X.m.maps.length X.c4) ∧ w2.cell? ⟨g, i * 9, none⟩ = some (.string Y.m.nm) ∧ w2.cell? ⟨g, i * 9 + 1, none⟩ = some (.bool Y.m.stc) ∧ w2.cell? ⟨g, i * 9 + 2, none⟩ = some (.slice Y.p1 Y.m.args.length Y.c1) ∧ w2.cell? ⟨g, i * 9 + 3, none⟩ = some (.int .i64 Y.m.ret) ∧ w2.cell? ⟨g, i * 9 + 4, none⟩ = some (.int .i64 Y.m.lo) ∧ w2.cell? ⟨g, i * 9 + 5, none⟩ = some (.int .i64 Y.m.st) ∧ w2.cell? ⟨g, i * 9 + 6, none⟩ = some (.slice Y.p2 Y.m.code.length Y.c2) ∧ w2.cell? ⟨g, i * 9 + 7, none⟩ = some (.slice Y.p3 Y.m.tab.length Y.c3) ∧ w2.cell? ⟨g, i * 9 + 8, none⟩ = some (.slice Y.p4 Y.m.maps.length Y.c4)) := fun w2 hl => by
          have e : w2.heap[g]? = wr.drew.heap[g]? := hl.bl.block g (by have := HW.out.size; have := HG.out; show g < wr.heap.size; omega)
          exact ⟨(World.cell?_of_block (a := ⟨g, _, none⟩) e).trans a0, (World.cell?_of_block (a := ⟨g, _, none⟩) e).trans a1, (World.cell?_of_block (a := ⟨g, _, none⟩) e).trans a2, (World.cell?_of_block (a := ⟨g, _, none⟩) e).trans a3, (World.cell?_of_block (a := ⟨g, _, none⟩) e).trans a4, (World.cell?_of_block (a := ⟨g, _, none⟩) e).trans a5, (World.cell?_of_block (a := ⟨g, _, none⟩) e).trans a6, (World.cell?_of_block (a := ⟨g, _, none⟩) e).trans a7, (World.cell?_of_block (a := ⟨g, _, none⟩) e).trans a8, (World.cell?_of_block (a := ⟨g, _, none⟩) e).trans b0, (World.cell?_of_block (a := ⟨g, _, none⟩) e).trans b1, (World.cell?_of_block (a := ⟨g, _, none⟩) e).trans b2, (World.cell?_of_block (a := ⟨g, _, none⟩) e).trans b3, (World.cell?_of_block (a := ⟨g, _, none⟩) e).trans b4, (World.cell?_of_block (a := ⟨g, _, none⟩) e).trans b5, (World.cell?_of_block (a := ⟨g, _, none⟩) e).trans b6, (World.cell?_of_block (a := ⟨g, _, none⟩) e).trans b7, (World.cell?_of_block (a := ⟨g, _, none⟩) e).trans b8⟩
        have hw3 : IntKind.i64.wrap ((i : Int) - 1) = (k : Int) := by rw [IntKind.wrap_i64]; omega
        have hk0 : (0 : Int) ≤ (k : Int) := by omega
        have hi0 : (0 : Int) ≤ (i : Int) := by omega
        clear keep hx hy hX hY hik0 fa fb hu hul hBM0 hC
        have HBM : Hid (Calls Tryz.prog 71 #[.agg #[.string X.m.nm, .bool X.m.stc, .slice X.p1 X.m.args.length X.c1, .int .i64 X.m.ret, .int .i64 X.m.lo, .int .i64 X.m.st, .slice X.p2 X.m.code.length X.c2, .slice X.p3 X.m.tab.length X.c3, .slice X.p4 X.m.maps.length X.c4], .agg #[.string Y.m.nm, .bool Y.m.stc, .slice Y.p1 Y.m.args.length Y.c1, .int .i64 Y.m.ret, .int .i64 Y.m.lo, .int .i64 Y.m.st, .slice Y.p2 Y.m.code.length Y.c2, .slice Y.p3 Y.m.tab.length Y.c3, .slice Y.p4 Y.m.maps.length Y.c4]] wr.drew fun e u' => e = .returned (.int .i64 C) ∧ Lys wr.drew u') := hBM
        clear hBM
        by_cases hc : C = 0
        · have hR : R = true := by
            have hne : ¬ ∀ i (hi : i + 1 < d.size), cMd d[i] d[i + 1] ≠ 0 := fun q => q k hs2 (by rw [HXY.out.1, HXY.out.2]; exact HC.out.trans hc)
            rcases hq : R with _ | _
            · exact absurd (HD.out.1 (by rw [← HNM.out, HR.out, hq])) hne
            · rfl
          subst hR
          subst hc
          clear HJ
          go_wp2_with (fail)
          go_region_held3 (fun w' => w'.cell? ⟨g, k * 9, none⟩ = some (.string X.m.nm) ∧ w'.cell? ⟨g, k * 9 + 1, none⟩ = some (.bool X.m.stc) ∧ w'.cell? ⟨g, k * 9 + 2, none⟩ = some (.slice X.p1 X.m.args.length X.c1) ∧ w'.cell? ⟨g, k * 9 + 3, none⟩ = some (.int .i64 X.m.ret) ∧ w'.cell? ⟨g, k * 9 + 4, none⟩ = some (.int .i64 X.m.lo) ∧ w'.cell? ⟨g, k * 9 + 5, none⟩ = some (.int .i64 X.m.st) ∧ w'.cell? ⟨g, k * 9 + 6, none⟩ = some (.slice X.p2 X.m.code.length X.c2) ∧ w'.cell? ⟨g, k * 9 + 7, none⟩ = some (.slice X.p3 X.m.tab.length X.c3) ∧ w'.cell? ⟨g, k * 9 + 8, none⟩ = some (.slice X.p4 X.m.maps.length X.c4) ∧ w'.cell? ⟨g, i * 9, none⟩ = some (.string Y.m.nm) ∧ w'.cell? ⟨g, i * 9 + 1, none⟩ = some (.bool Y.m.stc) ∧ w'.cell? ⟨g, i * 9 + 2, none⟩ = some (.slice Y.p1 Y.m.args.length Y.c1) ∧ w'.cell? ⟨g, i * 9 + 3, none⟩ = some (.int .i64 Y.m.ret) ∧ w'.cell? ⟨g, i * 9 + 4, none⟩ = some (.int .i64 Y.m.lo) ∧ w'.cell? ⟨g, i * 9 + 5, none⟩ = some (.int .i64 Y.m.st) ∧ w'.cell? ⟨g, i * 9 + 6, none⟩ = some (.slice Y.p2 Y.m.code.length Y.c2) ∧ w'.cell? ⟨g, i * 9 + 7, none⟩ = some (.slice Y.p3 Y.m.tab.length Y.c3) ∧ w'.cell? ⟨g, i * 9 + 8, none⟩ = some (.slice Y.p4 Y.m.maps.length Y.c4)) (go_keep) ((go_at_call 71; refine HBM.out.mono ?_; rintro e w2 ⟨rfl, hl⟩; have HL : Hid (Below w1.heap.size w1 w2) := HS2.out _ hl; have ⟨k0, k1, k2, k3, k4, k5, k6, k7, k8, k9, k10, k11, k12, k13, k14, k15, k16, k17⟩ := HK2.out _ hl; clear hl))
          go_wp2
          go_ret
          exact ⟨rfl, HB1.out.trans (HL.out.mono HB1.out.size)⟩
        · have e1 : (C == 0) = false := by simp [hc]
          have HCC : Hid (C ≠ 0) := hc
          clear hc
          go_wp2_with (fail)
          go_region_held3 (fun w' => w'.cell? ⟨g, k * 9, none⟩ = some (.string X.m.nm) ∧ w'.cell? ⟨g, k * 9 + 1, none⟩ = some (.bool X.m.stc) ∧ w'.cell? ⟨g, k * 9 + 2, none⟩ = some (.slice X.p1 X.m.args.length X.c1) ∧ w'.cell? ⟨g, k * 9 + 3, none⟩ = some (.int .i64 X.m.ret) ∧ w'.cell? ⟨g, k * 9 + 4, none⟩ = some (.int .i64 X.m.lo) ∧ w'.cell? ⟨g, k * 9 + 5, none⟩ = some (.int .i64 X.m.st) ∧ w'.cell? ⟨g, k * 9 + 6, none⟩ = some (.slice X.p2 X.m.code.length X.c2) ∧ w'.cell? ⟨g, k * 9 + 7, none⟩ = some (.slice X.p3 X.m.tab.length X.c3) ∧ w'.cell? ⟨g, k * 9 + 8, none⟩ = some (.slice X.p4 X.m.maps.length X.c4) ∧ w'.cell? ⟨g, i * 9, none⟩ = some (.string Y.m.nm) ∧ w'.cell? ⟨g, i * 9 + 1, none⟩ = some (.bool Y.m.stc) ∧ w'.cell? ⟨g, i * 9 + 2, none⟩ = some (.slice Y.p1 Y.m.args.length Y.c1) ∧ w'.cell? ⟨g, i * 9 + 3, none⟩ = some (.int .i64 Y.m.ret) ∧ w'.cell? ⟨g, i * 9 + 4, none⟩ = some (.int .i64 Y.m.lo) ∧ w'.cell? ⟨g, i * 9 + 5, none⟩ = some (.int .i64 Y.m.st) ∧ w'.cell? ⟨g, i * 9 + 6, none⟩ = some (.slice Y.p2 Y.m.code.length Y.c2) ∧ w'.cell? ⟨g, i * 9 + 7, none⟩ = some (.slice Y.p3 Y.m.tab.length Y.c3) ∧ w'.cell? ⟨g, i * 9 + 8, none⟩ = some (.slice Y.p4 Y.m.maps.length Y.c4)) (go_keep) ((go_at_call 71; refine HBM.out.mono ?_; rintro e w2 ⟨rfl, hl⟩; have HL : Hid (Below w1.heap.size w1 w2) := HS2.out _ hl; have ⟨k0, k1, k2, k3, k4, k5, k6, k7, k8, k9, k10, k11, k12, k13, k14, k15, k16, k17⟩ := HK2.out _ hl; clear hl))
          go_wp2
          go_roundg (L.length - (k + 1))
          case measure => omega
          case rel =>
            refine ⟨i + 1, k + 1, by go_num, (by have := hik.out; exact congrArg (· + 1) this), by omega, Nat.le_refl _, HL, fun j hj hjk => ?_⟩
            by_cases e : j < k
            · exact HJ.out j hj e
            · obtain rfl : j = k := by omega
              rw [HXY.out.1, HXY.out.2]
              exact fun q => HCC.out (HC.out.symm.trans q)
      · have hl2 : ¬ (i : Int) < (L.length : Int) := by omega
        have hR : R = false := by
          rw [← HR.out, HNM.out]
          exact HD.out.2 fun j hj => HJ.out j hj (by have := Hd1.out; omega)
        subst hR
        go_wp2
        go_ret
        exact ⟨rfl, HB1.out.trans (HW.out.mono HB1.out.size)⟩
end Go.Proofs.YtbbmgjcabmjjdaaGreatDoor
