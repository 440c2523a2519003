/- What an access of an operation does: a push's, a pop's, stage by stage. -/
import Derived.Test.YtojblddfggoecaaGreatSView
namespace Go.Proofs.YtojblddfggoecaaGreat
open Go.RowKit

theorem info111 : (Tryz.prog.info? 179).map (·.size) = some 3 := by kernel_rfl
theorem info120 : (Tryz.prog.info? 188).map (·.size) = some 4 := by kernel_rfl
theorem info92 : (Tryz.prog.info? 165).map (·.size) = some 3 := by kernel_rfl
theorem un_drew {w w1 : World} (hb : Below w.drew.heap.size w.drew w1) : Below w.heap.size w w1 := ((Below.refl w.heap.size w).drew).trans hb
theorem ne_row {w : World} {x ty r n : Nat} {c : Array Value} {f : Nat → Value} (h : w.heap[x]? = some (.cells c ty (0, 0))) (ht : ty ≠ 3) (hr : w.rowIs r 3 n f) : x ≠ r := by
  rintro rfl
  obtain ⟨d, hd, _⟩ := hr
  rw [h] at hd; simp at hd; exact ht hd.2
theorem blk8 {w : World} {b ty : Nat} {c0 c1 c2 c3 c4 c5 c6 c7 : Value} (h : w.heap[b]? = some (.cells #[c0, c1, c2, c3, c4, c5, c6, c7] ty (0, 0))) :
    w.cell? ⟨b, 0, none⟩ = some c0 ∧ w.cell? ⟨b, 1, none⟩ = some c1 ∧ w.cell? ⟨b, 2, none⟩ = some c2 ∧ w.cell? ⟨b, 3, none⟩ = some c3 ∧ w.cell? ⟨b, 4, none⟩ = some c4 ∧ w.cell? ⟨b, 5, none⟩ = some c5 ∧ w.cell? ⟨b, 6, none⟩ = some c6 ∧ w.cell? ⟨b, 7, none⟩ = some c7 := by
  simp [World.cell?, h]
theorem frz {w : World} {b ty : Nat} {c : Array Value} (h : w.heap[b]? = some (.cells c ty (0, 0))) (i : Nat) : w.frozen? ⟨b, i, none⟩ = false := by simp [World.frozen?, h]

theorem placeOf_any {b bt bu bl base cap : Nat} (i : Int) (a : Nat) (w : World) (ha : (base : Int) + i = a) (hm : a < 1000000) :
    Calls Tryz.prog 104 #[.agg #[.pointer (some ⟨b, 0, none⟩), .func (.func 135) #[] #[.pointer (some ⟨bt, 0, none⟩)], .func (.func 136) #[] #[.pointer (some ⟨bu, 0, none⟩)], .pointer (some ⟨b, 0, none⟩), .func (.func 137) #[] #[.pointer (some ⟨bl, 0, none⟩)], .func (.func 124) #[] #[], .int .i64 base, .int .i64 cap], .int .i64 i] w fun e w' => e = .returned (.int .i64 a) ∧ Below w.heap.size w w' := by
  have hw : wrap64 ((base : Int) + i) = (a : Int) := by rw [IntWalk.wrap64_in _ (by omega)]; exact ha
  go_enter Tryz.func104, Tryz.ntmps104
  go_wp2
  go_ret
  exact ⟨by rw [← hw]; rfl, (Below.refl _ _).alloc (Nat.le_refl _) _⟩
theorem swapTop_yes {w : World} {b bw bs W G : Nat} {ws cs : Nat → Int} (h : Ar w b bw bs W G ws cs) {bt bu bl : Nat} {c : Int} (hx : Bx w bw bs bt bu bl c) {base cap : Nat} {t t' i i' z z' : Int} (g : Nat) (hg : g < G) (ha : base < W) (ht : wrap64 (t + 1) = t') (hz : wrap64 (wrap64 (t * c) + i) = z) (hz' : wrap64 (wrap64 (t' * c) + i') = z') (hy : (ws base != z) = false) :
    Calls Tryz.prog 129 #[.agg #[.pointer (some ⟨b, 0, none⟩), .func (.func 135) #[] #[.pointer (some ⟨bt, 0, none⟩)], .func (.func 136) #[] #[.pointer (some ⟨bu, 0, none⟩)], .pointer (some ⟨b, 0, none⟩), .func (.func 137) #[] #[.pointer (some ⟨bl, 0, none⟩)], .func (.func 124) #[] #[], .int .i64 base, .int .i64 cap], .int .i64 g, .agg #[.int .i64 t, .int .i64 i], .int .i64 i'] w fun e w' => e = .returned (.bool true) ∧ Ar w' b bw bs W G (upd ws base z') (upd cs g (wrap64 (cs g + 1))) ∧ But bw bs w w' := by
  subst ht
  go_enter Tryz.func129, Tryz.ntmps129
  go_wp2_with (go_at_call 138; refine (topSwap_yes ((h.alloc _).alloc _) ((hx.alloc _).alloc _) g base hg ha hz hz' hy).mono ?_; rintro e w1 ⟨rfl, hA, hB⟩)
  go_ret
  exact ⟨rfl, hA, (((But.refl bw bs w).alloc _).alloc _).trans hB⟩
theorem swapTop_no {w : World} {b bw bs W G : Nat} {ws cs : Nat → Int} (h : Ar w b bw bs W G ws cs) {bt bu bl : Nat} {c : Int} (hx : Bx w bw bs bt bu bl c) {base cap : Nat} {t i i' z : Int} (g : Nat) (hg : g < G) (ha : base < W) (hz : wrap64 (wrap64 (t * c) + i) = z) (hy : (ws base != z) = true) :
    Calls Tryz.prog 129 #[.agg #[.pointer (some ⟨b, 0, none⟩), .func (.func 135) #[] #[.pointer (some ⟨bt, 0, none⟩)], .func (.func 136) #[] #[.pointer (some ⟨bu, 0, none⟩)], .pointer (some ⟨b, 0, none⟩), .func (.func 137) #[] #[.pointer (some ⟨bl, 0, none⟩)], .func (.func 124) #[] #[], .int .i64 base, .int .i64 cap], .int .i64 g, .agg #[.int .i64 t, .int .i64 i], .int .i64 i'] w fun e w' => e = .returned (.bool false) ∧ Ar w' b bw bs W G ws (upd cs g (wrap64 (cs g + 1))) ∧ But bw bs w w' := by
  go_enter Tryz.func129, Tryz.ntmps129
  go_wp2_with (go_at_call 138; refine (topSwap_no ((h.alloc _).alloc _) ((hx.alloc _).alloc _) g base hg ha hz hy).mono ?_; rintro e w1 ⟨rfl, hA, hB⟩)
  go_ret
  exact ⟨rfl, hA, (((But.refl bw bs w).alloc _).alloc _).trans hB⟩

/-- Three cells of one block, stored one behind the other. -/
def sets3 (u : World) (s : Nat) (x y z : Value) : World := ((u.setCell ⟨s, 0, none⟩ x).setCell ⟨s, 1, none⟩ y).setCell ⟨s, 2, none⟩ z
def sets4 (u : World) (s : Nat) (x y z v : Value) : World := (sets3 u s x y z).setCell ⟨s, 3, none⟩ v
theorem sets3_blk {u : World} {s ty : Nat} {a b c : Value} (h : u.heap[s]? = some (.cells #[a, b, c] ty (0, 0))) (x y z : Value) : (sets3 u s x y z).heap[s]? = some (.cells #[x, y, z] ty (0, 0)) :=
  set_blk (set_blk (set_blk h 0 _) 1 _) 2 _
theorem sets4_blk {u : World} {s ty : Nat} {a b c d : Value} (h : u.heap[s]? = some (.cells #[a, b, c, d] ty (0, 0))) (x y z v : Value) : (sets4 u s x y z v).heap[s]? = some (.cells #[x, y, z, v] ty (0, 0)) :=
  set_blk (set_blk (set_blk (set_blk h 0 _) 1 _) 2 _) 3 _
theorem sets3_else (u : World) (s : Nat) (x y z : Value) {k : Nat} (hk : k ≠ s) : (sets3 u s x y z).heap[k]? = u.heap[k]? := by
  unfold sets3; rw [heap_put _ _ hk, heap_put _ _ hk, heap_put _ _ hk]
theorem sets4_else (u : World) (s : Nat) (x y z v : Value) {k : Nat} (hk : k ≠ s) : (sets4 u s x y z v).heap[k]? = u.heap[k]? := by
  unfold sets4; rw [heap_put _ _ hk, sets3_else _ _ _ _ _ hk]
theorem Ar.sets3 {w u : World} {b bw bs W G : Nat} {ws cs ws0 cs0 : Nat → Int} (h0 : Ar w b bw bs W G ws0 cs0) (h : Ar u b bw bs W G ws cs) (s : Nat) (x y z : Value) (hr : w.heap.size ≤ s) : Ar (sets3 u s x y z) b bw bs W G ws cs :=
  h0.fresh (h0.fresh (h0.fresh h s 0 _ hr) s 1 _ hr) s 2 _ hr
theorem Ar.sets4 {w u : World} {b bw bs W G : Nat} {ws cs ws0 cs0 : Nat → Int} (h0 : Ar w b bw bs W G ws0 cs0) (h : Ar u b bw bs W G ws cs) (s : Nat) (x y z v : Value) (hr : w.heap.size ≤ s) : Ar (sets4 u s x y z v) b bw bs W G ws cs :=
  h0.fresh (h0.sets3 h s x y z hr) s 3 _ hr
theorem But.sets3 {bw bs : Nat} {w u : World} (h : But bw bs w u) (s : Nat) (x y z : Value) (hr : w.heap.size ≤ s) : But bw bs w (YtojblddfggoecaaGreat.sets3 u s x y z) := ((h.fresh s 0 _ hr).fresh s 1 _ hr).fresh s 2 _ hr
theorem But.sets4 {bw bs : Nat} {w u : World} (h : But bw bs w u) (s : Nat) (x y z v : Value) (hr : w.heap.size ≤ s) : But bw bs w (YtojblddfggoecaaGreat.sets4 u s x y z v) := (h.sets3 s x y z hr).fresh s 3 _ hr

theorem push_look {w : World} {b bw bs W G : Nat} {ws cs : Nat → Int} (h : Ar w b bw bs W G ws cs) {bt bu bl : Nat} {c : Int} (hx : Bx w bw bs bt bu bl c) {x y z base cap : Nat} {t0 i0 t i : Int} (g : Nat) (hX : w.heap[x]? = some (.cells #[.pointer (some ⟨b, 0, none⟩), .func (.func 135) #[] #[.pointer (some ⟨bt, 0, none⟩)], .func (.func 136) #[] #[.pointer (some ⟨bu, 0, none⟩)], .pointer (some ⟨b, 0, none⟩), .func (.func 137) #[] #[.pointer (some ⟨bl, 0, none⟩)], .func (.func 124) #[] #[], .int .i64 base, .int .i64 cap] 123 (0, 0))) (hY : w.heap[y]? = some (.cells #[.int .i64 g] 3 (0, 0))) (hg : g < G) (ha : base < W) (h1 : 0 < c) (hq : wrap64 ((ws base).tdiv c) = t) (hr : (ws base).tmod c = i) (hi : 0 ≤ i) :
    Calls Tryz.prog 126 #[.agg #[.int .i64 0, .int .i64 t0, .int .i64 i0], .pointer (some ⟨x, 0, none⟩), .pointer (some ⟨y, 0, none⟩), .pointer (some ⟨z, 0, none⟩)] w fun e w' => e = .returned (.tuple #[.agg #[.int .i64 1, .int .i64 t, .int .i64 i], .agg #[.bool false, .int .i64 0, .bool false]]) ∧
      Ar w' b bw bs W G ws (upd cs g (wrap64 (cs g + 1))) ∧ But bw bs w w' := by
  have hX3 := fun o p q => blk8 (box_alloc (box_alloc (box_alloc hX o) p) q)
  have hY3 := fun o p q => box_cell (box_alloc (box_alloc (box_alloc hY o) p) q)
  go_enter Tryz.func126, Tryz.ntmps126
  go_wp2_with (go_at_call 127; refine (topLoad_ok (((h.alloc _).alloc _).alloc _) (((hx.alloc _).alloc _).alloc _) g base hg ha h1 hq hr hi).mono ?_; rintro e w1 ⟨rfl, hA, hB⟩; have hL := laidB h.lts.1 h.lts.2 hB; have l0 := box_lt hL.1; have l1 := box_lt hL.2.1; have l2 := box_lt hL.2.2; have b1 := blk3 hL.2.1; have b2 := blk3 hL.2.2; have z1 := frz hL.2.1; have z2 := frz hL.2.2)
  have hB' := ((((But.refl bw bs w).alloc _).alloc _).alloc _).trans hB
  refine bodyPost_ret (results_cc rfl _ _ (w.heap.size + 1) (w.heap.size + 1 + 1) 179 165 #[.int .i64 1, .int .i64 t, .int .i64 i] #[.bool false, .int .i64 0, .bool false] (0, 0) (0, 0) _ _ rfl ?_ Tryz.underlying179 rfl info111 rfl ?_ Tryz.underlying165 rfl info92) rfl ⟨rfl, ?_, ?_⟩
  · exact box_alloc ((sets3_else _ (w.heap.size + 1 + 1) _ _ _ (by omega)).trans (sets3_blk hL.2.1 _ _ _)) _
  · exact box_alloc (sets3_blk ((sets3_else _ _ _ _ _ (by omega)).trans hL.2.2) _ _ _) _
  · exact (h.sets3 (h.sets3 hA _ _ _ _ (by omega)) _ _ _ _ (by omega)).alloc _
  · exact ((hB'.sets3 _ _ _ _ (by omega)).sets3 _ _ _ _ (by omega)).alloc _
set_option maxHeartbeats 1000000 in
theorem push_connect {w : World} {b bw bs W G : Nat} {ws cs : Nat → Int} (h : Ar w b bw bs W G ws cs) {bt bu bl : Nat} {x y z base cap : Nat} {t i item : Int} (g a : Nat) (hX : w.heap[x]? = some (.cells #[.pointer (some ⟨b, 0, none⟩), .func (.func 135) #[] #[.pointer (some ⟨bt, 0, none⟩)], .func (.func 136) #[] #[.pointer (some ⟨bu, 0, none⟩)], .pointer (some ⟨b, 0, none⟩), .func (.func 137) #[] #[.pointer (some ⟨bl, 0, none⟩)], .func (.func 124) #[] #[], .int .i64 base, .int .i64 cap] 123 (0, 0))) (hY : w.heap[y]? = some (.cells #[.int .i64 g] 3 (0, 0))) (y1 : y ≠ bw) (y2 : y ≠ bs) (hZ : w.heap[z]? = some (.cells #[.int .i64 item] 126 (0, 0))) (hg : g < G) (ha : a < W) (hp : (base : Int) + item = a) (hW : W ≤ 65536) :
    Calls Tryz.prog 126 #[.agg #[.int .i64 1, .int .i64 t, .int .i64 i], .pointer (some ⟨x, 0, none⟩), .pointer (some ⟨y, 0, none⟩), .pointer (some ⟨z, 0, none⟩)] w fun e w' => e = .returned (.tuple #[.agg #[.int .i64 2, .int .i64 t, .int .i64 i], .agg #[.bool false, .int .i64 0, .bool false]]) ∧
      Ar w' b bw bs W G (upd ws a i) (upd cs g (wrap64 (cs g + 1))) ∧ But bw bs w w' := by
  have hX3 := fun o p q => blk8 (box_alloc (box_alloc (box_alloc hX o) p) q)
  have hY3 := fun o p q => box_cell (box_alloc (box_alloc (box_alloc hY o) p) q)
  have hZ3 := fun o p q => box_cell (box_alloc (box_alloc (box_alloc hZ o) p) q)
  have nX1 := ne_row hX (by decide) h.words
  have nX2 := ne_row hX (by decide) h.steps
  have nZ1 := ne_row hZ (by decide) h.words
  have nZ2 := ne_row hZ (by decide) h.steps
  go_enter Tryz.func126, Tryz.ntmps126
  go_wp2
  go_region_held3 (fun w' => (w'.cell? ⟨x, 0, none⟩ = some (.pointer (some ⟨b, 0, none⟩)) ∧ w'.cell? ⟨x, 1, none⟩ = some (.func (.func 135) #[] #[.pointer (some ⟨bt, 0, none⟩)]) ∧ w'.cell? ⟨x, 2, none⟩ = some (.func (.func 136) #[] #[.pointer (some ⟨bu, 0, none⟩)]) ∧ w'.cell? ⟨x, 3, none⟩ = some (.pointer (some ⟨b, 0, none⟩)) ∧ w'.cell? ⟨x, 4, none⟩ = some (.func (.func 137) #[] #[.pointer (some ⟨bl, 0, none⟩)]) ∧ w'.cell? ⟨x, 5, none⟩ = some (.func (.func 124) #[] #[]) ∧ w'.cell? ⟨x, 6, none⟩ = some (.int .i64 base) ∧ w'.cell? ⟨x, 7, none⟩ = some (.int .i64 cap)) ∧ w'.cell? ⟨y, 0, none⟩ = some (.int .i64 g) ∧ w'.cell? ⟨z, 0, none⟩ = some (.int .i64 item) ∧ w'.cell? ⟨w.heap.size, 2, none⟩ = some (.int .i64 i)) (go_keep)
    (first
      | (go_at_call 128; refine (linkStore_ok hA1 g a i hg ha).mono ?_; rintro e w2 ⟨rfl, hA, hB2⟩
         have hB := hB1.trans hB2; have hL := laidB h.lts.1 h.lts.2 hB; have l0 := box_lt hL.1; have l1 := box_lt hL.2.1; have l2 := box_lt hL.2.2; have b0 := blk3 hL.1; have b1 := blk3 hL.2.1; have b2 := blk3 hL.2.2; have z1 := frz hL.2.1; have z2 := frz hL.2.2
         have hBw := (((((But.refl bw bs w).alloc _).alloc _).alloc _).trans hB)
         have dX := blk8 ((hBw.block _ (box_lt hX) nX1 nX2).trans hX); have dY := box_cell ((hBw.block _ (box_lt hY) y1 y2).trans hY); have dZ := box_cell ((hBw.block _ (box_lt hZ) nZ1 nZ2).trans hZ))
      | (go_at_call 104; refine (placeOf_any (cap := cap) (bt := bt) (bu := bu) (bl := bl) item a _ hp (by omega)).mono ?_; rintro e w1 ⟨rfl, hb⟩
         have hA1 := (((h.alloc _).alloc _).alloc _).below (un_drew hb); have hB1 := But.of_below (bw := bw) (bs := bs) (un_drew hb)
         have hBv := (((((But.refl bw bs w).alloc _).alloc _).alloc _).trans hB1)
         have eX := blk8 ((hBv.block _ (box_lt hX) nX1 nX2).trans hX); have eY := box_cell ((hBv.block _ (box_lt hY) y1 y2).trans hY); have eZ := box_cell ((hBv.block _ (box_lt hZ) nZ1 nZ2).trans hZ); have eS := blk3 (laidB h.lts.1 h.lts.2 hB1).1))
  go_wp2
  have hB' := ((((But.refl bw bs w).alloc _).alloc _).alloc _).trans hB
  refine bodyPost_ret (results_cc rfl _ _ (w.heap.size + 1) (w.heap.size + 1 + 1) 179 165 #[.int .i64 2, .int .i64 t, .int .i64 i] #[.bool false, .int .i64 0, .bool false] (0, 0) (0, 0) _ _ rfl ?_ Tryz.underlying179 rfl info111 rfl ?_ Tryz.underlying165 rfl info92) rfl ⟨rfl, ?_, ?_⟩
  · exact ((sets3_else _ (w.heap.size + 1 + 1) _ _ _ (by omega)).trans (sets3_blk hL.2.1 _ _ _))
  · exact (sets3_blk ((sets3_else _ _ _ _ _ (by omega)).trans hL.2.2) _ _ _)
  · exact (h.sets3 (h.sets3 hA _ _ _ _ (by omega)) _ _ _ _ (by omega))
  · exact ((hB'.sets3 _ _ _ _ (by omega)).sets3 _ _ _ _ (by omega))
set_option maxHeartbeats 1000000 in
theorem push_swap_yes {w : World} {b bw bs W G : Nat} {ws cs : Nat → Int} (h : Ar w b bw bs W G ws cs) {bt bu bl : Nat} {c : Int} (hx : Bx w bw bs bt bu bl c) {x y z base cap : Nat} {t t' i item z0 z1 : Int} (g : Nat) (hX : w.heap[x]? = some (.cells #[.pointer (some ⟨b, 0, none⟩), .func (.func 135) #[] #[.pointer (some ⟨bt, 0, none⟩)], .func (.func 136) #[] #[.pointer (some ⟨bu, 0, none⟩)], .pointer (some ⟨b, 0, none⟩), .func (.func 137) #[] #[.pointer (some ⟨bl, 0, none⟩)], .func (.func 124) #[] #[], .int .i64 base, .int .i64 cap] 123 (0, 0))) (hY : w.heap[y]? = some (.cells #[.int .i64 g] 3 (0, 0))) (hZ : w.heap[z]? = some (.cells #[.int .i64 item] 126 (0, 0))) (hg : g < G) (ha : base < W) (ht : wrap64 (t + 1) = t') (hz : wrap64 (wrap64 (t * c) + i) = z0) (hz' : wrap64 (wrap64 (t' * c) + item) = z1) (hy : (ws base != z0) = false) :
    Calls Tryz.prog 126 #[.agg #[.int .i64 2, .int .i64 t, .int .i64 i], .pointer (some ⟨x, 0, none⟩), .pointer (some ⟨y, 0, none⟩), .pointer (some ⟨z, 0, none⟩)] w fun e w' => e = .returned (.tuple #[.agg #[.int .i64 0, .int .i64 0, .int .i64 0], .agg #[.bool true, .int .i64 0, .bool true]]) ∧
      Ar w' b bw bs W G (upd ws base z1) (upd cs g (wrap64 (cs g + 1))) ∧ But bw bs w w' := by
  have hX3 := fun o p q => blk8 (box_alloc (box_alloc (box_alloc hX o) p) q)
  have hY3 := fun o p q => box_cell (box_alloc (box_alloc (box_alloc hY o) p) q)
  have hZ3 := fun o p q => box_cell (box_alloc (box_alloc (box_alloc hZ o) p) q)
  go_enter Tryz.func126, Tryz.ntmps126
  go_wp2_with (go_at_call 129; refine (swapTop_yes (((h.alloc _).alloc _).alloc _) (((hx.alloc _).alloc _).alloc _) g hg ha ht hz hz' hy).mono ?_; rintro e w1 ⟨rfl, hA, hB⟩; have hL := laidB h.lts.1 h.lts.2 hB; have l0 := box_lt hL.1; have l1 := box_lt hL.2.1; have l2 := box_lt hL.2.2; have b0 := blk3 hL.1; have b1 := blk3 hL.2.1; have b2 := blk3 hL.2.2; have z1 := frz hL.2.1; have z2 := frz hL.2.2)
  have hB' := ((((But.refl bw bs w).alloc _).alloc _).alloc _).trans hB
  refine bodyPost_ret (results_cc rfl _ _ (w.heap.size + 1) (w.heap.size + 1 + 1) 179 165 #[.int .i64 0, .int .i64 0, .int .i64 0] #[.bool true, .int .i64 0, .bool true] (0, 0) (0, 0) _ _ rfl ?_ Tryz.underlying179 rfl info111 rfl ?_ Tryz.underlying165 rfl info92) rfl ⟨rfl, ?_, ?_⟩
  · exact ((sets3_else _ (w.heap.size + 1 + 1) _ _ _ (by omega)).trans (sets3_blk hL.2.1 _ _ _))
  · exact (sets3_blk ((sets3_else _ _ _ _ _ (by omega)).trans hL.2.2) _ _ _)
  · exact (h.sets3 (h.sets3 hA _ _ _ _ (by omega)) _ _ _ _ (by omega))
  · exact ((hB'.sets3 _ _ _ _ (by omega)).sets3 _ _ _ _ (by omega))
set_option maxHeartbeats 1000000 in
theorem push_swap_no {w : World} {b bw bs W G : Nat} {ws cs : Nat → Int} (h : Ar w b bw bs W G ws cs) {bt bu bl : Nat} {c : Int} (hx : Bx w bw bs bt bu bl c) {x y z base cap : Nat} {t i item z0 : Int} (g : Nat) (hX : w.heap[x]? = some (.cells #[.pointer (some ⟨b, 0, none⟩), .func (.func 135) #[] #[.pointer (some ⟨bt, 0, none⟩)], .func (.func 136) #[] #[.pointer (some ⟨bu, 0, none⟩)], .pointer (some ⟨b, 0, none⟩), .func (.func 137) #[] #[.pointer (some ⟨bl, 0, none⟩)], .func (.func 124) #[] #[], .int .i64 base, .int .i64 cap] 123 (0, 0))) (hY : w.heap[y]? = some (.cells #[.int .i64 g] 3 (0, 0))) (hZ : w.heap[z]? = some (.cells #[.int .i64 item] 126 (0, 0))) (hg : g < G) (ha : base < W) (hz : wrap64 (wrap64 (t * c) + i) = z0) (hy : (ws base != z0) = true) :
    Calls Tryz.prog 126 #[.agg #[.int .i64 2, .int .i64 t, .int .i64 i], .pointer (some ⟨x, 0, none⟩), .pointer (some ⟨y, 0, none⟩), .pointer (some ⟨z, 0, none⟩)] w fun e w' => e = .returned (.tuple #[.agg #[.int .i64 0, .int .i64 0, .int .i64 0], .agg #[.bool false, .int .i64 0, .bool false]]) ∧
      Ar w' b bw bs W G ws (upd cs g (wrap64 (cs g + 1))) ∧ But bw bs w w' := by
  have hX3 := fun o p q => blk8 (box_alloc (box_alloc (box_alloc hX o) p) q)
  have hY3 := fun o p q => box_cell (box_alloc (box_alloc (box_alloc hY o) p) q)
  have hZ3 := fun o p q => box_cell (box_alloc (box_alloc (box_alloc hZ o) p) q)
  go_enter Tryz.func126, Tryz.ntmps126
  go_wp2_with (go_at_call 129; refine (swapTop_no (((h.alloc _).alloc _).alloc _) (((hx.alloc _).alloc _).alloc _) g hg ha hz hy).mono ?_; rintro e w1 ⟨rfl, hA, hB⟩; have hL := laidB h.lts.1 h.lts.2 hB; have l0 := box_lt hL.1; have l1 := box_lt hL.2.1; have l2 := box_lt hL.2.2; have b0 := blk3 hL.1; have b1 := blk3 hL.2.1; have b2 := blk3 hL.2.2; have z1 := frz hL.2.1; have z2 := frz hL.2.2)
  have hB' := ((((But.refl bw bs w).alloc _).alloc _).alloc _).trans hB
  refine bodyPost_ret (results_cc rfl _ _ (w.heap.size + 1) (w.heap.size + 1 + 1) 179 165 #[.int .i64 0, .int .i64 0, .int .i64 0] #[.bool false, .int .i64 0, .bool false] (0, 0) (0, 0) _ _ rfl ?_ Tryz.underlying179 rfl info111 rfl ?_ Tryz.underlying165 rfl info92) rfl ⟨rfl, ?_, ?_⟩
  · exact ((sets3_else _ (w.heap.size + 1 + 1) _ _ _ (by omega)).trans (sets3_blk hL.2.1 _ _ _))
  · exact (sets3_blk ((sets3_else _ _ _ _ _ (by omega)).trans hL.2.2) _ _ _)
  · exact (h.sets3 (h.sets3 hA _ _ _ _ (by omega)) _ _ _ _ (by omega))
  · exact ((hB'.sets3 _ _ _ _ (by omega)).sets3 _ _ _ _ (by omega))
theorem blk4 {w : World} {b ty : Nat} {x y z v : Value} (h : w.heap[b]? = some (.cells #[x, y, z, v] ty (0, 0))) : w.cell? ⟨b, 0, none⟩ = some x ∧ w.cell? ⟨b, 1, none⟩ = some y ∧ w.cell? ⟨b, 2, none⟩ = some z ∧ w.cell? ⟨b, 3, none⟩ = some v := by
  simp [World.cell?, h]
set_option maxHeartbeats 1000000 in
theorem pop_empty {w : World} {b bw bs W G : Nat} {ws cs : Nat → Int} (h : Ar w b bw bs W G ws cs) {bt bu bl : Nat} {c : Int} (hx : Bx w bw bs bt bu bl c) {x y base cap : Nat} {t0 i0 d0 : Int} (g : Nat) (hX : w.heap[x]? = some (.cells #[.pointer (some ⟨b, 0, none⟩), .func (.func 135) #[] #[.pointer (some ⟨bt, 0, none⟩)], .func (.func 136) #[] #[.pointer (some ⟨bu, 0, none⟩)], .pointer (some ⟨b, 0, none⟩), .func (.func 137) #[] #[.pointer (some ⟨bl, 0, none⟩)], .func (.func 124) #[] #[], .int .i64 base, .int .i64 cap] 123 (0, 0))) (hY : w.heap[y]? = some (.cells #[.int .i64 g] 3 (0, 0))) (hg : g < G) (ha : base < W) (h1 : 0 < c) (hr : (ws base).tmod c = 0) :
    Calls Tryz.prog 130 #[.agg #[.int .i64 0, .int .i64 t0, .int .i64 i0, .int .i64 d0], .pointer (some ⟨x, 0, none⟩), .pointer (some ⟨y, 0, none⟩)] w fun e w' => e = .returned (.tuple #[.agg #[.int .i64 0, .int .i64 0, .int .i64 0, .int .i64 0], .agg #[.bool true, .int .i64 0, .bool false]]) ∧
      Ar w' b bw bs W G ws (upd cs g (wrap64 (cs g + 1))) ∧ But bw bs w w' := by
  have hX3 := fun o p q => blk8 (box_alloc (box_alloc (box_alloc hX o) p) q)
  have hY3 := fun o p q => box_cell (box_alloc (box_alloc (box_alloc hY o) p) q)
  go_enter Tryz.func130, Tryz.ntmps130
  go_wp2_with (go_at_call 127; refine (topLoad_ok (((h.alloc _).alloc _).alloc _) (((hx.alloc _).alloc _).alloc _) g base hg ha h1 rfl hr (by omega)).mono ?_; rintro e w1 ⟨rfl, hA, hB⟩; have hL := laidB h.lts.1 h.lts.2 hB; have l0 := box_lt hL.1; have l1 := box_lt hL.2.1; have l2 := box_lt hL.2.2; have b0 := blk4 hL.1; have b1 := blk4 hL.2.1; have b2 := blk3 hL.2.2; have z1 := frz hL.2.1; have z2 := frz hL.2.2)
  have hB' := ((((But.refl bw bs w).alloc _).alloc _).alloc _).trans hB
  refine bodyPost_ret (results_cc rfl _ _ (w.heap.size + 1) (w.heap.size + 1 + 1) 188 165 #[.int .i64 0, .int .i64 0, .int .i64 0, .int .i64 0] #[.bool true, .int .i64 0, .bool false] (0, 0) (0, 0) _ _ rfl ?_ Tryz.underlying188 rfl info120 rfl ?_ Tryz.underlying165 rfl info92) rfl ⟨rfl, ?_, ?_⟩
  · exact box_alloc ((sets3_else _ (w.heap.size + 1 + 1) _ _ _ (by omega)).trans (sets4_blk hL.2.1 _ _ _ _)) _
  · exact box_alloc (sets3_blk ((sets4_else _ _ _ _ _ _ (by omega)).trans hL.2.2) _ _ _) _
  · exact (h.sets3 (h.sets4 hA _ _ _ _ _ (by omega)) _ _ _ _ (by omega)).alloc _
  · exact ((hB'.sets4 _ _ _ _ _ (by omega)).sets3 _ _ _ _ (by omega)).alloc _
set_option maxHeartbeats 1000000 in
theorem pop_look {w : World} {b bw bs W G : Nat} {ws cs : Nat → Int} (h : Ar w b bw bs W G ws cs) {bt bu bl : Nat} {c : Int} (hx : Bx w bw bs bt bu bl c) {x y base cap : Nat} {t0 i0 d0 t i : Int} (g : Nat) (hX : w.heap[x]? = some (.cells #[.pointer (some ⟨b, 0, none⟩), .func (.func 135) #[] #[.pointer (some ⟨bt, 0, none⟩)], .func (.func 136) #[] #[.pointer (some ⟨bu, 0, none⟩)], .pointer (some ⟨b, 0, none⟩), .func (.func 137) #[] #[.pointer (some ⟨bl, 0, none⟩)], .func (.func 124) #[] #[], .int .i64 base, .int .i64 cap] 123 (0, 0))) (hY : w.heap[y]? = some (.cells #[.int .i64 g] 3 (0, 0))) (hg : g < G) (ha : base < W) (h1 : 0 < c) (hq : wrap64 ((ws base).tdiv c) = t) (hr : (ws base).tmod c = i) (hi : 0 < i) :
    Calls Tryz.prog 130 #[.agg #[.int .i64 0, .int .i64 t0, .int .i64 i0, .int .i64 d0], .pointer (some ⟨x, 0, none⟩), .pointer (some ⟨y, 0, none⟩)] w fun e w' => e = .returned (.tuple #[.agg #[.int .i64 1, .int .i64 t, .int .i64 i, .int .i64 0], .agg #[.bool false, .int .i64 0, .bool false]]) ∧
      Ar w' b bw bs W G ws (upd cs g (wrap64 (cs g + 1))) ∧ But bw bs w w' := by
  have hX3 := fun o p q => blk8 (box_alloc (box_alloc (box_alloc hX o) p) q)
  have hY3 := fun o p q => box_cell (box_alloc (box_alloc (box_alloc hY o) p) q)
  go_enter Tryz.func130, Tryz.ntmps130
  go_wp2_with (go_at_call 127; refine (topLoad_ok (((h.alloc _).alloc _).alloc _) (((hx.alloc _).alloc _).alloc _) g base hg ha h1 hq hr (by omega)).mono ?_; rintro e w1 ⟨rfl, hA, hB⟩; have hL := laidB h.lts.1 h.lts.2 hB; have l0 := box_lt hL.1; have l1 := box_lt hL.2.1; have l2 := box_lt hL.2.2; have b0 := blk4 hL.1; have b1 := blk4 hL.2.1; have b2 := blk3 hL.2.2; have z1 := frz hL.2.1; have z2 := frz hL.2.2)
  have hB' := ((((But.refl bw bs w).alloc _).alloc _).alloc _).trans hB
  refine bodyPost_ret (results_cc rfl _ _ (w.heap.size + 1) (w.heap.size + 1 + 1) 188 165 #[.int .i64 1, .int .i64 t, .int .i64 i, .int .i64 0] #[.bool false, .int .i64 0, .bool false] (0, 0) (0, 0) _ _ rfl ?_ Tryz.underlying188 rfl info120 rfl ?_ Tryz.underlying165 rfl info92) rfl ⟨rfl, ?_, ?_⟩
  · exact box_alloc ((sets3_else _ (w.heap.size + 1 + 1) _ _ _ (by omega)).trans (sets4_blk hL.2.1 _ _ _ _)) _
  · exact box_alloc (sets3_blk ((sets4_else _ _ _ _ _ _ (by omega)).trans hL.2.2) _ _ _) _
  · exact (h.sets3 (h.sets4 hA _ _ _ _ _ (by omega)) _ _ _ _ (by omega)).alloc _
  · exact ((hB'.sets4 _ _ _ _ _ (by omega)).sets3 _ _ _ _ (by omega)).alloc _
set_option maxHeartbeats 1000000 in
theorem pop_connect {w : World} {b bw bs W G : Nat} {ws cs : Nat → Int} (h : Ar w b bw bs W G ws cs) {bt bu bl : Nat} {c : Int} (hx : Bx w bw bs bt bu bl c) {x y base cap : Nat} {t i d0 d : Int} (g a : Nat) (hX : w.heap[x]? = some (.cells #[.pointer (some ⟨b, 0, none⟩), .func (.func 135) #[] #[.pointer (some ⟨bt, 0, none⟩)], .func (.func 136) #[] #[.pointer (some ⟨bu, 0, none⟩)], .pointer (some ⟨b, 0, none⟩), .func (.func 137) #[] #[.pointer (some ⟨bl, 0, none⟩)], .func (.func 124) #[] #[], .int .i64 base, .int .i64 cap] 123 (0, 0))) (hY : w.heap[y]? = some (.cells #[.int .i64 g] 3 (0, 0))) (y1 : y ≠ bw) (y2 : y ≠ bs) (hg : g < G) (ha : a < W) (hp : (base : Int) + i = a) (hW : W ≤ 65536) (hd : (if 0 ≤ ws a ∧ ws a < c then ws a else 0) = d) :
    Calls Tryz.prog 130 #[.agg #[.int .i64 1, .int .i64 t, .int .i64 i, .int .i64 d0], .pointer (some ⟨x, 0, none⟩), .pointer (some ⟨y, 0, none⟩)] w fun e w' => e = .returned (.tuple #[.agg #[.int .i64 2, .int .i64 t, .int .i64 i, .int .i64 d], .agg #[.bool false, .int .i64 0, .bool false]]) ∧
      Ar w' b bw bs W G ws (upd cs g (wrap64 (cs g + 1))) ∧ But bw bs w w' := by
  have hX3 := fun o p q => blk8 (box_alloc (box_alloc (box_alloc hX o) p) q)
  have hY3 := fun o p q => box_cell (box_alloc (box_alloc (box_alloc hY o) p) q)
  have nX1 := ne_row hX (by decide) h.words
  have nX2 := ne_row hX (by decide) h.steps
  go_enter Tryz.func130, Tryz.ntmps130
  go_wp2
  go_region_held3 (fun w' => (w'.cell? ⟨x, 0, none⟩ = some (.pointer (some ⟨b, 0, none⟩)) ∧ w'.cell? ⟨x, 1, none⟩ = some (.func (.func 135) #[] #[.pointer (some ⟨bt, 0, none⟩)]) ∧ w'.cell? ⟨x, 2, none⟩ = some (.func (.func 136) #[] #[.pointer (some ⟨bu, 0, none⟩)]) ∧ w'.cell? ⟨x, 3, none⟩ = some (.pointer (some ⟨b, 0, none⟩)) ∧ w'.cell? ⟨x, 4, none⟩ = some (.func (.func 137) #[] #[.pointer (some ⟨bl, 0, none⟩)]) ∧ w'.cell? ⟨x, 5, none⟩ = some (.func (.func 124) #[] #[]) ∧ w'.cell? ⟨x, 6, none⟩ = some (.int .i64 base) ∧ w'.cell? ⟨x, 7, none⟩ = some (.int .i64 cap)) ∧ w'.cell? ⟨y, 0, none⟩ = some (.int .i64 g) ∧ w'.cell? ⟨w.heap.size, 2, none⟩ = some (.int .i64 i)) (go_keep)
    (first
      | (go_at_call 131; refine (linkLoad_ok hA1 hx1 g a hg ha d hd).mono ?_; rintro e w2 ⟨rfl, hA, hB2⟩
         have hB := hB1.trans hB2; have hL := laidB h.lts.1 h.lts.2 hB; have l0 := box_lt hL.1; have l1 := box_lt hL.2.1; have l2 := box_lt hL.2.2; have b0 := blk4 hL.1; have b1 := blk4 hL.2.1; have b2 := blk3 hL.2.2; have z1 := frz hL.2.1; have z2 := frz hL.2.2
         have hBw := (((((But.refl bw bs w).alloc _).alloc _).alloc _).trans hB)
         have dX := blk8 ((hBw.block _ (box_lt hX) nX1 nX2).trans hX); have dY := box_cell ((hBw.block _ (box_lt hY) y1 y2).trans hY))
      | (go_at_call 104; refine (placeOf_any (cap := cap) (bt := bt) (bu := bu) (bl := bl) i a _ hp (by omega)).mono ?_; rintro e w1 ⟨rfl, hb⟩
         have hA1 := (((h.alloc _).alloc _).alloc _).below (un_drew hb); have hB1 := But.of_below (bw := bw) (bs := bs) (un_drew hb)
         have hBv := (((((But.refl bw bs w).alloc _).alloc _).alloc _).trans hB1)
         have hx1 := hx.but hBv
         have eX := blk8 ((hBv.block _ (box_lt hX) nX1 nX2).trans hX); have eY := box_cell ((hBv.block _ (box_lt hY) y1 y2).trans hY); have eS := blk4 (laidB h.lts.1 h.lts.2 hB1).1))
  go_wp2
  have hB' := ((((But.refl bw bs w).alloc _).alloc _).alloc _).trans hB
  refine bodyPost_ret (results_cc rfl _ _ (w.heap.size + 1) (w.heap.size + 1 + 1) 188 165 #[.int .i64 2, .int .i64 t, .int .i64 i, .int .i64 d] #[.bool false, .int .i64 0, .bool false] (0, 0) (0, 0) _ _ rfl ?_ Tryz.underlying188 rfl info120 rfl ?_ Tryz.underlying165 rfl info92) rfl ⟨rfl, ?_, ?_⟩
  · exact ((sets3_else _ (w.heap.size + 1 + 1) _ _ _ (by omega)).trans (sets4_blk hL.2.1 _ _ _ _))
  · exact (sets3_blk ((sets4_else _ _ _ _ _ _ (by omega)).trans hL.2.2) _ _ _)
  · exact (h.sets3 (h.sets4 hA _ _ _ _ _ (by omega)) _ _ _ _ (by omega))
  · exact ((hB'.sets4 _ _ _ _ _ (by omega)).sets3 _ _ _ _ (by omega))
set_option maxHeartbeats 1000000 in
theorem pop_swap_yes {w : World} {b bw bs W G : Nat} {ws cs : Nat → Int} (h : Ar w b bw bs W G ws cs) {bt bu bl : Nat} {c : Int} (hx : Bx w bw bs bt bu bl c) {x y base cap : Nat} {t t' i d z0 z1 : Int} (g : Nat) (hX : w.heap[x]? = some (.cells #[.pointer (some ⟨b, 0, none⟩), .func (.func 135) #[] #[.pointer (some ⟨bt, 0, none⟩)], .func (.func 136) #[] #[.pointer (some ⟨bu, 0, none⟩)], .pointer (some ⟨b, 0, none⟩), .func (.func 137) #[] #[.pointer (some ⟨bl, 0, none⟩)], .func (.func 124) #[] #[], .int .i64 base, .int .i64 cap] 123 (0, 0))) (hY : w.heap[y]? = some (.cells #[.int .i64 g] 3 (0, 0))) (hg : g < G) (ha : base < W) (ht : wrap64 (t + 1) = t') (hz : wrap64 (wrap64 (t * c) + i) = z0) (hz' : wrap64 (wrap64 (t' * c) + d) = z1) (i0 : 0 ≤ i) (i1 : i < 100000) (hy : (ws base != z0) = false) :
    Calls Tryz.prog 130 #[.agg #[.int .i64 2, .int .i64 t, .int .i64 i, .int .i64 d], .pointer (some ⟨x, 0, none⟩), .pointer (some ⟨y, 0, none⟩)] w fun e w' => e = .returned (.tuple #[.agg #[.int .i64 0, .int .i64 0, .int .i64 0, .int .i64 0], .agg #[.bool true, .int .i64 (i - 1), .bool true]]) ∧
      Ar w' b bw bs W G (upd ws base z1) (upd cs g (wrap64 (cs g + 1))) ∧ But bw bs w w' := by
  have hX3 := fun o p q => blk8 (box_alloc (box_alloc (box_alloc hX o) p) q)
  have hY3 := fun o p q => box_cell (box_alloc (box_alloc (box_alloc hY o) p) q)
  go_enter Tryz.func130, Tryz.ntmps130
  go_wp2_with (first | (go_at_call 129; refine (swapTop_yes (((h.alloc _).alloc _).alloc _) (((hx.alloc _).alloc _).alloc _) g hg ha ht hz hz' hy).mono ?_; rintro e w1 ⟨rfl, hA, hB⟩; have hL := laidB h.lts.1 h.lts.2 hB; have l0 := box_lt hL.1; have l1 := box_lt hL.2.1; have l2 := box_lt hL.2.2; have b0 := blk4 hL.1; have b1 := blk4 hL.2.1; have b2 := blk3 hL.2.2; have z1 := frz hL.2.1; have z2 := frz hL.2.2) | (go_at_call 132; refine (number_any _ _ i0 i1).mono ?_; rintro e w2 ⟨rfl, rfl⟩))
  have hB' := ((((But.refl bw bs w).alloc _).alloc _).alloc _).trans hB
  refine bodyPost_ret (results_cc rfl _ _ (w.heap.size + 1) (w.heap.size + 1 + 1) 188 165 #[.int .i64 0, .int .i64 0, .int .i64 0, .int .i64 0] #[.bool true, .int .i64 (i - 1), .bool true] (0, 0) (0, 0) _ _ rfl ?_ Tryz.underlying188 rfl info120 rfl ?_ Tryz.underlying165 rfl info92) rfl ⟨rfl, ?_, ?_⟩
  · exact ((sets3_else _ (w.heap.size + 1 + 1) _ _ _ (by omega)).trans (sets4_blk hL.2.1 _ _ _ _))
  · exact (sets3_blk ((sets4_else _ _ _ _ _ _ (by omega)).trans hL.2.2) _ _ _)
  · exact (h.sets3 (h.sets4 hA _ _ _ _ _ (by omega)) _ _ _ _ (by omega))
  · exact ((hB'.sets4 _ _ _ _ _ (by omega)).sets3 _ _ _ _ (by omega))
set_option maxHeartbeats 1000000 in
theorem pop_swap_no {w : World} {b bw bs W G : Nat} {ws cs : Nat → Int} (h : Ar w b bw bs W G ws cs) {bt bu bl : Nat} {c : Int} (hx : Bx w bw bs bt bu bl c) {x y base cap : Nat} {t i d z0 : Int} (g : Nat) (hX : w.heap[x]? = some (.cells #[.pointer (some ⟨b, 0, none⟩), .func (.func 135) #[] #[.pointer (some ⟨bt, 0, none⟩)], .func (.func 136) #[] #[.pointer (some ⟨bu, 0, none⟩)], .pointer (some ⟨b, 0, none⟩), .func (.func 137) #[] #[.pointer (some ⟨bl, 0, none⟩)], .func (.func 124) #[] #[], .int .i64 base, .int .i64 cap] 123 (0, 0))) (hY : w.heap[y]? = some (.cells #[.int .i64 g] 3 (0, 0))) (hg : g < G) (ha : base < W) (hz : wrap64 (wrap64 (t * c) + i) = z0) (hy : (ws base != z0) = true) :
    Calls Tryz.prog 130 #[.agg #[.int .i64 2, .int .i64 t, .int .i64 i, .int .i64 d], .pointer (some ⟨x, 0, none⟩), .pointer (some ⟨y, 0, none⟩)] w fun e w' => e = .returned (.tuple #[.agg #[.int .i64 0, .int .i64 0, .int .i64 0, .int .i64 0], .agg #[.bool false, .int .i64 0, .bool false]]) ∧
      Ar w' b bw bs W G ws (upd cs g (wrap64 (cs g + 1))) ∧ But bw bs w w' := by
  have hX3 := fun o p q => blk8 (box_alloc (box_alloc (box_alloc hX o) p) q)
  have hY3 := fun o p q => box_cell (box_alloc (box_alloc (box_alloc hY o) p) q)
  go_enter Tryz.func130, Tryz.ntmps130
  go_wp2_with (go_at_call 129; refine (swapTop_no (((h.alloc _).alloc _).alloc _) (((hx.alloc _).alloc _).alloc _) g hg ha hz hy).mono ?_; rintro e w1 ⟨rfl, hA, hB⟩; have hL := laidB h.lts.1 h.lts.2 hB; have l0 := box_lt hL.1; have l1 := box_lt hL.2.1; have l2 := box_lt hL.2.2; have b0 := blk4 hL.1; have b1 := blk4 hL.2.1; have b2 := blk3 hL.2.2; have z1 := frz hL.2.1; have z2 := frz hL.2.2)
  have hB' := ((((But.refl bw bs w).alloc _).alloc _).alloc _).trans hB
  refine bodyPost_ret (results_cc rfl _ _ (w.heap.size + 1) (w.heap.size + 1 + 1) 188 165 #[.int .i64 0, .int .i64 0, .int .i64 0, .int .i64 0] #[.bool false, .int .i64 0, .bool false] (0, 0) (0, 0) _ _ rfl ?_ Tryz.underlying188 rfl info120 rfl ?_ Tryz.underlying165 rfl info92) rfl ⟨rfl, ?_, ?_⟩
  · exact ((sets3_else _ (w.heap.size + 1 + 1) _ _ _ (by omega)).trans (sets4_blk hL.2.1 _ _ _ _))
  · exact (sets3_blk ((sets4_else _ _ _ _ _ _ (by omega)).trans hL.2.2) _ _ _)
  · exact (h.sets3 (h.sets4 hA _ _ _ _ _ (by omega)) _ _ _ _ (by omega))
  · exact ((hB'.sets4 _ _ _ _ _ (by omega)).sets3 _ _ _ _ (by omega))
end Go.Proofs.YtojblddfggoecaaGreat
