/- The program's own Load: types and signatures (rule 4). -/
import Derived.Test.YtbbmgjcabmjjdaaGreatDoorMQIdx
import Derived.Shelf.Abstract
namespace Go.Proofs.YtbbmgjcabmjjdaaGreatDoor
open Go.RowKit

theorem bxq_cell {u : World} {b j : Nat} {row : Array Value} {T : TypeId} {fr : Nat × Nat} {v : Value} (h : u.heap[b]? = some (.cells row T fr)) (hr : row[j]? = some v) : u.cell? ⟨b, j, none⟩ = some v := by simp [World.cell?, h, hr]
set_option maxHeartbeats 1000000 in
set_option maxRecDepth 20000 in
theorem wface1_ok {u : World} {S : Nat → Prop} {v : Value} {p : Pg} {bx : Nat} (hb : u.cell? ⟨bx, 0, none⟩ = some v) (h : Sl kCs u S v (trQ p)) (x : Int) : Calls Tryz.prog 59 #[.int .i64 x, .pointer (some ⟨bx, 0, none⟩)] u fun e u' => e = .returned (.bool (!faceJ p x)) ∧ u' = u := by
  have hv := h
  obtain ⟨ao, cap, rfl, hmx, -⟩ := hv
  unfold maxLen at hmx
  have hP := placeQ h x
  rcases hp : isJ p x with _ | _
  · rw [hp] at hP
    rw [show faceJ p x = false by simp [faceJ, userJ, hp]]
    clear h hp
    go_enter Tryz.func59, Tryz.ntmps59
    go_wp2_with (go_at_call 57; refine hP.mono ?_; rintro e w9 ⟨rfl, hw9⟩; replace hw9 := hw9.symm; subst hw9)
    go_ret
    exact ⟨by first | rfl | simp, rfl⟩
  · obtain ⟨i, sb, so, _, _, _, _, _, _, _, _, rfl, hi, rfl, -, ⟨-, t1, -, -, -, -, -, -⟩, -⟩ := tq_get h hp
    rw [cl_face hp] at t1
    rw [hp] at hP
    have hl : (i : Int) < ((trQ p).length : Int) := by omega
    generalize faceJ p (i : Int) = R at *
    clear h hp
    go_enter Tryz.func59, Tryz.ntmps59
    go_wp2_with (go_at_call 57; refine hP.mono ?_; rintro e w9 ⟨rfl, hw9⟩; replace hw9 := hw9.symm; subst hw9)
    go_ret
    exact ⟨by first | rfl | simp, rfl⟩
/-- What a Face's method may not be. -/
def oddM (m : Md) : Bool := m.stc || decide (0 < m.code.length) || decide (0 < m.tab.length) || decide (0 < m.maps.length)
set_option maxHeartbeats 2000000 in
set_option maxRecDepth 20000 in
theorem odd_ok {u : World} {S : Nat → Prop} {m : Md} {cs : List Value} (hR : kMd.R u S m cs) : Calls Tryz.prog 93 #[.agg cs.toArray] u fun e u' => e = .returned (.bool (oddM m)) ∧ Below u.heap.size u u' := by
  obtain ⟨v1, v2, v3, v4, rfl, q1, q2, q3, q4⟩ := hR
  obtain ⟨p1, c1, rfl, -⟩ := q1
  obtain ⟨p2, c2, rfl, -⟩ := q2
  obtain ⟨p3, c3, rfl, -⟩ := q3
  obtain ⟨p4, c4, rfl, -⟩ := q4
  have hB : ∀ row : Array Value, Below u.heap.size u (u.alloc (.cells row 30)) := fun row => (Below.refl _ _).alloc (Nat.le_refl _) _
  have hO : oddM m = (m.stc || decide (0 < m.code.length) || decide (0 < m.tab.length) || decide (0 < m.maps.length)) := rfl
  rw [hO]
  clear hO
  generalize m.code.length = n2 at *
  generalize m.tab.length = n3 at *
  generalize m.maps.length = n4 at *
  generalize m.stc = B1 at *
  rcases B1 with _ | _ <;> rcases n2 with _ | n2 <;> rcases n3 with _ | n3 <;> rcases n4 with _ | n4
  all_goals
    go_enter Tryz.func93, Tryz.ntmps93
    go_wp2
    go_ret
    exact ⟨by first | rfl | simp, hB _⟩
/-- May this be a Face? -/
def plainX (c : Cs) : Bool := !((c.fin || decide (0 < c.flds.length) || decide (0 < c.stcs.length)) || c.mds.any oddM)
set_option maxHeartbeats 4000000 in
set_option maxRecDepth 20000 in
theorem plain_ok {u : World} {S : Nat → Prop} {c : Cs} {f1 f2 f3 f4 : Option Addr} {g1 g2 g3 g4 : Nat} (h4 : Sl kMd u S (.slice f4 c.mds.length g4) c.mds) (hS : ∀ k, S k → k < u.heap.size) : Calls Tryz.prog 61 #[.agg #[.string c.nm, .bool c.face, .bool c.fin, .int .i64 c.sup, .slice f1 c.faces.length g1, .slice f2 c.flds.length g2, .slice f3 c.stcs.length g3, .slice f4 c.mds.length g4]] u fun e u' => e = .returned (.bool (plainX c)) ∧ Below u.heap.size u u' := by
  obtain ⟨W, hW⟩ : ∃ W, u.alloc (.cells #[.string c.nm, .bool c.face, .bool c.fin, .int .i64 c.sup, .slice f1 c.faces.length g1, .slice f2 c.flds.length g2, .slice f3 c.stcs.length g3, .slice f4 c.mds.length g4] 34) = W := ⟨_, rfl⟩
  have hB : Below u.heap.size u W := by rw [← hW]; exact (Below.refl _ _).alloc (Nat.le_refl _) _
  have HB : Hid (Below u.heap.size u W) := hB
  have hC := conM_ok (F := 93) (enters_of Tryz.func93 (by kernel_rfl) rfl) (post := #[]) (w := W) (f := oddM) (h4.keep fun b hb => hB.block b (hS b hb)) (fun k hk => Nat.lt_of_lt_of_le (hS k hk) hB.size) (fun u' x cs hb _ hR => (odd_ok hR).mono fun e u2 ⟨a, b⟩ => ⟨a, b.mono hb.size⟩)
  have HS : Hid (W.heap.size = u.heap.size + 1) := by show _ = _; rw [← hW]; simp
  obtain ⟨M, hM⟩ : ∃ M, c.mds.any oddM = M := ⟨_, rfl⟩
  rw [hM] at hC
  have hO : plainX c = !((c.fin || decide (0 < c.flds.length) || decide (0 < c.stcs.length)) || M) := by unfold plainX; rw [hM]
  rw [hO]
  have w2 : W.cell? ⟨u.heap.size, 2, none⟩ = some (.bool c.fin) := by rw [← hW]; exact bxq_cell (heap_alloc_new _ _) rfl
  have w5 : W.cell? ⟨u.heap.size, 5, none⟩ = some (.slice f2 c.flds.length g2) := by rw [← hW]; exact bxq_cell (heap_alloc_new _ _) rfl
  have w6 : W.cell? ⟨u.heap.size, 6, none⟩ = some (.slice f3 c.stcs.length g3) := by rw [← hW]; exact bxq_cell (heap_alloc_new _ _) rfl
  have w7 : W.cell? ⟨u.heap.size, 7, none⟩ = some (.slice f4 c.mds.length g4) := by rw [← hW]; exact bxq_cell (heap_alloc_new _ _) rfl
  generalize c.flds.length = n2 at *
  generalize c.stcs.length = n3 at *
  generalize c.mds.length = n4 at *
  generalize c.faces.length = n1 at *
  generalize c.fin = B1 at *
  clear hO hM hB h4 hS
  subst hW
  rcases B1 with _ | _ <;> rcases n2 with _ | n2 <;> rcases n3 with _ | n3
  all_goals
    go_enter Tryz.func61, Tryz.ntmps61
    go_wp2_with (go_at_call 65; refine hC.mono ?_; rintro e u1 ⟨rfl, hb⟩; have HB1 : Hid (Below u.heap.size u u1) := HB.out.trans (hb.mono (by rw [HS.out]; omega)); clear hC hb)
    go_ret
    exact ⟨by first | rfl | simp, by first | exact HB1.out | exact HB.out⟩
end Go.Proofs.YtbbmgjcabmjjdaaGreatDoor
namespace Go.Proofs.YtbbmgjcabmjjdaaGreatDoor
open Go.RowKit

/-- The tree and a box that holds it, whatever is made behind. -/
structure Tb (u : World) (S : Nat → Prop) (v : Value) (p : Pg) (bx : Nat) : Prop where
  box : u.cell? ⟨bx, 0, none⟩ = some v
  tr : Sl kCs u S v (trQ p)
  lo : ∀ k, S k → k < u.heap.size
theorem Tb.go {u u' : World} {S : Nat → Prop} {v : Value} {p : Pg} {bx : Nat} (h : Tb u S v p bx) (hb : Below u.heap.size u u') : Tb u' S v p bx := by
  have hl : bx < u.heap.size := by
    apply Nat.lt_of_not_le
    intro hn
    have e : u.heap[bx]? = none := Array.getElem?_eq_none hn
    have := h.box
    simp only [World.cell?, e] at this
    cases this
  exact ⟨by rw [cell_same (hb.block bx hl)]; exact h.box, h.tr.keep fun b q => hb.block b (h.lo b q), fun k q => Nat.lt_of_lt_of_le (h.lo k q) hb.size⟩
theorem Tb.mk_ {w : World} {S : Nat → Prop} {v : Value} {p : Pg} (h : Sl kCs w S v (trQ p)) (hS : ∀ k, S k → k < w.heap.size) : Tb (w.alloc (.cells #[v] 63)) S v p w.heap.size :=
  ⟨bxq_cell (heap_alloc_new _ _) rfl, h.keep fun b q => Below.heap_alloc _ _ _ (hS b q), fun k q => by have := hS k q; simp; omega⟩
theorem mu_hS {w u : World} {S : Nat → Prop} (hS : ∀ k, S k → k < w.heap.size) (hb : w.heap.size ≤ u.heap.size) : ∀ k, S k → k < u.heap.size := fun k q => Nat.lt_of_lt_of_le (hS k q) hb
theorem bad3_eq (p : Pg) (i : Nat) : bad3 p i = ((ofJ p (11 + i)).faces.any (fun f => !faceJ p f) || ((ofJ p (11 + i)).face && !plainX (ofJ p (11 + i)))) := by
  unfold bad3 plainX
  rw [Bool.not_not]; rfl
set_option maxHeartbeats 4000000 in
set_option maxRecDepth 20000 in
theorem wface_ok {w : World} {S : Nat → Prop} {v : Value} {p : Pg} (h : Sl kCs w S v (trQ p)) (hS : ∀ k, S k → k < w.heap.size) {i : Nat} (hi : i < p.cls.length) : Calls Tryz.prog 31 #[v, .int .i64 (11 + (i : Int))] w fun e w' => e = .returned (.bool (bad3 p i)) ∧ Below w.heap.size w w' := by
  have hT := Tb.mk_ h hS
  have hv := h
  obtain ⟨ao, cap, rfl, hmx, -⟩ := hv
  unfold maxLen at hmx
  have hk : isJ p (11 + (i : Int)) = true := by simp [isJ]; omega
  have HB : Hid (Below w.heap.size w (w.alloc (.cells #[.slice ao (trQ p).length cap] 63))) := (Below.refl _ _).alloc (Nat.le_refl _) _
  have HZ : Hid ((w.alloc (.cells #[.slice ao (trQ p).length cap] 63)).heap.size = w.heap.size + 1) := by show _ = _; simp
  rw [bad3_eq]
  obtain ⟨i1, sb, so, f1, f2, f3, f4, g1, g2, g3, g4, e1, hi1, rfl, -, ⟨-, t1, -, -, t4, -, -, -⟩, q⟩ := tq_get hT.tr hk
  rw [cl_user (by omega)] at t1 t4 q
  have hC := conI_ok (F := 59) (enters_of Tryz.func59 (by kernel_rfl) rfl) (post := #[.pointer (some ⟨w.heap.size, 0, none⟩)]) (f := fun x => !faceJ p x) q.out.1 hT.lo (fun u' x cs hb _ hR => by
    obtain rfl := hR
    have hT' := hT.go hb
    exact (wface1_ok hT'.box hT'.tr x).mono fun e u2 ⟨a, b⟩ => ⟨a, b ▸ Below.refl _ _⟩)
  have HT : Hid _ := hT
  have HK : Hid (isJ p (11 + (i : Int)) = true) := hk
  have hl : (i1 : Int) < ((trQ p).length : Int) := by omega
  have b0 := hT.box
  have HG : Hid (11 ≤ (i1 : Int)) := by show _ ≤ _; omega
  rw [e1] at *
  generalize hA : (ofJ p (i1 : Int)).faces.any (fun x => !faceJ p x) = A at *
  clear hA h hS hT hk q e1 hi
  rcases A with _ | _ <;> rcases hf : (ofJ p (i1 : Int)).face with _ | _
  all_goals
    rw [hf] at t1
    go_enter Tryz.func31, Tryz.ntmps31
    go_wp2_with (first
      | (go_at_call 60; refine hC.mono ?_; rintro e u1 ⟨rfl, hb⟩; have HB1 : Hid (Below w.heap.size w u1) := HB.out.trans (hb.mono (by rw [HZ.out]; omega)); have hT1 := HT.out.go hb; have b1 := hT1.box; obtain ⟨i2, sb2, so2, f1, f2, f3, f4, g1, g2, g3, g4, e2, -, e4, -, ⟨t0', t1', t2', t3', t4', t5', t6', t7'⟩, q'⟩ := tq_get hT1.tr HK.out; obtain rfl : i2 = i1 := (by omega); obtain ⟨rfl, rfl⟩ : sb = sb2 ∧ so = so2 := (by injection e4 with e4; injection e4 with a b; exact ⟨a, b⟩); rw [cl_user HG.out] at t0' t1' t2' t3' t4' t5' t6' t7' q'; rw [hf] at t1'; have hP := plain_ok (f1 := f1) (f2 := f2) (f3 := f3) (g1 := g1) (g2 := g2) (g3 := g3) q'.out.2.2.2 hT1.lo; rw [hf] at hP; clear hC hb hT1 q')
      | (go_at_call 61; refine hP.mono ?_; rintro e u2 ⟨rfl, hb⟩; have HB2 : Hid (Below w.heap.size w u2) := HB1.out.trans (hb.mono HB1.out.size); clear hP hb))
    go_ret
    exact ⟨by first | rfl | simp, by first | exact HB2.out | exact HB1.out⟩
end Go.Proofs.YtbbmgjcabmjjdaaGreatDoor
namespace Go.Proofs.YtbbmgjcabmjjdaaGreatDoor
open Go.RowKit

/-- Counts and numbers of a program, whatever it is within what an argument holds. -/
structure OqM (m : Md) : Prop where
  nargs : m.args.length ≤ 1048576
  args : ∀ x ∈ m.args, rg x
  ret : rg m.ret
  lo : rg m.lo
structure OqC (c : Cs) : Prop where
  sup : rg c.sup
  nfaces : c.faces.length ≤ 1048576
  faces : ∀ x ∈ c.faces, rg x
  nflds : c.flds.length ≤ 1048576
  flds : ∀ f ∈ c.flds, rg f.ty
  nstcs : c.stcs.length ≤ 1048576
  stcs : ∀ f ∈ c.stcs, rg f.ty
  nmds : c.mds.length ≤ 1048576
  mds : ∀ m ∈ c.mds, OqM m
structure Okq (p : Pg) : Prop where
  main : rg p.main
  n : p.cls.length ≤ 1048576
  cls : ∀ c ∈ p.cls, OqC c
theorem Okz.q {p : Pg} (h : Okz p) : Okq p :=
  ⟨h.main, by have := h.n; omega, fun c hc => by
    have k := h.cls c hc
    exact ⟨k.sup, k.nfaces, k.faces, by have := k.nflds; omega, k.flds, k.nstcs, k.stcs, by have := k.nmds; omega, fun m hm => ⟨(k.mds m hm).nargs, (k.mds m hm).args, (k.mds m hm).ret, (k.mds m hm).lo⟩⟩⟩
theorem Okq.at {p : Pg} (h : Okq p) {i : Nat} (hi : i < p.cls.length) : OqC (ofJ p (11 + i)) := h.cls _ (List.mem_of_getElem? (user_of hi).2.1)
set_option maxRecDepth 20000 in
theorem wsg1_ok {u : World} {S : Nat → Prop} {v : Value} {p : Pg} {bx : Nat} (hb : u.cell? ⟨bx, 0, none⟩ = some v) (h : Sl kCs u S v (trQ p)) {x : Int} (hx : rg x) : Calls Tryz.prog 96 #[.int .i64 x, .pointer (some ⟨bx, 0, none⟩)] u fun e u' => e = .returned (.bool (!typJ p x)) ∧ u' = u := by
  have hT := isType_ok h hx
  obtain ⟨ao, cap, rfl, -⟩ := h
  generalize typJ p x = R at *
  go_enter Tryz.func96, Tryz.ntmps96
  go_wp2_with (go_at_call 63; refine hT.mono ?_; rintro e w9 ⟨rfl, hw9⟩; replace hw9 := hw9.symm; subst hw9)
  go_ret
  exact ⟨by first | rfl | simp, rfl⟩
set_option maxRecDepth 20000 in
theorem wsgf_ok {u : World} {S : Nat → Prop} {v : Value} {p : Pg} {bx : Nat} (hT : Tb u S v p bx) {f : Fd} (hx : rg f.ty) : Calls Tryz.prog 62 #[.agg #[.string f.nm, .int .i64 f.ty], .pointer (some ⟨bx, 0, none⟩)] u fun e u' => e = .returned (.bool (!typJ p f.ty)) ∧ Below u.heap.size u u' := by
  have HB : Hid (Below u.heap.size u (u.alloc (.cells #[.string f.nm, .int .i64 f.ty] 71))) := (Below.refl _ _).alloc (Nat.le_refl _) _
  have hT2 := hT.go HB.out
  have b0 := hT2.box
  have hI := isType_ok hT2.tr hx
  obtain ⟨ao, cap, rfl, -⟩ := hT.tr
  generalize typJ p f.ty = R at *
  clear hT hT2
  go_enter Tryz.func62, Tryz.ntmps62
  go_wp2_with (go_at_call 63; refine hI.mono ?_; rintro e w9 ⟨rfl, hw9⟩; replace hw9 := hw9.symm; subst hw9)
  go_ret
  exact ⟨by first | rfl | simp, HB.out⟩
set_option maxHeartbeats 1000000 in
set_option maxRecDepth 20000 in
theorem few_ok {u : World} {S : Nat → Prop} {m : Md} {cs : List Value} (hR : kMd.R u S m cs) (hn : m.args.length ≤ 1048576) : Calls Tryz.prog 68 #[.agg cs.toArray] u fun e u' => e = .returned (.bool (decide (m.lo < needJ m))) ∧ Below u.heap.size u u' := by
  obtain ⟨v1, v2, v3, v4, rfl, q1, q2, q3, q4⟩ := hR
  obtain ⟨p1, c1, rfl, -⟩ := q1
  obtain ⟨p2, c2, rfl, -⟩ := q2
  obtain ⟨p3, c3, rfl, -⟩ := q3
  obtain ⟨p4, c4, rfl, -⟩ := q4
  have hB : ∀ row : Array Value, Below u.heap.size u (u.alloc (.cells row 30)) := fun row => (Below.refl _ _).alloc (Nat.le_refl _) _
  unfold needJ
  generalize m.args.length = n at *
  have hw : wrap64 ((n : Int) + 1) = (n : Int) + 1 := by unfold wrap64; omega
  cases hs : m.stc
  all_goals
    go_enter Tryz.func68, Tryz.ntmps68
    go_wp2
    go_ret
    exact ⟨by first | rfl | simp, hB _⟩
set_option maxHeartbeats 2000000 in
set_option maxRecDepth 20000 in
theorem wsig_ok {u : World} {S Sm : Nat → Prop} {v : Value} {p : Pg} (h : Sl kCs u S v (trQ p)) (hS : ∀ k, S k → k < u.heap.size) {m : Md} {cs : List Value} (hR : kMd.R u Sm m cs) (hSm : ∀ k, Sm k → k < u.heap.size) (ho : OqM m) : Calls Tryz.prog 67 #[v, .agg cs.toArray] u fun e u' => e = .returned (.bool (m.args.any (fun t => !typJ p t) || (m.ret != 0 && !typJ p m.ret))) ∧ Below u.heap.size u u' := by
  have hT := Tb.mk_ h hS
  obtain ⟨v1, v2, v3, v4, rfl, q1, q2, q3, q4⟩ := hR
  have hq1 := q1
  obtain ⟨p1, c1, rfl, -⟩ := q1
  obtain ⟨p2, c2, rfl, -⟩ := q2
  obtain ⟨p3, c3, rfl, -⟩ := q3
  obtain ⟨p4, c4, rfl, -⟩ := q4
  have hv := h
  obtain ⟨ao, cap, rfl, -⟩ := hv
  have hb1 : Below u.heap.size u (u.alloc (.cells #[.slice ao (trQ p).length cap] 63)) := (Below.refl _ _).alloc (Nat.le_refl _) _
  have hz1 : (u.alloc (.cells #[.slice ao (trQ p).length cap] 63)).heap.size = u.heap.size + 1 := by simp
  have hb2 : Below (u.heap.size + 1) (u.alloc (.cells #[.slice ao (trQ p).length cap] 63)) ((u.alloc (.cells #[.slice ao (trQ p).length cap] 63)).alloc (.cells #[.string m.nm, .bool m.stc, .slice p1 m.args.length c1, .int .i64 m.ret, .int .i64 m.lo, .int .i64 m.st, .slice p2 m.code.length c2, .slice p3 m.tab.length c3, .slice p4 m.maps.length c4] 30)) := (Below.refl _ _).alloc (by omega) _
  have hN := heap_alloc_new (u.alloc (.cells #[.slice ao (trQ p).length cap] 63)) (.cells #[.string m.nm, .bool m.stc, .slice p1 m.args.length c1, .int .i64 m.ret, .int .i64 m.lo, .int .i64 m.st, .slice p2 m.code.length c2, .slice p3 m.tab.length c3, .slice p4 m.maps.length c4] 30)
  rw [hz1] at hN
  obtain ⟨W, hW⟩ : ∃ W, (u.alloc (.cells #[.slice ao (trQ p).length cap] 63)).alloc (.cells #[.string m.nm, .bool m.stc, .slice p1 m.args.length c1, .int .i64 m.ret, .int .i64 m.lo, .int .i64 m.st, .slice p2 m.code.length c2, .slice p3 m.tab.length c3, .slice p4 m.maps.length c4] 30) = W := ⟨_, rfl⟩
  rw [hW] at hb2 hN
  have hTW : Tb W S (.slice ao (trQ p).length cap) p u.heap.size := hT.go (by rw [hz1]; exact hb2)
  have HT : Hid (Tb W S (.slice ao (trQ p).length cap) p u.heap.size) := hTW
  have HB : Hid (Below u.heap.size u W) := hb1.trans (hb2.mono (by omega))
  have HN : Hid (W.heap[u.heap.size + 1]? = some (.cells #[.string m.nm, .bool m.stc, .slice p1 m.args.length c1, .int .i64 m.ret, .int .i64 m.lo, .int .i64 m.st, .slice p2 m.code.length c2, .slice p3 m.tab.length c3, .slice p4 m.maps.length c4] 30 (0, 0))) := hN
  have hC := conI_ok (F := 96) (enters_of Tryz.func96 (by kernel_rfl) rfl) (post := #[.pointer (some ⟨u.heap.size, 0, none⟩)]) (f := fun x => !typJ p x) (hq1.keep fun b hb => HB.out.block b (hSm b hb)) (fun k q => Nat.lt_of_lt_of_le (hSm k q) HB.out.size) (fun u' x cs hb hx hR => by
    obtain rfl := hR
    have hT' := HT.out.go hb
    exact (wsg1_ok hT'.box hT'.tr (ho.args x hx)).mono fun e u2 ⟨a, b⟩ => ⟨a, b ▸ Below.refl _ _⟩)
  have HO : Hid (rg m.ret) := ho.ret
  have m2 : W.cell? ⟨u.heap.size + 1, 2, none⟩ = some (.slice p1 m.args.length c1) := bxq_cell hN rfl
  generalize hA : m.args.any (fun x => !typJ p x) = A at *
  obtain ⟨B, hB⟩ : ∃ B, (m.ret != 0) = B := ⟨_, rfl⟩
  rw [hB]
  clear hA h hS hT hTW hq1 hSm ho hb1 hb2 hN hz1
  subst hW
  rcases A with _ | _ <;> rcases B with _ | _
  all_goals
    go_enter Tryz.func67, Tryz.ntmps67
    go_wp2_with (first
      | (go_at_call 60; refine hC.mono ?_; rintro e u1 ⟨rfl, hb⟩; have HB1 : Hid (Below u.heap.size u u1) := HB.out.trans (hb.mono HB.out.size); have hn1 := (hb.block (u.heap.size + 1) (Array.getElem?_eq_some_iff.1 HN.out).1).trans HN.out; have m3 : u1.cell? ⟨u.heap.size + 1, 3, none⟩ = some (.int .i64 m.ret) := bxq_cell hn1 rfl; have hT1 := HT.out.go hb; have b1 := hT1.box; have hI := isType_ok hT1.tr HO.out; clear hC hb hT1 hn1)
      | (go_at_call 63; refine hI.mono ?_; rintro e w9 ⟨rfl, hw9⟩; replace hw9 := hw9.symm; subst hw9; clear hI))
    go_ret
    exact ⟨by first | rfl | simp, HB1.out⟩
end Go.Proofs.YtbbmgjcabmjjdaaGreatDoor
