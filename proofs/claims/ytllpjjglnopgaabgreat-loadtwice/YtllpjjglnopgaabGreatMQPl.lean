/- The program's own Load: the place of a signature. -/
import Derived.Test.YtllpjjglnopgaabGreatMQSi2
namespace Go.Proofs.YtllpjjglnopgaabGreat
open Go.RowKit

theorem cmpB_zero : ∀ (a b : List UInt8), (Lib.compareBytes a b == 0) = (a == b)
  | [], [] => rfl
  | [], _ :: _ => by simp [Lib.compareBytes]
  | _ :: _, [] => by simp [Lib.compareBytes]
  | x :: a, y :: b => by
    unfold Lib.compareBytes
    by_cases h1 : x < y
    · have hn : x ≠ y := fun e => by subst e; exact UInt8.lt_irrefl x h1
      simp [h1, hn]
    · by_cases h2 : y < x
      · have hn : x ≠ y := fun e => by subst e; exact UInt8.lt_irrefl x h2
        simp [h1, h2, hn]
      · have he : x = y := UInt8.le_antisymm (UInt8.not_lt.1 h2) (UInt8.not_lt.1 h1)
        subst he
        rw [if_neg h1, if_neg h1, cmpB_zero a b]; simp
theorem cmpI_zero (x y : Int) : cmpI x y = 0 ↔ x = y := by
  unfold cmpI
  split
  · constructor <;> intro h <;> omega
  · split
    · constructor <;> intro h <;> omega
    · constructor <;> intro h <;> omega
theorem cmpL_zero : ∀ (a b : List Int), cmpL a b = 0 ↔ a = b
  | [], [] => by simp [cmpL]
  | [], _ :: _ => by simp [cmpL]
  | _ :: _, [] => by simp [cmpL]
  | x :: a, y :: b => by
    unfold cmpL
    by_cases h : cmpI x y = 0
    · rw [if_pos h, cmpL_zero a b, (cmpI_zero x y).1 h]; simp
    · rw [if_neg h]
      have hn : x ≠ y := fun e => h ((cmpI_zero x y).2 e)
      simp [h, hn]
theorem sgC_zero (a b : Sg) : (sgC a b == 0) = likeJ a.nm a.args a.ret b.nm b.args b.ret := by
  unfold sgC likeJ
  rcases h : eqB a.nm b.nm with _ | _
  · have : (cmpS a.nm b.nm == 0) = false := by unfold cmpS; rw [cmpB_zero]; exact h
    simpa using this
  · rw [if_pos rfl]
    by_cases hr : a.ret = b.ret
    · rw [if_pos hr]
      have h3 : (a.ret == b.ret) = true := by simpa using hr
      by_cases hl : a.args = b.args
      · have h2 : (a.args == b.args) = true := by simpa using hl
        rw [(cmpL_zero _ _).2 hl, h2, h3]; rfl
      · have h2 : (a.args == b.args) = false := by simpa using hl
        have : cmpL a.args b.args ≠ 0 := fun e => hl ((cmpL_zero _ _).1 e)
        rw [h2, h3]; simpa using this
    · rw [if_neg hr]
      have h3 : (a.ret == b.ret) = false := by simpa using hr
      have : cmpI a.ret b.ret ≠ 0 := fun e => hr ((cmpI_zero _ _).1 e)
      rw [h3]; simpa using this
set_option maxHeartbeats 8000000 in
set_option maxRecDepth 20000 in
theorem pl1_ok {u : World} {Se Ss : Nat → Prop} {e : En} {cse : List Value} (hE : kEn.R u Se e cse) (le : ∀ k, Se k → k < u.heap.size) {s : Sg} {vs : Value} {bs : Nat} (hb : u.heap[bs]? = some (.cells #[.string s.nm, vs, .int .i64 s.ret] 66 (0, 0))) (hs : Sl kI u Ss vs s.args) (ls : ∀ k, Ss k → k < u.heap.size) : Calls Tryz.prog 40 #[.agg cse.toArray, .pointer (some ⟨bs, 0, none⟩)] u fun r u' => r = .returned (.bool (likeJ e.nm e.args e.ret s.nm s.args s.ret)) ∧ Below u.heap.size u u' := by
  obtain ⟨v1, rfl, q1⟩ := hE
  have HX : Hid (∀ w, Lys u w → Calls Tryz.prog 42 #[.agg #[.string e.nm, v1, .int .i64 e.ret], .agg #[.string s.nm, vs, .int .i64 s.ret]] w fun r u' => r = .returned (.int .i64 (sgC (sgE e) s)) ∧ Lys w u') := fun w hw =>
    sgc_ok (a := sgE e) (b := s) (q1.keep fun k q => hw.bl.block k (le k q)) (hs.keep fun k q => hw.bl.block k (ls k q)) (fun k q => Nat.lt_of_lt_of_le (le k q) hw.bl.size) (fun k q => Nat.lt_of_lt_of_le (ls k q) hw.bl.size)
  obtain ⟨p1, c1, rfl, -⟩ := q1
  obtain ⟨p2, c2, rfl, -⟩ := hs
  have hZ := sgC_zero (sgE e) s
  change (sgC (sgE e) s == 0) = likeJ e.nm e.args e.ret s.nm s.args s.ret at hZ
  rw [← hZ]
  generalize sgC (sgE e) s = C at *
  have hbl := (Array.getElem?_eq_some_iff.1 hb).1
  have HL0 : Hid (Lys u (u.alloc (.cells #[.string e.nm, .slice p1 e.args.length c1, .int .i64 e.ret, .int .i64 e.cl, .int .i64 e.me] 68))) := (Lys.refl u).alloc _
  have hn0 : (u.alloc (.cells #[.string e.nm, .slice p1 e.args.length c1, .int .i64 e.ret, .int .i64 e.cl, .int .i64 e.me] 68)).heap[u.heap.size]? = some (.cells #[.string e.nm, .slice p1 e.args.length c1, .int .i64 e.ret, .int .i64 e.cl, .int .i64 e.me] 68) := heap_alloc_new _ _
  have hn1 : (u.alloc (.cells #[.string e.nm, .slice p1 e.args.length c1, .int .i64 e.ret, .int .i64 e.cl, .int .i64 e.me] 68)).heap[bs]? = some (.cells #[.string s.nm, .slice p2 s.args.length c2, .int .i64 s.ret] 66 (0, 0)) := (Below.heap_alloc _ _ _ hbl).trans hb
  have HN0 : Hid ((u.alloc (.cells #[.string e.nm, .slice p1 e.args.length c1, .int .i64 e.ret, .int .i64 e.cl, .int .i64 e.me] 68)).heap[u.heap.size]? = some (.cells #[.string e.nm, .slice p1 e.args.length c1, .int .i64 e.ret, .int .i64 e.cl, .int .i64 e.me] 68)) := hn0
  have HN1 : Hid ((u.alloc (.cells #[.string e.nm, .slice p1 e.args.length c1, .int .i64 e.ret, .int .i64 e.cl, .int .i64 e.me] 68)).heap[bs]? = some (.cells #[.string s.nm, .slice p2 s.args.length c2, .int .i64 s.ret] 66 (0, 0))) := hn1
  have na0 : (u.alloc (.cells #[.string e.nm, .slice p1 e.args.length c1, .int .i64 e.ret, .int .i64 e.cl, .int .i64 e.me] 68)).cell? ⟨u.heap.size, 0, none⟩ = some (.string e.nm) := bxq_cell hn0 rfl
  have na1 : (u.alloc (.cells #[.string e.nm, .slice p1 e.args.length c1, .int .i64 e.ret, .int .i64 e.cl, .int .i64 e.me] 68)).cell? ⟨u.heap.size, 1, none⟩ = some (.slice p1 e.args.length c1) := bxq_cell hn0 rfl
  have na2 : (u.alloc (.cells #[.string e.nm, .slice p1 e.args.length c1, .int .i64 e.ret, .int .i64 e.cl, .int .i64 e.me] 68)).cell? ⟨u.heap.size, 2, none⟩ = some (.int .i64 e.ret) := bxq_cell hn0 rfl
  have na3 : (u.alloc (.cells #[.string e.nm, .slice p1 e.args.length c1, .int .i64 e.ret, .int .i64 e.cl, .int .i64 e.me] 68)).cell? ⟨u.heap.size, 3, none⟩ = some (.int .i64 e.cl) := bxq_cell hn0 rfl
  have na4 : (u.alloc (.cells #[.string e.nm, .slice p1 e.args.length c1, .int .i64 e.ret, .int .i64 e.cl, .int .i64 e.me] 68)).cell? ⟨u.heap.size, 4, none⟩ = some (.int .i64 e.me) := bxq_cell hn0 rfl
  have nb0 : (u.alloc (.cells #[.string e.nm, .slice p1 e.args.length c1, .int .i64 e.ret, .int .i64 e.cl, .int .i64 e.me] 68)).cell? ⟨bs, 0, none⟩ = some (.string s.nm) := bxq_cell hn1 rfl
  have nb1 : (u.alloc (.cells #[.string e.nm, .slice p1 e.args.length c1, .int .i64 e.ret, .int .i64 e.cl, .int .i64 e.me] 68)).cell? ⟨bs, 1, none⟩ = some (.slice p2 s.args.length c2) := bxq_cell hn1 rfl
  have nb2 : (u.alloc (.cells #[.string e.nm, .slice p1 e.args.length c1, .int .i64 e.ret, .int .i64 e.cl, .int .i64 e.me] 68)).cell? ⟨bs, 2, none⟩ = some (.int .i64 s.ret) := bxq_cell hn1 rfl
  
  clear le ls hn0 hn1 hb hZ
  go_enter Tryz.func40, Tryz.ntmps40
  go_wp2_with (fail)
  go_region_held3 (fun w' => w'.cell? ⟨u.heap.size, 0, none⟩ = some (.string e.nm) ∧ w'.cell? ⟨u.heap.size, 1, none⟩ = some (.slice p1 e.args.length c1) ∧ w'.cell? ⟨u.heap.size, 2, none⟩ = some (.int .i64 e.ret) ∧ w'.cell? ⟨u.heap.size, 3, none⟩ = some (.int .i64 e.cl) ∧ w'.cell? ⟨u.heap.size, 4, none⟩ = some (.int .i64 e.me) ∧ w'.cell? ⟨bs, 0, none⟩ = some (.string s.nm) ∧ w'.cell? ⟨bs, 1, none⟩ = some (.slice p2 s.args.length c2) ∧ w'.cell? ⟨bs, 2, none⟩ = some (.int .i64 s.ret)) (go_keep) ((first
    | (go_at_call 41; refine (ofe_ok _ _ _ _ _ _ _ _).mono ?_; rintro e w1 ⟨rfl, hl⟩; have HL1 : Hid (Lys u w1) := (by show Lys u w1; with_reducible first | exact HL0.out.drew.trans hl | exact HL0.out.trans hl | exact HL0.out.drew.drew.trans hl); have HM0 : Hid (w1.heap[u.heap.size]? = some (.cells #[.string e.nm, .slice p1 e.args.length c1, .int .i64 e.ret, .int .i64 e.cl, .int .i64 e.me] 68)) := lys_of hl HN0.out; have HM1 : Hid (w1.heap[bs]? = some (.cells #[.string s.nm, .slice p2 s.args.length c2, .int .i64 s.ret] 66 (0, 0))) := lys_of hl HN1.out; have ma0 : w1.cell? ⟨u.heap.size, 0, none⟩ = some (.string e.nm) := bxq_cell HM0.out rfl; have ma1 : w1.cell? ⟨u.heap.size, 1, none⟩ = some (.slice p1 e.args.length c1) := bxq_cell HM0.out rfl; have ma2 : w1.cell? ⟨u.heap.size, 2, none⟩ = some (.int .i64 e.ret) := bxq_cell HM0.out rfl; have ma3 : w1.cell? ⟨u.heap.size, 3, none⟩ = some (.int .i64 e.cl) := bxq_cell HM0.out rfl; have ma4 : w1.cell? ⟨u.heap.size, 4, none⟩ = some (.int .i64 e.me) := bxq_cell HM0.out rfl; have mb0 : w1.cell? ⟨bs, 0, none⟩ = some (.string s.nm) := bxq_cell HM1.out rfl; have mb1 : w1.cell? ⟨bs, 1, none⟩ = some (.slice p2 s.args.length c2) := bxq_cell HM1.out rfl; have mb2 : w1.cell? ⟨bs, 2, none⟩ = some (.int .i64 s.ret) := bxq_cell HM1.out rfl; clear hl)
    | (go_at_call 42; refine (HX.out _ (by with_reducible first | exact HL1.out | exact HL1.out.drew)).mono ?_; rintro e w3 ⟨rfl, hl⟩; have HL3 : Hid (Lys u w3) := (by show Lys u w3; with_reducible first | exact HL1.out.trans hl | exact HL1.out.drew.trans hl); have hp0 := lys_of hl HM0.out; have hp1 := lys_of hl HM1.out; have xa0 : w3.cell? ⟨u.heap.size, 0, none⟩ = some (.string e.nm) := bxq_cell hp0 rfl; have xa1 : w3.cell? ⟨u.heap.size, 1, none⟩ = some (.slice p1 e.args.length c1) := bxq_cell hp0 rfl; have xa2 : w3.cell? ⟨u.heap.size, 2, none⟩ = some (.int .i64 e.ret) := bxq_cell hp0 rfl; have xa3 : w3.cell? ⟨u.heap.size, 3, none⟩ = some (.int .i64 e.cl) := bxq_cell hp0 rfl; have xa4 : w3.cell? ⟨u.heap.size, 4, none⟩ = some (.int .i64 e.me) := bxq_cell hp0 rfl; have xb0 : w3.cell? ⟨bs, 0, none⟩ = some (.string s.nm) := bxq_cell hp1 rfl; have xb1 : w3.cell? ⟨bs, 1, none⟩ = some (.slice p2 s.args.length c2) := bxq_cell hp1 rfl; have xb2 : w3.cell? ⟨bs, 2, none⟩ = some (.int .i64 s.ret) := bxq_cell hp1 rfl; clear hl hp0 hp1)))
  all_goals
    go_wp2_with (fail)
    go_ret
    exact ⟨rfl, HL3.out.bl⟩
/-- The place of a signature among entries; -1. -/
def plJ (es : List En) (s : Sg) : Int := match OfJ es s.nm s.args s.ret with
  | some i => i
  | none => -1
theorem plJ_neg (es : List En) (s : Sg) : decide (plJ es s < 0) = (OfJ es s.nm s.args s.ret).isNone := by
  unfold plJ
  cases OfJ es s.nm s.args s.ret <;> simp
set_option maxHeartbeats 1000000 in
set_option maxRecDepth 20000 in
theorem place_ok {w : World} {Sv Ss : Nat → Prop} {v vs : Value} {es : List En} {s : Sg} (hv : Sl kEn w Sv v es) (lv : ∀ k, Sv k → k < w.heap.size) (hs : Sl kI w Ss vs s.args) (ls : ∀ k, Ss k → k < w.heap.size) : Calls Tryz.prog 22 #[v, .agg #[.string s.nm, vs, .int .i64 s.ret]] w fun e w' => e = .returned (.int .i64 (plJ es s)) ∧ Below w.heap.size w w' := by
  have HB : Hid (Below w.heap.size w (w.alloc (.cells #[.string s.nm, vs, .int .i64 s.ret] 66))) := (Below.refl _ _).alloc (Nat.le_refl _) _
  have hN := heap_alloc_new w (.cells #[.string s.nm, vs, .int .i64 s.ret] 66)
  have HZ : Hid ((w.alloc (.cells #[.string s.nm, vs, .int .i64 s.ret] 66)).heap.size = w.heap.size + 1) := by show _ = _; simp
  have hC := idxE_ok (F := 40) (enters_of Tryz.func40 (by kernel_rfl) rfl) (post := #[.pointer (some ⟨w.heap.size, 0, none⟩)]) (w := w.alloc (.cells #[.string s.nm, vs, .int .i64 s.ret] 66)) (f := fun e : En => likeJ e.nm e.args e.ret s.nm s.args s.ret) (hv.keep fun b q => HB.out.block b (lv b q)) (fun k q => Nat.lt_of_lt_of_le (lv k q) HB.out.size) (fun u x cs hb _ hR => by
    have hb2 : Below w.heap.size w u := HB.out.trans (hb.mono HB.out.size)
    exact (pl1_ok hR (fun k q => Nat.lt_of_lt_of_le (lv k q) hb2.size) ((hb.block w.heap.size (by rw [HZ.out]; omega)).trans hN) (hs.keep fun b q => hb2.block b (ls b q)) (fun k q => Nat.lt_of_lt_of_le (ls k q) hb2.size)).mono fun e u2 ⟨a, b⟩ => ⟨a, b.mono hb.size⟩)
  have hI : idxF (fun e : En => likeJ e.nm e.args e.ret s.nm s.args s.ret) es = plJ es s := rfl
  rw [hI] at hC
  obtain ⟨pa, pc, rfl, -⟩ := hv
  obtain ⟨pb, pd, rfl, -⟩ := hs
  generalize plJ es s = R at *
  clear lv ls hN hI
  go_enter Tryz.func22, Tryz.ntmps22
  go_wp2_with (go_at_call 39; refine hC.mono ?_; rintro e u1 ⟨rfl, hb⟩; have HB1 : Hid (Below w.heap.size w u1) := HB.out.trans (hb.mono (by rw [HZ.out]; omega)); clear hC hb)
  go_ret
  exact ⟨rfl, HB1.out⟩
end Go.Proofs.YtllpjjglnopgaabGreat
