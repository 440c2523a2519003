/- The program's own Load: rule 6, what a Face asks for is there. -/
import Derived.Test.YtbbmgjcabmjjdaaGreatDoorMQSi2
import Derived.Test.YtbbmgjcabmjjdaaGreatDoorMY15
import Derived.Test.YtbbmgjcabmjjdaaGreatDoorMY18
import Derived.Test.YtbbmgjcabmjjdaaGreatDoorMY17
import Derived.Deep.RegionHeld3
import Derived.Deep.QuietTactic
import Derived.BigQuiet
namespace Go.Proofs.YtbbmgjcabmjjdaaGreatDoor
open Go.RowKit

theorem cmpB_zero : ∀ (a b : List UInt8), (Lib.compareBytes a b == 0) = (a == b)
  | [], [] => rfl
  | [], _ :: _ => by simp [Lib.compareBytes]
  | _ :: _, [] => by simp [Lib.compareBytes]
  | x :: a, y :: b => by
    unfold Lib.compareBytes
    by_cases h1 : x < y
    · have hn : x ≠ y := fun e => by subst e; exact UInt8.lt_irrefl x h1
      simp [h1, hn]
    · by_cases h2 : y < x
      · have hn : x ≠ y := fun e => by subst e; exact UInt8.lt_irrefl x h2
        simp [h1, h2, hn]
      · have he : x = y := UInt8.le_antisymm (UInt8.not_lt.1 h2) (UInt8.not_lt.1 h1)
        subst he
        rw [if_neg h1, if_neg h1, cmpB_zero a b]; simp
theorem cmpI_zero (x y : Int) : cmpI x y = 0 ↔ x = y := by
  unfold cmpI
  split
  · constructor <;> intro h <;> omega
  · split
    · constructor <;> intro h <;> omega
    · constructor <;> intro h <;> omega
theorem cmpL_zero : ∀ (a b : List Int), cmpL a b = 0 ↔ a = b
  | [], [] => by simp [cmpL]
  | [], _ :: _ => by simp [cmpL]
  | _ :: _, [] => by simp [cmpL]
  | x :: a, y :: b => by
    unfold cmpL
    by_cases h : cmpI x y = 0
    · rw [if_pos h, cmpL_zero a b, (cmpI_zero x y).1 h]; simp
    · rw [if_neg h]
      have hn : x ≠ y := fun e => h ((cmpI_zero x y).2 e)
      simp [h, hn]
theorem sgC_zero (a b : Sg) : (sgC a b == 0) = likeJ a.nm a.args a.ret b.nm b.args b.ret := by
  unfold sgC likeJ
  rcases h : eqB a.nm b.nm with _ | _
  · have : (cmpS a.nm b.nm == 0) = false := by unfold cmpS; rw [cmpB_zero]; exact h
    simpa using this
  · rw [if_pos rfl]
    by_cases hr : a.ret = b.ret
    · rw [if_pos hr]
      have h3 : (a.ret == b.ret) = true := by simpa using hr
      by_cases hl : a.args = b.args
      · have h2 : (a.args == b.args) = true := by simpa using hl
        rw [(cmpL_zero _ _).2 hl, h2, h3]; rfl
      · have h2 : (a.args == b.args) = false := by simpa using hl
        have : cmpL a.args b.args ≠ 0 := fun e => hl ((cmpL_zero _ _).1 e)
        rw [h2, h3]; simpa using this
    · rw [if_neg hr]
      have h3 : (a.ret == b.ret) = false := by simpa using hr
      have : cmpI a.ret b.ret ≠ 0 := fun e => hr ((cmpI_zero _ _).1 e)
      rw [h3]; simpa using this
set_option maxHeartbeats 8000000 in
set_option maxRecDepth 20000 in
theorem pl1_ok {u : World} {Se Ss : Nat → Prop} {e : En} {cse : List Value} (hE : kEn.R u Se e cse) (le : ∀ k, Se k → k < u.heap.size) {s : Sg} {vs : Value} {bs : Nat} (hb : u.heap[bs]? = some (.cells #[.string s.nm, vs, .int .i64 s.ret] 95 (0, 0))) (hs : Sl kI u Ss vs s.args) (ls : ∀ k, Ss k → k < u.heap.size) : Calls Tryz.prog 110 #[.agg cse.toArray, .pointer (some ⟨bs, 0, none⟩)] u fun r u' => r = .returned (.bool (likeJ e.nm e.args e.ret s.nm s.args s.ret)) ∧ Below u.heap.size u u' := by
  obtain ⟨v1, rfl, q1⟩ := hE
  have HX : Hid (∀ w, Lys u w → Calls Tryz.prog 73 #[.agg #[.string e.nm, v1, .int .i64 e.ret], .agg #[.string s.nm, vs, .int .i64 s.ret]] w fun r u' => r = .returned (.int .i64 (sgC (sgE e) s)) ∧ Lys w u') := fun w hw =>
    sgc_ok (a := sgE e) (b := s) (q1.keep fun k q => hw.bl.block k (le k q)) (hs.keep fun k q => hw.bl.block k (ls k q)) (fun k q => Nat.lt_of_lt_of_le (le k q) hw.bl.size) (fun k q => Nat.lt_of_lt_of_le (ls k q) hw.bl.size)
  obtain ⟨p1, c1, rfl, -⟩ := q1
  obtain ⟨p2, c2, rfl, -⟩ := hs
  have hZ := sgC_zero (sgE e) s
  change (sgC (sgE e) s == 0) = likeJ e.nm e.args e.ret s.nm s.args s.ret at hZ
  rw [← hZ]
  generalize sgC (sgE e) s = C at *
  have hbl := (Array.getElem?_eq_some_iff.1 hb).1
  have HL0 : Hid (Lys u (u.alloc (.cells #[.string e.nm, .slice p1 e.args.length c1, .int .i64 e.ret, .int .i64 e.cl, .int .i64 e.me] 79))) := (Lys.refl u).alloc _
  have hn0 : (u.alloc (.cells #[.string e.nm, .slice p1 e.args.length c1, .int .i64 e.ret, .int .i64 e.cl, .int .i64 e.me] 79)).heap[u.heap.size]? = some (.cells #[.string e.nm, .slice p1 e.args.length c1, .int .i64 e.ret, .int .i64 e.cl, .int .i64 e.me] 79) := heap_alloc_new _ _
  have hn1 : (u.alloc (.cells #[.string e.nm, .slice p1 e.args.length c1, .int .i64 e.ret, .int .i64 e.cl, .int .i64 e.me] 79)).heap[bs]? = some (.cells #[.string s.nm, .slice p2 s.args.length c2, .int .i64 s.ret] 95 (0, 0)) := (Below.heap_alloc _ _ _ hbl).trans hb
  have HN0 : Hid ((u.alloc (.cells #[.string e.nm, .slice p1 e.args.length c1, .int .i64 e.ret, .int .i64 e.cl, .int .i64 e.me] 79)).heap[u.heap.size]? = some (.cells #[.string e.nm, .slice p1 e.args.length c1, .int .i64 e.ret, .int .i64 e.cl, .int .i64 e.me] 79)) := hn0
  have HN1 : Hid ((u.alloc (.cells #[.string e.nm, .slice p1 e.args.length c1, .int .i64 e.ret, .int .i64 e.cl, .int .i64 e.me] 79)).heap[bs]? = some (.cells #[.string s.nm, .slice p2 s.args.length c2, .int .i64 s.ret] 95 (0, 0))) := hn1
  have na0 : (u.alloc (.cells #[.string e.nm, .slice p1 e.args.length c1, .int .i64 e.ret, .int .i64 e.cl, .int .i64 e.me] 79)).cell? ⟨u.heap.size, 0, none⟩ = some (.string e.nm) := bxq_cell hn0 rfl
  have na1 : (u.alloc (.cells #[.string e.nm, .slice p1 e.args.length c1, .int .i64 e.ret, .int .i64 e.cl, .int .i64 e.me] 79)).cell? ⟨u.heap.size, 1, none⟩ = some (.slice p1 e.args.length c1) := bxq_cell hn0 rfl
  have na2 : (u.alloc (.cells #[.string e.nm, .slice p1 e.args.length c1, .int .i64 e.ret, .int .i64 e.cl, .int .i64 e.me] 79)).cell? ⟨u.heap.size, 2, none⟩ = some (.int .i64 e.ret) := bxq_cell hn0 rfl
  have na3 : (u.alloc (.cells #[.string e.nm, .slice p1 e.args.length c1, .int .i64 e.ret, .int .i64 e.cl, .int .i64 e.me] 79)).cell? ⟨u.heap.size, 3, none⟩ = some (.int .i64 e.cl) := bxq_cell hn0 rfl
  have na4 : (u.alloc (.cells #[.string e.nm, .slice p1 e.args.length c1, .int .i64 e.ret, .int .i64 e.cl, .int .i64 e.me] 79)).cell? ⟨u.heap.size, 4, none⟩ = some (.int .i64 e.me) := bxq_cell hn0 rfl
  have nb0 : (u.alloc (.cells #[.string e.nm, .slice p1 e.args.length c1, .int .i64 e.ret, .int .i64 e.cl, .int .i64 e.me] 79)).cell? ⟨bs, 0, none⟩ = some (.string s.nm) := bxq_cell hn1 rfl
  have nb1 : (u.alloc (.cells #[.string e.nm, .slice p1 e.args.length c1, .int .i64 e.ret, .int .i64 e.cl, .int .i64 e.me] 79)).cell? ⟨bs, 1, none⟩ = some (.slice p2 s.args.length c2) := bxq_cell hn1 rfl
  have nb2 : (u.alloc (.cells #[.string e.nm, .slice p1 e.args.length c1, .int .i64 e.ret, .int .i64 e.cl, .int .i64 e.me] 79)).cell? ⟨bs, 2, none⟩ = some (.int .i64 s.ret) := bxq_cell hn1 rfl
  
  clear le ls hn0 hn1 hb hZ
  go_enter Tryz.func110, Tryz.ntmps110
  go_wp2_with (fail)
  go_region_held3 (fun w' => w'.cell? ⟨u.heap.size, 0, none⟩ = some (.string e.nm) ∧ w'.cell? ⟨u.heap.size, 1, none⟩ = some (.slice p1 e.args.length c1) ∧ w'.cell? ⟨u.heap.size, 2, none⟩ = some (.int .i64 e.ret) ∧ w'.cell? ⟨u.heap.size, 3, none⟩ = some (.int .i64 e.cl) ∧ w'.cell? ⟨u.heap.size, 4, none⟩ = some (.int .i64 e.me) ∧ w'.cell? ⟨bs, 0, none⟩ = some (.string s.nm) ∧ w'.cell? ⟨bs, 1, none⟩ = some (.slice p2 s.args.length c2) ∧ w'.cell? ⟨bs, 2, none⟩ = some (.int .i64 s.ret)) (go_keep) ((first
    | (go_at_call 81; refine (ofe_ok _ _ _ _ _ _ _ _).mono ?_; rintro e w1 ⟨rfl, hl⟩; have HL1 : Hid (Lys u w1) := (by show Lys u w1; with_reducible first | exact HL0.out.drew.trans hl | exact HL0.out.trans hl | exact HL0.out.drew.drew.trans hl); have HM0 : Hid (w1.heap[u.heap.size]? = some (.cells #[.string e.nm, .slice p1 e.args.length c1, .int .i64 e.ret, .int .i64 e.cl, .int .i64 e.me] 79)) := lys_of hl HN0.out; have HM1 : Hid (w1.heap[bs]? = some (.cells #[.string s.nm, .slice p2 s.args.length c2, .int .i64 s.ret] 95 (0, 0))) := lys_of hl HN1.out; have ma0 : w1.cell? ⟨u.heap.size, 0, none⟩ = some (.string e.nm) := bxq_cell HM0.out rfl; have ma1 : w1.cell? ⟨u.heap.size, 1, none⟩ = some (.slice p1 e.args.length c1) := bxq_cell HM0.out rfl; have ma2 : w1.cell? ⟨u.heap.size, 2, none⟩ = some (.int .i64 e.ret) := bxq_cell HM0.out rfl; have ma3 : w1.cell? ⟨u.heap.size, 3, none⟩ = some (.int .i64 e.cl) := bxq_cell HM0.out rfl; have ma4 : w1.cell? ⟨u.heap.size, 4, none⟩ = some (.int .i64 e.me) := bxq_cell HM0.out rfl; have mb0 : w1.cell? ⟨bs, 0, none⟩ = some (.string s.nm) := bxq_cell HM1.out rfl; have mb1 : w1.cell? ⟨bs, 1, none⟩ = some (.slice p2 s.args.length c2) := bxq_cell HM1.out rfl; have mb2 : w1.cell? ⟨bs, 2, none⟩ = some (.int .i64 s.ret) := bxq_cell HM1.out rfl; clear hl)
    | (go_at_call 73; refine (HX.out _ (by with_reducible first | exact HL1.out | exact HL1.out.drew)).mono ?_; rintro e w3 ⟨rfl, hl⟩; have HL3 : Hid (Lys u w3) := (by show Lys u w3; with_reducible first | exact HL1.out.trans hl | exact HL1.out.drew.trans hl); have hp0 := lys_of hl HM0.out; have hp1 := lys_of hl HM1.out; have xa0 : w3.cell? ⟨u.heap.size, 0, none⟩ = some (.string e.nm) := bxq_cell hp0 rfl; have xa1 : w3.cell? ⟨u.heap.size, 1, none⟩ = some (.slice p1 e.args.length c1) := bxq_cell hp0 rfl; have xa2 : w3.cell? ⟨u.heap.size, 2, none⟩ = some (.int .i64 e.ret) := bxq_cell hp0 rfl; have xa3 : w3.cell? ⟨u.heap.size, 3, none⟩ = some (.int .i64 e.cl) := bxq_cell hp0 rfl; have xa4 : w3.cell? ⟨u.heap.size, 4, none⟩ = some (.int .i64 e.me) := bxq_cell hp0 rfl; have xb0 : w3.cell? ⟨bs, 0, none⟩ = some (.string s.nm) := bxq_cell hp1 rfl; have xb1 : w3.cell? ⟨bs, 1, none⟩ = some (.slice p2 s.args.length c2) := bxq_cell hp1 rfl; have xb2 : w3.cell? ⟨bs, 2, none⟩ = some (.int .i64 s.ret) := bxq_cell hp1 rfl; clear hl hp0 hp1)))
  all_goals
    go_wp2_with (fail)
    go_ret
    exact ⟨rfl, HL3.out.bl⟩
/-- The place of a signature among entries; -1. -/
def plJ (es : List En) (s : Sg) : Int := match OfJ es s.nm s.args s.ret with
  | some i => i
  | none => -1
theorem plJ_neg (es : List En) (s : Sg) : decide (plJ es s < 0) = (OfJ es s.nm s.args s.ret).isNone := by
  unfold plJ
  cases OfJ es s.nm s.args s.ret <;> simp
set_option maxHeartbeats 1000000 in
set_option maxRecDepth 20000 in
theorem place_ok {w : World} {Sv Ss : Nat → Prop} {v vs : Value} {es : List En} {s : Sg} (hv : Sl kEn w Sv v es) (lv : ∀ k, Sv k → k < w.heap.size) (hs : Sl kI w Ss vs s.args) (ls : ∀ k, Ss k → k < w.heap.size) : Calls Tryz.prog 80 #[v, .agg #[.string s.nm, vs, .int .i64 s.ret]] w fun e w' => e = .returned (.int .i64 (plJ es s)) ∧ Below w.heap.size w w' := by
  have HB : Hid (Below w.heap.size w (w.alloc (.cells #[.string s.nm, vs, .int .i64 s.ret] 95))) := (Below.refl _ _).alloc (Nat.le_refl _) _
  have hN := heap_alloc_new w (.cells #[.string s.nm, vs, .int .i64 s.ret] 95)
  have HZ : Hid ((w.alloc (.cells #[.string s.nm, vs, .int .i64 s.ret] 95)).heap.size = w.heap.size + 1) := by show _ = _; simp
  have hC := idxE_ok (F := 110) (enters_of Tryz.func110 (by kernel_rfl) rfl) (post := #[.pointer (some ⟨w.heap.size, 0, none⟩)]) (w := w.alloc (.cells #[.string s.nm, vs, .int .i64 s.ret] 95)) (f := fun e : En => likeJ e.nm e.args e.ret s.nm s.args s.ret) (hv.keep fun b q => HB.out.block b (lv b q)) (fun k q => Nat.lt_of_lt_of_le (lv k q) HB.out.size) (fun u x cs hb _ hR => by
    have hb2 : Below w.heap.size w u := HB.out.trans (hb.mono HB.out.size)
    exact (pl1_ok hR (fun k q => Nat.lt_of_lt_of_le (lv k q) hb2.size) ((hb.block w.heap.size (by rw [HZ.out]; omega)).trans hN) (hs.keep fun b q => hb2.block b (ls b q)) (fun k q => Nat.lt_of_lt_of_le (ls k q) hb2.size)).mono fun e u2 ⟨a, b⟩ => ⟨a, b.mono hb.size⟩)
  have hI : idxF (fun e : En => likeJ e.nm e.args e.ret s.nm s.args s.ret) es = plJ es s := rfl
  rw [hI] at hC
  obtain ⟨pa, pc, rfl, -⟩ := hv
  obtain ⟨pb, pd, rfl, -⟩ := hs
  generalize plJ es s = R at *
  clear lv ls hN hI
  go_enter Tryz.func80, Tryz.ntmps80
  go_wp2_with (go_at_call 109; refine hC.mono ?_; rintro e u1 ⟨rfl, hb⟩; have HB1 : Hid (Below w.heap.size w u1) := HB.out.trans (hb.mono (by rw [HZ.out]; omega)); clear hC hb)
  go_ret
  exact ⟨rfl, HB1.out⟩
end Go.Proofs.YtbbmgjcabmjjdaaGreatDoor
namespace Go.Proofs.YtbbmgjcabmjjdaaGreatDoor
open Go.RowKit

/-- A layout's cells. -/
theorem lyv_get {w : World} {S : Nat → Prop} {a : Option Addr} {l c : Nat} {ls : List Ly} (h : Sl kLy w S (.slice a l c) ls) {i : Nat} {y : Ly} (hy : ls[i]? = some y) : ∃ b o a2 c2 a3 c3, a = some ⟨b, o, none⟩ ∧ w.cell? ⟨b, o + i * 4 + 2, none⟩ = some (.slice a2 y.vir.length c2) ∧ w.cell? ⟨b, o + i * 4 + 3, none⟩ = some (.slice a3 y.abv.length c3) ∧ Hid (Sl kEn w S (.slice a2 y.vir.length c2) y.vir ∧ Sl kI w S (.slice a3 y.abv.length c3) y.abv) := by
  obtain ⟨b, o, e, -, cs, ⟨v1, v2, v3, rfl, -, h2, h3⟩, hc⟩ := h.atJ hy
  have h2' := h2
  obtain ⟨a2, c2, rfl, -⟩ := h2'
  have h3' := h3
  obtain ⟨a3, c3, rfl, -⟩ := h3'
  refine ⟨b, o, a2, c2, a3, c3, e, ?_, ?_, h2, h3⟩
  · have := hc 2 _ rfl
    rw [show kLy.k = 4 from rfl, show o + (i * 4 + 2) = o + i * 4 + 2 by omega] at this; exact this
  · have := hc 3 _ rfl
    rw [show kLy.k = 4 from rfl, show o + (i * 4 + 3) = o + i * 4 + 3 by omega] at this; exact this
set_option maxHeartbeats 4000000 in
set_option maxRecDepth 20000 in
theorem fin_ok {w : World} {S T : Nat → Prop} {v vl : Value} {p : Pg} {ls : List Ly} (h : Sl kCs w S v (trQ p)) (hL : Sl kLy w T vl ls) (lT : ∀ k, T k → k < w.heap.size) {i : Nat} {y : Ly} (hi : i < p.cls.length) (hy : ls[11 + i]? = some y) : Calls Tryz.prog 38 #[v, vl, .int .i64 (11 + (i : Int))] w fun e w' => e = .returned (.bool ((ofJ p (11 + (i : Int))).fin && (OfJ y.vir finN [] 0).isNone)) ∧ Below w.heap.size w w' := by
  have hv := h
  obtain ⟨ao, cap, rfl, hmx, -⟩ := hv
  unfold maxLen at hmx
  have hl0 := hL
  obtain ⟨al, cl, rfl, hml, -⟩ := hl0
  unfold maxLen at hml
  have hk : isJ p (11 + (i : Int)) = true := by simp [isJ]; omega
  obtain ⟨i1, sb, so, f1, f2, f3, f4, g1, g2, g3, g4, e1, hi1, rfl, -, ⟨-, -, t2, -, -, -, -, -⟩, -⟩ := tq_get h hk
  rw [cl_user (by omega)] at t2
  obtain rfl : i1 = 11 + i := by omega
  have hi2 : 11 + i < ls.length := (List.getElem?_eq_some_iff.1 hy).1
  obtain ⟨lb, lo, a2, c2, a3, c3, rfl, q2, -, HE⟩ := lyv_get hL hy
  have hP := fun (u : World) (hb : Below w.heap.size w u) => place_ok (w := u) (s := ⟨finN, [], 0⟩) (vs := .slice none 0 0) (Ss := fun _ => False) (HE.out.1.keep fun k hk => hb.block k (lT k hk)) (fun k hk => Nat.lt_of_lt_of_le (lT k hk) hb.size) (Sl.nil _ _ _) (fun k hk => hk.elim)
  have hP := hP w (Below.refl _ _)
  have hN := plJ_neg y.vir ⟨finN, [], 0⟩
  dsimp only at hP hN
  obtain ⟨R, hR⟩ : ∃ R, plJ y.vir ⟨finN, [], 0⟩ = R := ⟨_, rfl⟩
  rw [hR] at hP hN
  unfold finN at hP
  obtain ⟨B, hB⟩ : ∃ B, (OfJ y.vir finN [] 0).isNone = B := ⟨_, rfl⟩
  rw [hB] at hN ⊢
  rw [e1]
  have hl1 : ((11 + i : Nat) : Int) < ((trQ p).length : Int) := by omega
  have hl2 : ((11 + i : Nat) : Int) < (ls.length : Int) := by omega
  obtain ⟨f, hf⟩ : ∃ f, (ofJ p ((11 + i : Nat) : Int)).fin = f := ⟨_, rfl⟩
  rw [e1, hf] at t2
  rw [hf]
  clear h hL lT hR hB hk e1 hf hy
  cases f
  · clear hP
    go_enter Tryz.func38, Tryz.ntmps38
    go_wp2
    go_ret
    exact ⟨by first | rfl | simp, Below.refl _ _⟩
  · go_enter Tryz.func38, Tryz.ntmps38
    go_wp2_with (go_at_call 80; refine hP.mono ?_; rintro e u1 ⟨rfl, hb⟩; have HB : Hid (Below w.heap.size w u1) := hb; clear hP hb)
    go_ret
    exact ⟨by first | rfl | (rw [← hN]; rfl) | simp [hN], HB.out⟩
end Go.Proofs.YtbbmgjcabmjjdaaGreatDoor
namespace Go.Proofs.YtbbmgjcabmjjdaaGreatDoor
open Go.RowKit

set_option maxHeartbeats 8000000 in
set_option maxRecDepth 20000 in
theorem lof1_ok {u : World} {Se T : Nat → Prop} {e : En} {cse : List Value} (hE : kEn.R u Se e cse) (le : ∀ k, Se k → k < u.heap.size) {bl bc k : Nat} {vl : Value} {ls : List Ly} {y : Ly} (hbl : u.cell? ⟨bl, 0, none⟩ = some vl) (hbc : u.cell? ⟨bc, 0, none⟩ = some (.int .i64 (k : Int))) (hL : Sl kLy u T vl ls) (lT : ∀ k, T k → k < u.heap.size) (hy : ls[k]? = some y) : Calls Tryz.prog 79 #[.agg cse.toArray, .pointer (some ⟨bl, 0, none⟩), .pointer (some ⟨bc, 0, none⟩)] u fun r u' => r = .returned (.bool (OfJ y.vir e.nm e.args e.ret).isNone) ∧ Below u.heap.size u u' := by
  obtain ⟨v1, rfl, q1⟩ := hE
  have hq1 := q1
  obtain ⟨p1, c1, rfl, -⟩ := hq1
  have hl0 := hL
  obtain ⟨al, cl, rfl, hml, -⟩ := hl0
  unfold maxLen at hml
  have hi2 : k < ls.length := (List.getElem?_eq_some_iff.1 hy).1
  obtain ⟨lb, lo, a2, c2, a3, c3, rfl, q2, -, HE⟩ := lyv_get hL hy
  have hl : (k : Int) < (ls.length : Int) := by omega
  have HP : Hid (∀ w, Below u.heap.size u w → Calls Tryz.prog 80 #[.slice a2 y.vir.length c2, .agg #[.string e.nm, .slice p1 e.args.length c1, .int .i64 e.ret]] w fun r w' => r = .returned (.int .i64 (plJ y.vir (sgE e))) ∧ Below w.heap.size w w') := fun w hw =>
    place_ok (s := sgE e) (HE.out.1.keep fun b q => hw.block b (lT b q)) (fun b q => Nat.lt_of_lt_of_le (lT b q) hw.size) (q1.keep fun b q => hw.block b (le b q)) (fun b q => Nat.lt_of_lt_of_le (le b q) hw.size)
  have hN := plJ_neg y.vir (sgE e)
  change decide (plJ y.vir (sgE e) < 0) = (OfJ y.vir e.nm e.args e.ret).isNone at hN
  rw [← hN]
  generalize plJ y.vir (sgE e) = C at *
  have HB0 : Hid (Below u.heap.size u (u.alloc (.cells #[.string e.nm, .slice p1 e.args.length c1, .int .i64 e.ret, .int .i64 e.cl, .int .i64 e.me] 79))) := (Below.refl _ _).alloc (Nat.le_refl _) _
  have hn0 : (u.alloc (.cells #[.string e.nm, .slice p1 e.args.length c1, .int .i64 e.ret, .int .i64 e.cl, .int .i64 e.me] 79)).heap[u.heap.size]? = some (.cells #[.string e.nm, .slice p1 e.args.length c1, .int .i64 e.ret, .int .i64 e.cl, .int .i64 e.me] 79) := heap_alloc_new _ _
  have HN0 : Hid _ := hn0
  have na0 : (u.alloc (.cells #[.string e.nm, .slice p1 e.args.length c1, .int .i64 e.ret, .int .i64 e.cl, .int .i64 e.me] 79)).cell? ⟨u.heap.size, 0, none⟩ = some (.string e.nm) := bxq_cell hn0 rfl
  have na1 : (u.alloc (.cells #[.string e.nm, .slice p1 e.args.length c1, .int .i64 e.ret, .int .i64 e.cl, .int .i64 e.me] 79)).cell? ⟨u.heap.size, 1, none⟩ = some (.slice p1 e.args.length c1) := bxq_cell hn0 rfl
  have na2 : (u.alloc (.cells #[.string e.nm, .slice p1 e.args.length c1, .int .i64 e.ret, .int .i64 e.cl, .int .i64 e.me] 79)).cell? ⟨u.heap.size, 2, none⟩ = some (.int .i64 e.ret) := bxq_cell hn0 rfl
  have na3 : (u.alloc (.cells #[.string e.nm, .slice p1 e.args.length c1, .int .i64 e.ret, .int .i64 e.cl, .int .i64 e.me] 79)).cell? ⟨u.heap.size, 3, none⟩ = some (.int .i64 e.cl) := bxq_cell hn0 rfl
  have na4 : (u.alloc (.cells #[.string e.nm, .slice p1 e.args.length c1, .int .i64 e.ret, .int .i64 e.cl, .int .i64 e.me] 79)).cell? ⟨u.heap.size, 4, none⟩ = some (.int .i64 e.me) := bxq_cell hn0 rfl
  have nb0 := cell_keep hbl HB0.out
  have nb1 := cell_keep hbc HB0.out
  have nb2 := cell_keep q2 HB0.out
  have HC : Hid (u.cell? ⟨bl, 0, none⟩ = some (.slice (some ⟨lb, lo, none⟩) ls.length cl) ∧ u.cell? ⟨bc, 0, none⟩ = some (.int .i64 (k : Int)) ∧ u.cell? ⟨lb, lo + k * 4 + 2, none⟩ = some (.slice a2 y.vir.length c2)) := ⟨hbl, hbc, q2⟩
  clear le lT hn0 hN hbl hbc q2 hL q1 hy
  go_enter Tryz.func79, Tryz.ntmps79
  go_upto_region 1 with (fail)
  go_region_held3 (fun w' => w'.cell? ⟨u.heap.size, 0, none⟩ = some (.string e.nm) ∧ w'.cell? ⟨u.heap.size, 1, none⟩ = some (.slice p1 e.args.length c1) ∧ w'.cell? ⟨u.heap.size, 2, none⟩ = some (.int .i64 e.ret) ∧ w'.cell? ⟨u.heap.size, 3, none⟩ = some (.int .i64 e.cl) ∧ w'.cell? ⟨u.heap.size, 4, none⟩ = some (.int .i64 e.me) ∧ w'.cell? ⟨bl, 0, none⟩ = some (.slice (some ⟨lb, lo, none⟩) ls.length cl) ∧ w'.cell? ⟨bc, 0, none⟩ = some (.int .i64 (k : Int)) ∧ w'.cell? ⟨lb, lo + k * 4 + 2, none⟩ = some (.slice a2 y.vir.length c2)) (go_keep) ((first
    | (go_at_call 81; refine (ofe_ok _ _ _ _ _ _ _ _).mono ?_; rintro e1 w1 ⟨rfl, hl⟩; have HL1 : Hid (Below u.heap.size u w1) := (by show Below u.heap.size u w1; have h9 := hl.bl; exact ⟨h9.os.trans HB0.out.os, h9.tape.trans HB0.out.tape, h9.output.trans HB0.out.output, Nat.le_trans HB0.out.size h9.size, fun b hb => (h9.block b (Nat.lt_of_lt_of_le hb HB0.out.size)).trans (HB0.out.block b hb)⟩); have HM0 : Hid (w1.heap[u.heap.size]? = some (.cells #[.string e.nm, .slice p1 e.args.length c1, .int .i64 e.ret, .int .i64 e.cl, .int .i64 e.me] 79)) := lys_of hl HN0.out; have ma0 : w1.cell? ⟨u.heap.size, 0, none⟩ = some (.string e.nm) := bxq_cell HM0.out rfl; have ma1 : w1.cell? ⟨u.heap.size, 1, none⟩ = some (.slice p1 e.args.length c1) := bxq_cell HM0.out rfl; have ma2 : w1.cell? ⟨u.heap.size, 2, none⟩ = some (.int .i64 e.ret) := bxq_cell HM0.out rfl; have ma3 : w1.cell? ⟨u.heap.size, 3, none⟩ = some (.int .i64 e.cl) := bxq_cell HM0.out rfl; have ma4 : w1.cell? ⟨u.heap.size, 4, none⟩ = some (.int .i64 e.me) := bxq_cell HM0.out rfl; have mb0 := cell_keep HC.out.1 HL1.out; have mb1 := cell_keep HC.out.2.1 HL1.out; have mb2 := cell_keep HC.out.2.2 HL1.out; clear na0 na1 na2 na3 na4 nb0 nb1 nb2 hl)
    | (go_at_call 80; refine (HP.out _ (by first | exact HL1.out | exact ⟨HL1.out.os, HL1.out.tape, HL1.out.output, HL1.out.size, HL1.out.block⟩)).mono ?_; rintro e3 w3 ⟨rfl, hl⟩; have HL3 : Hid (Below u.heap.size u w3) := (by show Below u.heap.size u w3; exact ⟨hl.os.trans HL1.out.os, hl.tape.trans HL1.out.tape, hl.output.trans HL1.out.output, Nat.le_trans HL1.out.size hl.size, fun b hb => (hl.block b (Nat.lt_of_lt_of_le hb HL1.out.size)).trans (HL1.out.block b hb)⟩); have hp0 := (hl.block u.heap.size (Array.getElem?_eq_some_iff.1 HM0.out).1).trans HM0.out; have xa0 : w3.cell? ⟨u.heap.size, 0, none⟩ = some (.string e.nm) := bxq_cell hp0 rfl; have xa1 : w3.cell? ⟨u.heap.size, 1, none⟩ = some (.slice p1 e.args.length c1) := bxq_cell hp0 rfl; have xa2 : w3.cell? ⟨u.heap.size, 2, none⟩ = some (.int .i64 e.ret) := bxq_cell hp0 rfl; have xa3 : w3.cell? ⟨u.heap.size, 3, none⟩ = some (.int .i64 e.cl) := bxq_cell hp0 rfl; have xa4 : w3.cell? ⟨u.heap.size, 4, none⟩ = some (.int .i64 e.me) := bxq_cell hp0 rfl; have xb0 := cell_keep HC.out.1 HL3.out; have xb1 := cell_keep HC.out.2.1 HL3.out; have xb2 := cell_keep HC.out.2.2 HL3.out; clear ma0 ma1 ma2 ma3 ma4 mb0 mb1 mb2 hl hp0)))
  all_goals
    go_wp2_with (fail)
    go_ret
    exact ⟨rfl, HL3.out⟩
/-- A method that one class asks for and another lacks. -/
def lackQ (y x : Ly) : Bool := x.vir.any fun e => (OfJ y.vir e.nm e.args e.ret).isNone
set_option maxHeartbeats 8000000 in
set_option maxRecDepth 20000 in
theorem lof2_ok {u : World} {S T : Nat → Prop} {v vl : Value} {p : Pg} {ls : List Ly} {bp bl bc bf k n : Nat} {y x : Ly} (hT : Tb u S v p bp) (hbl : u.cell? ⟨bl, 0, none⟩ = some vl) (hbc : u.cell? ⟨bc, 0, none⟩ = some (.int .i64 (k : Int))) (hbf : u.cell? ⟨bf, 0, none⟩ = some (.func (.func 79) #[] #[.pointer (some ⟨bl, 0, none⟩), .pointer (some ⟨bc, 0, none⟩)])) (hL : Sl kLy u T vl ls) (lT : ∀ k, T k → k < u.heap.size) (hy : ls[k]? = some y) (hn : n < 11 + p.cls.length) (hx : ls[n]? = some x) : Calls Tryz.prog 82 #[.int .i64 (n : Int), .pointer (some ⟨bp, 0, none⟩), .pointer (some ⟨bl, 0, none⟩), .pointer (some ⟨bf, 0, none⟩)] u fun r u' => r = .returned (.bool ((clQ p (n : Int)).face && lackQ y x)) ∧ Below u.heap.size u u' := by
  have hk : isJ p (n : Int) = true := by simp [isJ]; omega
  have hv := hT.tr
  obtain ⟨ao, cap, rfl, hmx, -⟩ := hv
  unfold maxLen at hmx
  obtain ⟨i1, sb, so, f1, f2, f3, f4, g1, g2, g3, g4, e1, hi1, rfl, -, ⟨-, t1, -, -, -, -, -, -⟩, -⟩ := tq_get hT.tr hk
  obtain rfl : i1 = n := by omega
  have hl0 := hL
  obtain ⟨al, cl, rfl, hml, -⟩ := hl0
  unfold maxLen at hml
  have hi2 : i1 < ls.length := (List.getElem?_eq_some_iff.1 hx).1
  obtain ⟨lb, lo, a2, c2, a3, c3, rfl, q2, -, HE⟩ := lyv_get hL hx
  have hl : (i1 : Int) < (ls.length : Int) := by omega
  have hl1 : (i1 : Int) < ((trQ p).length : Int) := by omega
  have HC : Hid (∀ w, Below u.heap.size u w → Calls Tryz.prog 83 #[.slice a2 x.vir.length c2, .func (.func 79) #[] #[.pointer (some ⟨bl, 0, none⟩), .pointer (some ⟨bc, 0, none⟩)]] w fun e w' => e = .returned (.bool (lackQ y x)) ∧ Below w.heap.size w w') := fun w hw =>
    conE_ok (F := 79) (enters_of Tryz.func79 (by kernel_rfl) rfl) (f := fun e => (OfJ y.vir e.nm e.args e.ret).isNone) (HE.out.1.keep fun b q => hw.block b (lT b q)) (fun b q => Nat.lt_of_lt_of_le (lT b q) hw.size) (fun u2 e cs hb _ hR => by
      have hw2 : Below u.heap.size u u2 := hw.trans (hb.mono hw.size)
      exact (lof1_ok hR (fun b q => Nat.lt_of_lt_of_le (lT b q) hw2.size) (cell_keep hbl hw2) (cell_keep hbc hw2) (hL.keep fun b q => hw2.block b (lT b q)) (fun b q => Nat.lt_of_lt_of_le (lT b q) hw2.size) hy).mono fun e u3 ⟨a, b⟩ => ⟨a, b.mono hb.size⟩)
  have b0 := hT.box
  have HS : Hid (u.cell? ⟨bp, 0, none⟩ = some (.slice (some ⟨sb, so, none⟩) (trQ p).length cap) ∧ u.cell? ⟨sb, so + i1 * 8 + 1, none⟩ = some (.bool (clQ p (i1 : Int)).face) ∧ u.cell? ⟨bl, 0, none⟩ = some (.slice (some ⟨lb, lo, none⟩) ls.length cl) ∧ u.cell? ⟨bf, 0, none⟩ = some (.func (.func 79) #[] #[.pointer (some ⟨bl, 0, none⟩), .pointer (some ⟨bc, 0, none⟩)]) ∧ u.cell? ⟨lb, lo + i1 * 4 + 2, none⟩ = some (.slice a2 x.vir.length c2)) := ⟨b0, t1, hbl, hbf, q2⟩
  generalize lackQ y x = B at *
  obtain ⟨F, hF⟩ : ∃ F, (clQ p (i1 : Int)).face = F := ⟨_, rfl⟩
  rw [hF] at t1 HS ⊢
  have HS : Hid _ := HS
  clear hT hL lT hy hx hk hbc hF e1
  cases F
  · go_enter Tryz.func82, Tryz.ntmps82
    go_upto_region 1 with (fail)
    go_quiet (fail)
    go_wp2
    go_ret
    exact ⟨rfl, below_drewN _ _ _⟩
  · go_enter Tryz.func82, Tryz.ntmps82
    go_upto_region 1 with (fail)
    go_region_held3 (fun w' => w'.cell? ⟨bp, 0, none⟩ = some (.slice (some ⟨sb, so, none⟩) (trQ p).length cap) ∧ w'.cell? ⟨sb, so + i1 * 8 + 1, none⟩ = some (.bool true) ∧ w'.cell? ⟨bl, 0, none⟩ = some (.slice (some ⟨lb, lo, none⟩) ls.length cl) ∧ w'.cell? ⟨bf, 0, none⟩ = some (.func (.func 79) #[] #[.pointer (some ⟨bl, 0, none⟩), .pointer (some ⟨bc, 0, none⟩)]) ∧ w'.cell? ⟨lb, lo + i1 * 4 + 2, none⟩ = some (.slice a2 x.vir.length c2)) (go_keep) ((first
      | (go_at_call 83; refine (HC.out _ (by first | exact Below.refl _ _ | exact ⟨rfl, rfl, rfl, Nat.le_refl _, fun _ _ => rfl⟩)).mono ?_; rintro e3 w3 ⟨rfl, hb3⟩; have HL3 : Hid (Below u.heap.size u w3) := (by show Below u.heap.size u w3; exact ⟨hb3.os, hb3.tape, hb3.output, hb3.size, hb3.block⟩); have x0 := cell_keep HS.out.1 HL3.out; have x1 := cell_keep HS.out.2.1 HL3.out; have x2 := cell_keep HS.out.2.2.1 HL3.out; have x3 := cell_keep HS.out.2.2.2.1 HL3.out; have x4 := cell_keep HS.out.2.2.2.2 HL3.out; clear b0 t1 hbl hbf q2 hb3)))
    all_goals
      go_wp2_with (fail)
      go_ret
      exact ⟨rfl, by first | exact HL3.out | exact ⟨HL3.out.os, HL3.out.tape, HL3.out.output, HL3.out.size, HL3.out.block⟩⟩
end Go.Proofs.YtbbmgjcabmjjdaaGreatDoor
