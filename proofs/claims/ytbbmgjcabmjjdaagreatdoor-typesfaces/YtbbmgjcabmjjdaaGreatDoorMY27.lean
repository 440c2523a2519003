/- The program's own Load: layoutsOf where one of the first five rules is broken. -/
import Derived.Test.YtbbmgjcabmjjdaaGreatDoorMY15
import Derived.Test.YtbbmgjcabmjjdaaGreatDoorMGJ2
import Derived.Test.YtbbmgjcabmjjdaaGreatDoorMY21
import Derived.Test.YtbbmgjcabmjjdaaGreatDoorMY22
import Derived.Test.YtbbmgjcabmjjdaaGreatDoorMY26
import Derived.Test.YtbbmgjcabmjjdaaGreatDoorMY23
namespace Go.Proofs.YtbbmgjcabmjjdaaGreatDoor
open Go.RowKit

set_option maxHeartbeats 4000000 in
set_option maxRecDepth 20000 in
theorem main_ok {w : World} {S : Nat → Prop} {v : Value} {p : Pg} (h : Sl kCs w S v (trQ p)) (lS : ∀ k, S k → k < w.heap.size) : Calls Tryz.prog 39 #[v, .int .i64 p.main] w fun e w' => e = .returned (.bool (!bad8 p)) ∧ Below w.heap.size w w' := by
  have hv := h
  obtain ⟨ao, cap, rfl, hmx, -⟩ := hv
  unfold maxLen at hmx
  have HBD : Hid (bad8 p = (!userJ p p.main || faceJ p p.main || match (ofJ p p.main).mds with | [] => true | m :: _ => !m.stc || decide (0 < m.args.length) || m.ret != 0)) := rfl
  have hP := placeQ h p.main
  by_cases h11 : p.main < 11
  · have hu : userJ p p.main = false := by simp [userJ]; omega
    have HE : Hid (bad8 p = true) := by show _ = _; rw [HBD.out, hu]; rfl
    clear h hu HBD hP lS
    go_enter Tryz.func39, Tryz.ntmps39
    go_wp2
    go_ret
    exact ⟨by rw [HE.out]; rfl, Below.refl _ _⟩
  rcases hk : isJ p p.main with _ | _
  · have hu : userJ p p.main = false := by simp [userJ, hk]
    have HE : Hid (bad8 p = true) := by show _ = _; rw [HBD.out, hu]; rfl
    rw [hk] at hP
    clear h hu HBD hk lS
    go_enter Tryz.func39, Tryz.ntmps39
    go_wp2_with (go_at_call 57; refine hP.mono ?_; rintro e w9 ⟨rfl, hw9⟩; replace hw9 := hw9.symm; subst hw9)
    go_ret
    exact ⟨by rw [HE.out]; rfl, Below.refl _ _⟩
  obtain ⟨i1, sb, so, f1, f2, f3, f4, g1, g2, g3, g4, e1, hi1, rfl, -, ⟨-, t1, -, -, -, -, -, t7⟩, HS⟩ := tq_get h hk
  rw [cl_user (by omega)] at t1 t7
  have HM := HS.out.2.2.2
  rw [cl_user (by omega)] at HM
  have HM : Hid _ := HM
  rw [hk] at hP
  have hu : userJ p p.main = true := by simp [userJ, hk]; omega
  have hfc : faceJ p p.main = (ofJ p p.main).face := by simp [faceJ, hu]
  rw [hu, hfc] at HBD
  have HBD : Hid _ := HBD
  obtain ⟨q, hq⟩ : ∃ q, p.main = q := ⟨_, rfl⟩
  obtain ⟨R, hR⟩ : ∃ R, bad8 p = R := ⟨_, rfl⟩
  rw [hR] at HBD ⊢
  rw [hq] at HBD hP e1 h11 t1 t7 HM ⊢
  have HBD : Hid _ := HBD
  have HM : Hid _ := HM
  subst e1
  have hl1 : (i1 : Int) < ((trQ p).length : Int) := by omega
  have LS : Hid (∀ k, S k → k < w.heap.size) := lS
  have hlt : ¬ (i1 : Int) < 11 := h11
  generalize ofJ p (i1 : Int) = c at *
  clear h HS hk hu hfc hq hR lS
  rcases hf : c.face with _ | _
  · rw [hf] at t1
    rcases hm : c.mds with _ | ⟨m, ms⟩
    · have HE : Hid (R = true) := by show _ = _; rw [HBD.out, hf, hm]; rfl
      rw [hm] at t7
      clear HBD HM hm hf
      go_enter Tryz.func39, Tryz.ntmps39
      go_wp2_with (go_at_call 57; refine hP.mono ?_; rintro e w9 ⟨rfl, hw9⟩; replace hw9 := hw9.symm; subst hw9)
      go_ret
      exact ⟨by rw [HE.out]; rfl, Below.refl _ _⟩
    · have HT : Hid (R = (!m.stc || decide (0 < m.args.length) || m.ret != 0)) := by show _ = _; rw [HBD.out, hf, hm]; rfl
      rw [hm] at t7
      obtain ⟨mb, mo, q1, q2, q3, q4, r1, r2, r3, r4, rfl, ⟨a0, a1, a2, a3, a4, a5, a6, a7, a8⟩, -, HB⟩ := mth_at HM.out LS.out (show c.mds[0]? = some m by rw [hm]; rfl)
      rw [Nat.zero_mul, Nat.add_zero] at a0 a1 a2 a3 a4 a5 a6 a7 a8
      have e7 : ((ms.length : Int) + 1 == 0) = false := by rw [beq_eq_false_iff_ne]; omega
      have e8 : (0 : Int) < (ms.length : Int) + 1 := by omega
      clear HBD HM hm hf
      go_enter Tryz.func39, Tryz.ntmps39
      go_upto_region 4 with (go_at_call 57; refine hP.mono ?_; rintro e w9 ⟨rfl, hw9⟩; replace hw9 := hw9.symm; subst hw9)
      have hMx := HB.out
      generalize w.alloc (.cells #[.string m.nm, .bool m.stc, .slice q1 m.args.length r1, .int .i64 m.ret, .int .i64 m.lo, .int .i64 m.st, .slice q2 m.code.length r2, .slice q3 m.tab.length r3, .slice q4 m.maps.length r4] 30) = y5 at hMx ⊢
      obtain ⟨-, n1, n2, n3, -, -, -, -⟩ := hMx.1.cells
      obtain ⟨mbx, hmbx⟩ : ∃ mbx, mbx = w.heap.size := ⟨_, rfl⟩
      have HB5 : Hid (Below w.heap.size w y5) := hMx.2
      rw [← hmbx] at n1 n2 n3 ⊢
      generalize Value.agg #[.string m.nm, .bool m.stc, .slice q1 m.args.length r1, .int .i64 m.ret, .int .i64 m.lo, .int .i64 m.st, .slice q2 m.code.length r2, .slice q3 m.tab.length r3, .slice q4 m.maps.length r4] = V34
      clear a0 a1 a2 a3 a4 a5 a6 a7 a8 hMx HB hmbx
      rcases z1 : m.stc with _ | _
      · have HE2 : Hid (R = true) := by show _ = _; rw [HT.out, z1]; rfl
        rw [z1] at n1
        clear z1
        go_wp2
        go_ret
        exact ⟨by rw [HE2.out]; rfl, HB5.out⟩
      · rw [z1] at n1
        by_cases z2 : 0 < m.args.length
        · have HE2 : Hid (R = true) := by show _ = _; rw [HT.out, z1]; simp [z2]
          obtain ⟨n9, z3⟩ : ∃ n9, m.args.length = n9 + 1 := ⟨m.args.length - 1, by omega⟩
          have z9 : ((n9 : Int) + 1 == 0) = false := by rw [beq_eq_false_iff_ne]; omega
          rw [z3] at n2
          clear z1 z2 z3
          go_wp2
          go_ret
          exact ⟨by rw [HE2.out]; rfl, HB5.out⟩
        · have HE2 : Hid (R = (m.ret != 0)) := by show _ = _; rw [HT.out, z1, decide_eq_false z2]; rfl
          have z3 : m.args.length = 0 := by omega
          rw [z3] at n2
          clear z1 z2 z3
          go_wp2
          go_ret
          exact ⟨by rw [HE2.out]; simp [bne], HB5.out⟩
  · rw [hf] at t1
    have HE : Hid (R = true) := by show _ = _; rw [HBD.out, hf]; rfl
    clear HBD HM hf
    go_enter Tryz.func39, Tryz.ntmps39
    go_wp2_with (go_at_call 57; refine hP.mono ?_; rintro e w9 ⟨rfl, hw9⟩; replace hw9 := hw9.symm; subst hw9)
    go_ret
    exact ⟨by rw [HE.out]; rfl, Below.refl _ _⟩
end Go.Proofs.YtbbmgjcabmjjdaaGreatDoor
namespace Go.Proofs.YtbbmgjcabmjjdaaGreatDoor
open Go.RowKit

theorem soft_Ly {w : World} {S : Nat → Prop} {v : Value} {xs : List Ly} (h : Sl kLyU w S v xs) : Sl kLy w S v xs := Sl.soft (K := kLyU) (fun _ _ ⟨_, _, _, q, h1, h2, h3⟩ => ⟨_, _, _, q, soft_Fd h1, soft_En h2, soft_I h3⟩) rfl rfl h
/-- What layouts is to answer, the first five rules kept. -/
def HLy (p : Pg) : Prop := ∀ (S : Nat → Prop) (u : World) (v : Value), Sl kCs u S v (trQ p) → (∀ k, S k → k < u.heap.size) → st5 p = (0, 0) → Calls Tryz.prog 34 #[v] u fun e u' => ∃ vl, e = .returned vl ∧ Below u.heap.size u u' ∧ Sl kLyU u' (fun k => u.heap.size ≤ k ∧ k < u'.heap.size) vl (allJ p)
/-- What stands between layoutsOf's calls: the tree in its box, the program in its own. -/
structure Evq (w u : World) (S : Nat → Prop) (v : Value) (p : Pg) (bp : Nat) : Prop where
  tb : Tb u S v p bp
  main : u.cell? ⟨w.heap.size, 0, none⟩ = some (.int .i64 p.main)
  bel : Below w.heap.size w u
theorem Evq.go {w u u' : World} {S : Nat → Prop} {v : Value} {p : Pg} {bp : Nat} (h : Evq w u S v p bp) (hb : Below u.heap.size u u') : Evq w u' S v p bp := ⟨h.tb.go hb, cell_keep h.main hb, h.bel.trans (hb.mono h.bel.size)⟩
/-- What layoutsOf leaves. -/
def LfP (p : Pg) (w : World) (e : Ending) (w' : World) : Prop := Below w.heap.size w w' ∧ match loadJ p with
  | .ok ls => ∃ vl, e = .returned vl ∧ Sl kLyU w' (fun k => w.heap.size ≤ k ∧ k < w'.heap.size) vl ls
  | .error s => e = FltI s.2 s.1
theorem LfP.err {p : Pg} {w w' : World} {s : Fs} (h : loadJ p = .error s) (hb : Below w.heap.size w w') : LfP p w (FltI s.2 s.1) w' := ⟨hb, by rw [h]⟩
theorem ck1_pass {w u : World} {S : Nat → Prop} {ao : Option Addr} {cap : Nat} {p : Pg} {bp : Nat} (hn : p.cls.length ≤ 1048576) (hu : Evq w u S (.slice ao (11 + p.cls.length) cap) p bp) (h0 : (rk1 p).1 = 0) : Calls Tryz.prog 28 #[.slice ao (11 + p.cls.length) cap, .int .i64 1500, .func (.func 29) #[.slice ao (11 + p.cls.length) cap] #[]] u fun e u' => (∃ v, e = .returned v) ∧ Below u.heap.size u u' :=
  chk_pass (F := 29) (enters_of Tryz.func29 (by kernel_rfl) rfl) (bad := bad1 p) hn (by decide) (fun u1 i hb hi => by
    show Calls _ _ #[.slice ao (11 + p.cls.length) cap, .int .i64 (11 + (i : Int))] _ _
    exact (wsup_ok (hu.tb.go hb).tr hi).mono fun e u2 ⟨a, b⟩ => ⟨a, b ▸ Below.refl _ _⟩) h0
theorem ck1_fail {w u : World} {S : Nat → Prop} {ao : Option Addr} {cap : Nat} {p : Pg} {bp : Nat} (hn : p.cls.length ≤ 1048576) (hu : Evq w u S (.slice ao (11 + p.cls.length) cap) p bp) (h0 : (rk1 p).1 ≠ 0) : Calls Tryz.prog 28 #[.slice ao (11 + p.cls.length) cap, .int .i64 1500, .func (.func 29) #[.slice ao (11 + p.cls.length) cap] #[]] u fun e u' => e = FltI (rk1 p).2 (rk1 p).1 ∧ Below u.heap.size u u' :=
  chk_fail (F := 29) (enters_of Tryz.func29 (by kernel_rfl) rfl) (bad := bad1 p) hn (by decide) (fun u1 i hb hi => by
    show Calls _ _ #[.slice ao (11 + p.cls.length) cap, .int .i64 (11 + (i : Int))] _ _
    exact (wsup_ok (hu.tb.go hb).tr hi).mono fun e u2 ⟨a, b⟩ => ⟨a, b ▸ Below.refl _ _⟩) h0
theorem ck2_pass {w u : World} {S : Nat → Prop} {ao : Option Addr} {cap : Nat} {p : Pg} {bp : Nat} (hn : p.cls.length ≤ 1048576) (h1 : ∀ i, i < p.cls.length → bad1 p i = false) (hu : Evq w u S (.slice ao (11 + p.cls.length) cap) p bp) (h0 : (rk2 p).1 = 0) : Calls Tryz.prog 28 #[.slice ao (11 + p.cls.length) cap, .int .i64 1501, .func (.func 30) #[.slice ao (11 + p.cls.length) cap] #[]] u fun e u' => (∃ v, e = .returned v) ∧ Below u.heap.size u u' :=
  chk_pass (F := 30) (enters_of Tryz.func30 (by kernel_rfl) rfl) (bad := bad2 p) hn (by decide) (fun u1 i hb hi => by
    show Calls _ _ #[.slice ao (11 + p.cls.length) cap, .int .i64 (11 + (i : Int))] _ _
    exact (cycle_ok h1 hn (hu.tb.go hb).tr (hu.tb.go hb).lo hi).mono fun e u2 ⟨a, b⟩ => ⟨a, b.mono hb.size⟩) h0
theorem ck2_fail {w u : World} {S : Nat → Prop} {ao : Option Addr} {cap : Nat} {p : Pg} {bp : Nat} (hn : p.cls.length ≤ 1048576) (h1 : ∀ i, i < p.cls.length → bad1 p i = false) (hu : Evq w u S (.slice ao (11 + p.cls.length) cap) p bp) (h0 : (rk2 p).1 ≠ 0) : Calls Tryz.prog 28 #[.slice ao (11 + p.cls.length) cap, .int .i64 1501, .func (.func 30) #[.slice ao (11 + p.cls.length) cap] #[]] u fun e u' => e = FltI (rk2 p).2 (rk2 p).1 ∧ Below u.heap.size u u' :=
  chk_fail (F := 30) (enters_of Tryz.func30 (by kernel_rfl) rfl) (bad := bad2 p) hn (by decide) (fun u1 i hb hi => by
    show Calls _ _ #[.slice ao (11 + p.cls.length) cap, .int .i64 (11 + (i : Int))] _ _
    exact (cycle_ok h1 hn (hu.tb.go hb).tr (hu.tb.go hb).lo hi).mono fun e u2 ⟨a, b⟩ => ⟨a, b.mono hb.size⟩) h0
theorem ck3_pass {w u : World} {S : Nat → Prop} {ao : Option Addr} {cap : Nat} {p : Pg} {bp : Nat} (hn : p.cls.length ≤ 1048576) (hu : Evq w u S (.slice ao (11 + p.cls.length) cap) p bp) (h0 : (rk3 p).1 = 0) : Calls Tryz.prog 28 #[.slice ao (11 + p.cls.length) cap, .int .i64 1502, .func (.func 31) #[.slice ao (11 + p.cls.length) cap] #[]] u fun e u' => (∃ v, e = .returned v) ∧ Below u.heap.size u u' :=
  chk_pass (F := 31) (enters_of Tryz.func31 (by kernel_rfl) rfl) (bad := bad3 p) hn (by decide) (fun u1 i hb hi => by
    show Calls _ _ #[.slice ao (11 + p.cls.length) cap, .int .i64 (11 + (i : Int))] _ _
    exact (wface_ok (hu.tb.go hb).tr (hu.tb.go hb).lo hi).mono fun e u2 ⟨a, b⟩ => ⟨a, b.mono hb.size⟩) h0
theorem ck3_fail {w u : World} {S : Nat → Prop} {ao : Option Addr} {cap : Nat} {p : Pg} {bp : Nat} (hn : p.cls.length ≤ 1048576) (hu : Evq w u S (.slice ao (11 + p.cls.length) cap) p bp) (h0 : (rk3 p).1 ≠ 0) : Calls Tryz.prog 28 #[.slice ao (11 + p.cls.length) cap, .int .i64 1502, .func (.func 31) #[.slice ao (11 + p.cls.length) cap] #[]] u fun e u' => e = FltI (rk3 p).2 (rk3 p).1 ∧ Below u.heap.size u u' :=
  chk_fail (F := 31) (enters_of Tryz.func31 (by kernel_rfl) rfl) (bad := bad3 p) hn (by decide) (fun u1 i hb hi => by
    show Calls _ _ #[.slice ao (11 + p.cls.length) cap, .int .i64 (11 + (i : Int))] _ _
    exact (wface_ok (hu.tb.go hb).tr (hu.tb.go hb).lo hi).mono fun e u2 ⟨a, b⟩ => ⟨a, b.mono hb.size⟩) h0
theorem ck4_pass {w u : World} {S : Nat → Prop} {ao : Option Addr} {cap : Nat} {p : Pg} {bp : Nat} (hn : p.cls.length ≤ 1048576) (hok : Okq p) (hu : Evq w u S (.slice ao (11 + p.cls.length) cap) p bp) (h0 : (rk4 p).1 = 0) : Calls Tryz.prog 28 #[.slice ao (11 + p.cls.length) cap, .int .i64 1504, .func (.func 32) #[.slice ao (11 + p.cls.length) cap] #[]] u fun e u' => (∃ v, e = .returned v) ∧ Below u.heap.size u u' :=
  chk_pass (F := 32) (enters_of Tryz.func32 (by kernel_rfl) rfl) (bad := bad4 p) hn (by decide) (fun u1 i hb hi => by
    show Calls _ _ #[.slice ao (11 + p.cls.length) cap, .int .i64 (11 + (i : Int))] _ _
    exact (wsign_ok hok (hu.tb.go hb).tr (hu.tb.go hb).lo hi).mono fun e u2 ⟨a, b⟩ => ⟨a, b.mono hb.size⟩) h0
theorem ck4_fail {w u : World} {S : Nat → Prop} {ao : Option Addr} {cap : Nat} {p : Pg} {bp : Nat} (hn : p.cls.length ≤ 1048576) (hok : Okq p) (hu : Evq w u S (.slice ao (11 + p.cls.length) cap) p bp) (h0 : (rk4 p).1 ≠ 0) : Calls Tryz.prog 28 #[.slice ao (11 + p.cls.length) cap, .int .i64 1504, .func (.func 32) #[.slice ao (11 + p.cls.length) cap] #[]] u fun e u' => e = FltI (rk4 p).2 (rk4 p).1 ∧ Below u.heap.size u u' :=
  chk_fail (F := 32) (enters_of Tryz.func32 (by kernel_rfl) rfl) (bad := bad4 p) hn (by decide) (fun u1 i hb hi => by
    show Calls _ _ #[.slice ao (11 + p.cls.length) cap, .int .i64 (11 + (i : Int))] _ _
    exact (wsign_ok hok (hu.tb.go hb).tr (hu.tb.go hb).lo hi).mono fun e u2 ⟨a, b⟩ => ⟨a, b.mono hb.size⟩) h0
theorem ck5_pass {w u : World} {S : Nat → Prop} {ao : Option Addr} {cap : Nat} {p : Pg} {bp : Nat} (hn : p.cls.length ≤ 1048576) (hok : Okq p) (hF : HqF) (hM : HqM) (hu : Evq w u S (.slice ao (11 + p.cls.length) cap) p bp) (h0 : (rk5 p).1 = 0) : Calls Tryz.prog 28 #[.slice ao (11 + p.cls.length) cap, .int .i64 1503, .func (.func 33) #[.slice ao (11 + p.cls.length) cap] #[]] u fun e u' => (∃ v, e = .returned v) ∧ Below u.heap.size u u' :=
  chk_pass (F := 33) (enters_of Tryz.func33 (by kernel_rfl) rfl) (bad := bad5 p) hn (by decide) (fun u1 i hb hi => by
    show Calls _ _ #[.slice ao (11 + p.cls.length) cap, .int .i64 (11 + (i : Int))] _ _
    exact (otw_ok hF hM (hu.tb.go hb).tr (hu.tb.go hb).lo hi (hok.at hi).nflds (hok.at hi).nstcs (hok.at hi).nmds).mono fun e u2 ⟨a, b⟩ => ⟨a, b.mono hb.size⟩) h0
theorem ck5_fail {w u : World} {S : Nat → Prop} {ao : Option Addr} {cap : Nat} {p : Pg} {bp : Nat} (hn : p.cls.length ≤ 1048576) (hok : Okq p) (hF : HqF) (hM : HqM) (hu : Evq w u S (.slice ao (11 + p.cls.length) cap) p bp) (h0 : (rk5 p).1 ≠ 0) : Calls Tryz.prog 28 #[.slice ao (11 + p.cls.length) cap, .int .i64 1503, .func (.func 33) #[.slice ao (11 + p.cls.length) cap] #[]] u fun e u' => e = FltI (rk5 p).2 (rk5 p).1 ∧ Below u.heap.size u u' :=
  chk_fail (F := 33) (enters_of Tryz.func33 (by kernel_rfl) rfl) (bad := bad5 p) hn (by decide) (fun u1 i hb hi => by
    show Calls _ _ #[.slice ao (11 + p.cls.length) cap, .int .i64 (11 + (i : Int))] _ _
    exact (otw_ok hF hM (hu.tb.go hb).tr (hu.tb.go hb).lo hi (hok.at hi).nflds (hok.at hi).nstcs (hok.at hi).nmds).mono fun e u2 ⟨a, b⟩ => ⟨a, b.mono hb.size⟩) h0
end Go.Proofs.YtbbmgjcabmjjdaaGreatDoor
namespace Go.Proofs.YtbbmgjcabmjjdaaGreatDoor
open Go.RowKit

theorem evq_start {w u1 : World} {S : Nat → Prop} {p : Pg} {ao po : Option Addr} {cap pc : Nat} (hS : ∀ k, S k → k < w.heap.size) (hb : Below (w.alloc (.cells #[.int .i64 p.main, .slice po p.cls.length pc] 37)).heap.size (w.alloc (.cells #[.int .i64 p.main, .slice po p.cls.length pc] 37)) u1) (hs : Sl kCs u1 (fun k => S k ∨ ((w.alloc (.cells #[.int .i64 p.main, .slice po p.cls.length pc] 37)).heap.size ≤ k ∧ k < u1.heap.size)) (.slice ao (trQ p).length cap) (trQ p)) : Evq w (u1.alloc (.cells #[.slice ao (11 + p.cls.length) cap] 63)) (fun k => S k ∨ ((w.alloc (.cells #[.int .i64 p.main, .slice po p.cls.length pc] 37)).heap.size ≤ k ∧ k < u1.heap.size)) (.slice ao (11 + p.cls.length) cap) p u1.heap.size := by
  have hc0 : (w.alloc (.cells #[.int .i64 p.main, .slice po p.cls.length pc] 37)).heap[w.heap.size]? = some (.cells #[.int .i64 p.main, .slice po p.cls.length pc] 37 (0, 0)) := heap_alloc_new _ _
  have hz : w.heap.size ≤ (w.alloc (.cells #[.int .i64 p.main, .slice po p.cls.length pc] 37)).heap.size := by simp
  have hB : Below w.heap.size w (w.alloc (.cells #[.int .i64 p.main, .slice po p.cls.length pc] 37)) := (Below.refl _ _).alloc (Nat.le_refl _) _
  rw [← trQ_len p]
  have hB2 : Below u1.heap.size u1 (u1.alloc (.cells #[.slice ao (trQ p).length cap] 63)) := (Below.refl _ _).alloc (Nat.le_refl _) _
  exact ⟨Tb.mk_ hs (fun k q => q.elim (fun q => Nat.lt_of_lt_of_le (hS k q) (Nat.le_trans hz hb.size)) (·.2)), cell_keep (cell_keep (bxq_cell hc0 rfl) hb) hB2, (hB.trans (hb.mono hz)).trans (hB2.mono (Nat.le_trans hz hb.size))⟩
set_option maxHeartbeats 8000000 in
set_option maxRecDepth 20000 in
theorem lof1f {S : Nat → Prop} {p : Pg} {cs : List Value} {w : World} (hS : ∀ k, S k → k < w.heap.size) (hR : kPg.R w S p cs) (hok : Okq p) (h1 : Hid ((rk1 p).1 ≠ 0)) : Calls Tryz.prog 14 #[.agg cs.toArray] w (LfP p w) := by
  have hn := hok.n
  obtain ⟨y, rfl, hV⟩ := hR
  have hV2 := hV
  obtain ⟨po, pc, rfl, -, -⟩ := hV2
  have hZ : (w.alloc (.cells #[.int .i64 p.main, .slice po p.cls.length pc] 37)).heap.size = w.heap.size + 1 := by simp
  have hc0 : (w.alloc (.cells #[.int .i64 p.main, .slice po p.cls.length pc] 37)).heap[w.heap.size]? = some (.cells #[.int .i64 p.main, .slice po p.cls.length pc] 37 (0, 0)) := heap_alloc_new _ _
  have m0 : (w.alloc (.cells #[.int .i64 p.main, .slice po p.cls.length pc] 37)).cell? ⟨w.heap.size, 0, none⟩ = some (.int .i64 p.main) := bxq_cell hc0 rfl
  have m1 : (w.alloc (.cells #[.int .i64 p.main, .slice po p.cls.length pc] 37)).cell? ⟨w.heap.size, 1, none⟩ = some (.slice po p.cls.length pc) := bxq_cell hc0 rfl
  have HB1 : Hid (Below w.heap.size w (w.alloc (.cells #[.int .i64 p.main, .slice po p.cls.length pc] 37))) := (Below.refl _ _).alloc (Nat.le_refl _) _
  have hT := treeOf_ok (w := (w.alloc (.cells #[.int .i64 p.main, .slice po p.cls.length pc] 37))) (S := S) (p := p) (cs := [.int .i64 p.main, .slice po p.cls.length pc]) (fun k q => by rw [hZ]; exact Nat.lt_succ_of_lt (hS k q)) ⟨_, rfl, hV.keep fun b q => HB1.out.block b (hS b q)⟩ hn
  have HS : Hid (∀ k, S k → k < w.heap.size) := hS
  have HK : Hid (Okq p) := hok
  have HN : Hid (p.cls.length ≤ 1048576) := hn
  clear hc0 hV hS hok hZ hn
  go_enter Tryz.func14, Tryz.ntmps14
  go_upto_region 2 with (go_at_call 27; refine hT.mono ?_; rintro e u1 ⟨v, rfl, hb1, hs1⟩; have hs2 := hs1; obtain ⟨ao, cap, rfl, -, -⟩ := hs2; have HE : Hid _ := evq_start HS.out hb1 hs1; clear hb1 hs1)
  rw [trQ_len p]
  generalize u1.heap.size = bp at *
  generalize u1.alloc (.cells #[.slice ao (11 + p.cls.length) cap] 63) = x1 at *
  obtain ⟨S2, HE1⟩ : ∃ S2, Hid (Evq w x1 S2 (.slice ao (11 + p.cls.length) cap) p bp) := ⟨_, HE.out⟩
  have b1 := HE1.out.tb.box
  clear HE m0 m1 hT HB1
  go_wp2_with (go_at_call 28; refine (ck1_fail HN.out HE1.out h1.out).mono ?_; rintro e z ⟨rfl, hb⟩; have HF : Hid _ := HE1.out.go hb)
  exact ⟨rfl, LfP.err (load_r1 h1.out) HF.out.bel⟩
set_option maxHeartbeats 8000000 in
set_option maxRecDepth 20000 in
theorem lof2f {S : Nat → Prop} {p : Pg} {cs : List Value} {w : World} (hS : ∀ k, S k → k < w.heap.size) (hR : kPg.R w S p cs) (hok : Okq p) (h1 : Hid ((rk1 p).1 = 0)) (h2 : Hid ((rk2 p).1 ≠ 0)) : Calls Tryz.prog 14 #[.agg cs.toArray] w (LfP p w) := by
  have hn := hok.n
  obtain ⟨y, rfl, hV⟩ := hR
  have hV2 := hV
  obtain ⟨po, pc, rfl, -, -⟩ := hV2
  have hZ : (w.alloc (.cells #[.int .i64 p.main, .slice po p.cls.length pc] 37)).heap.size = w.heap.size + 1 := by simp
  have hc0 : (w.alloc (.cells #[.int .i64 p.main, .slice po p.cls.length pc] 37)).heap[w.heap.size]? = some (.cells #[.int .i64 p.main, .slice po p.cls.length pc] 37 (0, 0)) := heap_alloc_new _ _
  have m0 : (w.alloc (.cells #[.int .i64 p.main, .slice po p.cls.length pc] 37)).cell? ⟨w.heap.size, 0, none⟩ = some (.int .i64 p.main) := bxq_cell hc0 rfl
  have m1 : (w.alloc (.cells #[.int .i64 p.main, .slice po p.cls.length pc] 37)).cell? ⟨w.heap.size, 1, none⟩ = some (.slice po p.cls.length pc) := bxq_cell hc0 rfl
  have HB1 : Hid (Below w.heap.size w (w.alloc (.cells #[.int .i64 p.main, .slice po p.cls.length pc] 37))) := (Below.refl _ _).alloc (Nat.le_refl _) _
  have hT := treeOf_ok (w := (w.alloc (.cells #[.int .i64 p.main, .slice po p.cls.length pc] 37))) (S := S) (p := p) (cs := [.int .i64 p.main, .slice po p.cls.length pc]) (fun k q => by rw [hZ]; exact Nat.lt_succ_of_lt (hS k q)) ⟨_, rfl, hV.keep fun b q => HB1.out.block b (hS b q)⟩ hn
  have HS : Hid (∀ k, S k → k < w.heap.size) := hS
  have HK : Hid (Okq p) := hok
  have HN : Hid (p.cls.length ≤ 1048576) := hn
  clear hc0 hV hS hok hZ hn
  go_enter Tryz.func14, Tryz.ntmps14
  go_upto_region 2 with (go_at_call 27; refine hT.mono ?_; rintro e u1 ⟨v, rfl, hb1, hs1⟩; have hs2 := hs1; obtain ⟨ao, cap, rfl, -, -⟩ := hs2; have HE : Hid _ := evq_start HS.out hb1 hs1; clear hb1 hs1)
  rw [trQ_len p]
  generalize u1.heap.size = bp at *
  generalize u1.alloc (.cells #[.slice ao (11 + p.cls.length) cap] 63) = x1 at *
  obtain ⟨S2, HE1⟩ : ∃ S2, Hid (Evq w x1 S2 (.slice ao (11 + p.cls.length) cap) p bp) := ⟨_, HE.out⟩
  have b1 := HE1.out.tb.box
  clear HE m0 m1 hT HB1
  go_upto_region 3 with (go_at_call 28; refine (ck1_pass HN.out HE1.out h1.out).mono ?_; rintro e x2 ⟨⟨v1, rfl⟩, hb⟩; have HE2 : Hid _ := HE1.out.go hb; have b2 := HE2.out.tb.box; clear b1 hb)
  go_wp2_with (go_at_call 28; refine (ck2_fail HN.out (runJ_ok (by decide) h1.out).2.2 HE2.out h2.out).mono ?_; rintro e z ⟨rfl, hb⟩; have HF : Hid _ := HE2.out.go hb)
  exact ⟨rfl, LfP.err (load_r2 h1.out h2.out) HF.out.bel⟩
set_option maxHeartbeats 8000000 in
set_option maxRecDepth 20000 in
theorem lof3f {S : Nat → Prop} {p : Pg} {cs : List Value} {w : World} (hS : ∀ k, S k → k < w.heap.size) (hR : kPg.R w S p cs) (hok : Okq p) (h1 : Hid ((rk1 p).1 = 0)) (h2 : Hid ((rk2 p).1 = 0)) (h3 : Hid ((rk3 p).1 ≠ 0)) : Calls Tryz.prog 14 #[.agg cs.toArray] w (LfP p w) := by
  have hn := hok.n
  obtain ⟨y, rfl, hV⟩ := hR
  have hV2 := hV
  obtain ⟨po, pc, rfl, -, -⟩ := hV2
  have hZ : (w.alloc (.cells #[.int .i64 p.main, .slice po p.cls.length pc] 37)).heap.size = w.heap.size + 1 := by simp
  have hc0 : (w.alloc (.cells #[.int .i64 p.main, .slice po p.cls.length pc] 37)).heap[w.heap.size]? = some (.cells #[.int .i64 p.main, .slice po p.cls.length pc] 37 (0, 0)) := heap_alloc_new _ _
  have m0 : (w.alloc (.cells #[.int .i64 p.main, .slice po p.cls.length pc] 37)).cell? ⟨w.heap.size, 0, none⟩ = some (.int .i64 p.main) := bxq_cell hc0 rfl
  have m1 : (w.alloc (.cells #[.int .i64 p.main, .slice po p.cls.length pc] 37)).cell? ⟨w.heap.size, 1, none⟩ = some (.slice po p.cls.length pc) := bxq_cell hc0 rfl
  have HB1 : Hid (Below w.heap.size w (w.alloc (.cells #[.int .i64 p.main, .slice po p.cls.length pc] 37))) := (Below.refl _ _).alloc (Nat.le_refl _) _
  have hT := treeOf_ok (w := (w.alloc (.cells #[.int .i64 p.main, .slice po p.cls.length pc] 37))) (S := S) (p := p) (cs := [.int .i64 p.main, .slice po p.cls.length pc]) (fun k q => by rw [hZ]; exact Nat.lt_succ_of_lt (hS k q)) ⟨_, rfl, hV.keep fun b q => HB1.out.block b (hS b q)⟩ hn
  have HS : Hid (∀ k, S k → k < w.heap.size) := hS
  have HK : Hid (Okq p) := hok
  have HN : Hid (p.cls.length ≤ 1048576) := hn
  clear hc0 hV hS hok hZ hn
  go_enter Tryz.func14, Tryz.ntmps14
  go_upto_region 2 with (go_at_call 27; refine hT.mono ?_; rintro e u1 ⟨v, rfl, hb1, hs1⟩; have hs2 := hs1; obtain ⟨ao, cap, rfl, -, -⟩ := hs2; have HE : Hid _ := evq_start HS.out hb1 hs1; clear hb1 hs1)
  rw [trQ_len p]
  generalize u1.heap.size = bp at *
  generalize u1.alloc (.cells #[.slice ao (11 + p.cls.length) cap] 63) = x1 at *
  obtain ⟨S2, HE1⟩ : ∃ S2, Hid (Evq w x1 S2 (.slice ao (11 + p.cls.length) cap) p bp) := ⟨_, HE.out⟩
  have b1 := HE1.out.tb.box
  clear HE m0 m1 hT HB1
  go_upto_region 3 with (go_at_call 28; refine (ck1_pass HN.out HE1.out h1.out).mono ?_; rintro e x2 ⟨⟨v1, rfl⟩, hb⟩; have HE2 : Hid _ := HE1.out.go hb; have b2 := HE2.out.tb.box; clear b1 hb)
  go_upto_region 4 with (go_at_call 28; refine (ck2_pass HN.out (runJ_ok (by decide) h1.out).2.2 HE2.out h2.out).mono ?_; rintro e x3 ⟨⟨v2, rfl⟩, hb⟩; have HE3 : Hid _ := HE2.out.go hb; have b3 := HE3.out.tb.box; clear b2 hb)
  go_wp2_with (go_at_call 28; refine (ck3_fail HN.out HE3.out h3.out).mono ?_; rintro e z ⟨rfl, hb⟩; have HF : Hid _ := HE3.out.go hb)
  exact ⟨rfl, LfP.err (load_r3 h1.out h2.out h3.out) HF.out.bel⟩
set_option maxHeartbeats 8000000 in
set_option maxRecDepth 20000 in
theorem lof4f {S : Nat → Prop} {p : Pg} {cs : List Value} {w : World} (hS : ∀ k, S k → k < w.heap.size) (hR : kPg.R w S p cs) (hok : Okq p) (h1 : Hid ((rk1 p).1 = 0)) (h2 : Hid ((rk2 p).1 = 0)) (h3 : Hid ((rk3 p).1 = 0)) (h4 : Hid ((rk4 p).1 ≠ 0)) : Calls Tryz.prog 14 #[.agg cs.toArray] w (LfP p w) := by
  have hn := hok.n
  obtain ⟨y, rfl, hV⟩ := hR
  have hV2 := hV
  obtain ⟨po, pc, rfl, -, -⟩ := hV2
  have hZ : (w.alloc (.cells #[.int .i64 p.main, .slice po p.cls.length pc] 37)).heap.size = w.heap.size + 1 := by simp
  have hc0 : (w.alloc (.cells #[.int .i64 p.main, .slice po p.cls.length pc] 37)).heap[w.heap.size]? = some (.cells #[.int .i64 p.main, .slice po p.cls.length pc] 37 (0, 0)) := heap_alloc_new _ _
  have m0 : (w.alloc (.cells #[.int .i64 p.main, .slice po p.cls.length pc] 37)).cell? ⟨w.heap.size, 0, none⟩ = some (.int .i64 p.main) := bxq_cell hc0 rfl
  have m1 : (w.alloc (.cells #[.int .i64 p.main, .slice po p.cls.length pc] 37)).cell? ⟨w.heap.size, 1, none⟩ = some (.slice po p.cls.length pc) := bxq_cell hc0 rfl
  have HB1 : Hid (Below w.heap.size w (w.alloc (.cells #[.int .i64 p.main, .slice po p.cls.length pc] 37))) := (Below.refl _ _).alloc (Nat.le_refl _) _
  have hT := treeOf_ok (w := (w.alloc (.cells #[.int .i64 p.main, .slice po p.cls.length pc] 37))) (S := S) (p := p) (cs := [.int .i64 p.main, .slice po p.cls.length pc]) (fun k q => by rw [hZ]; exact Nat.lt_succ_of_lt (hS k q)) ⟨_, rfl, hV.keep fun b q => HB1.out.block b (hS b q)⟩ hn
  have HS : Hid (∀ k, S k → k < w.heap.size) := hS
  have HK : Hid (Okq p) := hok
  have HN : Hid (p.cls.length ≤ 1048576) := hn
  clear hc0 hV hS hok hZ hn
  go_enter Tryz.func14, Tryz.ntmps14
  go_upto_region 2 with (go_at_call 27; refine hT.mono ?_; rintro e u1 ⟨v, rfl, hb1, hs1⟩; have hs2 := hs1; obtain ⟨ao, cap, rfl, -, -⟩ := hs2; have HE : Hid _ := evq_start HS.out hb1 hs1; clear hb1 hs1)
  rw [trQ_len p]
  generalize u1.heap.size = bp at *
  generalize u1.alloc (.cells #[.slice ao (11 + p.cls.length) cap] 63) = x1 at *
  obtain ⟨S2, HE1⟩ : ∃ S2, Hid (Evq w x1 S2 (.slice ao (11 + p.cls.length) cap) p bp) := ⟨_, HE.out⟩
  have b1 := HE1.out.tb.box
  clear HE m0 m1 hT HB1
  go_upto_region 3 with (go_at_call 28; refine (ck1_pass HN.out HE1.out h1.out).mono ?_; rintro e x2 ⟨⟨v1, rfl⟩, hb⟩; have HE2 : Hid _ := HE1.out.go hb; have b2 := HE2.out.tb.box; clear b1 hb)
  go_upto_region 4 with (go_at_call 28; refine (ck2_pass HN.out (runJ_ok (by decide) h1.out).2.2 HE2.out h2.out).mono ?_; rintro e x3 ⟨⟨v2, rfl⟩, hb⟩; have HE3 : Hid _ := HE2.out.go hb; have b3 := HE3.out.tb.box; clear b2 hb)
  go_upto_region 5 with (go_at_call 28; refine (ck3_pass HN.out HE3.out h3.out).mono ?_; rintro e x4 ⟨⟨v3, rfl⟩, hb⟩; have HE4 : Hid _ := HE3.out.go hb; have b4 := HE4.out.tb.box; clear b3 hb)
  go_wp2_with (go_at_call 28; refine (ck4_fail HN.out HK.out HE4.out h4.out).mono ?_; rintro e z ⟨rfl, hb⟩; have HF : Hid _ := HE4.out.go hb)
  exact ⟨rfl, LfP.err (load_r4 h1.out h2.out h3.out h4.out) HF.out.bel⟩
set_option maxHeartbeats 8000000 in
set_option maxRecDepth 20000 in
theorem lof5f {S : Nat → Prop} {p : Pg} {cs : List Value} {w : World} (hS : ∀ k, S k → k < w.heap.size) (hR : kPg.R w S p cs) (hok : Okq p) (hF : Hid HqF) (hM : Hid HqM) (h1 : Hid ((rk1 p).1 = 0)) (h2 : Hid ((rk2 p).1 = 0)) (h3 : Hid ((rk3 p).1 = 0)) (h4 : Hid ((rk4 p).1 = 0)) (h5 : Hid ((rk5 p).1 ≠ 0)) : Calls Tryz.prog 14 #[.agg cs.toArray] w (LfP p w) := by
  have hn := hok.n
  obtain ⟨y, rfl, hV⟩ := hR
  have hV2 := hV
  obtain ⟨po, pc, rfl, -, -⟩ := hV2
  have hZ : (w.alloc (.cells #[.int .i64 p.main, .slice po p.cls.length pc] 37)).heap.size = w.heap.size + 1 := by simp
  have hc0 : (w.alloc (.cells #[.int .i64 p.main, .slice po p.cls.length pc] 37)).heap[w.heap.size]? = some (.cells #[.int .i64 p.main, .slice po p.cls.length pc] 37 (0, 0)) := heap_alloc_new _ _
  have m0 : (w.alloc (.cells #[.int .i64 p.main, .slice po p.cls.length pc] 37)).cell? ⟨w.heap.size, 0, none⟩ = some (.int .i64 p.main) := bxq_cell hc0 rfl
  have m1 : (w.alloc (.cells #[.int .i64 p.main, .slice po p.cls.length pc] 37)).cell? ⟨w.heap.size, 1, none⟩ = some (.slice po p.cls.length pc) := bxq_cell hc0 rfl
  have HB1 : Hid (Below w.heap.size w (w.alloc (.cells #[.int .i64 p.main, .slice po p.cls.length pc] 37))) := (Below.refl _ _).alloc (Nat.le_refl _) _
  have hT := treeOf_ok (w := (w.alloc (.cells #[.int .i64 p.main, .slice po p.cls.length pc] 37))) (S := S) (p := p) (cs := [.int .i64 p.main, .slice po p.cls.length pc]) (fun k q => by rw [hZ]; exact Nat.lt_succ_of_lt (hS k q)) ⟨_, rfl, hV.keep fun b q => HB1.out.block b (hS b q)⟩ hn
  have HS : Hid (∀ k, S k → k < w.heap.size) := hS
  have HK : Hid (Okq p) := hok
  have HN : Hid (p.cls.length ≤ 1048576) := hn
  clear hc0 hV hS hok hZ hn
  go_enter Tryz.func14, Tryz.ntmps14
  go_upto_region 2 with (go_at_call 27; refine hT.mono ?_; rintro e u1 ⟨v, rfl, hb1, hs1⟩; have hs2 := hs1; obtain ⟨ao, cap, rfl, -, -⟩ := hs2; have HE : Hid _ := evq_start HS.out hb1 hs1; clear hb1 hs1)
  rw [trQ_len p]
  generalize u1.heap.size = bp at *
  generalize u1.alloc (.cells #[.slice ao (11 + p.cls.length) cap] 63) = x1 at *
  obtain ⟨S2, HE1⟩ : ∃ S2, Hid (Evq w x1 S2 (.slice ao (11 + p.cls.length) cap) p bp) := ⟨_, HE.out⟩
  have b1 := HE1.out.tb.box
  clear HE m0 m1 hT HB1
  go_upto_region 3 with (go_at_call 28; refine (ck1_pass HN.out HE1.out h1.out).mono ?_; rintro e x2 ⟨⟨v1, rfl⟩, hb⟩; have HE2 : Hid _ := HE1.out.go hb; have b2 := HE2.out.tb.box; clear b1 hb)
  go_upto_region 4 with (go_at_call 28; refine (ck2_pass HN.out (runJ_ok (by decide) h1.out).2.2 HE2.out h2.out).mono ?_; rintro e x3 ⟨⟨v2, rfl⟩, hb⟩; have HE3 : Hid _ := HE2.out.go hb; have b3 := HE3.out.tb.box; clear b2 hb)
  go_upto_region 5 with (go_at_call 28; refine (ck3_pass HN.out HE3.out h3.out).mono ?_; rintro e x4 ⟨⟨v3, rfl⟩, hb⟩; have HE4 : Hid _ := HE3.out.go hb; have b4 := HE4.out.tb.box; clear b3 hb)
  go_upto_region 6 with (go_at_call 28; refine (ck4_pass HN.out HK.out HE4.out h4.out).mono ?_; rintro e x5 ⟨⟨v4, rfl⟩, hb⟩; have HE5 : Hid _ := HE4.out.go hb; have b5 := HE5.out.tb.box; clear b4 hb)
  go_wp2_with (go_at_call 28; refine (ck5_fail HN.out HK.out hF.out hM.out HE5.out h5.out).mono ?_; rintro e z ⟨rfl, hb⟩; have HF : Hid _ := HE5.out.go hb)
  exact ⟨rfl, LfP.err (load_r5 h1.out h2.out h3.out h4.out h5.out) HF.out.bel⟩
end Go.Proofs.YtbbmgjcabmjjdaaGreatDoor
