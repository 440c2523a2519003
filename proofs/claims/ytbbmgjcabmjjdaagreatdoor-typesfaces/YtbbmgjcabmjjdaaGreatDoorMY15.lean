/- The program's own Load: its tree in memory; places, supers, types. -/
import Derived.Test.YtbbmgjcabmjjdaaGreatDoorMGJ9
namespace Go.Proofs.YtbbmgjcabmjjdaaGreatDoor
open Go.RowKit

def runM : Md := ⟨⟨#[114, 117, 110]⟩, false, [], 0, 0, 0, [], [], []⟩
/-- A built-in class, as the program has it. -/
def bltC (k : Nat) : Cs := ⟨⟨#[]⟩, false, false, if 2 ≤ k ∧ k ≤ 8 then 1 else 0, [], [], [], if k = 9 then [runM] else []⟩
def bltQ : List Cs := (List.range 11).map bltC
def trQ (p : Pg) : List Cs := bltQ ++ p.cls
/-- Class k, whichever it is. -/
def clQ (p : Pg) (k : Int) : Cs := if k < 11 then bltC k.toNat else ofJ p k
theorem trQ_len (p : Pg) : (trQ p).length = 11 + p.cls.length := by simp [trQ, bltQ]
theorem trQ_at {p : Pg} {i : Nat} (h : i < 11 + p.cls.length) : (trQ p)[i]? = some (clQ p i) := by
  unfold trQ clQ
  by_cases hi : i < 11
  · rw [List.getElem?_append_left (by simp [bltQ]; omega), if_pos (by omega)]
    simp [bltQ, hi]
  · rw [List.getElem?_append_right (by simp [bltQ]; omega), if_neg (by omega)]
    have : bltQ.length = 11 := by simp [bltQ]
    rw [this]
    unfold ofJ
    rw [List.getD_eq_getElem?_getD, show ((i : Int) - 11).toNat = i - 11 by omega, List.getElem?_eq_getElem (by omega)]; rfl
theorem isJ_nat {p : Pg} {k : Int} (h : isJ p k = true) : ∃ i : Nat, k = (i : Int) ∧ i < 11 + p.cls.length := by
  simp [isJ] at h
  exact ⟨k.toNat, by omega, by omega⟩
theorem cl_user {p : Pg} {k : Int} (h : 11 ≤ k) : clQ p k = ofJ p k := by unfold clQ; rw [if_neg (by omega)]
theorem cl_face {p : Pg} {k : Int} (h : isJ p k = true) : (clQ p k).face = faceJ p k := by
  unfold clQ faceJ userJ
  by_cases hk : k < 11
  · rw [if_pos hk]; simp [bltC]; omega
  · rw [if_neg hk, h]; simp; omega
theorem cl_fin {p : Pg} {k : Int} : (clQ p k).fin = (decide (11 ≤ k) && (ofJ p k).fin) := by
  unfold clQ
  by_cases hk : k < 11
  · rw [if_pos hk]; simp [bltC]; omega
  · rw [if_neg hk]; simp; omega
theorem cl_sup {p : Pg} {k : Int} (h : isJ p k = true) : (clQ p k).sup = if k = 0 then 0 else supJ p k := by
  simp [isJ] at h
  unfold clQ supJ
  by_cases hk : k < 11
  · rw [if_pos hk, if_pos hk]
    unfold bltC bltJ
    by_cases h0 : k = 0
    · subst h0; rfl
    · rw [if_neg h0, if_neg h0]
      by_cases h1 : 1 < k ∧ k < 9
      · rw [if_pos h1, if_pos (by omega)]
      · rw [if_neg h1, if_neg (by omega)]
  · rw [if_neg hk, if_neg hk, if_neg (by omega)]
end Go.Proofs.YtbbmgjcabmjjdaaGreatDoor
namespace Go.Proofs.YtbbmgjcabmjjdaaGreatDoor
open Go.RowKit

theorem tq_get {w : World} {S : Nat → Prop} {ao : Option Addr} {n cap : Nat} {p : Pg} (h : Sl kCs w S (.slice ao n cap) (trQ p)) {k : Int} (hk : isJ p k = true) :
    ∃ (i sb so : Nat) (f1 f2 f3 f4 : Option Addr) (g1 g2 g3 g4 : Nat), k = (i : Int) ∧ i < n ∧ ao = some ⟨sb, so, none⟩ ∧ S sb ∧
      (w.cell? ⟨sb, so + i * 8, none⟩ = some (.string (clQ p k).nm) ∧ w.cell? ⟨sb, so + i * 8 + 1, none⟩ = some (.bool (clQ p k).face) ∧ w.cell? ⟨sb, so + i * 8 + 2, none⟩ = some (.bool (clQ p k).fin) ∧ w.cell? ⟨sb, so + i * 8 + 3, none⟩ = some (.int .i64 (clQ p k).sup) ∧
      w.cell? ⟨sb, so + i * 8 + 4, none⟩ = some (.slice f1 (clQ p k).faces.length g1) ∧ w.cell? ⟨sb, so + i * 8 + 5, none⟩ = some (.slice f2 (clQ p k).flds.length g2) ∧ w.cell? ⟨sb, so + i * 8 + 6, none⟩ = some (.slice f3 (clQ p k).stcs.length g3) ∧ w.cell? ⟨sb, so + i * 8 + 7, none⟩ = some (.slice f4 (clQ p k).mds.length g4)) ∧
      Hid (Sl kI w S (.slice f1 (clQ p k).faces.length g1) (clQ p k).faces ∧ Sl kFd w S (.slice f2 (clQ p k).flds.length g2) (clQ p k).flds ∧ Sl kFd w S (.slice f3 (clQ p k).stcs.length g3) (clQ p k).stcs ∧ Sl kMd w S (.slice f4 (clQ p k).mds.length g4) (clQ p k).mds) := by
  obtain ⟨i, rfl, hi⟩ := isJ_nat hk
  obtain ⟨sb, so, rfl, hsb, ss, r1, hsd⟩ := h.atJ (trQ_at hi)
  obtain ⟨_, _, e, -⟩ := h
  injection e with _ e _
  generalize clQ p (i : Int) = c at *
  obtain ⟨o1, o2, o3, o4, rfl, j1, j2, j3, j4⟩ := r1
  have j1' := j1
  have j2' := j2
  have j3' := j3
  have j4' := j4
  obtain ⟨f1, g1, rfl, -⟩ := j1'
  obtain ⟨f2, g2, rfl, -⟩ := j2'
  obtain ⟨f3, g3, rfl, -⟩ := j3'
  obtain ⟨f4, g4, rfl, -⟩ := j4'
  have hr : ∀ j u, [Value.string c.nm, .bool c.face, .bool c.fin, .int .i64 c.sup, .slice f1 c.faces.length g1, .slice f2 c.flds.length g2, .slice f3 c.stcs.length g3, .slice f4 c.mds.length g4][j]? = some u → w.cell? ⟨sb, so + i * 8 + j, none⟩ = some u := fun j u hu => by
    have := hsd j u hu; rw [show kCs.k = 8 from rfl, show so + (i * 8 + j) = so + i * 8 + j by omega] at this; exact this
  have t0 := hr 0 _ rfl
  rw [Nat.add_zero] at t0
  exact ⟨i, sb, so, f1, f2, f3, f4, g1, g2, g3, g4, rfl, by rw [e, trQ_len]; exact hi, rfl, hsb, ⟨t0, hr 1 _ rfl, hr 2 _ rfl, hr 3 _ rfl, hr 4 _ rfl, hr 5 _ rfl, hr 6 _ rfl, hr 7 _ rfl⟩, j1, j2, j3, j4⟩
/-- How long the tree is. -/
theorem tq_len {w : World} {S : Nat → Prop} {ao : Option Addr} {n cap : Nat} {p : Pg} (h : Sl kCs w S (.slice ao n cap) (trQ p)) : n = 11 + p.cls.length ∧ n ≤ maxLen := by
  obtain ⟨_, _, e, hm, -⟩ := h
  injection e with _ e _
  rw [trQ_len] at e hm
  exact ⟨e, by rw [e]; exact hm⟩
set_option maxRecDepth 20000 in
theorem placeC_ok (ao : Option Addr) (n cap : Nat) (k : Int) (w : World) : Calls Tryz.prog 57 #[.slice ao n cap, .int .i64 k] w fun e w' => e = .returned (.bool (decide (0 ≤ k) && decide (k < (n : Int)))) ∧ w' = w := by
  by_cases h0 : 0 ≤ k
  · have d0 : decide (0 ≤ k) = true := by simp [h0]
    rw [d0]
    clear h0
    go_enter Tryz.func57, Tryz.ntmps57
    go_wp2
    go_ret
    exact ⟨by first | rfl | simp, rfl⟩
  · have d0 : decide (0 ≤ k) = false := by simp; omega
    rw [d0]
    clear h0
    go_enter Tryz.func57, Tryz.ntmps57
    go_wp2
    go_ret
    exact ⟨by first | rfl | simp, rfl⟩
set_option maxRecDepth 20000 in
theorem placeL_ok (ao : Option Addr) (n cap : Nat) (k : Int) (w : World) : Calls Tryz.prog 84 #[.slice ao n cap, .int .i64 k] w fun e w' => e = .returned (.bool (decide (0 ≤ k) && decide (k < (n : Int)))) ∧ w' = w := by
  by_cases h0 : 0 ≤ k
  · have d0 : decide (0 ≤ k) = true := by simp [h0]
    rw [d0]
    clear h0
    go_enter Tryz.func84, Tryz.ntmps84
    go_wp2
    go_ret
    exact ⟨by first | rfl | simp, rfl⟩
  · have d0 : decide (0 ≤ k) = false := by simp; omega
    rw [d0]
    clear h0
    go_enter Tryz.func84, Tryz.ntmps84
    go_wp2
    go_ret
    exact ⟨by first | rfl | simp, rfl⟩
theorem placeQ {w : World} {S : Nat → Prop} {ao : Option Addr} {n cap : Nat} {p : Pg} (h : Sl kCs w S (.slice ao n cap) (trQ p)) (k : Int) : Calls Tryz.prog 57 #[.slice ao n cap, .int .i64 k] w fun e w' => e = .returned (.bool (isJ p k)) ∧ w' = w := by
  have := placeC_ok ao n cap k w
  rw [(tq_len h).1] at this
  rw [(tq_len h).1]
  exact this
set_option maxHeartbeats 1000000 in
set_option maxRecDepth 20000 in
theorem wsup_ok {w : World} {S : Nat → Prop} {v : Value} {p : Pg} (h : Sl kCs w S v (trQ p)) {i : Nat} (hi : i < p.cls.length) : Calls Tryz.prog 29 #[v, .int .i64 (11 + (i : Int))] w fun e w' => e = .returned (.bool (bad1 p i)) ∧ w' = w := by
  have hv := h
  obtain ⟨ao, cap, rfl, hmx, -⟩ := hv
  unfold maxLen at hmx
  have hk : isJ p (11 + (i : Int)) = true := by simp [isJ]; omega
  obtain ⟨i1, sb, so, f1, f2, f3, f4, g1, g2, g3, g4, e1, hi1, rfl, -, ⟨-, t1, -, t3, -, -, -, -⟩, -⟩ := tq_get h hk
  have hP := placeQ h (ofJ p (11 + (i : Int))).sup
  have hb : bad1 p i = (!isJ p (ofJ p (11 + i)).sup || faceJ p (ofJ p (11 + i)).sup || (ofJ p (11 + i)).sup == 10 || ((ofJ p (11 + i)).face && (ofJ p (11 + i)).sup != 0)) := rfl
  rw [cl_user (by omega)] at t1 t3
  have hw1 : (11 + (i : Int)) = (i1 : Int) := e1
  have hl : (i1 : Int) < ((trQ p).length : Int) := by omega
  obtain ⟨s, hs⟩ : ∃ s, (ofJ p (11 + (i : Int))).sup = s := ⟨_, rfl⟩
  rw [hs] at t3 hP hb
  rw [hw1]
  rcases hf : (ofJ p (11 + (i : Int))).face with _ | _
  · rw [hf] at t1 hb
    rcases hp : isJ p s with _ | _
    · rw [hp] at hP hb
      rw [show bad1 p i = true by rw [hb]; rfl]
      clear h hb hf hs hp hk hw1 e1
      go_enter Tryz.func29, Tryz.ntmps29
      go_wp2_with (go_at_call 57; refine hP.mono ?_; rintro e w9 ⟨rfl, hw9⟩; replace hw9 := hw9.symm; subst hw9)
      go_ret
      exact ⟨rfl, rfl⟩
    · obtain ⟨i2, sb2, so2, _, _, _, _, _, _, _, _, rfl, hi2, e2, -, ⟨-, t1', -, -, -, -, -, -⟩, -⟩ := tq_get h hp
      obtain ⟨rfl, rfl, -⟩ : sb = sb2 ∧ so = so2 ∧ True := by injection e2 with e2; injection e2 with a b; exact ⟨a, b, trivial⟩
      rw [cl_face hp] at t1'
      rw [hp] at hP hb
      have hl2 : (i2 : Int) < ((trQ p).length : Int) := by omega
      obtain ⟨F, hF⟩ : ∃ F, faceJ p (i2 : Int) = F := ⟨_, rfl⟩
      rw [hF] at t1' hb
      cases F
      · obtain ⟨R, hR⟩ : ∃ R, ((i2 : Int) == 10) = R := ⟨_, rfl⟩
        rw [show bad1 p i = R by rw [hb, hR]; cases R <;> rfl]
        clear h hb hf hs hp hk hw1 e1 hF
        go_enter Tryz.func29, Tryz.ntmps29
        go_wp2_with (go_at_call 57; refine hP.mono ?_; rintro e w9 ⟨rfl, hw9⟩; replace hw9 := hw9.symm; subst hw9)
        go_ret
        exact ⟨by first | rfl | simp [hR], rfl⟩
      · rw [show bad1 p i = true by rw [hb]; cases ((i2 : Int) == 10) <;> rfl]
        clear h hb hf hs hp hk hw1 e1 hF
        go_enter Tryz.func29, Tryz.ntmps29
        go_wp2_with (go_at_call 57; refine hP.mono ?_; rintro e w9 ⟨rfl, hw9⟩; replace hw9 := hw9.symm; subst hw9)
        go_ret
        exact ⟨by first | rfl | simp, rfl⟩
  · rw [hf] at t1 hb
    obtain ⟨R, hR⟩ : ∃ R, (s != 0) = R := ⟨_, rfl⟩
    rw [show bad1 p i = R by
      rw [hb, hR]
      cases R
      · have : s = 0 := by simpa using hR
        subst this
        simp [isJ, faceJ, userJ]
        omega
      · simp]
    clear h hb hf hs hk hw1 e1 hP
    go_enter Tryz.func29, Tryz.ntmps29
    go_wp2
    go_ret
    exact ⟨by first | rfl | simp [hR], rfl⟩
set_option maxHeartbeats 1000000 in
set_option maxRecDepth 20000 in
theorem isType_ok {w : World} {S : Nat → Prop} {v : Value} {p : Pg} (h : Sl kCs w S v (trQ p)) {t : Int} (ht : rg t) : Calls Tryz.prog 63 #[v, .int .i64 t] w fun e w' => e = .returned (.bool (typJ p t)) ∧ w' = w := by
  have hv := h
  obtain ⟨ao, cap, rfl, -⟩ := hv
  have hI := placeQ h (t - 16)
  unfold rg at ht
  clear h
  by_cases h1 : t = 1
  · subst h1
    go_enter Tryz.func63, Tryz.ntmps63
    go_wp2_with (fail)
    go_ret
    exact ⟨rfl, rfl⟩
  have e1 : (t == 1) = false := by simp [h1]
  by_cases h3 : t = 3
  · subst h3
    go_enter Tryz.func63, Tryz.ntmps63
    go_wp2_with (fail)
    go_ret
    exact ⟨rfl, rfl⟩
  have e3 : (t == 3) = false := by simp [h3]
  by_cases h4 : t = 4
  · subst h4
    go_enter Tryz.func63, Tryz.ntmps63
    go_wp2_with (fail)
    go_ret
    exact ⟨rfl, rfl⟩
  have e4 : (t == 4) = false := by simp [h4]
  by_cases h16 : 16 ≤ t
  · have h2 : typJ p t = isJ p (t - 16) := by simp [typJ, h1, h3, h4, h16]
    rw [h2]
    have hw : wrap64 (t - 16) = t - 16 := by unfold wrap64; omega
    clear h2 h1 h3 h4
    go_enter Tryz.func63, Tryz.ntmps63
    go_wp2_with (go_at_call 57; refine hI.mono ?_; rintro e w9 ⟨rfl, hw9⟩; replace hw9 := hw9.symm; subst hw9)
    go_ret
    exact ⟨rfl, rfl⟩
  · have h2 : typJ p t = false := by simp [typJ, h1, h3, h4]; omega
    rw [h2]
    have h5 : decide (16 ≤ t) = false := by simp; omega
    clear h2 h1 h3 h4 h16
    go_enter Tryz.func63, Tryz.ntmps63
    go_wp2_with (fail)
    go_ret
    exact ⟨rfl, rfl⟩
end Go.Proofs.YtbbmgjcabmjjdaaGreatDoor
