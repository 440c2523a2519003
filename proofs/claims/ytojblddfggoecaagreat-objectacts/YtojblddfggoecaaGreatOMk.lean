/- ObjectActs: make. -/
import Derived.Test.YtojblddfggoecaaGreatOAdd
import Derived.BigRegion
import Derived.BigQuiet
namespace Go.Proofs.YtojblddfggoecaaGreat
open Go.RowKit
theorem need_ok (n : Nat) (hn : n ≤ 100000) (w : World) : Calls Tryz.prog 44 #[.int .i64 n] w fun e w' => e = .returned (.int .i64 (1 + (n + 5) / 6 : Nat)) ∧ w' = w := by
  go_enter Tryz.func44, Tryz.ntmps44
  go_wp2
  go_ret
  exact ⟨congrArg (fun x => Ending.returned (Value.int .i64 x)) (by omega), rfl⟩
section
variable {B : Nat} {w0 w : World} {P : Nat → Prop} {so p b W N m : Nat} {cs ws : Nat → Int} {O : List Ob} {y : Nat} {vr vo : Value} {L : List Rc}
theorem Edge8.same (h : Play8 B w0 w P so p b W N m cs ws O y vr vo (rowR L) L) (hA : Agr8 ws O L) : Edge8 B w0 w so p b W N (m + 1) y := ⟨P, cs, ws, O, vr, vo, L, h.more (Nat.le_succ _), hA⟩
set_option maxRecDepth 20000 in
set_option maxHeartbeats 2000000 in
/-- make, where the agent is none or the size is none. -/
theorem mk8_no (h : Play8 B w0 w P so p b W N m cs ws O y vr vo (rowR L) L) (hA : Agr8 ws O L) (K A q I n : Int) (code : Int)
    (hc : (¬ (0 ≤ A ∧ A < 3) ∧ code = 803) ∨ ((0 ≤ A ∧ A < 3) ∧ ¬ (0 ≤ n ∧ n ≤ 64) ∧ code = 800)) :
    Calls Tryz.prog 20 #[.pointer (some ⟨y, 0, none⟩), .agg #[.int .i64 K, .int .i64 A, .int .i64 q, .int .i64 I, .int .i64 n]] w (ActPost8 B w0 so p b W N (m + 1) y) := by
  have hx0 := Pb8.start h K A q I n
  have HA : Hid (Agr8 ws O L) := hA
  have hfit := h.ev.fit
  have htN : tot O ≤ N := by obtain ⟨_, _, e⟩ := h.ev.inv; omega
  have hMk : ∀ u, Pb8 B w0 u P so p b W N m cs ws O y vr vo (rowR L) L w.heap.size K A q I n → Calls Tryz.prog 14 #[.pointer (some ⟨so, 0, none⟩), .int .i64 A, .int .i64 n] u fun e w' => e = .returned (.tuple #[.int .i64 0, .int .i64 code]) ∧ w' = u := by
    intro u hu
    rcases hc with ⟨r1, rfl⟩ | ⟨r1, r2, rfl⟩
    · exact v_agent hu.play.ev A n r1
    · exact v_size hu.play.ev A n r1 r2
  have HM : Hid (∀ u, Pb8 B w0 u P so p b W N m cs ws O y vr vo (rowR L) L w.heap.size K A q I n → Calls Tryz.prog 14 #[.pointer (some ⟨so, 0, none⟩), .int .i64 A, .int .i64 n] u fun e w' => e = .returned (.tuple #[.int .i64 0, .int .i64 code]) ∧ w' = u) := hMk
  clear hMk h
  go_enter Tryz.func20, Tryz.ntmps20
  go_wp2
  generalize World.alloc _ _ = W1 at *
  have c1 := hx0.play.cells
  have hd := hx0.below (below_drewN W1 1 _)
  have hU := v_used hd.play.ev
  go_region_held3 (fun w' => w'.cell? ⟨y, 1, none⟩ = some (.pointer (some ⟨p, 0, none⟩)) ∧ w'.cell? ⟨y, 3, none⟩ = some (.int .i64 N)) (go_keep) ((go_at_call 12; refine hU.mono ?_; rintro e w2 ⟨ao2, k2, rfl, hb2⟩; have hx2 := hd.below hb2; have c2 := hx2.play.cells; have f2 := hx2.five; clear hb2))
  clear hx0 hd c1 hU
  have hd2 := hx2.below (below_drewN w2 1 _)
  have hM2 := HM.out _ hd2
  go_wp2
  go_region_held3 (fun w' => w'.cell? ⟨y, 0, none⟩ = some (.pointer (some ⟨so, 0, none⟩)) ∧ w'.cell? ⟨w.heap.size, 1, none⟩ = some (.int .i64 A) ∧ w'.cell? ⟨w.heap.size, 4, none⟩ = some (.int .i64 n)) (go_keep) ((go_at_call 14; refine hM2.mono ?_; rintro e w6 ⟨rfl, hw6⟩; have hx6 : Pb8 B w0 w6 P so p b W N m cs ws O y vr vo (rowR L) L w.heap.size K A q I n := hw6 ▸ hd2; have f6 := hx6.five; have c6 := hx6.play.cells; clear hw6))
  clear hx2 hd2 c2 f2 hM2 HM
  rcases hc with ⟨r1, rfl⟩ | ⟨r1, r2, rfl⟩
  · by_cases a0 : A < 0
    · clear r1
      go_wp2_with (go_at_call 11; refine (num_any _ _).mono ?_; rintro e w9 ⟨rfl, hw9⟩; replace hw9 := hw9.symm; subst hw9)
      go_ret
      exact ⟨rfl, Edge8.same hx6.play HA.out⟩
    · have a1 : 3 ≤ A := by omega
      have a2 : decide (A < 0) = false := by simp; omega
      clear r1 a0
      go_wp2_with (go_at_call 11; refine (num_any _ _).mono ?_; rintro e w9 ⟨rfl, hw9⟩; replace hw9 := hw9.symm; subst hw9)
      go_ret
      exact ⟨rfl, Edge8.same hx6.play HA.out⟩
  · have a2 : decide (A < 0) = false := by simp; omega
    have a3 : decide (3 ≤ A) = false := by simp; omega
    by_cases n0 : n < 0
    · clear r2
      go_wp2_with (go_at_call 11; refine (num_any _ _).mono ?_; rintro e w9 ⟨rfl, hw9⟩; replace hw9 := hw9.symm; subst hw9)
      go_ret
      exact ⟨rfl, Edge8.same hx6.play HA.out⟩
    · have n1 : 64 < n := by omega
      have n2 : decide (n < 0) = false := by simp; omega
      clear r2 n0
      go_wp2_with (go_at_call 11; refine (num_any _ _).mono ?_; rintro e w9 ⟨rfl, hw9⟩; replace hw9 := hw9.symm; subst hw9)
      go_ret
      exact ⟨rfl, Edge8.same hx6.play HA.out⟩
set_option maxRecDepth 20000 in
set_option maxHeartbeats 2000000 in
/-- make, where too few are free. -/
theorem mk8_none (h : Play8 B w0 w P so p b W N m cs ws O y vr vo (rowR L) L) (hA : Agr8 ws O L) (hm : m ≤ 5000) (K A q I : Int) (n : Nat) (ha : 0 ≤ A ∧ A < 3) (hn : n ≤ 64) (hf : ¬ 1 + (n + 5) / 6 + tot O ≤ N) :
    Calls Tryz.prog 20 #[.pointer (some ⟨y, 0, none⟩), .agg #[.int .i64 K, .int .i64 A, .int .i64 q, .int .i64 I, .int .i64 n]] w (ActPost8 B w0 so p b W N (m + 1) y) := by
  have hx0 := Pb8.start h K A q I n
  have HA : Hid (Agr8 ws O L) := hA
  have hfit := h.ev.fit
  have htN : tot O ≤ N := by obtain ⟨_, _, e⟩ := h.ev.inv; omega
  have hnd := need_ok n (by omega)
  have a2 : decide (A < 0) = false := by simp; omega
  have a3 : decide (3 ≤ A) = false := by simp; omega
  have n2 : decide ((n : Int) < 0) = false := by simp
  have n3 : decide (64 < (n : Int)) = false := by simp; omega
  have Hf : Hid (¬ 1 + (n + 5) / 6 + tot O ≤ N) := hf
  obtain ⟨nd, hndE⟩ : ∃ nd, nd = 1 + (n + 5) / 6 := ⟨_, rfl⟩
  rw [← hndE] at hnd
  have hlt : (N : Int) - (tot O : Nat) < (nd : Int) := by omega
  have hlt2 : decide ((N : Int) - (tot O : Nat) < (nd : Int)) = true := by simpa using hlt
  clear h hf hndE
  go_enter Tryz.func20, Tryz.ntmps20
  go_wp2
  generalize World.alloc _ _ = W1 at *
  have c1 := hx0.play.cells
  have hd := hx0.below (below_drewN W1 1 _)
  have hU := v_used hd.play.ev
  go_region_held3 (fun w' => w'.cell? ⟨y, 1, none⟩ = some (.pointer (some ⟨p, 0, none⟩)) ∧ w'.cell? ⟨y, 3, none⟩ = some (.int .i64 N)) (go_keep) ((go_at_call 12; refine hU.mono ?_; rintro e w2 ⟨ao2, k2, rfl, hb2⟩; have hx2 := hd.below hb2; have c2 := hx2.play.cells; have f2 := hx2.five; clear hb2))
  clear hx0 hd c1 hU
  have hd2 := hx2.below (below_drewN w2 1 _)
  have hM2 := v_none hd2.play.ev (by omega) A n ha hn Hf.out
  go_wp2
  go_region_held3 (fun w' => w'.cell? ⟨y, 0, none⟩ = some (.pointer (some ⟨so, 0, none⟩)) ∧ w'.cell? ⟨w.heap.size, 1, none⟩ = some (.int .i64 A) ∧ w'.cell? ⟨w.heap.size, 4, none⟩ = some (.int .i64 n)) (go_keep) ((go_at_call 14; refine hM2.mono ?_; rintro e w6 ⟨rfl, hb6⟩; have hx6 := hd2.below hb6; have f6 := hx6.five; have c6 := hx6.play.cells; clear hb6))
  clear hx2 hd2 c2 f2 hM2
  go_wp2_with (first
    | (go_at_call 11; refine (num_any _ _).mono ?_; rintro e w9 ⟨rfl, hw9⟩; replace hw9 := hw9.symm; subst hw9)
    | (go_at_call 44; refine (hnd _).mono ?_; rintro e w9 ⟨rfl, hw9⟩; replace hw9 := hw9.symm; subst hw9))
  have hd6 := hx6.below (below_drewN w6 1 _)
  have hU6 := v_used hd6.play.ev
  go_region_held3 (fun w' => w'.cell? ⟨y, 1, none⟩ = some (.pointer (some ⟨p, 0, none⟩)) ∧ w'.cell? ⟨y, 3, none⟩ = some (.int .i64 N)) (go_keep) (first
    | (go_at_call 12; refine hU6.mono ?_; rintro e w7 ⟨ao7, k7, rfl, hb7⟩; have hx7 := hd6.below hb7; have c7 := hx7.play.cells; clear hb7)
    | (go_at_call 11; refine (num_any _ _).mono ?_; rintro e w9 ⟨rfl, rfl⟩))
  go_wp2
  go_ret
  exact ⟨rfl, Edge8.same hx7.play HA.out⟩
end
end Go.Proofs.YtojblddfggoecaaGreat
