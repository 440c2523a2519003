/- The store's calls, the arguments as numbers; awake; two rows beside a store. -/
import Derived.Test.YtojblddfggoecaaGreatOEnv
namespace Go.Proofs.YtojblddfggoecaaGreat
open Go.RowKit
section
variable {B : Nat} {w0 w : World} {P : Nat → Prop} {so p b W N m : Nat} {cs ws : Nat → Int} {O : List Ob}
theorem x_make (h : Ev B w0 w P so p b W N m cs ws O) (hm : m ≤ 10000) (A n : Int) (hA : 0 ≤ A ∧ A < 3) (hn : 0 ≤ n ∧ n ≤ 64) (hf : 1 + (n + 5) / 6 + tot O ≤ N) :
    Calls Tryz.prog 14 #[.pointer (some ⟨so, 0, none⟩), .int .i64 A, .int .i64 n] w fun e w' => ∃ (o : Ob) (cs' ws' : Nat → Int), e = .returned (.tuple #[.int .i64 o.ref, .int .i64 0]) ∧ (o.n : Int) = n ∧ Chn 0 N ws ws' (frg o.n) o.c ∧ EvT B w0 w P so p b W N (m + 1) cs' ws' (O ++ [o]) w' := by
  obtain ⟨g, rfl⟩ := Int.eq_ofNat_of_zero_le hA.1
  obtain ⟨k, rfl⟩ := Int.eq_ofNat_of_zero_le hn.1
  refine (v_make h hm g k (by omega) (by omega) (by omega)).mono ?_
  rintro e w' ⟨c, cs', ws', rfl, hC, hT⟩
  exact ⟨⟨k, c⟩, cs', ws', rfl, rfl, hC, hT⟩
theorem x_load (h : Ev B w0 w P so p b W N m cs ws O) (hm : m ≤ 10000) {o : Ob} (ho : o ∈ O) (A i : Int) (hA : 0 ≤ A ∧ A < 3) (hi : 0 ≤ i ∧ i < o.n) :
    Calls Tryz.prog 16 #[.pointer (some ⟨so, 0, none⟩), .int .i64 A, .int .i64 o.ref, .int .i64 i] w fun e w' => e = .returned (.tuple #[.int .i64 (ws (o.ad 0 i.toNat)), .int .i64 0]) ∧ ∃ cs', cs' A.toNat = cs A.toNat + (hop i.toNat o.n + 1 : Nat) ∧ EvT B w0 w P so p b W N (m + 1) cs' ws O w' := by
  obtain ⟨g, rfl⟩ := Int.eq_ofNat_of_zero_le hA.1
  obtain ⟨k, rfl⟩ := Int.eq_ofNat_of_zero_le hi.1
  exact v_load h hm ho g k (by omega) (by omega)
theorem x_load_bounds (h : Ev B w0 w P so p b W N m cs ws O) {o : Ob} (ho : o ∈ O) (A i : Int) (hA : 0 ≤ A ∧ A < 3) (hi : ¬ (0 ≤ i ∧ i < o.n)) :
    Calls Tryz.prog 16 #[.pointer (some ⟨so, 0, none⟩), .int .i64 A, .int .i64 o.ref, .int .i64 i] w fun e w' => e = .returned (.tuple #[.int .i64 0, .int .i64 802]) ∧ w' = w := by
  obtain ⟨g, rfl⟩ := Int.eq_ofNat_of_zero_le hA.1
  exact v_load_bounds h ho g (by omega) i hi
theorem x_put (h : Ev B w0 w P so p b W N m cs ws O) (hm : m ≤ 10000) {a : Nat} {o : Ob} (ha : O[a]? = some o) (A i v : Int) (hA : 0 ≤ A ∧ A < 3) (hi : 0 ≤ i ∧ i < o.n) :
    Calls Tryz.prog 15 #[.pointer (some ⟨so, 0, none⟩), .int .i64 A, .int .i64 o.ref, .int .i64 i, .int .i64 v] w fun e w' => e = .returned (.int .i64 0) ∧ ∃ cs', cs' A.toNat = cs A.toNat + (hop i.toNat o.n + 1 : Nat) ∧ EvT B w0 w P so p b W N (m + 1) cs' (upd ws (o.ad 0 i.toNat) v) O w' := by
  obtain ⟨g, rfl⟩ := Int.eq_ofNat_of_zero_le hA.1
  obtain ⟨k, rfl⟩ := Int.eq_ofNat_of_zero_le hi.1
  exact v_put h hm ha g k v (by omega) (by omega)
theorem x_put_bounds (h : Ev B w0 w P so p b W N m cs ws O) {o : Ob} (ho : o ∈ O) (A i v : Int) (hA : 0 ≤ A ∧ A < 3) (hi : ¬ (0 ≤ i ∧ i < o.n)) :
    Calls Tryz.prog 15 #[.pointer (some ⟨so, 0, none⟩), .int .i64 A, .int .i64 o.ref, .int .i64 i, .int .i64 v] w fun e w' => e = .returned (.int .i64 802) ∧ w' = w := by
  obtain ⟨g, rfl⟩ := Int.eq_ofNat_of_zero_le hA.1
  exact v_put_bounds h ho g (by omega) i v hi
theorem x_free (h : Ev B w0 w P so p b W N m cs ws O) (hm : m ≤ 10000) {a : Nat} {o : Ob} (ha : O[a]? = some o) (A : Int) (hA : 0 ≤ A ∧ A < 3) :
    Calls Tryz.prog 10 #[.pointer (some ⟨so, 0, none⟩), .int .i64 A, .int .i64 o.ref] w fun e w' => e = .returned (.int .i64 0) ∧ ∃ cs', EvT B w0 w P so p b W N (m + 1) cs' (freed 0 N ws o.c (frg o.n)) (O.eraseIdx a) w' := by
  obtain ⟨g, rfl⟩ := Int.eq_ofNat_of_zero_le hA.1
  exact v_free h hm ha g (by omega)
theorem x_begun (x : Int) (n : Nat) (hx : x = n) (w : World) (n1 : 1 ≤ n) (n2 : n ≤ 1000) :
    Calls Tryz.prog 5 #[.int .i64 x] w fun e w' => ∃ (so p b : Nat) (P : Nat → Prop), e = .returned (.tuple #[.pointer (some ⟨so, 0, none⟩), .pointer (some ⟨p, 0, none⟩), .pointer (some ⟨b, 0, none⟩), .bool true]) ∧ Ev w.heap.size w w' P so p b (14 * n + 64) n 0 (fun _ => 0) (fun _ => 0) [] := by
  subst hx
  exact begun8_ok n w n1 n2
end
set_option maxRecDepth 20000 in
set_option maxHeartbeats 1000000 in
theorem awake8 (w : World) : Calls Tryz.prog 13 #[] w fun e w' => e = .returned (.bool true) ∧ Below w.heap.size w w' := by
  have hbg := x_begun 8 8 rfl w (by omega) (by omega)
  go_enter Tryz.func13, Tryz.ntmps13
  go_wp2_with (first
    | (go_at_call 5; refine hbg.mono ?_; rintro e w1 ⟨so, p, b, P1, rfl, E1⟩; have hMk := x_make E1 (by omega) 0 10 (by omega) (by omega) (by simp [tot]); clear hbg)
    | (go_at_call 14; refine hMk.mono ?_; clear hMk; rintro e w2 ⟨o, cs2, ws2, rfl, hn2, hC2, P2, E2, _, _⟩; have hO : ([] ++ [o])[0]? = some o := rfl; have hr : 1 ≤ o.ref := (by unfold Ob.ref; omega); have hPt := x_put E2 (by omega) hO 1 9 5 (by omega) (by omega); clear hC2)
    | (go_at_call 15; refine hPt.mono ?_; clear hPt; rintro e w3 ⟨rfl, cs3, _, P3, E3, _, _⟩; have hLd := x_load E3 (by omega) (List.mem_of_getElem? hO) 2 9 (by omega) (by omega); rw [upd_at] at hLd)
    | (go_at_call 16; refine hLd.mono ?_; clear hLd; rintro e w4 ⟨rfl, cs4, _, P4, E4, _, _⟩; have hLb := x_load_bounds E4 (List.mem_of_getElem? hO) 0 10 (by omega) (by omega); have hMs := v_size E4 0 65 (by omega) (by omega))
    | (go_at_call 16; refine hLb.mono ?_; clear hLb; rintro e w9 ⟨rfl, hw9⟩; replace hw9 := hw9.symm; subst hw9)
    | (go_at_call 14; refine hMs.mono ?_; clear hMs; rintro e w9 ⟨rfl, hw9⟩; replace hw9 := hw9.symm; subst hw9)
    | (go_at_call 19; refine (onew_nil _).mono ?_; rintro e w9 ⟨rfl, hw9⟩; replace hw9 := hw9.symm; subst hw9)
    | (go_at_call 11; refine (num_any _ _).mono ?_; rintro e w9 ⟨rfl, hw9⟩; replace hw9 := hw9.symm; subst hw9))
  go_ret
  exact ⟨rfl, E4.bel⟩
end Go.Proofs.YtojblddfggoecaaGreat
