/- Awake; the walk of SpineRoom. -/
import Derived.Test.YtjfjgfkfbbigbaaPEnv
namespace Go.Proofs.Ytjfjgfkfbbigbaa
open Go.RowKit
section
variable {B : Nat} {w0 w : World} {P : Nat → Prop} {s b W : Nat} {q : St} {V : Int → Int → Int}
/-- Make, by letters. -/
theorem l_make (h : Env B w0 w P s b W q V) (g n : Int) (hg : 0 ≤ g ∧ g < 3) (hn : 0 ≤ n ∧ n ≤ 1000) (hr : n + 4 ≤ q.half - q.taken) (hgi : q.given < 1000000000) :
    Calls Try.prog 15 #[.pointer (some ⟨s, 0, none⟩), .int .i64 g, .int .i64 n] w fun e w' => ∃ (x : Ary) (q' : St) (V' : Int → Int → Int), e = .returned (.tuple #[.int .i64 x.id, .int .i64 0]) ∧ x ∈ q'.xs ∧ 1 ≤ x.id ∧ Hid (x = ⟨q.given + 1, topOf q, n⟩ ∧ q' = made q n ∧ V' = fun id i => if id = q.given + 1 then 0 else V id i) ∧ EnvT B w0 w P s b W q' V' w' := by
  obtain ⟨f, hI, _⟩ := h.inv
  refine (e_make h g n hg hn hr hgi).mono ?_
  rintro e w' ⟨rfl, hT⟩
  exact ⟨⟨q.given + 1, topOf q, n⟩, _, _, rfl, by simp [made], by have := hI.given0; show 1 ≤ q.given + 1; omega, ⟨rfl, rfl, rfl⟩, hT⟩
theorem l_drop (h : Env B w0 w P s b W q V) {x : Ary} (hx : x ∈ q.xs) :
    Calls Try.prog 17 #[.pointer (some ⟨s, 0, none⟩), .int .i64 x.id] w fun e w' => ∃ q', e = .returned (.int .i64 0) ∧ Hid (q' = droppedSt q (pos q.xs x.id) x.n) ∧ EnvT B w0 w P s b W q' V w' :=
  (e_drop h hx).mono fun _ _ r => ⟨_, r.1, (rfl : _ = _), r.2⟩
theorem l_begin (h : Env B w0 w P s b W q V) (hoff : q.c.on = false) :
    Calls Try.prog 18 #[.pointer (some ⟨s, 0, none⟩)] w fun e w' => ∃ q', e = .returned (.int .i64 0) ∧ q'.c.on = true ∧ Hid (q' = begunSt q) ∧ EnvT B w0 w P s b W q' V w' :=
  (e_begin h hoff).mono fun _ _ r => ⟨_, r.1, rfl, (rfl : _ = _), r.2⟩
theorem cn0 : Cn fun _ => 0 := fun _ => by kernel_rfl
theorem Env.first {w1 : World} {base half : Int} (hG : Gd w1 P s b W 3 (q0 base half) (fun _ _ => 0) (fun _ => 0)) (hb : Below w.heap.size w w1) (hP : ∀ k, P k → w.heap.size ≤ k) (hB : Below B w0 w) (hS : B ≤ w.heap.size) : ∃ P, Env B w0 w1 P s b W (q0 base half) (fun _ _ => 0) :=
  ⟨_, ⟨_, cn0, hG.shrink⟩, fun k hk => Nat.le_trans hS (hP k hk.1), fun _ hk => hk.2, hB.trans (hb.mono hS), Nat.le_trans hS hb.size⟩
end
theorem updV_at (V : Int → Int → Int) (t i v : Int) : updV V t i v t i = v := by simp [updV]
set_option maxRecDepth 20000 in
set_option maxHeartbeats 1000000 in
theorem awake_any (w : World) : Calls Try.prog 14 #[] w fun e w' => e = .returned (.bool true) ∧ Below w.heap.size w w' := by
  go_enter Try.func14, Try.ntmps14
  go_wp2_with (first
    | (go_at_call 7; refine (begun_ok 0 64 w (by omega) (by omega)).mono ?_; rintro e w1 ⟨s, b, P, rfl, hG, hb1, hP⟩; obtain ⟨P1, E1⟩ := Env.first hG hb1 hP (Below.refl _ _) (Nat.le_refl _); clear hG hP)
    | (go_at_call 15; refine (e_full E5 0 40 (by omega) (by omega) (by rw [R5.out.1, R5.out.2]; omega)).mono ?_; rintro e w7 ⟨rfl, hb7⟩)
    | (go_at_call 15; refine (l_make E1 0 5 (by omega) (by omega) (by show (5 : Int) + 4 ≤ 64 / 2 - 0; omega) (by show (0 : Int) < 1000000000; omega)).mono ?_; rintro e w2 ⟨x, q1, V1, rfl, hx, hx1, HQ1, P2, E2, _, _⟩; have R2 : Hid (x.n = 5 ∧ q1.c.on = false ∧ q1.half = 32 ∧ q1.taken = 9) := (by obtain ⟨rfl, rfl, _⟩ := HQ1.out; exact ⟨rfl, rfl, by kernel_rfl, by kernel_rfl⟩); clear HQ1)
    | (go_at_call 16; refine (e_set E2 hx 1 4 9 (by omega) (by rw [R2.out.1]; omega)).mono ?_; rintro e w3 ⟨rfl, P3, E3, _, _⟩)
    | (go_at_call 13; refine (e_get E3 hx 2 4 (by omega) (by rw [R2.out.1]; omega)).mono ?_; rintro e w4 ⟨rfl, P4, E4, _, _⟩; rw [updV_at])
    | (go_at_call 18; refine (e_begin_no E5 O5.out).mono ?_; rintro e w9 ⟨rfl, hw9⟩; replace hw9 := hw9.symm; subst hw9)
    | (go_at_call 18; refine (l_begin E4 R2.out.2.1).mono ?_; rintro e w5 ⟨q5, rfl, ho5, HQ5, P5, E5, _, _⟩; have O5 : Hid (q5.c.on = true) := ho5; clear ho5; have R5 : Hid (q5.half = 32 ∧ q5.taken = 9) := (by have r := HQ5.out; rw [r]; exact ⟨R2.out.2.2.1, R2.out.2.2.2⟩); clear HQ5)
    | (go_at_call 12; refine (num_any _ _).mono ?_; rintro e w9 ⟨rfl, hw9⟩; replace hw9 := hw9.symm; subst hw9))
  go_ret
  exact ⟨rfl, E5.bel.trans (hb7.mono E5.size)⟩
/-- A space that is as at first but for the numbers that were given. -/
def Emp (q : St) (i : Int) : Prop := q.xs = [] ∧ q.c.on = false ∧ q.given = i ∧ q.half = 200 ∧ q.taken = 0 ∧ q.dropped = 0
set_option maxRecDepth 20000 in
set_option maxHeartbeats 4000000 in
theorem room_walk (size rounds : Int) (w : World) : Calls Try.prog 6 #[.int .i64 size, .int .i64 rounds] w fun e w' => e = .returned (.bool true) ∧ Below w.heap.size w w' := by
  obtain ⟨a, ha, ha2⟩ := masked63 size
  obtain ⟨r, hr, hr2⟩ := masked7 rounds
  obtain ⟨k, hk⟩ : ∃ k : Nat, k = 100 + a := ⟨_, rfl⟩
  have hk1 : 100 ≤ k ∧ k ≤ 163 := by omega
  have hke : (100 : Int) + (a : Int) = (k : Int) := by omega
  clear hk ha2
  go_enter Try.func6, Try.ntmps6
  go_wp2_with (first
    | (go_at_call 14; refine (awake_any w).mono ?_; rintro e w1 ⟨rfl, hb1⟩)
    | (go_at_call 7; refine (begun_ok 0 400 w1 (by omega) (by omega)).mono ?_; rintro e w2 ⟨s, b, P, rfl, hG, hb2, hP⟩; obtain ⟨P2, E2⟩ := Env.first hG hb2 hP hb1 hb1.size; clear hG hP))
  have HE : Hid (Env w.heap.size w w2 P2 s b (0 + 400 : Int).toNat (q0 0 (400 / 2)) (fun _ _ => 0)) := E2
  clear E2
  go_loopg [9, 10, 11, 12, 13, 14, 15, 16, 17, 18, 19] 10 (fun kx s9 s10 s11 s12 s13 s14 s15 s16 s17 s18 s19 wr => ∃ i : Nat, s9 = .int .i64 i ∧ i ≤ r + 1 ∧ r + 1 - i ≤ kx ∧ ∃ P q V, Env w.heap.size w wr P s b (0 + 400 : Int).toNat q V ∧ Hid (Emp q i))
  case atStart => exact ⟨0, rfl, by omega, by omega, P2, _, _, HE.out, ⟨rfl, rfl, rfl, by kernel_rfl, rfl, rfl⟩⟩
  case round =>
    obtain ⟨i, rfl, hi, hkx, P, q, V, E, HM⟩ := hrel
    clear HE
    by_cases hlt : i ≤ r
    · obtain ⟨m1, m2, m3, m4, m5, m6⟩ := HM.out
      have M : Hid (q.xs = [] ∧ q.c.on = false ∧ q.given = i ∧ q.half = 200 ∧ q.taken = 0 ∧ q.dropped = 0) := ⟨m1, m2, m3, m4, m5, m6⟩
      have hi' : i ≤ 8 := by omega
      clear m1 m2 m3 m4 m5 m6 HM
      go_wp2_with (first
        | (go_at_call 15; refine (e_full E3 1 k (by omega) (by omega) (by rw [R3.out.2.2.1, R3.out.2.2.2.1]; omega)).mono ?_; rintro e w4 ⟨rfl, hb4⟩; have E4 := E3.below hb4)
        | (go_at_call 15; refine (l_make E 0 k (by omega) (by omega) (by rw [M.out.2.2.2.1, M.out.2.2.2.2.1]; omega) (by rw [M.out.2.2.1]; omega)).mono ?_; rintro e w3 ⟨x, q3, V3, rfl, hx, hx1, HQ3, P3, E3, _, _⟩; have R3 : Hid (q3.xs = [x] ∧ x.n = k ∧ q3.half = 200 ∧ q3.taken = k + 4 ∧ q3.c.on = false ∧ q3.given = i + 1 ∧ q3.dropped = 0) := (by obtain ⟨rfl, rfl, _⟩ := HQ3.out; obtain ⟨n1, n2, n3, n4, n5, n6⟩ := M.out; exact ⟨by simp [made, n1], rfl, n4, by show q.taken + ((k : Int) + 4) = _; omega, n2, by show q.given + 1 = _; omega, n6⟩); clear HQ3)
        | (go_at_call 9; refine (e_room E4).mono ?_; rintro e w5 ⟨rfl, hb5⟩; have E5 := E4.below hb5; rw [R3.out.2.2.1, R3.out.2.2.2.1])
        | (go_at_call 12; refine (num_any _ _).mono ?_; rintro e w9 ⟨rfl, hw9⟩; replace hw9 := hw9.symm; subst hw9)
        | (go_at_call 17; refine (l_drop E5 hx).mono ?_; rintro e w6 ⟨q6, rfl, HQ6, P6, E6, _, _⟩; have R6 : Hid (q6.xs = [] ∧ q6.half = 200 ∧ q6.taken = k + 4 ∧ q6.dropped = k + 4 ∧ q6.c.on = false ∧ q6.given = i + 1) := (by have r := HQ6.out; rw [r]; obtain ⟨n1, n2, n3, n4, n5, n6, n7⟩ := R3.out; exact ⟨by simp [droppedSt, n1, pos], n3, n4, by show q3.dropped + (x.n + 4) = _; omega, n5, n6⟩); clear HQ6)
        | (go_at_call 11; refine (e_len_no E6 x.id (by rw [R6.out.1]; rfl)).mono ?_; rintro e w7 ⟨rfl, hb7⟩; have E7 := E6.below hb7)
        | (go_at_call 18; refine (l_begin E7 R6.out.2.2.2.2.1).mono ?_; rintro e w8 ⟨q8, rfl, ho8, HQ8, P8, E8, _, _⟩; have R8 : Hid (q8.xs = [] ∧ q8.half = 200 ∧ q8.taken = k + 4 ∧ q8.leaving = k + 4 ∧ q8.c.on = true ∧ q8.given = i + 1 ∧ q8.dropped = 0 ∧ rank q8 = 1) := (by obtain ⟨f, hI, _⟩ := E7.inv; have hr := rank_begun hI; have r := HQ8.out; rw [r]; obtain ⟨n1, n2, n3, n4, n5, n6⟩ := R6.out; rw [n1] at hr; exact ⟨n1, n2, n3, n4, rfl, n6, rfl, hr⟩); clear HQ8 ho8))
      have E8' : Hid (Env w.heap.size w w8 P8 s b (0 + 400 : Int).toNat q8 V3) := E8
      clear E E3 E4 E5 E6 E7 E8 R3 R6 M
      go_loopg [17, 18, 19] 1 (fun kx s17 s18 s19 wx => s17 = .int .i64 (0 : Int) ∧ Env w.heap.size w wx P8 s b (0 + 400 : Int).toNat q8 V3)
      case atStart => exact ⟨rfl, E8'.out⟩
      case round =>
        obtain ⟨rfl, E8⟩ := hrel
        clear E8'
        go_wp2_with (first
          | (go_at_call 19; refine (e_step E8 R8.out.2.2.2.2.1 2 (by omega) (by rw [R8.out.2.2.2.2.2.1]; omega)).mono ?_; rintro e w10 ⟨q10, rfl, hst, P10, E10, _, _⟩; have ho : q10.c.on = false := (by
              cases h10 : q10.c.on with
              | false => rfl
              | true =>
                obtain ⟨f, hI, _⟩ := E10.inv
                have h1 := (hst.on h10).2.2
                have h2 := hI.rank1
                have h3 := R8.out.2.2.2.2.2.2.2
                omega); have R10 : Hid (Emp q10 (i + 1)) := (by
              obtain ⟨n1, n2, n3, n4, n5, n6, n7, n8⟩ := R8.out
              have e1 := hst.shape
              rw [n1] at e1
              have e2 := hst.off ho
              exact ⟨by simpa using e1, ho, by rw [hst.given]; exact n6, by rw [hst.half]; exact n2, by rw [e2.1]; omega, by rw [hst.dropped]; exact n7⟩); rw [ho]; clear ho hst)
          | (go_at_call 12; refine (num_any _ _).mono ?_; rintro e w9 ⟨rfl, hw9⟩; replace hw9 := hw9.symm; subst hw9)
          | (go_at_call 9; refine (e_room E10).mono ?_; rintro e w11 ⟨rfl, hb11⟩; have E11 := E10.below hb11; rw [R10.out.2.2.2.1, R10.out.2.2.2.2.1]))
        go_roundg (r + 1 - (i + 1))
        case measure => omega
        case rel => exact ⟨i + 1, by go_num, by omega, by omega, P10, q10, V3, E11, R10.out⟩
    · have hlt' : ¬ (i : Int) ≤ (r : Int) := by omega
      go_wp2
      go_ret
      exact ⟨rfl, E.bel⟩
end Go.Proofs.Ytjfjgfkfbbigbaa
