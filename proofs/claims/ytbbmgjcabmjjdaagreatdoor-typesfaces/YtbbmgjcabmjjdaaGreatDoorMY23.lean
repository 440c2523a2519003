/- The program's own Load: rule 2. -/
import Derived.Test.YtbbmgjcabmjjdaaGreatDoorMY22
namespace Go.Proofs.YtbbmgjcabmjjdaaGreatDoor
open Go.RowKit Go.Shelf
attribute [local go_sem] Oper.semAt_some

/-- One step up, as the program goes; n steps. -/
def nxQ (p : Pg) (c : Int) : Int := (clQ p c).sup
def itQ (p : Pg) (c : Int) : Nat → Int
  | 0 => c
  | n + 1 => nxQ p (itQ p c n)
/-- Is there an n-th one? -/
def hasQ (p : Pg) (c : Int) : Nat → Bool
  | 0 => true
  | n + 1 => itQ p c n != 0
/-- All supers are there. -/
def UpOk (p : Pg) : Prop := ∀ k, isJ p k = true → isJ p (nxQ p k) = true
theorem itQ_ok {p : Pg} (h : UpOk p) {c : Int} (hc : isJ p c = true) : ∀ n, isJ p (itQ p c n) = true
  | 0 => hc
  | n + 1 => h _ (itQ_ok h hc n)
/-- The boxes of a line. -/
structure UpB (W : World) (S : Nat → Prop) (v : Value) (p : Pg) (c : Int) (B N : Nat) : Prop where
  tb : Tb W S v p B
  from_ : W.cell? ⟨B + 1, 0, none⟩ = some (.int .i64 c)
  abv : W.cell? ⟨B + 2, 0, none⟩ = some (.func (.func 91) #[] #[.pointer (some ⟨B, 0, none⟩)])
  most : W.cell? ⟨B + 3, 0, none⟩ = some (.int .i64 N)
theorem UpB.go {W W' : World} {S : Nat → Prop} {v : Value} {p : Pg} {c : Int} {B N : Nat} (h : UpB W S v p c B N) (hb : Below W.heap.size W W') : UpB W' S v p c B N :=
  ⟨h.tb.go hb, cell_keep h.from_ hb, cell_keep h.abv hb, cell_keep h.most hb⟩
set_option maxRecDepth 20000 in
theorem line1_ok {u : World} {S : Nat → Prop} {v : Value} {p : Pg} {bt : Nat} (hT : Tb u S v p bt) {x : Int} (hx : isJ p x = true) : Calls Tryz.prog 91 #[.int .i64 x, .pointer (some ⟨bt, 0, none⟩)] u fun e u' => e = .returned (.tuple #[.int .i64 (nxQ p x), .bool (x != 0)]) ∧ u' = u := by
  have b0 := hT.box
  have hv := hT.tr
  obtain ⟨ao, cap, rfl, -⟩ := hv
  obtain ⟨i, sb, so, _, _, _, _, _, _, _, _, rfl, hi, rfl, -, ⟨-, -, -, t3, -, -, -, -⟩, -⟩ := tq_get hT.tr hx
  have hl : (i : Int) < ((trQ p).length : Int) := by omega
  rw [show nxQ p (i : Int) = (clQ p (i : Int)).sup from rfl]
  generalize (clQ p (i : Int)).sup = s at *
  clear hT hx hi
  go_enter Tryz.func91, Tryz.ntmps91
  go_wp2
  go_ret2
  exact ⟨by first | rfl | simp, rfl⟩
set_option maxHeartbeats 1000000 in
set_option maxRecDepth 20000 in
theorem line_ok {w : World} {S : Nat → Prop} {v : Value} {p : Pg} (h : Sl kCs w S v (trQ p)) (hS : ∀ k, S k → k < w.heap.size) (c : Int) : Calls Tryz.prog 58 #[v, .int .i64 c] w fun e w' => e = .returned (.func (.func 116) #[] #[.pointer (some ⟨w.heap.size + 1, 0, none⟩), .pointer (some ⟨w.heap.size + 3, 0, none⟩), .pointer (some ⟨w.heap.size + 2, 0, none⟩)]) ∧ UpB w' S v p c w.heap.size (trQ p).length ∧ Lys w w' ∧ w'.heap.size = w.heap.size + 4 := by
  have hT := Tb.mk_ h hS
  have hv := h
  obtain ⟨ao, cap, rfl, -⟩ := hv
  have z1 : (w.alloc (.cells #[.slice ao (trQ p).length cap] 63)).heap.size = w.heap.size + 1 := by simp
  have hU : Calls Tryz.prog 90 #[.int .i64 c, .func (.func 91) #[] #[.pointer (some ⟨w.heap.size, 0, none⟩)], .int .i64 (trQ p).length] (w.alloc (.cells #[.slice ao (trQ p).length cap] 63)) fun e w' => e = .returned (.func (.func 116) #[] #[.pointer (some ⟨w.heap.size + 1, 0, none⟩), .pointer (some ⟨w.heap.size + 3, 0, none⟩), .pointer (some ⟨w.heap.size + 2, 0, none⟩)]) ∧ w' = (((w.alloc (.cells #[.slice ao (trQ p).length cap] 63)).alloc (.cells #[.int .i64 c] 3)).alloc (.cells #[.func (.func 91) #[] #[.pointer (some ⟨w.heap.size, 0, none⟩)]] 114)).alloc (.cells #[.int .i64 (trQ p).length] 3) := by
    generalize hW : w.alloc (.cells #[.slice ao (trQ p).length cap] 63) = W at *
    have y1 : w.heap.size + 1 = W.heap.size := z1.symm
    have y2 : w.heap.size + 2 = W.heap.size + 1 := by omega
    have y3 : w.heap.size + 3 = W.heap.size + 1 + 1 := by omega
    rw [y1, y2, y3]
    clear hT h y1 y2 y3 z1 hW hS
    go_enter Tryz.func90, Tryz.ntmps90
    go_wp2
    go_ret
    exact ⟨rfl, rfl⟩
  clear h hS
  have HT : Hid _ := hT
  have HZ : Hid _ := z1
  clear hT z1
  go_enter Tryz.func58, Tryz.ntmps58
  go_wp2_with (go_at_call 90; refine hU.mono ?_; rintro e w1 ⟨rfl, hw1⟩; have HW : Hid _ := hw1; clear hw1 hU)
  go_ret
  refine ⟨rfl, ?_, ?_, ?_⟩
  · rw [HW.out]
    have q1 := heap_alloc_new (w.alloc (.cells #[.slice ao (trQ p).length cap] 63)) (.cells #[.int .i64 c] 3)
    have q2 := heap_alloc_new ((w.alloc (.cells #[.slice ao (trQ p).length cap] 63)).alloc (.cells #[.int .i64 c] 3)) (.cells #[.func (.func 91) #[] #[.pointer (some ⟨w.heap.size, 0, none⟩)]] 114)
    have q3 := heap_alloc_new (((w.alloc (.cells #[.slice ao (trQ p).length cap] 63)).alloc (.cells #[.int .i64 c] 3)).alloc (.cells #[.func (.func 91) #[] #[.pointer (some ⟨w.heap.size, 0, none⟩)]] 114)) (.cells #[.int .i64 (trQ p).length] 3)
    have s2 : ((w.alloc (.cells #[.slice ao (trQ p).length cap] 63)).alloc (.cells #[.int .i64 c] 3)).heap.size = w.heap.size + 2 := by simp
    have s3 : (((w.alloc (.cells #[.slice ao (trQ p).length cap] 63)).alloc (.cells #[.int .i64 c] 3)).alloc (.cells #[.func (.func 91) #[] #[.pointer (some ⟨w.heap.size, 0, none⟩)]] 114)).heap.size = w.heap.size + 3 := by simp
    rw [HZ.out] at q1
    rw [s2] at q2
    rw [s3] at q3
    have b1 : Below (w.heap.size + 1) (w.alloc (.cells #[.slice ao (trQ p).length cap] 63)) ((w.alloc (.cells #[.slice ao (trQ p).length cap] 63)).alloc (.cells #[.int .i64 c] 3)) := (Below.refl _ _).alloc (by rw [HZ.out]; omega) _
    refine ⟨HT.out.go ((((Below.refl _ _).alloc (Nat.le_refl _) _).alloc (by simp) _).alloc (by simp) _), ?_, ?_, bxq_cell q3 rfl⟩
    · exact bxq_cell ((Below.heap_alloc _ _ _ (by rw [s3]; omega)).trans ((Below.heap_alloc _ _ _ (by rw [s2]; omega)).trans q1)) rfl
    · exact bxq_cell ((Below.heap_alloc _ _ _ (by rw [s3]; omega)).trans q2) rfl
  · rw [HW.out]; exact ((((Lys.refl w).alloc _).alloc _).alloc _).alloc _
  · rw [HW.out]; simp
/-- At place i of a line x is handed over. -/
def MupQ (I : Nat → World → Prop) (p : Pg) (c : Int) (N : Nat) (i : Nat) (x : Int) (W : World) : Prop := (x = itQ p c i ∧ i < N ∧ hasQ p c i = true) ∧ I i W
set_option maxRecDepth 100000 in
set_option maxHeartbeats 4000000 in
theorem up_joint {I : Nat → World → Prop} {S : Nat → Prop} {v : Value} {p : Pg} {c : Int} {B N : Nat} (hN : N ≤ 1073741824) (hp : UpOk p) (hc : isJ p c = true) (hbox : ∀ i W, I i W → UpB W S v p c B N) (n : Nat) (hn : 1 ≤ n) :
    JointQ Fence.wide n Tryz.prog 116 #[.pointer (some ⟨B + 1, 0, none⟩), .pointer (some ⟨B + 3, 0, none⟩), .pointer (some ⟨B + 2, 0, none⟩)] (fun x : Int => #[Value.int .i64 x]) I (MupQ I p c N) (fun i _ => i + 1) (fun i => i ≤ N ∧ (i = N ∨ hasQ p c i = false)) 0 := by
  intro l Bk St W hBk hY h0 hb0
  have c1 := (hbox 0 W h0).from_
  have c3 := (hbox 0 W h0).most
  have HY : Hid _ := hY
  have HB : Hid _ := hbox
  have HP : Hid (UpOk p ∧ isJ p c = true) := ⟨hp, hc⟩
  have H0 : Hid (I 0 W ∧ Bk W) := ⟨h0, hb0⟩
  clear hY hbox h0 hb0 hp hc
  refine callsIn_of_wp Tryz.func116 rfl trivial ?_ rfl
  simp only [Tryz.ntmps116, List.size_toArray, List.length_cons, List.length_nil, Nat.reduceAdd, Nat.reduceSub, Array.replicate_succ, Array.replicate_zero, List.push_toArray, List.append_toArray, List.nil_append, List.cons_append]
  gi_wp2
  clear c1 c3
  gi_loopg [5, 6, 9] N (fun k s5 s6 s9 wr => ∃ i : Nat, s9 = .int .i64 i ∧ i ≤ N ∧ N - i = k ∧ s5 = .int .i64 (itQ p c i) ∧ s6 = .bool (hasQ p c i) ∧ Hid (I i wr ∧ Bk wr))
  case atStart => exact ⟨0, rfl, by omega, rfl, rfl, rfl, H0⟩
  case round =>
    clear H0
    obtain ⟨i, rfl, hi, hk, rfl, rfl, h⟩ := hrel
    by_cases hlt : i < N
    · have hlt' : (i : Int) < (N : Int) := by omega
      rcases hh : hasQ p c i with _ | _
      · have HH : Hid (hasQ p c i = false) := hh
        clear hh
        gi_wp2
        refine ⟨fun _ h => (by cases h), ?_⟩
        gi_wp2
        refine bodyPost_ret (results_none rfl _ _ _) rfl ?_
        exact ⟨⟨_, rfl⟩, .inl ⟨i, ⟨hi, .inr HH.out⟩, h.out⟩⟩
      · obtain ⟨fn, tmps, assign, body, hy, hRd⟩ := HY.out i (itQ p c i) wr ⟨⟨rfl, hlt, hh⟩, h.out.1⟩ h.out.2
        have HX : Hid (isJ p (itQ p c i) = true) := itQ_ok HP.out.1 HP.out.2 i
        clear h hh
        gi_wp2
        refine hRd.mono ?_
        rintro e W3 (⟨rfl, hi3, hk3⟩ | ⟨rfl, hst⟩)
        · have c2 := (HB.out _ _ hi3).abv
          have hL := line1_ok (HB.out _ _ hi3).tb HX.out
          have H3 : Hid (I (i + 1) W3 ∧ Bk W3) := ⟨hi3, hk3⟩
          clear hy hRd hi3 hk3
          gi_wp2_with (refine ⟨trivial, ?_⟩; gi_at_call 91; refine (callsIn_wide.2 hL).mono ?_; clear hL; rintro e w2 ⟨rfl, hw2⟩; replace hw2 := hw2.symm; subst hw2)
          gi_roundg (N - (i + 1))
          case rel => exact ⟨i + 1, by go_num, by omega, rfl, rfl, rfl, H3⟩
          case measure => omega
        · clear hy hRd
          gi_wp2
          refine bodyPost_ret (results_none rfl _ _ _) rfl ?_
          exact ⟨⟨_, rfl⟩, .inr hst⟩
    · obtain rfl : i = N := by omega
      have hlt' : ¬ (i : Int) < (i : Int) := by omega
      gi_wp2
      go_end0
      exact ⟨⟨_, rfl⟩, .inl ⟨i, ⟨Nat.le_refl _, .inl rfl⟩, h.out⟩⟩
end Go.Proofs.YtbbmgjcabmjjdaaGreatDoor
namespace Go.Proofs.YtbbmgjcabmjjdaaGreatDoor
open Go.RowKit

theorem upOk_of {p : Pg} (h : ∀ i, i < p.cls.length → bad1 p i = false) : UpOk p := fun k hk => by
  have hk2 : 0 ≤ k ∧ k < (11 + p.cls.length : Nat) := by simpa [isJ] using hk
  rw [show nxQ p k = (clQ p k).sup from rfl, cl_sup hk]
  by_cases h0 : k = 0
  · rw [if_pos h0]; simp [isJ]; omega
  · rw [if_neg h0]
    by_cases h1 : k < 11
    · rw [show supJ p k = bltJ k by simp [supJ, h1]]
      unfold bltJ
      rw [if_neg h0]
      split <;> simp [isJ] <;> omega
    · rw [show supJ p k = (ofJ p k).sup by simp [supJ, h1]]
      have hb := h (k - 11).toNat (by omega)
      rw [bad1, show (11 : Int) + ((k - 11).toNat : Int) = k by omega] at hb
      simp at hb
      exact hb.1.1.1
theorem itQ_shift (p : Pg) (c : Int) (a : Nat) : ∀ k, itQ p c (a + k) = itQ p (itQ p c a) k
  | 0 => rfl
  | k + 1 => by
    show nxQ p (itQ p c (a + k)) = nxQ p (itQ p (itQ p c a) k)
    rw [itQ_shift p c a k]
theorem itQ_itJ {p : Pg} (hp : UpOk p) {s : Int} (hs : isJ p s = true) : ∀ n, (∀ j, j < n → itQ p s j ≠ 0) → itQ p s n = itJ p s n
  | 0, _ => rfl
  | n + 1, h => by
    rw [itJ_succ, ← itQ_itJ hp hs n fun j hj => h j (by omega)]
    show (clQ p (itQ p s n)).sup = _
    rw [cl_sup (itQ_ok hp hs n), if_neg (h n (by omega))]
theorem itQ_low {p : Pg} {c : Int} {n : Nat} (h : itQ p c n < 11) : ∀ k, itQ p c (n + k) < 11
  | 0 => h
  | k + 1 => by
    have ih := itQ_low h k
    show (clQ p (itQ p c (n + k))).sup < 11
    unfold clQ
    rw [if_pos ih]
    unfold bltC
    dsimp only
    split <;> omega
theorem back_ex {p : Pg} {at_ : Int} : ∀ (f : Nat) (y : Int), backJ p at_ f y = true → ∃ d, d < f ∧ itJ p y d = at_ ∧ ∀ e, e ≤ d → 0 ≤ itJ p y e
  | 0, _, h => by simp [backJ] at h
  | f + 1, y, h => by
    rw [backJ] at h
    simp only [Bool.and_eq_true, decide_eq_true_eq, Bool.or_eq_true, beq_iff_eq] at h
    obtain ⟨h0, h1⟩ := h
    rcases h1 with h1 | h1
    · exact ⟨0, by omega, h1, fun e he => by rw [show e = 0 by omega]; exact h0⟩
    · obtain ⟨d, hd, h2, h3⟩ := back_ex f _ h1
      refine ⟨d + 1, by omega, h2, fun e he => ?_⟩
      cases e with
      | zero => exact h0
      | succ e => exact h3 e (by omega)
/-- Come to again: there is a ring. -/
theorem cyc_yes {p : Pg} (h1 : ∀ i, i < p.cls.length → bad1 p i = false) {i : Nat} (hi : i < p.cls.length) {j : Nat} (hj : itQ p (supJ p (11 + (i : Int))) j = 11 + (i : Int)) (hz : ∀ e, e < j → itQ p (supJ p (11 + (i : Int))) e ≠ 0) : bad2 p i = true := by
  have hp := upOk_of h1
  have hS : isJ p (supJ p (11 + (i : Int))) = true := by
    have := hp _ (user_of hi).2.2
    rw [show nxQ p (11 + (i : Int)) = (clQ p (11 + (i : Int))).sup from rfl, cl_sup (user_of hi).2.2, if_neg (by omega)] at this
    exact this
  generalize hs : supJ p (11 + (i : Int)) = s at *
  -- the least such place
  have hex : ∃ d, itQ p s d = 11 + (i : Int) ∧ d ≤ j ∧ ∀ e, e < d → itQ p s e ≠ 11 + (i : Int) := by
    induction j using Nat.strongRecOn with
    | ind j ih =>
      by_cases hm : ∃ e, e < j ∧ itQ p s e = 11 + (i : Int)
      · obtain ⟨e, he, hE⟩ := hm
        obtain ⟨d, a, b, c⟩ := ih e he hE (fun x hx => hz x (by omega))
        exact ⟨d, a, by omega, c⟩
      · exact ⟨j, hj, Nat.le_refl _, fun e he hE => hm ⟨e, he, hE⟩⟩
  obtain ⟨d, hd, hdj, hmin⟩ := hex
  have huser : ∀ e, e ≤ d → 11 ≤ itQ p s e ∧ itQ p s e < 11 + (p.cls.length : Int) := fun e he => by
    have h2 := itQ_ok hp hS e
    simp [isJ] at h2
    refine ⟨?_, by omega⟩
    apply Int.not_lt.1
    intro hlow
    have := itQ_low hlow (d - e)
    rw [show e + (d - e) = d by omega, hd] at this
    omega
  have hnd : ((List.range (d + 1)).map fun e => itQ p s e - 11).Nodup := by
    rw [List.Nodup, List.pairwise_iff_getElem]
    intro a b ha hb hab
    simp only [List.length_map, List.length_range] at ha hb
    simp only [List.getElem_map, List.getElem_range]
    intro he
    have heq : itQ p s a = itQ p s b := by omega
    have h5 : itQ p s (a + (d - b)) = 11 + (i : Int) := by
      rw [itQ_shift, heq, ← itQ_shift, show b + (d - b) = d by omega, hd]
    exact hmin _ (by omega) h5
  have hlen := nodup_len p.cls.length _ hnd (fun x hx => by
    simp only [List.mem_map, List.mem_range] at hx
    obtain ⟨e, he, rfl⟩ := hx
    have := huser e (by omega)
    omega)
  rw [List.length_map, List.length_range] at hlen
  unfold bad2
  rw [hs]
  refine back_hit d (p.cls.length + 1) s (by omega) (fun e he => ?_) ?_
  · rw [← itQ_itJ hp hS e fun x hx => hz x (by omega)]
    have := huser e he; omega
  · rw [← itQ_itJ hp hS d fun x hx => hz x (by omega)]; exact hd
/-- Never come to, up to the top or more often than there are classes: there is none. -/
theorem cyc_no {p : Pg} (h1 : ∀ i, i < p.cls.length → bad1 p i = false) {i : Nat} (hi : i < p.cls.length) {m : Nat} (hn : ∀ j, j < m → itQ p (supJ p (11 + (i : Int))) j ≠ 11 + (i : Int)) (hm : p.cls.length + 1 ≤ m ∨ hasQ p (supJ p (11 + (i : Int))) m = false) : bad2 p i = false := by
  have hp := upOk_of h1
  have hS : isJ p (supJ p (11 + (i : Int))) = true := by
    have := hp _ (user_of hi).2.2
    rw [show nxQ p (11 + (i : Int)) = (clQ p (11 + (i : Int))).sup from rfl, cl_sup (user_of hi).2.2, if_neg (by omega)] at this
    exact this
  generalize hs : supJ p (11 + (i : Int)) = s at *
  rcases hb : bad2 p i with _ | _
  · rfl
  · exfalso
    unfold bad2 at hb
    rw [hs] at hb
    obtain ⟨d, hd, h2, h3⟩ := back_ex _ _ hb
    have hz : ∀ e, e < d → itQ p s e ≠ 0 := by
      intro e
      induction e using Nat.strongRecOn with
      | ind e ih =>
        intro he h0
        have e1 := itQ_itJ hp hS e fun x hx => ih x hx (by omega)
        have h4 := h3 (e + 1) (by omega)
        rw [itJ_succ, ← e1, h0] at h4
        simp [supJ, bltJ] at h4
    rw [← itQ_itJ hp hS d hz] at h2
    have hdm : m ≤ d := Nat.not_lt.1 fun hlt => hn d hlt h2
    rcases hm with hm | hm
    · omega
    · cases m with
      | zero => simp [hasQ] at hm
      | succ m =>
        have : itQ p s m = 0 := by simpa [hasQ] using hm
        exact hz m (by omega) this
end Go.Proofs.YtbbmgjcabmjjdaaGreatDoor
namespace Go.Proofs.YtbbmgjcabmjjdaaGreatDoor
open Go.RowKit Go.Shelf
attribute [local go_sem] Oper.semAt_some

/-- Between two rounds: nothing has turned, the class was not come to, nor the top. -/
def IcyQ (w3 : World) (p : Pg) (s c : Int) (i : Nat) (W : World) : Prop := Below w3.heap.size w3 W ∧ (∀ j, j < i → itQ p s j ≠ c) ∧ (∀ j, j + 1 < i → itQ p s j ≠ 0)
/-- The class was come to. -/
def XcyQ (w3 : World) (p : Pg) (s c : Int) (br : Nat) (W : World) : Prop := Bx br w3 W ∧ W.heap[br]? = some (.cells #[.bool true] 4 (0, 0)) ∧ ∃ j, itQ p s j = c ∧ ∀ e, e < j → itQ p s e ≠ 0
theorem icy_own {w3 : World} {p : Pg} {s c : Int} : OwnFrom w3.heap.size (IcyQ w3 p s c) :=
  OwnFrom.and (ownFrom_below (Nat.le_refl _) (Nat.le_refl _)) (fun _ _ _ _ h _ _ => h)
theorem xcy_own {w3 : World} {p : Pg} {s c : Int} {br : Nat} (hb : br < w3.heap.size) : OwnFrom w3.heap.size (fun _ : Unit => XcyQ w3 p s c br) := fun _ A A' row h hg hr => by
  obtain ⟨h1, h2, h3⟩ := h
  have hne : ∀ k, k < w3.heap.size → some k ≠ row := fun k hk e => by have := (hr k e.symm).1; omega
  have hl := (Array.getElem?_eq_some_iff.1 h2).1
  exact ⟨⟨hg.os.trans h1.os, hg.tape.trans h1.tape, hg.output.trans h1.output, Nat.le_trans h1.size hg.size, fun k hk hn => (hg.block k (Nat.lt_of_lt_of_le hk h1.size) (hne k hk)).trans (h1.block k hk hn)⟩, (hg.block br hl (hne br hb)).trans h2, h3⟩
theorem bx_put {br D : Nat} {w3 W : World} (h : Bx br w3 W) (hD : w3.heap.size ≤ D) (o : Obj) : Bx br w3 (W.putObj D o) := ⟨h.os, h.tape, h.output, by rw [World.putObj_size]; exact h.size, fun k hk hn => (World.putObj_heap_other (by omega)).trans (h.block k hk hn)⟩
set_option maxRecDepth 100000 in
set_option maxHeartbeats 8000000 in
theorem cycle_ok {w : World} {S : Nat → Prop} {v : Value} {p : Pg} (h1 : ∀ i, i < p.cls.length → bad1 p i = false) (hn : p.cls.length ≤ 1048576) (h : Sl kCs w S v (trQ p)) (hS : ∀ k, S k → k < w.heap.size) {i : Nat} (hi : i < p.cls.length) : Calls Tryz.prog 30 #[v, .int .i64 (11 + (i : Int))] w fun e w' => e = .returned (.bool (bad2 p i)) ∧ Below w.heap.size w w' := by
  have hp := upOk_of h1
  obtain ⟨hu, -, hk⟩ := user_of hi
  have hsp : isJ p (supJ p (11 + (i : Int))) = true := by
    have := hp _ hk
    rw [show nxQ p (11 + (i : Int)) = (clQ p (11 + (i : Int))).sup from rfl, cl_sup hk, if_neg (by omega)] at this
    exact this
  have HY : Hid (∀ j, itQ p (supJ p (11 + (i : Int))) j = 11 + (i : Int) → (∀ e, e < j → itQ p (supJ p (11 + (i : Int))) e ≠ 0) → bad2 p i = true) := fun j a b => cyc_yes h1 hi a b
  have HNO : Hid (∀ m, (∀ j, j < m → itQ p (supJ p (11 + (i : Int))) j ≠ 11 + (i : Int)) → (p.cls.length + 1 ≤ m ∨ hasQ p (supJ p (11 + (i : Int))) m = false) → bad2 p i = false) := fun m a b => cyc_no h1 hi a b
  have hs3 : (clQ p (11 + (i : Int))).sup = supJ p (11 + (i : Int)) := by rw [cl_sup hk, if_neg (by omega)]
  obtain ⟨R, hR⟩ : ∃ R, bad2 p i = R := ⟨_, rfl⟩
  rw [hR] at HY HNO ⊢
  generalize supJ p (11 + (i : Int)) = s at *
  generalize hc : 11 + (i : Int) = c at *
  have hb2 : Below w.heap.size w ((w.alloc (.cells #[.int .i64 c] 3)).alloc (.cells #[.bool false] 4)) := ((Below.refl _ _).alloc (Nat.le_refl _) _).alloc (by simp) _
  have z1 : (w.alloc (.cells #[.int .i64 c] 3)).heap.size = w.heap.size + 1 := by simp
  have z2 : ((w.alloc (.cells #[.int .i64 c] 3)).alloc (.cells #[.bool false] 4)).heap.size = w.heap.size + 2 := by simp
  have nr : ((w.alloc (.cells #[.int .i64 c] 3)).alloc (.cells #[.bool false] 4)).heap[w.heap.size + 1]? = some (.cells #[.bool false] 4 (0, 0)) := by have := heap_alloc_new (w.alloc (.cells #[.int .i64 c] 3)) (.cells #[.bool false] 4); rw [z1] at this; exact this
  have nc : ((w.alloc (.cells #[.int .i64 c] 3)).alloc (.cells #[.bool false] 4)).heap[w.heap.size]? = some (.cells #[.int .i64 c] 3 (0, 0)) := (Below.heap_alloc _ _ _ (by omega)).trans (heap_alloc_new _ _)
  obtain ⟨W2, hW2⟩ : ∃ W2, (w.alloc (.cells #[.int .i64 c] 3)).alloc (.cells #[.bool false] 4) = W2 := ⟨_, rfl⟩
  rw [hW2] at hb2 z2 nr nc
  have ht2 : Sl kCs W2 S v (trQ p) := h.keep fun b q => hb2.block b (hS b q)
  have hS2 : ∀ k, S k → k < W2.heap.size := fun k q => by have := hS k q; omega
  have hv := h
  obtain ⟨ao, cap, rfl, -⟩ := hv
  have hL := line_ok ht2 hS2 s
  obtain ⟨i1, sb, so, _, _, _, _, _, _, _, _, rfl, hi1, rfl, -, ⟨-, -, -, t3, -, -, -, -⟩, -⟩ := tq_get ht2 hk
  rw [hs3] at t3
  have hl : (i1 : Int) < ((trQ p).length : Int) := by omega
  have c0 : W2.cell? ⟨w.heap.size, 0, none⟩ = some (.int .i64 i1) := bxq_cell nc rfl
  have HP : Hid (UpOk p ∧ isJ p s = true) := ⟨hp, hsp⟩
  have HB2 : Hid (Below w.heap.size w W2) := hb2
  have HNR : Hid (W2.heap[w.heap.size + 1]? = some (.cells #[.bool false] 4 (0, 0))) := nr
  have HNC : Hid (W2.heap[w.heap.size]? = some (.cells #[.int .i64 i1] 3 (0, 0))) := nc
  have HZ2 : Hid (W2.heap.size = w.heap.size + 2) := z2
  have hNl : (trQ p).length = 11 + p.cls.length := trQ_len p
  have HNL : Hid ((trQ p).length = 11 + p.cls.length) := hNl
  have hL2 := callsIn_wide (n := 4).2 hL
  generalize (trQ p).length = N at *
  clear h hS ht2 hS2 hk hu hp hsp hb2 z1 z2 nr nc hs3 hc hi h1 hL hi1 hR hNl
  subst hW2
  refine (callsIn_wide (n := 5)).1 ?_
  refine callsIn_of_wp_marks Tryz.func30 rfl trivial ?_ rfl
  simp only [Tryz.ntmps30, List.size_toArray, List.length_cons, List.length_nil, Nat.reduceAdd, Nat.reduceSub, Array.replicate_succ, Array.replicate_zero, List.push_toArray, List.append_toArray, List.nil_append, List.cons_append]
  gi_wp2_with (refine ⟨trivial, ?_⟩; gi_at_call 58; refine hL2.mono ?_; rintro e w3 ⟨rfl, hU, hl3, hz3⟩; have HU : Hid _ := hU; have HL3 : Hid _ := hl3; have HZ3 : Hid _ := hz3; clear hL2 hU hl3 hz3)
  have HUB : Hid (UpB w3 S (.slice (some ⟨sb, so, none⟩) N cap) p s (w.heap.size + 1 + 1) N) := by have := HU.out; rw [HZ2.out] at this; exact this
  have HC3 : Hid (w3.heap[w.heap.size]? = some (.cells #[.int .i64 i1] 3 (0, 0))) := (HL3.out.bl.block _ (by rw [HZ2.out]; omega)).trans HNC.out
  have HR3 : Hid (w3.heap[w.heap.size + 1]? = some (.cells #[.bool false] 4 (0, 0))) := (HL3.out.bl.block _ (by rw [HZ2.out]; omega)).trans HNR.out
  have HB3 : Hid (Below w.heap.size w w3) := HB2.out.trans (HL3.out.bl.mono HB2.out.size)
  have hbr : w.heap.size + 1 < w3.heap.size := (Array.getElem?_eq_some_iff.1 HR3.out).1
  have HBR : Hid (w.heap.size + 1 < w3.heap.size) := hbr
  have HXO : Hid _ := xcy_own (p := p) (s := s) (c := (i1 : Int)) hbr
  have HN1 : Hid (N ≤ 1073741824) := by show _ ≤ _; have := HNL.out; omega
  have H0 : Hid (IcyQ w3 p s i1 0 w3) := ⟨Below.refl _ _, fun j hj => absurd hj (by omega), fun j hj => absurd hj (by omega)⟩
  clear HU HZ3 HNR HNC HB2 HL3 hbr
  refine range_jointQ (F := Fence.wide) (n := 5) rfl (by decide) (gf := 116) (lb := #[.pointer (some ⟨w.heap.size + 1 + 1 + 1, 0, none⟩), .pointer (some ⟨w.heap.size + 1 + 1 + 3, 0, none⟩), .pointer (some ⟨w.heap.size + 1 + 1 + 2, 0, none⟩)]) rfl trivial (enters_of Tryz.func116 (by kernel_rfl) rfl) (XcyQ w3 p s i1 (w.heap.size + 1))
    (up_joint (I := IcyQ w3 p s i1) HN1.out HP.out.1 HP.out.2 (fun i W h => HUB.out.go h.1) 4 (by decide)) (fun _ => rfl)
    icy_own HXO.out (fun x i A A' row h hg hr => ⟨h.1, icy_own i A A' row h.2 hg hr⟩) H0.out
    (fun x => { tmps := #[.slice (some ⟨sb, so, none⟩) N cap, .int .i64 i1, undef, .pointer (some ⟨w.heap.size, 0, none⟩), .pointer (some ⟨w.heap.size + 1, 0, none⟩), .int .i64 x, .slice (some ⟨sb, so, none⟩) N cap, .slice (some ⟨sb, so, none⟩) N cap, .int .i64 i1, .pointer (some ⟨sb, so + i1 * 8, none⟩), .pointer (some ⟨sb, so + i1 * 8 + 3, none⟩), .int .i64 s, .func (.func 116) #[] #[.pointer (some ⟨w.heap.size + 1 + 1 + 1, 0, none⟩), .pointer (some ⟨w.heap.size + 1 + 1 + 3, 0, none⟩), .pointer (some ⟨w.heap.size + 1 + 1 + 2, 0, none⟩)], .int .i64 x, undef, undef, undef], defers := [] }) ?assign ?body ?done ?stop
  case assign =>
    intro l x W K hK
    gi_wp2
    exact hK
  case body =>
    rintro l j x W ⟨⟨rfl, hjN, hh⟩, hI⟩
    have HI : Hid (IcyQ w3 p s i1 j W) := hI
    have hcb := (hI.1.block _ (Nat.lt_of_le_of_lt (by omega) HBR.out)).trans HC3.out
    have hrb := (hI.1.block _ HBR.out).trans HR3.out
    have c0 : W.cell? ⟨w.heap.size, 0, none⟩ = some (.int .i64 i1) := bxq_cell hcb rfl
    have r0 : W.cell? ⟨w.heap.size + 1, 0, none⟩ = some (.bool false) := bxq_cell hrb rfl
    have f0 : W.frozen? ⟨w.heap.size + 1, 0, none⟩ = false := by simp [World.frozen?, hrb]
    have HRB : Hid (W.heap[w.heap.size + 1]? = some (.cells #[.bool false] 4 (0, 0))) := hrb
    have HH : Hid (hasQ p s j = true) := hh
    have HZJ : Hid (∀ e, e < j → itQ p s e ≠ 0) := fun e he => by
      by_cases hej : e + 1 < j
      · exact hI.2.2 e hej
      · have := HH.out
        rw [show j = e + 1 by omega] at this
        simpa [hasQ] using this
    by_cases hx : itQ p s j = (i1 : Int)
    · have HX : Hid (itQ p s j = (i1 : Int)) := hx
      have hxb : (itQ p s j == (i1 : Int)) = true := by simp [hx]
      clear hI hcb hrb hh hx H0 HNO
      gi_wp2
      exact ⟨(KeepsOthers.setCell _ _ _).from _, rfl, (Bx.of_below HI.out.1).set _ _, hset HRB.out _, j, HX.out, HZJ.out⟩
    · have HX : Hid (itQ p s j ≠ (i1 : Int)) := hx
      have hxb : (itQ p s j == (i1 : Int)) = false := by simp [hx]
      clear hI hcb hrb hh hx H0 HNO
      gi_wp2
      refine ⟨KeepsFrom.refl _ _, trivial, HI.out.1, fun e he => ?_, fun e he => HZJ.out e (by omega)⟩
      by_cases hej : e < j
      · exact HI.out.2.1 e hej
      · rw [show e = j by omega]; exact HX.out
  case done =>
    rintro D j W hD ⟨hjN, hE⟩ hI hK
    obtain rfl : R = false := HNO.out j hI.2.1 (hE.imp (fun e => by have := HNL.out; omega) id)
    have hrb := (hI.1.block _ HBR.out).trans HR3.out
    have r0 : W.cell? ⟨w.heap.size + 1, 0, none⟩ = some (.bool false) := bxq_cell hrb rfl
    have f0 : W.frozen? ⟨w.heap.size + 1, 0, none⟩ = false := by simp [World.frozen?, hrb]
    have HRB : Hid (W.heap[w.heap.size + 1]? = some (.cells #[.bool false] 4 (0, 0))) := hrb
    have HI : Hid (IcyQ w3 p s i1 j W) := hI
    have HK : Hid (W.heap[D]? = some (.deferred (some []))) := hK
    clear hI hrb hK H0 HNO HY
    gi_wp2
    have hne : D ≠ w.heap.size + 1 := by have := HBR.out; omega
    have hK2 := (KeepsOthers.setCell W ⟨w.heap.size + 1, 0, none⟩ (.bool false)).same D _ HK.out rfl
    refine ⟨by simp, .inl ⟨_, _, rfl, run_takeDeferred hK2, ?_⟩⟩
    have hr2 : ((W.setCell ⟨w.heap.size + 1, 0, none⟩ (.bool false)).putObj D (.deferred none)).cell? ⟨w.heap.size + 1, 0, none⟩ = some (.bool false) := bxq_cell ((World.putObj_heap_other (Ne.symm hne)).trans (hset HRB.out _)) rfl
    refine ⟨.bool false, ?_, rfl, ?_⟩
    · simp [results, Tryz.results30, go_sem, hr2]
    · have hx := bx_put ((Bx.of_below (rh := w.heap.size + 1) HI.out.1).set 0 (.bool false)) hD (.deferred none)
      exact HB3.out.trans ⟨hx.os, hx.tape, hx.output, hx.size, fun k hk => hx.block k (by have := HB3.out.size; omega) (by omega)⟩
  case stop =>
    rintro D W hD hX hK
    obtain ⟨hb, hr, j, hj, hz⟩ := hX
    obtain rfl : R = true := HY.out j hj hz
    have hne : D ≠ w.heap.size + 1 := by have := HBR.out; omega
    have hr2 : (W.putObj D (.deferred none)).cell? ⟨w.heap.size + 1, 0, none⟩ = some (.bool true) := bxq_cell ((World.putObj_heap_other (Ne.symm hne)).trans hr) rfl
    have HB : Hid _ := hb
    have HK : Hid _ := hK
    clear hb hr hK H0 HNO HY
    gi_wp2
    refine ⟨by simp, .inl ⟨_, _, rfl, run_takeDeferred HK.out, ?_⟩⟩
    refine ⟨.bool true, ?_, rfl, ?_⟩
    · simp [results, Tryz.results30, go_sem, hr2]
    · have hx := bx_put HB.out hD (.deferred none)
      exact HB3.out.trans ⟨hx.os, hx.tape, hx.output, hx.size, fun k hk => hx.block k (by have := HB3.out.size; omega) (by omega)⟩
end Go.Proofs.YtbbmgjcabmjjdaaGreatDoor
