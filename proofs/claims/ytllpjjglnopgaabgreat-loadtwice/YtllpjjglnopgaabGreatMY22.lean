/- The program's own Load: cycles (plain). -/
import Derived.Test.YtllpjjglnopgaabGreatMY21
namespace Go.Proofs.YtllpjjglnopgaabGreat
open Go.RowKit Go.Shelf
attribute [local go_sem] Oper.semAt_some

/-- One step up, as the program goes; n steps. -/
def nxQ (p : Pg) (c : Int) : Int := (clQ p c).sup
def itQ (p : Pg) (c : Int) : Nat → Int
  | 0 => c
  | n + 1 => nxQ p (itQ p c n)
/-- Is there an n-th one? -/
def hasQ (p : Pg) (c : Int) : Nat → Bool
  | 0 => true
  | n + 1 => itQ p c n != 0
/-- All supers are there. -/
def UpOk (p : Pg) : Prop := ∀ k, isJ p k = true → isJ p (nxQ p k) = true
theorem itQ_ok {p : Pg} (h : UpOk p) {c : Int} (hc : isJ p c = true) : ∀ n, isJ p (itQ p c n) = true
  | 0 => hc
  | n + 1 => h _ (itQ_ok h hc n)
/-- The boxes of a line. -/
structure UpB (W : World) (S : Nat → Prop) (v : Value) (p : Pg) (c : Int) (B N : Nat) : Prop where
  tb : Tb W S v p B
  from_ : W.cell? ⟨B + 1, 0, none⟩ = some (.int .i64 c)
  abv : W.cell? ⟨B + 2, 0, none⟩ = some (.func (.func 72) #[] #[.pointer (some ⟨B, 0, none⟩)])
  most : W.cell? ⟨B + 3, 0, none⟩ = some (.int .i64 N)
theorem UpB.go {W W' : World} {S : Nat → Prop} {v : Value} {p : Pg} {c : Int} {B N : Nat} (h : UpB W S v p c B N) (hb : Below W.heap.size W W') : UpB W' S v p c B N :=
  ⟨h.tb.go hb, cell_keep h.from_ hb, cell_keep h.abv hb, cell_keep h.most hb⟩
set_option maxRecDepth 20000 in
theorem line1_ok {u : World} {S : Nat → Prop} {v : Value} {p : Pg} {bt : Nat} (hT : Tb u S v p bt) {x : Int} (hx : isJ p x = true) : Calls Tryz.prog 72 #[.int .i64 x, .pointer (some ⟨bt, 0, none⟩)] u fun e u' => e = .returned (.tuple #[.int .i64 (nxQ p x), .bool (x != 0)]) ∧ u' = u := by
  have b0 := hT.box
  have hv := hT.tr
  obtain ⟨ao, cap, rfl, -⟩ := hv
  obtain ⟨i, sb, so, _, _, _, _, _, _, _, _, rfl, hi, rfl, -, ⟨-, -, -, t3, -, -, -, -⟩, -⟩ := tq_get hT.tr hx
  have hl : (i : Int) < ((trQ p).length : Int) := by omega
  rw [show nxQ p (i : Int) = (clQ p (i : Int)).sup from rfl]
  generalize (clQ p (i : Int)).sup = s at *
  clear hT hx hi
  go_enter Tryz.func72, Tryz.ntmps72
  go_wp2
  go_ret2
  exact ⟨by first | rfl | simp, rfl⟩
set_option maxHeartbeats 1000000 in
set_option maxRecDepth 20000 in
theorem line_ok {w : World} {S : Nat → Prop} {v : Value} {p : Pg} (h : Sl kCs w S v (trQ p)) (hS : ∀ k, S k → k < w.heap.size) (c : Int) : Calls Tryz.prog 46 #[v, .int .i64 c] w fun e w' => e = .returned (.func (.func 89) #[] #[.pointer (some ⟨w.heap.size + 1, 0, none⟩), .pointer (some ⟨w.heap.size + 3, 0, none⟩), .pointer (some ⟨w.heap.size + 2, 0, none⟩)]) ∧ UpB w' S v p c w.heap.size (trQ p).length ∧ Lys w w' ∧ w'.heap.size = w.heap.size + 4 := by
  have hT := Tb.mk_ h hS
  have hv := h
  obtain ⟨ao, cap, rfl, -⟩ := hv
  have z1 : (w.alloc (.cells #[.slice ao (trQ p).length cap] 73)).heap.size = w.heap.size + 1 := by simp
  have hU : Calls Tryz.prog 71 #[.int .i64 c, .func (.func 72) #[] #[.pointer (some ⟨w.heap.size, 0, none⟩)], .int .i64 (trQ p).length] (w.alloc (.cells #[.slice ao (trQ p).length cap] 73)) fun e w' => e = .returned (.func (.func 89) #[] #[.pointer (some ⟨w.heap.size + 1, 0, none⟩), .pointer (some ⟨w.heap.size + 3, 0, none⟩), .pointer (some ⟨w.heap.size + 2, 0, none⟩)]) ∧ w' = (((w.alloc (.cells #[.slice ao (trQ p).length cap] 73)).alloc (.cells #[.int .i64 c] 3)).alloc (.cells #[.func (.func 72) #[] #[.pointer (some ⟨w.heap.size, 0, none⟩)]] 108)).alloc (.cells #[.int .i64 (trQ p).length] 3) := by
    generalize hW : w.alloc (.cells #[.slice ao (trQ p).length cap] 73) = W at *
    have y1 : w.heap.size + 1 = W.heap.size := z1.symm
    have y2 : w.heap.size + 2 = W.heap.size + 1 := by omega
    have y3 : w.heap.size + 3 = W.heap.size + 1 + 1 := by omega
    rw [y1, y2, y3]
    clear hT h y1 y2 y3 z1 hW hS
    go_enter Tryz.func71, Tryz.ntmps71
    go_wp2
    go_ret
    exact ⟨rfl, rfl⟩
  clear h hS
  have HT : Hid _ := hT
  have HZ : Hid _ := z1
  clear hT z1
  go_enter Tryz.func46, Tryz.ntmps46
  go_wp2_with (go_at_call 71; refine hU.mono ?_; rintro e w1 ⟨rfl, hw1⟩; have HW : Hid _ := hw1; clear hw1 hU)
  go_ret
  refine ⟨rfl, ?_, ?_, ?_⟩
  · rw [HW.out]
    have q1 := heap_alloc_new (w.alloc (.cells #[.slice ao (trQ p).length cap] 73)) (.cells #[.int .i64 c] 3)
    have q2 := heap_alloc_new ((w.alloc (.cells #[.slice ao (trQ p).length cap] 73)).alloc (.cells #[.int .i64 c] 3)) (.cells #[.func (.func 72) #[] #[.pointer (some ⟨w.heap.size, 0, none⟩)]] 108)
    have q3 := heap_alloc_new (((w.alloc (.cells #[.slice ao (trQ p).length cap] 73)).alloc (.cells #[.int .i64 c] 3)).alloc (.cells #[.func (.func 72) #[] #[.pointer (some ⟨w.heap.size, 0, none⟩)]] 108)) (.cells #[.int .i64 (trQ p).length] 3)
    have s2 : ((w.alloc (.cells #[.slice ao (trQ p).length cap] 73)).alloc (.cells #[.int .i64 c] 3)).heap.size = w.heap.size + 2 := by simp
    have s3 : (((w.alloc (.cells #[.slice ao (trQ p).length cap] 73)).alloc (.cells #[.int .i64 c] 3)).alloc (.cells #[.func (.func 72) #[] #[.pointer (some ⟨w.heap.size, 0, none⟩)]] 108)).heap.size = w.heap.size + 3 := by simp
    rw [HZ.out] at q1
    rw [s2] at q2
    rw [s3] at q3
    have b1 : Below (w.heap.size + 1) (w.alloc (.cells #[.slice ao (trQ p).length cap] 73)) ((w.alloc (.cells #[.slice ao (trQ p).length cap] 73)).alloc (.cells #[.int .i64 c] 3)) := (Below.refl _ _).alloc (by rw [HZ.out]; omega) _
    refine ⟨HT.out.go ((((Below.refl _ _).alloc (Nat.le_refl _) _).alloc (by simp) _).alloc (by simp) _), ?_, ?_, bxq_cell q3 rfl⟩
    · exact bxq_cell ((Below.heap_alloc _ _ _ (by rw [s3]; omega)).trans ((Below.heap_alloc _ _ _ (by rw [s2]; omega)).trans q1)) rfl
    · exact bxq_cell ((Below.heap_alloc _ _ _ (by rw [s3]; omega)).trans q2) rfl
  · rw [HW.out]; exact ((((Lys.refl w).alloc _).alloc _).alloc _).alloc _
  · rw [HW.out]; simp
/-- At place i of a line x is handed over. -/
def MupQ (I : Nat → World → Prop) (p : Pg) (c : Int) (N : Nat) (i : Nat) (x : Int) (W : World) : Prop := (x = itQ p c i ∧ i < N ∧ hasQ p c i = true) ∧ I i W
set_option maxRecDepth 100000 in
set_option maxHeartbeats 4000000 in
theorem up_joint {I : Nat → World → Prop} {S : Nat → Prop} {v : Value} {p : Pg} {c : Int} {B N : Nat} (hN : N ≤ 1073741824) (hp : UpOk p) (hc : isJ p c = true) (hbox : ∀ i W, I i W → UpB W S v p c B N) (n : Nat) (hn : 1 ≤ n) :
    JointQ Fence.wide n Tryz.prog 89 #[.pointer (some ⟨B + 1, 0, none⟩), .pointer (some ⟨B + 3, 0, none⟩), .pointer (some ⟨B + 2, 0, none⟩)] (fun x : Int => #[Value.int .i64 x]) I (MupQ I p c N) (fun i _ => i + 1) (fun i => i ≤ N ∧ (i = N ∨ hasQ p c i = false)) 0 := by
  intro l Bk St W hBk hY h0 hb0
  have c1 := (hbox 0 W h0).from_
  have c3 := (hbox 0 W h0).most
  have HY : Hid _ := hY
  have HB : Hid _ := hbox
  have HP : Hid (UpOk p ∧ isJ p c = true) := ⟨hp, hc⟩
  have H0 : Hid (I 0 W ∧ Bk W) := ⟨h0, hb0⟩
  clear hY hbox h0 hb0 hp hc
  refine callsIn_of_wp Tryz.func89 rfl trivial ?_ rfl
  simp only [Tryz.ntmps89, List.size_toArray, List.length_cons, List.length_nil, Nat.reduceAdd, Nat.reduceSub, Array.replicate_succ, Array.replicate_zero, List.push_toArray, List.append_toArray, List.nil_append, List.cons_append]
  gi_wp2
  clear c1 c3
  gi_loopg [5, 6, 9] N (fun k s5 s6 s9 wr => ∃ i : Nat, s9 = .int .i64 i ∧ i ≤ N ∧ N - i = k ∧ s5 = .int .i64 (itQ p c i) ∧ s6 = .bool (hasQ p c i) ∧ Hid (I i wr ∧ Bk wr))
  case atStart => exact ⟨0, rfl, by omega, rfl, rfl, rfl, H0⟩
  case round =>
    clear H0
    obtain ⟨i, rfl, hi, hk, rfl, rfl, h⟩ := hrel
    by_cases hlt : i < N
    · have hlt' : (i : Int) < (N : Int) := by omega
      rcases hh : hasQ p c i with _ | _
      · have HH : Hid (hasQ p c i = false) := hh
        clear hh
        gi_wp2
        refine ⟨fun _ h => (by cases h), ?_⟩
        gi_wp2
        refine bodyPost_ret (results_none rfl _ _ _) rfl ?_
        exact ⟨⟨_, rfl⟩, .inl ⟨i, ⟨hi, .inr HH.out⟩, h.out⟩⟩
      · obtain ⟨fn, tmps, assign, body, hy, hRd⟩ := HY.out i (itQ p c i) wr ⟨⟨rfl, hlt, hh⟩, h.out.1⟩ h.out.2
        have HX : Hid (isJ p (itQ p c i) = true) := itQ_ok HP.out.1 HP.out.2 i
        clear h hh
        gi_wp2
        refine hRd.mono ?_
        rintro e W3 (⟨rfl, hi3, hk3⟩ | ⟨rfl, hst⟩)
        · have c2 := (HB.out _ _ hi3).abv
          have hL := line1_ok (HB.out _ _ hi3).tb HX.out
          have H3 : Hid (I (i + 1) W3 ∧ Bk W3) := ⟨hi3, hk3⟩
          clear hy hRd hi3 hk3
          gi_wp2_with (refine ⟨trivial, ?_⟩; gi_at_call 72; refine (callsIn_wide.2 hL).mono ?_; clear hL; rintro e w2 ⟨rfl, hw2⟩; replace hw2 := hw2.symm; subst hw2)
          gi_roundg (N - (i + 1))
          case rel => exact ⟨i + 1, by go_num, by omega, rfl, rfl, rfl, H3⟩
          case measure => omega
        · clear hy hRd
          gi_wp2
          refine bodyPost_ret (results_none rfl _ _ _) rfl ?_
          exact ⟨⟨_, rfl⟩, .inr hst⟩
    · obtain rfl : i = N := by omega
      have hlt' : ¬ (i : Int) < (i : Int) := by omega
      gi_wp2
      go_end0
      exact ⟨⟨_, rfl⟩, .inl ⟨i, ⟨Nat.le_refl _, .inl rfl⟩, h.out⟩⟩
end Go.Proofs.YtllpjjglnopgaabGreat
namespace Go.Proofs.YtllpjjglnopgaabGreat
open Go.RowKit

theorem upOk_of {p : Pg} (h : ∀ i, i < p.cls.length → bad1 p i = false) : UpOk p := fun k hk => by
  have hk2 : 0 ≤ k ∧ k < (11 + p.cls.length : Nat) := by simpa [isJ] using hk
  rw [show nxQ p k = (clQ p k).sup from rfl, cl_sup hk]
  by_cases h0 : k = 0
  · rw [if_pos h0]; simp [isJ]; omega
  · rw [if_neg h0]
    by_cases h1 : k < 11
    · rw [show supJ p k = bltJ k by simp [supJ, h1]]
      unfold bltJ
      rw [if_neg h0]
      split <;> simp [isJ] <;> omega
    · rw [show supJ p k = (ofJ p k).sup by simp [supJ, h1]]
      have hb := h (k - 11).toNat (by omega)
      rw [bad1, show (11 : Int) + ((k - 11).toNat : Int) = k by omega] at hb
      simp at hb
      exact hb.1.1.1
theorem itQ_shift (p : Pg) (c : Int) (a : Nat) : ∀ k, itQ p c (a + k) = itQ p (itQ p c a) k
  | 0 => rfl
  | k + 1 => by
    show nxQ p (itQ p c (a + k)) = nxQ p (itQ p (itQ p c a) k)
    rw [itQ_shift p c a k]
theorem itQ_itJ {p : Pg} (hp : UpOk p) {s : Int} (hs : isJ p s = true) : ∀ n, (∀ j, j < n → itQ p s j ≠ 0) → itQ p s n = itJ p s n
  | 0, _ => rfl
  | n + 1, h => by
    rw [itJ_succ, ← itQ_itJ hp hs n fun j hj => h j (by omega)]
    show (clQ p (itQ p s n)).sup = _
    rw [cl_sup (itQ_ok hp hs n), if_neg (h n (by omega))]
theorem itQ_low {p : Pg} {c : Int} {n : Nat} (h : itQ p c n < 11) : ∀ k, itQ p c (n + k) < 11
  | 0 => h
  | k + 1 => by
    have ih := itQ_low h k
    show (clQ p (itQ p c (n + k))).sup < 11
    unfold clQ
    rw [if_pos ih]
    unfold bltC
    dsimp only
    split <;> omega
theorem back_ex {p : Pg} {at_ : Int} : ∀ (f : Nat) (y : Int), backJ p at_ f y = true → ∃ d, d < f ∧ itJ p y d = at_ ∧ ∀ e, e ≤ d → 0 ≤ itJ p y e
  | 0, _, h => by simp [backJ] at h
  | f + 1, y, h => by
    rw [backJ] at h
    simp only [Bool.and_eq_true, decide_eq_true_eq, Bool.or_eq_true, beq_iff_eq] at h
    obtain ⟨h0, h1⟩ := h
    rcases h1 with h1 | h1
    · exact ⟨0, by omega, h1, fun e he => by rw [show e = 0 by omega]; exact h0⟩
    · obtain ⟨d, hd, h2, h3⟩ := back_ex f _ h1
      refine ⟨d + 1, by omega, h2, fun e he => ?_⟩
      cases e with
      | zero => exact h0
      | succ e => exact h3 e (by omega)
/-- Come to again: there is a ring. -/
theorem cyc_yes {p : Pg} (h1 : ∀ i, i < p.cls.length → bad1 p i = false) {i : Nat} (hi : i < p.cls.length) {j : Nat} (hj : itQ p (supJ p (11 + (i : Int))) j = 11 + (i : Int)) (hz : ∀ e, e < j → itQ p (supJ p (11 + (i : Int))) e ≠ 0) : bad2 p i = true := by
  have hp := upOk_of h1
  have hS : isJ p (supJ p (11 + (i : Int))) = true := by
    have := hp _ (user_of hi).2.2
    rw [show nxQ p (11 + (i : Int)) = (clQ p (11 + (i : Int))).sup from rfl, cl_sup (user_of hi).2.2, if_neg (by omega)] at this
    exact this
  generalize hs : supJ p (11 + (i : Int)) = s at *
  -- the least such place
  have hex : ∃ d, itQ p s d = 11 + (i : Int) ∧ d ≤ j ∧ ∀ e, e < d → itQ p s e ≠ 11 + (i : Int) := by
    induction j using Nat.strongRecOn with
    | ind j ih =>
      by_cases hm : ∃ e, e < j ∧ itQ p s e = 11 + (i : Int)
      · obtain ⟨e, he, hE⟩ := hm
        obtain ⟨d, a, b, c⟩ := ih e he hE (fun x hx => hz x (by omega))
        exact ⟨d, a, by omega, c⟩
      · exact ⟨j, hj, Nat.le_refl _, fun e he hE => hm ⟨e, he, hE⟩⟩
  obtain ⟨d, hd, hdj, hmin⟩ := hex
  have huser : ∀ e, e ≤ d → 11 ≤ itQ p s e ∧ itQ p s e < 11 + (p.cls.length : Int) := fun e he => by
    have h2 := itQ_ok hp hS e
    simp [isJ] at h2
    refine ⟨?_, by omega⟩
    apply Int.not_lt.1
    intro hlow
    have := itQ_low hlow (d - e)
    rw [show e + (d - e) = d by omega, hd] at this
    omega
  have hnd : ((List.range (d + 1)).map fun e => itQ p s e - 11).Nodup := by
    rw [List.Nodup, List.pairwise_iff_getElem]
    intro a b ha hb hab
    simp only [List.length_map, List.length_range] at ha hb
    simp only [List.getElem_map, List.getElem_range]
    intro he
    have heq : itQ p s a = itQ p s b := by omega
    have h5 : itQ p s (a + (d - b)) = 11 + (i : Int) := by
      rw [itQ_shift, heq, ← itQ_shift, show b + (d - b) = d by omega, hd]
    exact hmin _ (by omega) h5
  have hlen := nodup_len p.cls.length _ hnd (fun x hx => by
    simp only [List.mem_map, List.mem_range] at hx
    obtain ⟨e, he, rfl⟩ := hx
    have := huser e (by omega)
    omega)
  rw [List.length_map, List.length_range] at hlen
  unfold bad2
  rw [hs]
  refine back_hit d (p.cls.length + 1) s (by omega) (fun e he => ?_) ?_
  · rw [← itQ_itJ hp hS e fun x hx => hz x (by omega)]
    have := huser e he; omega
  · rw [← itQ_itJ hp hS d fun x hx => hz x (by omega)]; exact hd
/-- Never come to, up to the top or more often than there are classes: there is none. -/
theorem cyc_no {p : Pg} (h1 : ∀ i, i < p.cls.length → bad1 p i = false) {i : Nat} (hi : i < p.cls.length) {m : Nat} (hn : ∀ j, j < m → itQ p (supJ p (11 + (i : Int))) j ≠ 11 + (i : Int)) (hm : p.cls.length + 1 ≤ m ∨ hasQ p (supJ p (11 + (i : Int))) m = false) : bad2 p i = false := by
  have hp := upOk_of h1
  have hS : isJ p (supJ p (11 + (i : Int))) = true := by
    have := hp _ (user_of hi).2.2
    rw [show nxQ p (11 + (i : Int)) = (clQ p (11 + (i : Int))).sup from rfl, cl_sup (user_of hi).2.2, if_neg (by omega)] at this
    exact this
  generalize hs : supJ p (11 + (i : Int)) = s at *
  rcases hb : bad2 p i with _ | _
  · rfl
  · exfalso
    unfold bad2 at hb
    rw [hs] at hb
    obtain ⟨d, hd, h2, h3⟩ := back_ex _ _ hb
    have hz : ∀ e, e < d → itQ p s e ≠ 0 := by
      intro e
      induction e using Nat.strongRecOn with
      | ind e ih =>
        intro he h0
        have e1 := itQ_itJ hp hS e fun x hx => ih x hx (by omega)
        have h4 := h3 (e + 1) (by omega)
        rw [itJ_succ, ← e1, h0] at h4
        simp [supJ, bltJ] at h4
    rw [← itQ_itJ hp hS d hz] at h2
    have hdm : m ≤ d := Nat.not_lt.1 fun hlt => hn d hlt h2
    rcases hm with hm | hm
    · omega
    · cases m with
      | zero => simp [hasQ] at hm
      | succ m =>
        have : itQ p s m = 0 := by simpa [hasQ] using hm
        exact hz m (by omega) this
end Go.Proofs.YtllpjjglnopgaabGreat
