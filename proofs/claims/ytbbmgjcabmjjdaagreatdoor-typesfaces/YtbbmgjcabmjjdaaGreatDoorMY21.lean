/- What Load answers, rule by rule: plain. -/
import Derived.Test.YtbbmgjcabmjjdaaGreatDoorMY20
import Derived.Laws.EntriesVeiled
namespace Go.Proofs.YtbbmgjcabmjjdaaGreatDoor
open Go.RowKit

def lyQ (ls : List Ly) (k : Int) : Ly := ls.getD k.toNat ly0
/-- Rule 6, as the program asks. -/
def lofQ (p : Pg) (ls : List Ly) (k : Int) (y : Ly) : Bool := !(ofJ p k).face && y.abv.any fun a => (clQ p a).face && lackQ y (lyQ ls a)
theorem lyQ_at {ls : List Ly} {n : Nat} (h : n < ls.length) : ls[n]? = some (lyQ ls (n : Int)) := by
  unfold lyQ
  rw [List.getD_eq_getElem?_getD, show ((n : Int)).toNat = n by omega, List.getElem?_eq_getElem h]; rfl
set_option maxHeartbeats 8000000 in
set_option maxRecDepth 20000 in
theorem lof_ok {w : World} {S T : Nat → Prop} {v vl : Value} {p : Pg} {ls : List Ly} (h : Sl kCs w S v (trQ p)) (lS : ∀ k, S k → k < w.heap.size) (hL : Sl kLy w T vl ls) (lT : ∀ k, T k → k < w.heap.size) (hn : ls.length = 11 + p.cls.length) {i : Nat} {y : Ly} (hi : i < p.cls.length) (hy : ls[11 + i]? = some y) (hab : ∀ a ∈ y.abv, isJ p a = true) : Calls Tryz.prog 36 #[v, vl, .int .i64 (11 + (i : Int))] w fun e w' => e = .returned (.bool (lofQ p ls (11 + (i : Int)) y)) ∧ Below w.heap.size w w' := by
  have hT1 := Tb.mk_ h lS
  have hv := h
  obtain ⟨ao, cap, rfl, hmx, -⟩ := hv
  unfold maxLen at hmx
  have hl0 := hL
  obtain ⟨al, cl, rfl, hml, -⟩ := hl0
  unfold maxLen at hml
  have hk : isJ p (11 + (i : Int)) = true := by simp [isJ]; omega
  have e0 : (11 + (i : Int)) = ((11 + i : Nat) : Int) := by omega
  have hi2 : 11 + i < ls.length := (List.getElem?_eq_some_iff.1 hy).1
  have hk11 : 11 ≤ 11 + i := by omega
  rw [e0] at hk ⊢
  clear e0 hi
  generalize 11 + i = k at *
  have hA : ∃ W3, W3 = ((w.alloc (.cells #[.slice ao (trQ p).length cap] 63)).alloc (.cells #[.slice al ls.length cl] 38)).alloc (.cells #[.int .i64 (k : Int)] 3) := ⟨_, rfl⟩
  obtain ⟨W3, hW3⟩ := hA
  have hB1 : Below w.heap.size w (w.alloc (.cells #[.slice ao (trQ p).length cap] 63)) := (Below.refl _ _).alloc (Nat.le_refl _) _
  have hZ1 : (w.alloc (.cells #[.slice ao (trQ p).length cap] 63)).heap.size = w.heap.size + 1 := by simp
  have hZ2 : ((w.alloc (.cells #[.slice ao (trQ p).length cap] 63)).alloc (.cells #[.slice al ls.length cl] 38)).heap.size = w.heap.size + 1 + 1 := by simp
  have hZ3 : W3.heap.size = w.heap.size + 1 + 1 + 1 := by rw [hW3]; simp
  have hB13 : Below (w.heap.size + 1) (w.alloc (.cells #[.slice ao (trQ p).length cap] 63)) W3 := by rw [hW3]; exact ((Below.refl _ _).alloc (by rw [hZ1]; exact Nat.le_refl _) _).alloc (by rw [hZ2]; omega) _
  have hB23 : Below (w.heap.size + 1 + 1) ((w.alloc (.cells #[.slice ao (trQ p).length cap] 63)).alloc (.cells #[.slice al ls.length cl] 38)) W3 := by rw [hW3]; exact (Below.refl _ _).alloc (by rw [hZ2]; exact Nat.le_refl _) _
  have hB3 : Below w.heap.size w W3 := hB1.trans (hB13.mono (by omega))
  have hT3 : Tb W3 S (.slice ao (trQ p).length cap) p w.heap.size := hT1.go (by rw [hZ1]; exact hB13)
  have hc0 := hT3.box
  have hc1 : W3.cell? ⟨w.heap.size + 1, 0, none⟩ = some (.slice al ls.length cl) := by
    have h2 := heap_alloc_new (w.alloc (.cells #[.slice ao (trQ p).length cap] 63)) (.cells #[.slice al ls.length cl] 38)
    rw [hZ1] at h2
    exact bxq_cell ((hB23.block _ (by omega)).trans h2) rfl
  have hc2 : W3.cell? ⟨w.heap.size + 1 + 1, 0, none⟩ = some (.int .i64 (k : Int)) := by
    have h2 := heap_alloc_new ((w.alloc (.cells #[.slice ao (trQ p).length cap] 63)).alloc (.cells #[.slice al ls.length cl] 38)) (.cells #[.int .i64 (k : Int)] 3)
    rw [hZ2, ← hW3] at h2
    exact bxq_cell h2 rfl
  have hL3 : Sl kLy W3 T (.slice al ls.length cl) ls := hL.keep fun b q => hB3.block b (lT b q)
  have lT3 : ∀ k, T k → k < W3.heap.size := fun b q => Nat.lt_of_lt_of_le (lT b q) hB3.size
  obtain ⟨i1, sb, so, f1, f2, f3, f4, g1, g2, g3, g4, e1, hi1, rfl, -, ⟨-, t1, -, -, -, -, -, -⟩, -⟩ := tq_get hT3.tr hk
  obtain rfl : i1 = k := by omega
  rw [cl_user (by omega)] at t1
  obtain ⟨lb, lo, a2, c2, a3, c3, rfl, -, q3, -⟩ := lyv_get hL3 hy
  have hl : (i1 : Int) < (ls.length : Int) := by omega
  have hl1 : (i1 : Int) < ((trQ p).length : Int) := by omega
  have HB34 : Hid (Below W3.heap.size W3 (W3.alloc (.cells #[.func (.func 79) #[] #[.pointer (some ⟨w.heap.size + 1, 0, none⟩), .pointer (some ⟨w.heap.size + 1 + 1, 0, none⟩)]] 108))) := (Below.refl _ _).alloc (Nat.le_refl _) _
  have d0 := cell_keep hc0 HB34.out
  have d1 := cell_keep hc1 HB34.out
  have d2 := cell_keep hc2 HB34.out
  have d3 := cell_keep q3 HB34.out
  have hcf : (W3.alloc (.cells #[.func (.func 79) #[] #[.pointer (some ⟨w.heap.size + 1, 0, none⟩), .pointer (some ⟨w.heap.size + 1 + 1, 0, none⟩)]] 108)).cell? ⟨W3.heap.size, 0, none⟩ = some (.func (.func 79) #[] #[.pointer (some ⟨w.heap.size + 1, 0, none⟩), .pointer (some ⟨w.heap.size + 1 + 1, 0, none⟩)]) := by
    exact bxq_cell (heap_alloc_new _ _) rfl
  generalize hW4 : W3.alloc (.cells #[.func (.func 79) #[] #[.pointer (some ⟨w.heap.size + 1, 0, none⟩), .pointer (some ⟨w.heap.size + 1 + 1, 0, none⟩)]] 108) = W4 at *
  rw [hZ3] at hcf
  have hT4 : Tb W4 S _ p w.heap.size := hT3.go HB34.out
  have hL4 : Sl kLy W4 T _ ls := hL3.keep fun b q => HB34.out.block b (lT3 b q)
  have lT4 : ∀ k, T k → k < W4.heap.size := fun b q => Nat.lt_of_lt_of_le (lT3 b q) HB34.out.size
  obtain ⟨lb2, lo2, a22, c22, a32, c32, e9, -, q4, HE4⟩ := lyv_get hL4 hy
  obtain ⟨rfl, rfl⟩ : lb = lb2 ∧ lo = lo2 := by injection e9 with e9; injection e9 with a b; exact ⟨a, b⟩
  obtain ⟨rfl, rfl⟩ : a3 = a32 ∧ c3 = c32 := by have := d3.symm.trans q4; injection this with this; injection this with a _ b; exact ⟨a, b⟩
  have hC := conI_ok (F := 82) (enters_of Tryz.func82 (by kernel_rfl) rfl) (post := #[.pointer (some ⟨w.heap.size, 0, none⟩), .pointer (some ⟨w.heap.size + 1, 0, none⟩), .pointer (some ⟨w.heap.size + 1 + 1 + 1, 0, none⟩)]) (f := fun a => (clQ p a).face && lackQ y (lyQ ls a)) HE4.out.2 lT4 (fun u' x cs hb hxm hR => by
    obtain rfl := hR
    have hx := hab x hxm
    simp [isJ] at hx
    obtain ⟨n, rfl⟩ : ∃ n : Nat, x = (n : Int) := ⟨x.toNat, by omega⟩
    have hn2 : n < ls.length := by omega
    exact (lof2_ok (hT4.go hb) (cell_keep d1 hb) (cell_keep d2 hb) (cell_keep hcf hb) (hL4.keep fun b q => hb.block b (lT4 b q)) (fun b q => Nat.lt_of_lt_of_le (lT4 b q) hb.size) hy (by omega) (lyQ_at hn2)).mono fun e u2 ⟨a, b⟩ => ⟨a, b.mono hb.size⟩)
  have HB4 : Hid (Below w.heap.size w W4) := hB3.trans (HB34.out.mono hB3.size)
  have HB3 : Hid (Below w.heap.size w W3) := hB3
  obtain ⟨A, hA⟩ : ∃ A, (y.abv.any fun a => (clQ p a).face && lackQ y (lyQ ls a)) = A := ⟨_, rfl⟩
  have hq : lofQ p ls (i1 : Int) y = (!(ofJ p (i1 : Int)).face && A) := by unfold lofQ; rw [hA]
  rw [hA] at hC
  rw [hq]
  have HZ3 : Hid (W3.heap.size = w.heap.size + 1 + 1 + 1) := hZ3
  have HW3 : Hid _ := hW3
  have HW4 : Hid _ := hW4
  obtain ⟨F, hF⟩ : ∃ F, (ofJ p (i1 : Int)).face = F := ⟨_, rfl⟩
  rw [hF] at t1 ⊢
  clear h lS hL lT hn hy hab hk hk11 hT1 hB1 hZ1 hZ2 hZ3 hB13 hB23 hB3 hT3 hL3 lT3 hT4 hL4 lT4 HE4 hA hq hF e1 hW3 hW4 e9 q4
  cases F
  · go_enter Tryz.func36, Tryz.ntmps36
    go_upto_region 1 with (fail)
    rw [← HW3.out]
    go_upto_region 4 with (fail)
    rw [HW4.out, HZ3.out]
    go_wp2_with (go_at_call 60; refine hC.mono ?_; rintro e u1 ⟨rfl, hb⟩; have HB5 : Hid (Below w.heap.size w u1) := HB4.out.trans (hb.mono HB4.out.size); clear hC hb)
    go_ret
    exact ⟨rfl, HB5.out⟩
  · go_enter Tryz.func36, Tryz.ntmps36
    go_upto_region 1 with (fail)
    rw [← HW3.out]
    go_wp2
    go_ret
    exact ⟨rfl, HB3.out⟩
end Go.Proofs.YtbbmgjcabmjjdaaGreatDoor
namespace Go.Proofs.YtbbmgjcabmjjdaaGreatDoor

theorem any_same {α : Type} {f g : α → Bool} : ∀ l : List α, (∀ a ∈ l, f a = g a) → l.any f = l.any g
  | [], _ => rfl
  | a :: l, h => by
    rw [List.any_cons, List.any_cons, h a (List.mem_cons_self ..), any_same l fun b hb => h b (List.mem_cons_of_mem _ hb)]
theorem any_idx {P : En → Bool} {Q : Md → Bool} : ∀ (ms : List Md) (f : Nat → Md → En), (∀ i m, P (f i m) = Q m) → (ms.mapIdx f).any P = ms.any Q
  | [], _, _ => rfl
  | m :: ms, f, h => by
    rw [List.mapIdx_cons, List.any_cons, List.any_cons, h, any_idx ms (fun i => f (i + 1)) fun i m => h (i + 1) m]
theorem lyQ_all {p : Pg} {k : Int} (h : isJ p k = true) : lyQ (allJ p) k = lyJ p k := by
  simp [isJ] at h
  obtain ⟨n, rfl⟩ : ∃ n : Nat, k = (n : Int) := ⟨k.toNat, by omega⟩
  unfold lyQ allJ
  rw [List.getD_eq_getElem?_getD, show ((n : Int)).toNat = n by omega, List.getElem?_map, List.getElem?_range (by unfold nJ; omega)]
  rfl
theorem all_len (p : Pg) : (allJ p).length = 11 + p.cls.length := by unfold allJ nJ; simp
theorem vir_face {p : Pg} {k : Int} (h : faceJ p k = true) : (lyJ p k).vir = (ofJ p k).mds.mapIdx (fun i m => ownJ m k i) := by
  unfold lyJ layJ; rw [if_pos h]
theorem lofQ_eq {p : Pg} {i : Nat} (hi : i < p.cls.length) (hab : ∀ a ∈ (lyJ p (11 + (i : Int))).abv, isJ p a = true) : lofQ p (allJ p) (11 + (i : Int)) (lyJ p (11 + (i : Int))) = bad6 p i := by
  have hk : isJ p (11 + (i : Int)) = true := by simp [isJ]; omega
  have hu : userJ p (11 + (i : Int)) = true := by simp [userJ, hk]; omega
  have hf : faceJ p (11 + (i : Int)) = (ofJ p (11 + (i : Int))).face := by simp [faceJ, hu]
  unfold lofQ bad6
  rw [hf]
  congr 1
  refine any_same _ fun a ha => ?_
  rw [cl_face (hab a ha)]
  rcases h : faceJ p a with _ | _
  · rfl
  · rw [lyQ_all (hab a ha)]
    unfold lackQ
    rw [vir_face h, Bool.true_and, Bool.true_and]
    exact any_idx _ _ fun _ _ => rfl
end Go.Proofs.YtbbmgjcabmjjdaaGreatDoor
namespace Go.Proofs.YtbbmgjcabmjjdaaGreatDoor

section
variable {p : Pg}
/-- Rule k alone, from no fault. -/
def rk1 (p : Pg) : Fs := runJ (bad1 p) 1500 (0, 0) p.cls.length
def rk2 (p : Pg) : Fs := runJ (bad2 p) 1501 (0, 0) p.cls.length
def rk3 (p : Pg) : Fs := runJ (bad3 p) 1502 (0, 0) p.cls.length
def rk4 (p : Pg) : Fs := runJ (bad4 p) 1504 (0, 0) p.cls.length
def rk5 (p : Pg) : Fs := runJ (bad5 p) 1503 (0, 0) p.cls.length
def rk6 (p : Pg) : Fs := runJ (bad6 p) 1507 (0, 0) p.cls.length
def rk7 (p : Pg) : Fs := runJ (bad7 p) 1506 (0, 0) p.cls.length
theorem rk_no {bad : Nat → Bool} {code : Int} {n : Nat} (hc : code ≠ 0) (h : (runJ bad code (0, 0) n).1 = 0) : runJ bad code (0, 0) n = (0, 0) := (runJ_ok hc h).2.1
theorem load_st7 (h : (st7 p).1 ≠ 0) : loadJ p = .error (st7 p) := by
  have e : st8 p = st7 p := by unfold st8; rw [if_neg h]
  unfold loadJ; rw [e, if_neg h]
theorem load_st5 (h : (st5 p).1 ≠ 0) : loadJ p = .error (st5 p) := by
  have e : st7 p = st5 p := by unfold st7; rw [runJ_on h, runJ_on h]
  rw [load_st7 (by rw [e]; exact h), e]
theorem load_st2 (h : (st2 p).1 ≠ 0) : loadJ p = .error (st2 p) := by
  have e : st5 p = st2 p := by unfold st5; rw [if_neg h]
  rw [load_st5 (by rw [e]; exact h), e]
theorem load_r1 (h : (rk1 p).1 ≠ 0) : loadJ p = .error (rk1 p) := by
  have e : st2 p = rk1 p := runJ_on h _
  rw [load_st2 (by rw [e]; exact h), e]
theorem st2_r2 (h1 : (rk1 p).1 = 0) : st2 p = rk2 p := by
  unfold st2; rw [show runJ (bad1 p) 1500 (0, 0) p.cls.length = (0, 0) from rk_no (by decide) h1]; rfl
theorem load_r2 (h1 : (rk1 p).1 = 0) (h : (rk2 p).1 ≠ 0) : loadJ p = .error (rk2 p) := by
  have e := st2_r2 h1
  rw [load_st2 (by rw [e]; exact h), e]
theorem st5_r3 (h1 : (rk1 p).1 = 0) (h2 : (rk2 p).1 = 0) : st5 p = runJ (bad5 p) 1503 (runJ (bad4 p) 1504 (rk3 p) p.cls.length) p.cls.length := by
  have e : st2 p = (0, 0) := (st2_r2 h1).trans (rk_no (by decide) h2)
  unfold st5; rw [e]; rfl
theorem load_r3 (h1 : (rk1 p).1 = 0) (h2 : (rk2 p).1 = 0) (h : (rk3 p).1 ≠ 0) : loadJ p = .error (rk3 p) := by
  have e : st5 p = rk3 p := by rw [st5_r3 h1 h2, runJ_on h, runJ_on h]
  rw [load_st5 (by rw [e]; exact h), e]
theorem st5_r4 (h1 : (rk1 p).1 = 0) (h2 : (rk2 p).1 = 0) (h3 : (rk3 p).1 = 0) : st5 p = runJ (bad5 p) 1503 (rk4 p) p.cls.length := by
  rw [st5_r3 h1 h2, show rk3 p = (0, 0) from rk_no (by decide) h3]; rfl
theorem load_r4 (h1 : (rk1 p).1 = 0) (h2 : (rk2 p).1 = 0) (h3 : (rk3 p).1 = 0) (h : (rk4 p).1 ≠ 0) : loadJ p = .error (rk4 p) := by
  have e : st5 p = rk4 p := by rw [st5_r4 h1 h2 h3, runJ_on h]
  rw [load_st5 (by rw [e]; exact h), e]
theorem st5_r5 (h1 : (rk1 p).1 = 0) (h2 : (rk2 p).1 = 0) (h3 : (rk3 p).1 = 0) (h4 : (rk4 p).1 = 0) : st5 p = rk5 p := by
  rw [st5_r4 h1 h2 h3, show rk4 p = (0, 0) from rk_no (by decide) h4]; rfl
theorem load_r5 (h1 : (rk1 p).1 = 0) (h2 : (rk2 p).1 = 0) (h3 : (rk3 p).1 = 0) (h4 : (rk4 p).1 = 0) (h : (rk5 p).1 ≠ 0) : loadJ p = .error (rk5 p) := by
  have e := st5_r5 h1 h2 h3 h4
  rw [load_st5 (by rw [e]; exact h), e]
theorem st7_r6 (h5 : st5 p = (0, 0)) : st7 p = runJ (bad7 p) 1506 (rk6 p) p.cls.length := by
  unfold st7; rw [h5]; rfl
theorem load_r6 (h5 : st5 p = (0, 0)) (h : (rk6 p).1 ≠ 0) : loadJ p = .error (rk6 p) := by
  have e : st7 p = rk6 p := by rw [st7_r6 h5, runJ_on h]
  rw [load_st7 (by rw [e]; exact h), e]
theorem st7_r7 (h5 : st5 p = (0, 0)) (h6 : (rk6 p).1 = 0) : st7 p = rk7 p := by
  rw [st7_r6 h5, show rk6 p = (0, 0) from rk_no (by decide) h6]; rfl
theorem load_r7 (h5 : st5 p = (0, 0)) (h6 : (rk6 p).1 = 0) (h : (rk7 p).1 ≠ 0) : loadJ p = .error (rk7 p) := by
  have e := st7_r7 h5 h6
  rw [load_st7 (by rw [e]; exact h), e]
theorem load_r8 (h5 : st5 p = (0, 0)) (h6 : (rk6 p).1 = 0) (h7 : (rk7 p).1 = 0) (h : bad8 p = true) : loadJ p = .error (1505, p.main) := by
  have e : st7 p = (0, 0) := (st7_r7 h5 h6).trans (rk_no (by decide) h7)
  have e8 : st8 p = (1505, p.main) := by unfold st8; rw [e, h]; rfl
  unfold loadJ; rw [e8]; rfl
theorem load_all (h5 : st5 p = (0, 0)) (h6 : (rk6 p).1 = 0) (h7 : (rk7 p).1 = 0) (h : bad8 p = false) : loadJ p = .ok (allJ p) := by
  have e : st7 p = (0, 0) := (st7_r7 h5 h6).trans (rk_no (by decide) h7)
  have e8 : st8 p = (0, 0) := by unfold st8; rw [e, h]; rfl
  unfold loadJ; rw [e8]; rfl
end
end Go.Proofs.YtbbmgjcabmjjdaaGreatDoor
