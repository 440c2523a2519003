/- The program's own Load: layouts. -/
import Derived.Test.YtbbmgjcabmjjdaaGreatDoorMQPhs
import Derived.Deep.MidRow
import Derived.Deep.WholeRow
import Derived.Great.BuildSlice
namespace Go.Proofs.YtbbmgjcabmjjdaaGreatDoor
open Go.RowKit Go.Shelf Go.Deep
attribute [local go_sem] Oper.semAt_some

theorem lsI_start {w W3 : World} {S : Nat → Prop} {v : Value} {p : Pg} {C : Array Value} (h : Sl kCs w S v (trQ p)) (hS : ∀ k, S k → k < w.heap.size) (hown : ∀ (u : World) (base : Nat), base ≤ u.heap.size → (u.alloc (.cells C 58)).ownsRow base 58 4 (.slice (some ⟨u.heap.size, 0, none⟩) (11 + p.cls.length) (11 + p.cls.length)) (11 + p.cls.length) (List.replicate (11 + p.cls.length) lyZ).flatten)
    (hW : W3 = ((w.alloc (.cells #[v] 63)).alloc (.cells C 58)).alloc (.cells #[.slice (some ⟨w.heap.size + 1, 0, none⟩) (11 + p.cls.length) (11 + p.cls.length)] 38)) : LsI w S v p W3 (List.replicate (11 + p.cls.length) ly0) ∧ W3.heap.size = w.heap.size + 3 := by
  have z1 : (w.alloc (.cells #[v] 63)).heap.size = w.heap.size + 1 := Array.size_push _
  have z2 : ((w.alloc (.cells #[v] 63)).alloc (.cells C 58)).heap.size = w.heap.size + 2 := by rw [World.size_alloc, z1]
  have z3 : W3.heap.size = w.heap.size + 3 := by rw [hW, World.size_alloc, z2]
  have hb : Below w.heap.size w W3 := by rw [hW]; exact (((Below.refl _ w).alloc (Nat.le_refl _) _).alloc (by omega) _).alloc (by omega) _
  have n0 : W3.heap[w.heap.size]? = some (.cells #[v] 63 (0, 0)) := by rw [hW]; exact (Below.heap_alloc _ _ _ (by omega)).trans ((Below.heap_alloc _ _ _ (by omega)).trans (World.alloc_heap_new w _))
  have n2 : W3.heap[w.heap.size + 2]? = some (.cells #[.slice (some ⟨w.heap.size + 1, 0, none⟩) (11 + p.cls.length) (11 + p.cls.length)] 38 (0, 0)) := by rw [hW, ← z2]; exact World.alloc_heap_new _ _
  have ho := hown (w.alloc (.cells #[v] 63)) w.heap.size (by omega)
  rw [z1] at ho
  have ho2 : W3.ownsRow w.heap.size 58 4 (.slice (some ⟨w.heap.size + 1, 0, none⟩) (11 + p.cls.length) (11 + p.cls.length)) (11 + p.cls.length) (List.replicate (11 + p.cls.length) lyZ).flatten := by rw [hW]; exact ho.alloc _
  refine ⟨⟨h.keep fun b q => hb.block b (hS b q), hS, bxq_cell n0 rfl, bxq_cell n2 rfl, ⟨by simp, List.replicate _ lyZ, by simp, fun i x hx => ?_, ho2⟩, hb, by omega, fun k x hx => ?_⟩, z3⟩
  · rw [List.getElem?_replicate] at hx
    split at hx
    · injection hx with hx
      subst hx
      exact ⟨lyZ, by rw [List.getElem?_replicate, if_pos (by assumption)], ly0_at _ _⟩
    · cases hx
  · rw [List.getElem?_replicate] at hx
    split at hx
    · injection hx with hx
      exact .inl hx.symm
    · cases hx
theorem line_atN {w W W0 : World} {S : Nat → Prop} {v : Value} {p : Pg} {N : Nat} (hN : N = 11 + p.cls.length) (k5 : Kp5 p) {c i j : Nat} {x : Int} (hc : isJ p c = true) (h : LnI w W0 S v p c (lnQ p N c) i W) (hm : BkM (lnQ p N c) i (j, x)) : ∃ (xs : List Ly) (a b : Nat) (ya : Ly), x = (a : Int) ∧ nxQ p x = (b : Int) ∧ a < N ∧ b < N ∧ xs[a]? = some ya ∧ (ya = lyJ p a ∨ ya = ly0 ∧ xs[b]? = some (upL p x)) ∧ LsI w S v p W xs ∧ (∀ k : Nat, k < c → Dn p xs k) ∧ ∀ j x, (lnQ p N c).length < j + i + 1 → (lnQ p N c)[j]? = some x → Dn p xs x := by
  subst hN; exact line_at k5 hc h hm
/-- The round's end where the layout was there. -/
theorem lnI_next {w W W0 : World} {S : Nat → Prop} {v : Value} {p : Pg} {U : List Int} {c i j a : Nat} {xs : List Ly} (h : LnI w W0 S v p c U i W) (hI : LsI w S v p W xs) (hd : ∀ k : Nat, k < c → Dn p xs k) (hu : ∀ j x, U.length < j + i + 1 → U[j]? = some x → Dn p xs x) (hm : BkM U i (j, (a : Int))) (hx : xs[a]? = some (lyJ p a)) : LnI w W0 S v p c U (i + 1) W := by
  refine ⟨⟨xs, hI, hd, fun j' x' hl hj' => ?_⟩, h.oth, h.sz⟩
  obtain ⟨h1, h2⟩ := hm
  simp only at h1 h2
  by_cases e : j' = j
  · subst e
    rw [h2] at hj'
    injection hj' with hj'
    subst hj'
    exact ⟨a, rfl, hx⟩
  · exact hu j' x' (by omega) hj'
/-- The round's end where it was made. -/
theorem lnI_made {w W W1 W0 : World} {S : Nat → Prop} {v : Value} {p : Pg} {U : List Int} {c i j a : Nat} {xs : List Ly} (h : LnI w W0 S v p c U i W) (hI : LsI w S v p W xs) (hd : ∀ k : Nat, k < c → Dn p xs k) (hu : ∀ j x, U.length < j + i + 1 → U[j]? = some x → Dn p xs x) (hm : BkM U i (j, (a : Int))) (ha : a < 11 + p.cls.length) (hb : Below W.heap.size W W1) {cs : List Value} (hR : kLyU.R W1 (fun b => W.heap.size ≤ b ∧ b < W1.heap.size) (lyJ p a) cs) : LnI w W0 S v p c U (i + 1) (W1.setCells (w.heap.size + 1) (a * 4) cs) := by
  have hs := hI.set hb ha hR
  have hz := setCellsJ_size (w.heap.size + 1) cs (a * 4) W1
  have hbz := hb.size
  refine lnI_next (j := j) ⟨⟨_, hs, fun k hk => (hd k hk).set, fun j' x' hl hj' => (hu j' x' hl hj').set⟩, fun b hb1 hb2 => ?_, by rw [hz]; have := h.sz; omega⟩ hs (fun k hk => (hd k hk).set) (fun j' x' hl hj' => (hu j' x' hl hj').set) hm ?_
  · have := h.sz
    rw [setCellsJ_else hb2, hb.block b (by omega)]
    exact h.oth b hb1 hb2
  · rw [List.getElem?_set_self (by rw [hI.row.len]; exact ha)]
/-- A store, by a name that the walk does not open. -/
def stV (t : TypeId) (a : Addr) (v : Value) : Sem Unit := storeVar t a v
theorem st_V (t : TypeId) (a : Addr) (v : Value) : storeVar t a v = stV t a v := rfl
theorem infoL4 : (Tryz.prog.info? 58).map (·.size) = some 4 := by kernel_rfl
theorem infoL1 : (Tryz.prog.info? 38).map (·.size) = some 1 := by kernel_rfl
theorem stV_new (X : World) (k : Nat) (hk : k = X.heap.size) (old v : Value) (h1 : v.oneCell' = true) : (stV 38 ⟨k, 0, none⟩ v).run Tryz.prog (X.alloc (.cells #[old] 38)) = .ok () (X.alloc (.cells #[v] 38)) := by
  subst hk
  have := run_storeVar_one (P := Tryz.prog) (X.alloc (.cells #[old] 38)) X.heap.size 38 38 old v (heap_alloc_new X _) infoL1 h1
  rw [World.setRow_alloc_new] at this
  exact this
theorem stV_mid {W : World} {b o : Nat} {x0 x1 x2 x3 : Value} (ht : W.there b o 4) (h0 : x0.oneCell' = true) (h1 : x1.oneCell' = true) (h2 : x2.oneCell' = true) (h3 : x3.oneCell' = true) : (stV 58 ⟨b, o, none⟩ (.agg #[x0, x1, x2, x3])).run Tryz.prog W = .ok () (W.setCells b o [x0, x1, x2, x3]) :=
  run_storeVar_mid W b o _ _ ht infoL4 (by simp [h0, h1, h2, h3])
/-- What the iterator reads. -/
theorem lnI_reads {w W W0 w1 w2 : World} {S : Nat → Prop} {v : Value} {p : Pg} {N c i g L cap : Nat} (hw : w.heap.size + 3 ≤ w1.heap.size) (hC : CoN p c N w1 g L w2) (hW : W0 = w2.alloc (.cells #[.slice (some ⟨g, 0, none⟩) L cap] 26)) (h : LnI w W0 S v p c (lnQ p N c) i W) : W.cell? ⟨w2.heap.size, 0, none⟩ = some (.slice (some ⟨g, 0, none⟩) (lnQ p N c).length cap) ∧ ∀ (i : Nat) x, (lnQ p N c)[i]? = some x → W.cell? ⟨g, i, none⟩ = some (.int .i64 x) := by
  obtain ⟨rfl, h1, h2, h3, h4⟩ := hC
  have hz : W0.heap.size = w2.heap.size + 1 := by rw [hW, World.size_alloc]
  have hs := h3.size
  have e1 := h.oth w2.heap.size (by omega) (by omega)
  have e2 := h.oth g (by omega) (by omega)
  refine ⟨bxq_cell (e1.trans (by rw [hW]; exact heap_alloc_new _ _)) rfl, fun i x hx => (cell_same (e2.trans ?_) _).trans (h4 i x hx)⟩
  rw [hW]
  exact Below.heap_alloc _ _ _ h2
attribute [local go_sem ↓] st_V
set_option maxRecDepth 100000 in
set_option maxHeartbeats 8000000 in
theorem layouts_ok {p : Pg} (hO : Okl p) (hV : ∀ c, isJ p c = true → HVi p c (upL p c).vir) (hA : ∀ c, isJ p c = true → HAb p c) : HLy p := by
  intro S w v h hS h5
  have k5 := kp5_of h5
  have hp := upOk_of k5.b1
  have hn := hO.okz.n
  obtain ⟨ao, cap, rfl, -⟩ := id h
  have hNl := trQ_len p
  obtain ⟨C, hmk, hown⟩ := make_lys (11 + p.cls.length) (by omega)
  obtain ⟨W3, hW3⟩ : ∃ W3, W3 = ((w.alloc (.cells #[.slice ao (trQ p).length cap] 63)).alloc (.cells C 58)).alloc (.cells #[.slice (some ⟨w.heap.size + 1, 0, none⟩) (11 + p.cls.length) (11 + p.cls.length)] 38) := ⟨_, rfl⟩
  obtain ⟨hL3, hz3⟩ := lsI_start h hS hown hW3
  rw [← hNl] at hmk hW3
  have HNL : Hid ((trQ p).length = 11 + p.cls.length) := hNl
  have HL3 : Hid _ := hL3
  have HZ3 : Hid (W3.heap.size = w.heap.size + 3) := hz3
  have HN : Hid (p.cls.length ≤ 1000) := hn
  have HP : Hid (UpOk p) := hp
  have HK5 : Hid (Kp5 p) := k5
  have HO : Hid (Okl p) := hO
  have HV : Hid (∀ c, isJ p c = true → HVi p c (upL p c).vir) := hV
  have HA : Hid (∀ c, isJ p c = true → HAb p c) := hA
  clear h hS hown hn hO hV hA hp k5 h5 hNl hL3 hz3
  generalize (trQ p).length = N at *
  have hNb : N ≤ 1011 := by have := HNL.out; have := HN.out; omega
  have hs1 := stV_new ((w.alloc (.cells #[.slice ao N cap] 63)).alloc (.cells C 58)) (w.heap.size + 1 + 1) (by simp) (.slice none 0 0) (.slice (some ⟨w.heap.size + 1, 0, none⟩) N N) rfl
  refine (callsIn_wide (n := 7)).1 ?_
  refine callsIn_of_wp_marks Tryz.func34 rfl trivial ?_ rfl
  simp only [Tryz.ntmps34, List.size_toArray, List.length_cons, List.length_nil, Nat.reduceAdd, Nat.reduceSub, Array.replicate_succ, Array.replicate_zero, List.push_toArray, List.append_toArray, List.nil_append, List.cons_append]
  gi_wp2
  rw [show (((w.alloc (.cells #[.slice ao N cap] 63)).alloc (.cells C 58)).alloc (.cells #[.slice (some ⟨w.heap.size + 1, 0, none⟩) N N] 38)) = W3 from hW3.symm]
  clear hW3 hmk hs1
  refine wpIn_loop_ghost_k (fun (k : Nat) (a : Act) (W : World) => ∃ (c : Nat) (Ds : List Nat) (s4 s5 s6 s13 s14 s15 s16 s17 s18 s19 s20 s21 s22 s23 s24 s25 s26 s27 s28 s29 s30 s31 s32 s33 s34 s35 s36 s37 s38 s39 s40 s41 s42 s43 s44 : Value), a = { tmps := #[.slice ao N cap, .pointer (some ⟨w.heap.size, 0, none⟩), .slice none 0 0, .pointer (some ⟨w.heap.size + 1 + 1, 0, none⟩), s4, s5, s6, .slice ao N cap, .int .i64 N, .slice (some ⟨w.heap.size + 1, 0, none⟩) N N, .slice ao N cap, .int .i64 N, .int .i64 c, s13, s14, s15, s16, s17, s18, s19, s20, s21, s22, s23, s24, s25, s26, s27, s28, s29, s30, s31, s32, s33, s34, s35, s36, s37, s38, s39, s40, s41, s42, s43, s44], defers := Ds.map fun D => { target := .collected D, args := #[] } } ∧ c ≤ N ∧ N - c = k ∧ Hid (Ds.Nodup ∧ LsO w S (.slice ao N cap) p c Ds W)) N ⟨0, [], _, _, _, _, _, _, _, _, _, _, _, _, _, _, _, _, _, _, _, _, _, _, _, _, _, _, _, _, _, _, _, _, _, _, _, rfl, Nat.zero_le _, rfl, List.nodup_nil, ⟨_, HL3.out, fun k hk => absurd hk (Nat.not_lt_zero _)⟩, fun D hD => by simp at hD⟩ ?_
  intro gk a wr hinv J K hJ hK
  obtain ⟨c, Ds, s4, s5, s6, s13, s14, s15, s16, s17, s18, s19, s20, s21, s22, s23, s24, s25, s26, s27, s28, s29, s30, s31, s32, s33, s34, s35, s36, s37, s38, s39, s40, s41, s42, s43, s44, rfl, hc, hk, HI⟩ := hinv
  clear HL3 HZ3
  by_cases hlt : c < N
  · obtain ⟨xs, hI, hdn⟩ := HI.out.2.ex
    have hjc : isJ p (c : Int) = true := by have := HNL.out; simp [isJ]; omega
    have hLl := callsIn_wide (n := 6).2 (line_N HNL.out hI (c : Int))
    obtain ⟨k1, k2⟩ := lsI_cells HNL.out hI
    have hlt2 : (c : Int) < (N : Int) := by omega
    have HJC : Hid (isJ p (c : Int) = true) := hjc
    have HII : Hid (LsI w S (.slice ao N cap) p wr xs ∧ ∀ k : Nat, k < c → Dn p xs k) := ⟨hI, hdn⟩
    have HNB : Hid (N ≤ 1011 ∧ 0 < N) := ⟨hNb, by omega⟩
    clear hI hdn hjc
    gi_wp2_with (refine ⟨trivial, ?_⟩; first
      | (gi_at_call 58; refine hLl.mono ?_; rintro e w1 ⟨rfl, h1⟩; have H1 : Hid _ := h1; have hCl := callsIn_wide (n := 6).2 (coll_N (by have := HNB.out; omega) HNB.out.2 HP.out HJC.out H1.out.2); clear hLl h1)
      | (gi_at_call 77; refine hCl.mono ?_; rintro e w2 ⟨g, L, cap2, rfl, h2⟩; have H2 : Hid _ := h2; have hBl := callsIn_wide (n := 6).2 (backI_ok (some ⟨g, 0, none⟩) L cap2 w2); clear hCl h2)
      | (gi_at_call 76; refine hBl.mono ?_; rintro e w4 ⟨rfl, h4⟩; have H4 : Hid _ := h4; clear hBl h4))
    have hI4 : LsI w S (.slice ao N cap) p w4 xs := ((HII.out.1.below H1.out.1).below H2.out.2.2.2.1).below (by rw [H4.out]; exact (Below.refl _ _).alloc (Nat.le_refl _) _)
    have hz1 : w.heap.size + 3 ≤ w1.heap.size := (HII.out.1.below H1.out.1).sz
    have hz4 : w.heap.size ≤ w4.heap.size := by have := hI4.sz; omega
    have HOW : Hid (OwnFrom w4.heap.size (LnI w w4 S (.slice ao N cap) p c (lnQ p N c))) := lnI_own hz4
    have H0 : Hid (LnI w w4 S (.slice ao N cap) p c (lnQ p N c) 0 w4) := ⟨⟨xs, hI4, HII.out.2, fun j x hl hj => absurd (List.getElem?_eq_some_iff.1 hj).1 (by omega)⟩, fun _ _ _ => rfl, Nat.le_refl _⟩
    have HRD : Hid (∀ (i : Nat) W, LnI w w4 S (.slice ao N cap) p c (lnQ p N c) i W → W.cell? ⟨w2.heap.size, 0, none⟩ = some (.slice (some ⟨g, 0, none⟩) (lnQ p N c).length cap2) ∧ ∀ (i : Nat) x, (lnQ p N c)[i]? = some x → W.cell? ⟨g, i, none⟩ = some (.int .i64 x)) := fun i W h => lnI_reads hz1 H2.out H4.out h
    have HLN : Hid ((lnQ p N c).length ≤ 1073741824) := by have := (lnQ_len (p := p) N c).1; have := HNB.out.1; show _ ≤ _; omega
    have HLW : Hid (wr.heap.size ≤ w4.heap.size ∧ ∀ b, b < wr.heap.size → w4.heap[b]? = wr.heap[b]?) := by
      have q1 := H1.out.1
      have q2 := H2.out.2.2.2.1
      have q3 : Below w2.heap.size w2 w4 := by rw [H4.out]; exact (Below.refl _ _).alloc (Nat.le_refl _) _
      have q := (q1.trans (q2.mono q1.size)).trans (q3.mono (Nat.le_trans q1.size q2.size))
      exact ⟨q.size, fun b hb => q.block b hb⟩
    clear hI4 hz1 hz4 k1 k2 hlt2
    refine range_jointQ (F := Fence.wide) (n := 7) rfl (by decide) (gf := 104) (lb := #[.pointer (some ⟨w2.heap.size, 0, none⟩)]) rfl trivial (enters_of Tryz.func104 (by kernel_rfl) rfl) (fun _ => False)
      (back_gives (U := lnQ p N c) (g := g) (cap := cap2) (b1 := w2.heap.size) HLN.out (LnI w w4 S (.slice ao N cap) p c (lnQ p N c)) HRD.out 6 (by decide)) (fun _ => rfl)
      HOW.out (fun _ _ _ _ h _ _ => h) (fun x i A A' row h hg hr => ⟨h.1, HOW.out i A A' row h.2 hg hr⟩) H0.out
      (fun x => { tmps := #[.slice ao N cap, .pointer (some ⟨w.heap.size, 0, none⟩), .slice none 0 0, .pointer (some ⟨w.heap.size + 1 + 1, 0, none⟩), .int .i64 c, s5, .int .i64 x.2, .slice ao N cap, .int .i64 N, .slice (some ⟨w.heap.size + 1, 0, none⟩) N N, .slice ao N cap, .int .i64 N, .int .i64 c, .bool true, .int .i64 c, .slice ao N cap, .int .i64 c, .func (.func 116) #[] #[.pointer (some ⟨wr.heap.size + 1, 0, none⟩), .pointer (some ⟨wr.heap.size + 3, 0, none⟩), .pointer (some ⟨wr.heap.size + 2, 0, none⟩)], .slice (some ⟨g, 0, none⟩) L cap2, .func (.func 104) #[] #[.pointer (some ⟨w2.heap.size, 0, none⟩)], .int .i64 x.1, .int .i64 x.2, s22, s23, s24, s25, s26, s27, s28, s29, s30, s31, s32, s33, s34, s35, s36, s37, s38, s39, s40, s41, s42, s43, s44], defers := [] }) ?assign ?body ?done ?stop
    case stop => intro D W hD hX; exact hX.elim
    case assign =>
      intro l x W K hK
      gi_wp2
      exact hK
    case body =>
      rintro l i ⟨jx, x⟩ W ⟨hm, hLn⟩
      obtain ⟨ys, a, b, ya, rfl, hnb, ha, hbl, hya, hor, hI, hdn, hdu⟩ := line_atN HNL.out HK5.out HJC.out hLn hm
      obtain ⟨k1, k2⟩ := lsI_cells HNL.out hI
      have hal : (a : Int) < (N : Int) := by omega
      have hbl2 : (b : Int) < (N : Int) := by omega
      obtain ⟨hfz, v1, v2, v3, c0, c1, c2, c3, -, -, s3⟩ := hI.row.at_ hya
      obtain ⟨a3, e3, rfl⟩ := s3.form
      have HMM : Hid (BkM (lnQ p N c) i (jx, (a : Int)) ∧ LnI w w4 S (.slice ao N cap) p c (lnQ p N c) i W) := ⟨hm, hLn⟩
      have HIY : Hid (LsI w S (.slice ao N cap) p W ys ∧ (∀ k : Nat, k < c → Dn p ys k) ∧ ∀ j x, (lnQ p N c).length < j + i + 1 → (lnQ p N c)[j]? = some x → Dn p ys x) := ⟨hI, hdn, hdu⟩
      rcases hor with rfl | ⟨rfl, hup⟩
      · obtain ⟨M, hM⟩ : ∃ M, M = (lyJ p (a : Int)).abv.length := ⟨_, rfl⟩
        have hja : isJ p (a : Int) = true := by have := HNL.out; simp [isJ]; omega
        have hMn : ((M : Int) == 0) = false := by
          have hs := abv_self HK5.out.sup HK5.out.face hja
          rw [← ly_abv] at hs
          have := List.length_pos_of_mem hs
          simp; omega
        rw [← hM] at c3
        have HY : Hid (ys[a]? = some (lyJ p a)) := hya
        clear hm hLn hI hdn hdu hya hja hM s3 c0 c1 c2 hfz hnb
        gi_wp2
        exact ⟨⟨Nat.le_refl _, fun i o _ hi _ => hi⟩, trivial, lnI_next HMM.out.2 HIY.out.1 HIY.out.2.1 HIY.out.2.2 HMM.out.1 HY.out⟩
      · have hja : isJ p (a : Int) = true := by have := HNL.out; simp [isJ]; omega
        have haN : a < 11 + p.cls.length := by have := HNL.out; omega
        obtain ⟨f0, o0, v0, a0, d0, d1, d2, d3, HLy⟩ := lay_N HO.out HK5.out HV.out HA.out hI haN hup
        obtain ⟨y, hy⟩ : ∃ y, lyJ p (a : Int) = y := ⟨_, rfl⟩
        rw [hy] at HLy
        have HYY : Hid (lyJ p (a : Int) = y) := hy
        clear hy
        obtain ⟨i1, sb, so, g1, g2, g3, g4, h1, h2, h3, h4, e1, hi1, e2, hsb, ⟨-, -, -, t3, -, -, -, -⟩, -⟩ := tq_get hI.tr hja
        obtain rfl : a = i1 := by omega
        obtain rfl : ao = some ⟨sb, so, none⟩ := e2
        have hnb2 : (clQ p (a : Int)).sup = (b : Int) := hnb
        rw [hnb2] at t3
        have HCL : Hid (∀ W2, Below W.heap.size W W2 → (W2.cell? ⟨w.heap.size, 0, none⟩ = some (.slice (some ⟨sb, so, none⟩) N cap) ∧ W2.cell? ⟨w.heap.size + 1 + 1, 0, none⟩ = some (.slice (some ⟨w.heap.size + 1, 0, none⟩) N N)) ∧ W2.there (w.heap.size + 1) (a * 4) 4) := fun W2 hb => by
          refine ⟨⟨cell_keep k1 hb, cell_keep k2 hb⟩, fun j hj => ⟨?_, ?_⟩⟩
          · match j, hj with
            | 0, _ => rw [show W2.cell? ⟨w.heap.size + 1, a * 4 + 0, none⟩ = _ from cell_keep c0 hb]; rfl
            | 1, _ => rw [cell_keep c1 hb]; rfl
            | 2, _ => rw [cell_keep c2 hb]; rfl
            | 3, _ => rw [cell_keep c3 hb]; rfl
          · have := hfz (a * 4 + j)
            simp only [World.frozen?, hb.block (w.heap.size + 1) (by have := hI.sz; omega)] at this ⊢
            exact this
        have BD : Hid (Below W.heap.size W W) := Below.refl _ _
        clear hm hLn hI hdn hdu hya hja s3 hnb hnb2 hup hfz
        gi_wp2
        have hmo : Tryz.prog.follows .mixedOrders = true := by kernel_rfl
        have BD2 : Below W.heap.size W W.drew := BD.out.drew
        refine wpIn_region_any hmo ?_
        refine any_call (f1 := 1) (k := 2) (dc := 41) (dv := [(29, .slice (some ⟨w.heap.size + 1, 0, none⟩) N N), (30, .int .i64 a), (31, .slice (some ⟨sb, so, none⟩) N cap), (32, .int .i64 a), (33, .slice (some ⟨w.heap.size + 1, 0, none⟩) N N), (34, .slice (some ⟨sb, so, none⟩) N cap), (35, .int .i64 a), (36, .pointer (some ⟨sb, so + a * 8, none⟩)), (37, .pointer (some ⟨sb, so + a * 8 + 3, none⟩)), (38, .int .i64 b), (39, .pointer (some ⟨w.heap.size + 1, b * 4, none⟩)), (40, .agg #[f0, .int .i64 o0, v0, a0])]) (dep := fun i => match i with | 7 => [5, 6] | 8 => [7] | 9 => [8] | 10 => [4, 9] | 11 => [10] | 12 => [2, 3, 11] | _ => []) (fun w' => Below W.heap.size W w') (fun w' v => ∃ b0 n0 b2 n2 b3 n3, v = .agg #[.slice b0 y.flds.length n0, .int .i64 y.off, .slice b2 y.vir.length n2, .slice b3 y.abv.length n3] ∧ Below W.heap.size W w' ∧ kLyU.R w' (fun b => W.heap.size ≤ b ∧ b < w'.heap.size) y [.slice b0 y.flds.length n0, .int .i64 y.off, .slice b2 y.vir.length n2, .slice b3 y.abv.length n3]) BD2 (show [29, 30, 31, 32, 33, 34, 35, 36, 37, 38, 39, 40].Nodup by decide) (show 41 ∉ [29, 30, 31, 32, 33, 34, 35, 36, 37, 38, 39, 40] by decide) ?bd (by simp) ?rds ?dep (by kernel_rfl) (by kernel_rfl) ?call (fun w2 v h => by obtain ⟨_, _, _, _, _, _, _, h, _⟩ := h; exact h) ?fin
        case bd =>
          intro p hp
          simp only [List.mem_cons, List.not_mem_nil, or_false] at hp
          rcases hp with rfl | rfl | rfl | rfl | rfl | rfl | rfl | rfl | rfl | rfl | rfl | rfl <;> simp
        case dep =>
          intro i j hj
          match i, hj with
          | 7, hj => simp at hj; omega
          | 8, hj => simp at hj; omega
          | 9, hj => simp at hj; omega
          | 10, hj => simp at hj; omega
          | 11, hj => simp at hj; omega
          | 12, hj => simp at hj; omega
          | 0, hj | 1, hj | 2, hj | 3, hj | 4, hj | 5, hj | 6, hj => simp at hj
          | _ + 13, hj => simp at hj
        case rds =>
          intro w' hw' i d v h
          have q1 := cell_keep k1 hw'
          have q2 := cell_keep k2 hw'
          have q3 := cell_keep t3 hw'
          match i, h with
          | 0, h =>
            cases h
            exact ⟨_, rfl, rfl, rfl, fun c q => (by cases q), fun _ => rfl, fun a' hq => ph_load (s := 3) rfl (hq.2 3 (show 3 ∉ [29, 30, 31, 32, 33, 34, 35, 36, 37, 38, 39, 40] by decide) (by decide)) (by simp [Instr.loadAt, go_sem, q2])⟩
          | 1, h =>
            cases h
            exact ⟨_, rfl, rfl, rfl, fun c q => (by cases q), fun _ => rfl, fun a' hq => ph_move (s := 6) rfl (hq.2 6 (show 6 ∉ [29, 30, 31, 32, 33, 34, 35, 36, 37, 38, 39, 40] by decide) (by decide))⟩
          | 2, h =>
            cases h
            exact ⟨_, rfl, rfl, rfl, fun c q => (by cases q), fun _ => rfl, fun a' hq => ph_load (s := 1) rfl (hq.2 1 (show 1 ∉ [29, 30, 31, 32, 33, 34, 35, 36, 37, 38, 39, 40] by decide) (by decide)) (by simp [Instr.loadAt, go_sem, q1])⟩
          | 3, h =>
            cases h
            exact ⟨_, rfl, rfl, rfl, fun c q => (by cases q), fun _ => rfl, fun a' hq => ph_move (s := 6) rfl (hq.2 6 (show 6 ∉ [29, 30, 31, 32, 33, 34, 35, 36, 37, 38, 39, 40] by decide) (by decide))⟩
          | 4, h =>
            cases h
            exact ⟨_, rfl, rfl, rfl, fun c q => (by cases q), fun _ => rfl, fun a' hq => ph_load (s := 3) rfl (hq.2 3 (show 3 ∉ [29, 30, 31, 32, 33, 34, 35, 36, 37, 38, 39, 40] by decide) (by decide)) (by simp [Instr.loadAt, go_sem, q2])⟩
          | 5, h =>
            cases h
            exact ⟨_, rfl, rfl, rfl, fun c q => (by cases q), fun _ => rfl, fun a' hq => ph_load (s := 1) rfl (hq.2 1 (show 1 ∉ [29, 30, 31, 32, 33, 34, 35, 36, 37, 38, 39, 40] by decide) (by decide)) (by simp [Instr.loadAt, go_sem, q1])⟩
          | 6, h =>
            cases h
            exact ⟨_, rfl, rfl, rfl, fun c q => (by cases q), fun _ => rfl, fun a' hq => ph_move (s := 6) rfl (hq.2 6 (show 6 ∉ [29, 30, 31, 32, 33, 34, 35, 36, 37, 38, 39, 40] by decide) (by decide))⟩
          | 7, h =>
            cases h
            refine ⟨_, rfl, rfl, rfl, fun c q => (by cases q), fun _ => rfl, fun a' hq => ?_⟩
            have h34 := hq.1 5 (by decide) _ _ rfl
            have h35 := hq.1 6 (by decide) _ _ rfl
            simp [execOp, Act.eval, h34, h35, go_sem, hal]
          | 8, h =>
            cases h
            refine ⟨_, rfl, rfl, rfl, fun c q => (by cases q), fun _ => rfl, fun a' hq => ?_⟩
            have h36 := hq.1 7 (by decide) _ _ rfl
            simp [execOp, Act.eval, h36, go_sem]
          | 9, h =>
            cases h
            refine ⟨_, rfl, rfl, rfl, fun c q => (by cases q), fun _ => rfl, fun a' hq => ph_load (s := 37) rfl (hq.1 8 (by decide) _ _ rfl) (by simp [Instr.loadAt, go_sem, q3])⟩
          | 10, h =>
            cases h
            refine ⟨_, rfl, rfl, rfl, fun c q => (by cases q), fun _ => rfl, fun a' hq => ?_⟩
            have h33 := hq.1 4 (by decide) _ _ rfl
            have h38 := hq.1 9 (by decide) _ _ rfl
            simp [execOp, Act.eval, h33, h38, go_sem, hbl2]
          | 11, h =>
            cases h
            refine ⟨_, rfl, rfl, rfl, fun c q => (by cases q), fun _ => rfl, fun a' hq => ph_load (s := 39) rfl (hq.1 10 (by decide) _ _ rfl) ?_⟩
            have hr : w'.rangeAt (w.heap.size + 1) (b * 4) [f0, .int .i64 o0, v0, a0] := fun j v hv => by
              match j, hv with
              | 0, hv => cases hv; exact cell_keep d0 hw'
              | 1, hv => cases hv; exact cell_keep d1 hw'
              | 2, hv => cases hv; exact cell_keep d2 hw'
              | 3, hv => cases hv; exact cell_keep d3 hw'
            simp only [Instr.loadAt, Instr.sureAddr, Sem.run_bind, Sem.run_pure, Result.andThen_ok]
            exact run_loadVar_mid w' _ _ 58 [f0, .int .i64 o0, v0, a0] _ hr Tryz.underlying58 rfl infoL4
        case call =>
          intro a' K2 hq hK2
          have h31 := hq.1 2 (show 2 ∈ [2, 3, 11] by decide) _ _ rfl
          have h32 := hq.1 3 (show 3 ∈ [2, 3, 11] by decide) _ _ rfl
          have h40 := hq.1 11 (show 11 ∈ [2, 3, 11] by decide) _ _ rfl
          refine op_call (f := 78) (args := #[.slice (some ⟨sb, so, none⟩) N cap, .int .i64 a, .agg #[f0, .int .i64 o0, v0, a0]]) (w' := W.drew) rfl rfl (fun c q => (by cases q)) (fun _ _ => trivial) (by simp [execOp, Act.eval, h31, h32, h40, go_sem]) (fun q => (by cases q)) ?_
          refine (CallsIn.inRound l (callsIn_wide.2 (HLy.out _ BD2))).mono ?_
          rintro e w2 ⟨b0, n0, b2, n2, b3, n3, rfl, hb, hR⟩
          exact ⟨_, rfl, hK2 w2 _ ⟨b0, n0, b2, n2, b3, n3, rfl, BD2.trans hb, hR⟩⟩
        case fin =>
          rintro w2 v ⟨b0, n0, b2, n2, b3, n3, rfl, hb, hR⟩
          obtain ⟨-, hth⟩ := HCL.out w2 hb
          have hst := stV_mid (x0 := .slice b0 y.flds.length n0) (x1 := .int .i64 y.off) (x2 := .slice b2 y.vir.length n2) (x3 := .slice b3 y.abv.length n3) hth rfl rfl rfl rfl
          refine op_value (v := .pointer (some ⟨w.heap.size + 1, a * 4, none⟩)) (w' := w2) rfl rfl (fun c q => (by cases q)) rfl (by simp [execOp, Act.eval, puts, Act.put, go_sem, hal]) ?_
          refine any_step (i := 14) (by kernel_rfl) ?_
          refine op_skip (w' := w2.setCells (w.heap.size + 1) (a * 4) [.slice b0 y.flds.length n0, .int .i64 y.off, .slice b2 y.vir.length n2, .slice b3 y.abv.length n3]) rfl rfl (fun c q => (by cases q)) rfl (by simp [execOp, Act.eval, puts, Act.put, go_sem, hst]) ?_
          refine any_end (by kernel_rfl) ?_
          have hyy := HYY.out
          subst hyy
          have hLn := HMM.out.2
          refine ⟨⟨by rw [setCellsJ_size]; exact hb.size, fun t o _ ht ho => ?_⟩, trivial, lnI_made HMM.out.2 HIY.out.1 HIY.out.2.1 HIY.out.2.2 HMM.out.1 haN hb hR⟩
          have htl := (Array.getElem?_eq_some_iff.1 ht).1
          obtain ⟨cur, hcur, -, -⟩ := HIY.out.1.row.blk
          have hne : t ≠ w.heap.size + 1 := fun e => by rw [e, hcur] at ht; cases ht; cases ho
          rw [setCellsJ_else hne, hb.block t htl]
          exact ht
    case done =>
      rintro D i W hD rfl hLn hK
      have HD : Hid (w4.heap.size ≤ D ∧ W.heap[D]? = some (.deferred (some []))) := ⟨hD, hK⟩
      have HLn : Hid (LnI w w4 S (.slice ao N cap) p c (lnQ p N c) (lnQ p N c).length W) := hLn
      clear hLn hK hD H0
      gi_wp2
      rw [show ((c : Int) + 1) = ((c + 1 : Nat) : Int) by omega]
      refine Handed.intro (N - (c + 1)) (by omega) (hJ _ _ _ ⟨c + 1, D :: Ds, _, _, _, _, _, _, _, _, _, _, _, _, _, _, _, _, _, _, _, _, _, _, _, _, _, _, _, _, _, _, _, _, _, _, _, rfl, by omega, rfl, ?_⟩)
      obtain ⟨ys, hI, hdn, hdu⟩ := HLn.out.ex
      obtain ⟨cur, hcur, -, -⟩ := HII.out.1.row.blk
      have hDs : ∀ E ∈ Ds, E < wr.heap.size ∧ w.heap.size ≤ E ∧ wr.heap[E]? = some (.deferred (some [])) ∧ E ≠ w.heap.size + 1 := fun E hE => by
        obtain ⟨q1, q2⟩ := HI.out.2.ds E hE
        refine ⟨(Array.getElem?_eq_some_iff.1 q2).1, q1, q2, fun e => ?_⟩
        rw [e, hcur] at q2
        cases q2
      have hws := HLW.out.1
      have hwz := HII.out.1.sz
      have hD1 := HD.out.1
      refine ⟨List.nodup_cons.2 ⟨fun hm => ?_, HI.out.1⟩, ⟨⟨ys, hI, fun k hk2 => ?_⟩, fun E hE => ?_⟩⟩
      · have := (hDs D hm).1
        omega
      · by_cases e : k < c
        · exact hdn k e
        · obtain rfl : k = c := by omega
          refine hdu 0 (k : Int) (by omega) ?_
          obtain ⟨m, hm⟩ : ∃ m, N = m + 1 := ⟨N - 1, by have := HNB.out.2; omega⟩
          rw [hm]
          rfl
      · rcases List.mem_cons.1 hE with rfl | hE
        · exact ⟨by omega, HD.out.2⟩
        · obtain ⟨q1, q2, q3, q4⟩ := hDs E hE
          refine ⟨q2, (HLn.out.oth E (by omega) q4).trans ((HLW.out.2 E q1).trans q3)⟩
  · obtain rfl : c = N := by omega
    obtain ⟨xs, hI, hdn⟩ := HI.out.2.ex
    obtain ⟨k1, k2⟩ := lsI_cells HNL.out hI
    have hlt2 : ¬ (c : Int) < (c : Int) := by omega
    have HII : Hid (LsI w S (.slice ao c cap) p wr xs ∧ ∀ k : Nat, k < c → Dn p xs k) := ⟨hI, hdn⟩
    clear hI hdn hlt hk hc
    gi_wp2
    refine leaves_marks Ds wr HI.out.1 (fun D hD => (HI.out.2.ds D hD).2) fun w' ht => ?_
    have hI' := HII.out.1.tko HI.out.2.ds ht
    have hall := hI'.all fun k hk => HII.out.2 k (by have := HNL.out; omega)
    have hsl := hI'.row.sl (by have := HN.out; unfold maxLen; omega)
    rw [hall, ← HNL.out] at hsl
    exact ⟨_, results_tmp rfl _ _ _, .slice (some ⟨w.heap.size + 1, 0, none⟩) c c, rfl, hI'.bel, hsl⟩
end Go.Proofs.YtbbmgjcabmjjdaaGreatDoor
