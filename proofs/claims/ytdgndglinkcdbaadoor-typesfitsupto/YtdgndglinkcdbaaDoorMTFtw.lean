/- TypesFits: the walk. -/
import Derived.Test.YtdgndglinkcdbaaDoorMTOrw
import Derived.Test.YtdgndglinkcdbaaDoorMTAll
import Derived.Test.YtdgndglinkcdbaaDoorMTTex
import Derived.Test.YtdgndglinkcdbaaDoorMY50
namespace Go.Proofs.YtdgndglinkcdbaaDoor
open Go.RowKit

set_option maxHeartbeats 4000000 in
set_option maxRecDepth 20000 in
theorem fits_out {S : Nat → Prop} {p : Pg} {pa : Option Addr} {pc : Nat} (a b : Int) (vx vy : Value) (w : World) (hS : ∀ k, S k → k < w.heap.size) (hR : kPg.R w S p [.int .i64 p.main, .slice pa p.cls.length pc]) (hl : Shr (gPg p)) (hv : wthP p = false) : Calls Tryd.prog 3 #[.agg #[.int .i64 p.main, .slice pa p.cls.length pc], .int .i64 a, .int .i64 b, vx, vy] w fun e w' => e = .returned (.bool true) ∧ Below w.heap.size w w' := by
  have hz : (w.alloc (.cells #[.int .i64 p.main, .slice pa p.cls.length pc] 24)).heap.size = w.heap.size + 1 := by simp
  have HZ : Hid ((w.alloc (.cells #[.int .i64 p.main, .slice pa p.cls.length pc] 24)).heap.size = w.heap.size + 1) := hz
  have hR0 : kPg.R (w.alloc (.cells #[.int .i64 p.main, .slice pa p.cls.length pc] 24)) S p [.int .i64 p.main, .slice pa p.cls.length pc] := kPg.keep (fun k hk => Below.heap_alloc _ _ _ (hS k hk)) hR
  have HB0 : Hid ((w.alloc (.cells #[.int .i64 p.main, .slice pa p.cls.length pc] 24)).heap[w.heap.size]? = some (.cells #[.int .i64 p.main, .slice pa p.cls.length pc] 24 (0, 0))) := heap_alloc_new _ _
  have HW : Hid (Below w.heap.size w (w.alloc (.cells #[.int .i64 p.main, .slice pa p.cls.length pc] 24))) := (Below.refl _ _).alloc (Nat.le_refl _) _
  have hWi := within_any (w.alloc (.cells #[.int .i64 p.main, .slice pa p.cls.length pc] 24)) (fun k hk => by have := hS k hk; omega) hR0 hl
  rw [hv] at hWi
  clear hz hR hR0 hS hl hv
  go_enter Tryd.func3, Tryd.ntmps3
  go_wp2_with (first
    | (refine wpList_load_row rfl 24 _ rfl w.heap.size rfl 24 _ (0, 0) _ HB0.out Tryd.underlying24 rfl infoRPg ?_)
    | (go_at_call 4; refine hWi.mono ?_; rintro e u1 ⟨rfl, hb1⟩; have HU1 : Hid (Below w.heap.size w u1) := HW.out.trans (hb1.mono (by rw [HZ.out]; omega)); have hA := awake17 u1; clear hWi hb1)
    | (go_at_call 5; refine hA.mono ?_; rintro e u2 ⟨rfl, hb2⟩; have HU2 : Hid (Below w.heap.size w u2) := HU1.out.trans (hb2.mono HU1.out.size); clear hA hb2))
  go_ret
  exact ⟨rfl, HU2.out⟩
set_option maxHeartbeats 4000000 in
set_option maxRecDepth 20000 in
theorem fits_err {S : Nat → Prop} {p : Pg} {pa : Option Addr} {pc : Nat} (a b : Int) (vx vy : Value) (w : World) (hS : ∀ k, S k → k < w.heap.size) (hR : kPg.R w S p [.int .i64 p.main, .slice pa p.cls.length pc]) (hl : Shr (gPg p)) (hv : wthP p = true) (hok : Okz p) {s : Fs} (hs : loadJ p = .error s) : Calls Tryd.prog 3 #[.agg #[.int .i64 p.main, .slice pa p.cls.length pc], .int .i64 a, .int .i64 b, vx, vy] w fun e w' => e = .returned (.bool true) ∧ Below w.heap.size w w' := by
  have HOK : Hid (Okz p) := hok
  have HLP : Hid (∀ (u : World) (e : Ending) (w' : World), LdP p u e w' → e = .returned (.tuple #[.slice none 0 0, .int .i64 s.2, .int .i64 s.1]) ∧ Below u.heap.size u w') := fun u e w' h => by
    obtain ⟨hb, h⟩ := h
    rw [hs] at h
    exact ⟨h, hb⟩
  have t1 : (s.1 != 0) = true := by simp [load_er hs]
  generalize s.1 = s1 at *
  generalize s.2 = s2 at *
  clear hok hs
  have hz : (w.alloc (.cells #[.int .i64 p.main, .slice pa p.cls.length pc] 24)).heap.size = w.heap.size + 1 := by simp
  have HZ : Hid ((w.alloc (.cells #[.int .i64 p.main, .slice pa p.cls.length pc] 24)).heap.size = w.heap.size + 1) := hz
  have hR0 : kPg.R (w.alloc (.cells #[.int .i64 p.main, .slice pa p.cls.length pc] 24)) S p [.int .i64 p.main, .slice pa p.cls.length pc] := kPg.keep (fun k hk => Below.heap_alloc _ _ _ (hS k hk)) hR
  have HR0 : Hid (kPg.R (w.alloc (.cells #[.int .i64 p.main, .slice pa p.cls.length pc] 24)) S p [.int .i64 p.main, .slice pa p.cls.length pc]) := hR0
  have HB0 : Hid ((w.alloc (.cells #[.int .i64 p.main, .slice pa p.cls.length pc] 24)).heap[w.heap.size]? = some (.cells #[.int .i64 p.main, .slice pa p.cls.length pc] 24 (0, 0))) := heap_alloc_new _ _
  have HW : Hid (Below w.heap.size w (w.alloc (.cells #[.int .i64 p.main, .slice pa p.cls.length pc] 24))) := (Below.refl _ _).alloc (Nat.le_refl _) _
  have HS : Hid (∀ k, S k → k < w.heap.size) := hS
  have hWi := within_any (w.alloc (.cells #[.int .i64 p.main, .slice pa p.cls.length pc] 24)) (fun k hk => by have := hS k hk; omega) hR0 hl
  rw [hv] at hWi
  clear hz hR hR0 hS hl hv
  go_enter Tryd.func3, Tryd.ntmps3
  go_wp2_with (first
    | (go_at_call 4; refine hWi.mono ?_; rintro e u1 ⟨rfl, hb1⟩; have hbx1 : u1.heap[w.heap.size]? = some (.cells #[.int .i64 p.main, .slice pa p.cls.length pc] 24 (0, 0)) := (hb1.block _ (by rw [HZ.out]; omega)).trans HB0.out; have HX1 : Hid (u1.heap[w.heap.size]? = some (.cells #[.int .i64 p.main, .slice pa p.cls.length pc] 24 (0, 0))) := hbx1; have HU1 : Hid (Below w.heap.size w u1) := HW.out.trans (hb1.mono (by rw [HZ.out]; omega)); have HR2 : Hid (kPg.R u1 S p [.int .i64 p.main, .slice pa p.cls.length pc]) := kPg.keep (fun k hk => hb1.block k (by have := HS.out k hk; rw [HZ.out]; omega)) HR0.out; have hLd := (load_at HOK.out (fun k hk => by have := HS.out k hk; have := HU1.out.size; omega) HR2.out).mono (HLP.out u1); clear hWi hb1 hbx1 HB0)
    | (refine wpList_load_row rfl 24 _ rfl w.heap.size rfl 24 _ (0, 0) _ HX1.out Tryd.underlying24 rfl infoRPg ?_)
    | (refine wpList_load_row rfl 24 _ rfl w.heap.size rfl 24 _ (0, 0) _ HB0.out Tryd.underlying24 rfl infoRPg ?_)
    | (go_at_call 6; refine hLd.mono ?_; rintro e u2 ⟨rfl, hb2⟩; have HU2 : Hid (Below w.heap.size w u2) := HU1.out.trans (hb2.mono HU1.out.size); have hA := awake17 u2; clear hLd hb2)
    | (go_at_call 5; refine hA.mono ?_; rintro e u3 ⟨rfl, hb3⟩; have HU3 : Hid (Below w.heap.size w u3) := HU2.out.trans (hb3.mono HU2.out.size); clear hA hb3))
  go_ret
  exact ⟨rfl, HU3.out⟩
/-- What stands when the two lists are lent, and while the two sides are asked. -/
structure Ft (w u : World) (La : Nat → Prop) (vl vx vy vxl vyl : Value) (ls : List Ly) (xs ys : List Int) : Prop where
  bl : Below w.heap.size w u
  ls : Sl kLy u La vl ls
  la : ∀ k, La k → k < u.heap.size
  x : Sl kI u (Al w) vx xs
  y : Sl kI u (Al w) vy ys
  xl : Lnt u w.heap.size vxl xs
  yl : Lnt u w.heap.size vyl ys
theorem Ft.go {w u u' : World} {La : Nat → Prop} {vl vx vy vxl vyl : Value} {ls : List Ly} {xs ys : List Int} (h : Ft w u La vl vx vy vxl vyl ls xs ys) (hb : Below u.heap.size u u') : Ft w u' La vl vx vy vxl vyl ls xs ys :=
  ⟨h.bl.trans (hb.mono h.bl.size), h.ls.keep (fun b q => hb.block b (h.la b q)), fun k hk => Nat.lt_of_lt_of_le (h.la k hk) hb.size, h.x.keep (fun b q => hb.block b (Nat.lt_of_lt_of_le q h.bl.size)), h.y.keep (fun b q => hb.block b (Nat.lt_of_lt_of_le q h.bl.size)), h.xl.keep hb, h.yl.keep hb⟩
theorem hidI {p : Prop} (h : p) : Hid p := h
theorem tab_keep {w u : World} {name : String} {k : IntKind} {zs : List Int} (h : Lib.TabIs Tryd.prog w name k zs) (hb : Below w.heap.size w u) : Lib.TabIs Tryd.prog u name k zs := by
  unfold Lib.TabIs World.var? at h ⊢
  rcases hg : Tryd.prog.globalNamed name with _ | g
  · rw [hg] at h; cases h
  · rw [hg] at h
    have h2 : (match w.heap[g]? with | some (.cells cs _ _) => some cs | _ => none) = some (zs.map fun z => Value.int k z).toArray := h
    have hlt : g < w.heap.size := by
      apply Nat.lt_of_not_le
      intro hn
      rw [Array.getElem?_eq_none hn] at h2; cases h2
    show (match u.heap[g]? with | some (.cells cs _ _) => some cs | _ => none) = _
    rw [hb.block g hlt]; exact h2
set_option maxHeartbeats 8000000 in
set_option maxRecDepth 20000 in
theorem fits_in {S : Nat → Prop} {p : Pg} {pa : Option Addr} {pc : Nat} (a b : Int) {vx vy : Value} {xs ys : List Int} (w : World) (hS : ∀ k, S k → k < w.heap.size) (hR : kPg.R w S p [.int .i64 p.main, .slice pa p.cls.length pc]) (hl : Shr (gPg p)) (hv : wthP p = true) (hok : Okz p) {ls : List Ly} (hs : loadJ p = .ok ls) (hab : ∀ y ∈ ls, y.abv.length ≤ 9223372036854775806) (ra : a ≤ 9223372036854775807) (rb : b ≤ 9223372036854775807) (hx : Sl kI w (Al w) vx xs) (hy : Sl kI w (Al w) vy ys) (lx : xs.length ≤ 1048576) (ly : ys.length ≤ 1048576) (rx : ∀ x ∈ xs, x ≤ 9223372036854775807) (ry : ∀ x ∈ ys, x ≤ 9223372036854775807) (htab : Lib.TabIs Tryd.prog w "internal/strconv.uint64pow10" .u64 Lib.pow10Tab) : Calls Tryd.prog 3 #[.agg #[.int .i64 p.main, .slice pa p.cls.length pc], .int .i64 a, .int .i64 b, vx, vy] w fun e w' => e = .returned (.bool true) ∧ Below w.heap.size w w' := by
  have HOK : Hid (Okz p) := hok
  have HAB : Hid (∀ y ∈ ls, y.abv.length ≤ 9223372036854775806) := hab
  have HRR : Hid ((∀ x ∈ xs, x ≤ 9223372036854775807) ∧ (∀ x ∈ ys, x ≤ 9223372036854775807) ∧ xs.length ≤ 1048576 ∧ ys.length ≤ 1048576 ∧ a ≤ 9223372036854775807 ∧ b ≤ 9223372036854775807) := ⟨rx, ry, lx, ly, ra, rb⟩
  have HTB : Hid (Lib.TabIs Tryd.prog w "internal/strconv.uint64pow10" .u64 Lib.pow10Tab) := htab
  have HXY : Hid (Sl kI w (Al w) vx xs ∧ Sl kI w (Al w) vy ys) := ⟨hx, hy⟩
  have HLP : Hid (∀ (u : World) (e : Ending) (w' : World), LdP p u e w' → ∃ ao cap, e = .returned (.tuple #[.slice ao ls.length cap, .int .i64 0, .int .i64 0]) ∧ Below u.heap.size u w' ∧ ∃ L, Sl kLy w' L (.slice ao ls.length cap) ls ∧ (∀ k, L k → k < w'.heap.size)) := fun u e w' h => by
    obtain ⟨hb, h⟩ := h
    rw [hs] at h
    obtain ⟨ao, cap, he, hl⟩ := h
    exact ⟨ao, cap, he, hb, _, Sl.soft (K := kLyU) (fun _ _ ⟨_, _, _, q, h1, h2, h3⟩ => ⟨_, _, _, q, soft_Fd h1, soft_En h2, soft_I h3⟩) rfl rfl hl, fun k hk => hk.2⟩
  obtain ⟨a1, c1, rfl, -⟩ := hx
  obtain ⟨a2, c2, rfl, -⟩ := hy
  obtain ⟨Z, hZ⟩ : ∃ Z, txtT a = Z := ⟨_, rfl⟩
  obtain ⟨R, hR1⟩ : ∃ R, refT a = R := ⟨_, rfl⟩
  obtain ⟨F, hF⟩ : ∃ F, fitT ls a b = F := ⟨_, rfl⟩
  obtain ⟨G, hG⟩ : ∃ G, allT ls xs ys = G := ⟨_, rfl⟩
  have HQ : Hid (txtT a = Z ∧ refT a = R ∧ fitT ls a b = F ∧ allT ls xs ys = G) := ⟨hZ, hR1, hF, hG⟩
  have eR : (R == R) = true := by simp
  have eF : (F == F) = true := by simp
  have eG : (G == G) = true := by simp
  clear hok hs hab ra rb lx ly rx ry htab hZ hR1 hF hG
  have hz : (w.alloc (.cells #[.int .i64 p.main, .slice pa p.cls.length pc] 24)).heap.size = w.heap.size + 1 := by simp
  have HZ : Hid ((w.alloc (.cells #[.int .i64 p.main, .slice pa p.cls.length pc] 24)).heap.size = w.heap.size + 1) := hz
  have hR0 : kPg.R (w.alloc (.cells #[.int .i64 p.main, .slice pa p.cls.length pc] 24)) S p [.int .i64 p.main, .slice pa p.cls.length pc] := kPg.keep (fun k hk => Below.heap_alloc _ _ _ (hS k hk)) hR
  have HR0 : Hid (kPg.R (w.alloc (.cells #[.int .i64 p.main, .slice pa p.cls.length pc] 24)) S p [.int .i64 p.main, .slice pa p.cls.length pc]) := hR0
  have HB0 : Hid ((w.alloc (.cells #[.int .i64 p.main, .slice pa p.cls.length pc] 24)).heap[w.heap.size]? = some (.cells #[.int .i64 p.main, .slice pa p.cls.length pc] 24 (0, 0))) := heap_alloc_new _ _
  have HW : Hid (Below w.heap.size w (w.alloc (.cells #[.int .i64 p.main, .slice pa p.cls.length pc] 24))) := (Below.refl _ _).alloc (Nat.le_refl _) _
  have HS : Hid (∀ k, S k → k < w.heap.size) := hS
  have hWi := within_any (w.alloc (.cells #[.int .i64 p.main, .slice pa p.cls.length pc] 24)) (fun k hk => by have := hS k hk; omega) hR0 hl
  rw [hv] at hWi
  clear hz hR hR0 hS hl hv
  go_enter Tryd.func3, Tryd.ntmps3
  go_wp2_with (first
    | (go_at_call 4; refine hWi.mono ?_; rintro e u1 ⟨rfl, hb1⟩; have hbx1 : u1.heap[w.heap.size]? = some (.cells #[.int .i64 p.main, .slice pa p.cls.length pc] 24 (0, 0)) := (hb1.block _ (by rw [HZ.out]; omega)).trans HB0.out; have HX1 : Hid (u1.heap[w.heap.size]? = some (.cells #[.int .i64 p.main, .slice pa p.cls.length pc] 24 (0, 0))) := hbx1; have HU1 : Hid (Below w.heap.size w u1) := HW.out.trans (hb1.mono (by rw [HZ.out]; omega)); have HR2 : Hid (kPg.R u1 S p [.int .i64 p.main, .slice pa p.cls.length pc]) := kPg.keep (fun k hk => hb1.block k (by have := HS.out k hk; rw [HZ.out]; omega)) HR0.out; have hLd := (load_at HOK.out (fun k hk => by have := HS.out k hk; have := HU1.out.size; omega) HR2.out).mono (HLP.out u1); clear hWi hb1 hbx1 HB0)
    | (refine wpList_load_row rfl 24 _ rfl w.heap.size rfl 24 _ (0, 0) _ HX1.out Tryd.underlying24 rfl infoRPg ?_)
    | (refine wpList_load_row rfl 24 _ rfl w.heap.size rfl 24 _ (0, 0) _ HB0.out Tryd.underlying24 rfl infoRPg ?_)
    | (go_at_call 6; refine hLd.mono ?_; rintro e u2 ⟨ao, cap, rfl, hb2, L, hs2, hl2⟩; have HU2 : Hid (Below w.heap.size w u2) := HU1.out.trans (hb2.mono HU1.out.size); have HL2 : Hid (Sl kLy u2 L (.slice ao ls.length cap) ls ∧ (∀ k, L k → k < u2.heap.size)) := ⟨hs2, hl2⟩; have hN1 := lend_ok (w := u2) (HXY.out.1.keep fun k hk => HU2.out.block k hk) HRR.out.2.2.1; clear hLd hb2 hs2 hl2)
    | (go_at_call 7; first
      | (refine hN2.mono ?_; rintro e u4 ⟨vyl, rfl, hb4, hy4⟩; obtain ⟨g4, k4, rfl, -⟩ := id hy4; have hft : Ft w u4 L (.slice ao ls.length cap) (.slice a1 xs.length c1) (.slice a2 ys.length c2) _ _ ls xs ys := ⟨HU3.out.trans (hb4.mono HU3.out.size), HL3.out.1.keep (fun k hk => hb4.block k (HL3.out.2 k hk)), fun k hk => Nat.lt_of_lt_of_le (HL3.out.2 k hk) hb4.size, HXY.out.1.keep (fun k hk => (HU3.out.trans (hb4.mono HU3.out.size)).block k hk), HXY.out.2.keep (fun k hk => (HU3.out.trans (hb4.mono HU3.out.size)).block k hk), HY3.out.keep hb4, (by obtain ⟨g', c', e', q1, q2, q3, q4, q5⟩ := hy4; exact ⟨g', c', e', q1, q2, Nat.le_trans HU3.out.size q3, q4, q5⟩)⟩; have HF4 := hidI hft; have hT5 := typtext_ok a HRR.out.2.2.2.2.1 u4 (tab_keep HTB.out hft.bl); rw [HQ.out.1] at hT5; clear hN2 hb4 hy4 hft)
      | (refine hN1.mono ?_; rintro e u3 ⟨vxl, rfl, hb3, hy3⟩; obtain ⟨g3, k3, rfl, -⟩ := id hy3; have HU3 : Hid (Below w.heap.size w u3) := HU2.out.trans (hb3.mono HU2.out.size); have HY3 : Hid (Lnt u3 w.heap.size (.slice (some ⟨g3, 0, none⟩) xs.length k3) xs) := (by obtain ⟨g', c', e', q1, q2, q3, q4, q5⟩ := hy3; exact ⟨g', c', e', q1, q2, Nat.le_trans HU2.out.size q3, q4, q5⟩); have HL3 : Hid (Sl kLy u3 L (.slice ao ls.length cap) ls ∧ (∀ k, L k → k < u3.heap.size)) := ⟨HL2.out.1.keep (fun k hk => hb3.block k (HL2.out.2 k hk)), fun k hk => Nat.lt_of_lt_of_le (HL2.out.2 k hk) hb3.size⟩; have hN2 := lend_ok (w := u3) (HXY.out.2.keep fun k hk => HU3.out.block k hk) HRR.out.2.2.2.1; clear hN1 hb3 hy3))
    | (go_at_call 8; refine hT5.mono ?_; rintro e u5 ⟨rfl, hb5⟩; have HF5 := hidI (HF4.out.go hb5); have hT6 := doctext_ok a HRR.out.2.2.2.2.1 u5; rw [HQ.out.1] at hT6; clear hT5 hb5 HF4)
    | (go_at_call 9; refine hT6.mono ?_; rintro e u6 ⟨rfl, hb6⟩; have HF6 := hidI (HF5.out.go hb6); have hR7 := tref_ok a u6; rw [HQ.out.2.1] at hR7; have hR8 := docref_ok a u6; rw [HQ.out.2.1] at hR8; have hF9 := tfits_ok HF6.out.ls HAB.out a b HRR.out.2.2.2.2.1 HRR.out.2.2.2.2.2; rw [HQ.out.2.2.1] at hF9; have hF10 := docfits_ok HF6.out.ls a b HRR.out.2.2.2.2.1 HRR.out.2.2.2.2.2; rw [HQ.out.2.2.1] at hF10; have hA11 := typall_ok HF6.out.ls HF6.out.la HAB.out HF6.out.xl.sl (fun k hk => hk.2) HF6.out.yl.sl (fun k hk => hk.2) HRR.out.1 HRR.out.2.1; rw [HQ.out.2.2.2] at hA11; clear hT6 hb6 HF5)
    | (go_at_call 10; refine hR7.mono ?_; rintro e w9 ⟨rfl, hw9⟩; replace hw9 := hw9.symm; subst hw9; clear hR7)
    | (go_at_call 11; refine hR8.mono ?_; rintro e w9 ⟨rfl, hw9⟩; replace hw9 := hw9.symm; subst hw9; clear hR8)
    | (go_at_call 12; refine hF9.mono ?_; rintro e w9 ⟨rfl, hw9⟩; replace hw9 := hw9.symm; subst hw9; clear hF9)
    | (go_at_call 13; refine hF10.mono ?_; rintro e w9 ⟨rfl, hw9⟩; replace hw9 := hw9.symm; subst hw9; clear hF10)
    | (go_at_call 14; refine hA11.mono ?_; rintro e u7 ⟨rfl, hb7⟩; have HF7 := hidI (HF6.out.go hb7); have hA12 := docall_ok HF7.out.ls HF7.out.x HF7.out.y HRR.out.1 HRR.out.2.1; rw [HQ.out.2.2.2] at hA12; clear hA11 hb7 HF6)
    | (go_at_call 15; refine hA12.mono ?_; rintro e u8 ⟨rfl, hb8⟩; have HF8 := hidI (HF7.out.go hb8); have hK1 := kept_ok HF8.out.xl HF8.out.x; clear hA12 hb8 HF7)
    | (go_at_call 16; first
      | (refine hK2.mono ?_; rintro e u10 ⟨rfl, m2, hm2⟩; have hb10 : Below u9.heap.size u9 u10 := (by rw [hm2]; exact below_drewN _ _ _); have HF10 := hidI (HF9.out.go hb10); have hA := awake17 u10; clear hK2 hm2 hb10 HF9)
      | (refine hK1.mono ?_; rintro e u9 ⟨rfl, m1, hm1⟩; have hb9 : Below u8.heap.size u8 u9 := (by rw [hm1]; exact below_drewN _ _ _); have HF9 := hidI (HF8.out.go hb9); have hK2 := kept_ok HF9.out.yl HF9.out.y; clear hK1 hm1 hb9 HF8))
    | (go_at_call 5; refine hA.mono ?_; rintro e u11 ⟨rfl, hb11⟩; have HU11 : Hid (Below w.heap.size w u11) := HF10.out.bl.trans (hb11.mono HF10.out.bl.size); clear hA hb11))
  go_ret
  exact ⟨by first | rfl | simp, HU11.out⟩
theorem fits_walk {S : Nat → Prop} {p : Pg} {cs : List Value} (a b : Int) {vx vy : Value} {xs ys : List Int} (ra : (Lit.int .i64 a).wf = true) (rb : (Lit.int .i64 b).wf = true) (w : World) (hS : ∀ k, S k → k < w.heap.size) (hR : kPg.R w S p cs) (hl : wPg p ≤ 1048576) (hr : rPg p) (hx : Sl kI w (Al w) vx xs) (hy : Sl kI w (Al w) vy ys) (lx : xs.length ≤ 1048576) (ly : ys.length ≤ 1048576) (rx : ∀ x ∈ xs, rg x) (ry : ∀ x ∈ ys, rg x) (htab : Lib.TabIs Tryd.prog w "internal/strconv.uint64pow10" .u64 Lib.pow10Tab) : Calls Tryd.prog 3 #[.agg cs.toArray, .int .i64 a, .int .i64 b, vx, vy] w fun e w' => e = .returned (.bool true) ∧ Below w.heap.size w w' := by
  have hR2 := hR
  obtain ⟨y, rfl, pa, pc, rfl, -⟩ := hR2
  have hsh := shr_wt hl
  rcases hv : wthP p with _ | _
  · exact fits_out a b vx vy w hS hR hsh hv
  have hok := okz_of (wth_all hv) hr
  rcases hs : loadJ p with s | ls
  · exact fits_err a b vx vy w hS hR hsh hv hok hs
  obtain ⟨rfl, hg⟩ := load_gp hs
  exact fits_in a b w hS hR hsh hv hok hs (all_abv hg hok) (rg_wf ra).2 (rg_wf rb).2 hx hy lx ly (fun x q => (rx x q).2) (fun x q => (ry x q).2) htab
end Go.Proofs.YtdgndglinkcdbaaDoor
