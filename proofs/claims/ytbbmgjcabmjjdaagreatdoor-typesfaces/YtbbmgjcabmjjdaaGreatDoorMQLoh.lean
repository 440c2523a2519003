/- The program's own Load: layoutsOf where the first five rules are kept, once layouts has its contract. -/
import Derived.Test.YtbbmgjcabmjjdaaGreatDoorMY27
namespace Go.Proofs.YtbbmgjcabmjjdaaGreatDoor
open Go.RowKit

/-- What stands between layoutsOf's calls once the layouts are made. -/
structure Evl (w u : World) (S : Nat → Prop) (v : Value) (p : Pg) (bp : Nat) (vl : Value) (bl : Nat) : Prop where
  ev : Evq w u S v p bp
  lb : u.cell? ⟨bl, 0, none⟩ = some vl
  ls : Sl kLyU u (fun k => w.heap.size ≤ k ∧ k < u.heap.size) vl (allJ p)
theorem Evl.go {w u u' : World} {S : Nat → Prop} {v : Value} {p : Pg} {bp : Nat} {vl : Value} {bl : Nat} (h : Evl w u S v p bp vl bl) (hb : Below u.heap.size u u') : Evl w u' S v p bp vl bl :=
  ⟨h.ev.go hb, cell_keep h.lb hb, (h.ls.keep fun k q => hb.block k q.2).mono fun _ q => ⟨q.1, Nat.lt_of_lt_of_le q.2 hb.size⟩⟩
theorem evl_start {w u u' : World} {S : Nat → Prop} {v : Value} {p : Pg} {bp : Nat} {al : Option Addr} {cl : Nat} (h : Evq w u S v p bp) (hb : Below u.heap.size u u') (hs : Sl kLyU u' (fun k => u.heap.size ≤ k ∧ k < u'.heap.size) (.slice al (allJ p).length cl) (allJ p)) : Evl w (u'.alloc (.cells #[.slice al (allJ p).length cl] 38)) S v p bp (.slice al (allJ p).length cl) u'.heap.size := by
  have hB : Below u'.heap.size u' (u'.alloc (.cells #[.slice al (allJ p).length cl] 38)) := (Below.refl _ _).alloc (Nat.le_refl _) _
  exact ⟨(h.go hb).go hB, bxq_cell (heap_alloc_new _ _) rfl, (hs.keep fun k q => hB.block k q.2).mono fun k q => ⟨Nat.le_trans h.bel.size q.1, Nat.lt_of_lt_of_le q.2 hB.size⟩⟩
/-- What all that a class is consists of lies in range. -/
def AbQ (p : Pg) : Prop := ∀ i, i < p.cls.length → ∀ a ∈ (lyJ p (11 + (i : Int))).abv, isJ p a = true
theorem ck6_pass {w u : World} {S : Nat → Prop} {ao : Option Addr} {cap : Nat} {p : Pg} {bp bl : Nat} {vl : Value} (hn : p.cls.length ≤ 1048576) (hab : AbQ p) (hu : Evl w u S (.slice ao (11 + p.cls.length) cap) p bp vl bl) (h0 : (rk6 p).1 = 0) : Calls Tryz.prog 28 #[.slice ao (11 + p.cls.length) cap, .int .i64 1507, .func (.func 35) #[] #[.pointer (some ⟨bp, 0, none⟩), .pointer (some ⟨bl, 0, none⟩)]] u fun e u' => (∃ v, e = .returned v) ∧ Below u.heap.size u u' :=
  chk_pass (F := 35) (enters_of Tryz.func35 (by kernel_rfl) rfl) (bad := bad6 p) hn (by decide) (fun u1 i hb hi => by
    show Calls _ _ #[.int .i64 (11 + (i : Int)), .pointer (some ⟨bp, 0, none⟩), .pointer (some ⟨bl, 0, none⟩)] _ _
    exact (lo1_ok (hu.ev.tb.go hb) (cell_keep hu.lb hb) (soft_Ly (hu.go hb).ls) (fun k q => q.2) hi (hab i hi)).mono fun e u2 ⟨a, b⟩ => ⟨a, b.mono hb.size⟩) h0
theorem ck6_fail {w u : World} {S : Nat → Prop} {ao : Option Addr} {cap : Nat} {p : Pg} {bp bl : Nat} {vl : Value} (hn : p.cls.length ≤ 1048576) (hab : AbQ p) (hu : Evl w u S (.slice ao (11 + p.cls.length) cap) p bp vl bl) (h0 : (rk6 p).1 ≠ 0) : Calls Tryz.prog 28 #[.slice ao (11 + p.cls.length) cap, .int .i64 1507, .func (.func 35) #[] #[.pointer (some ⟨bp, 0, none⟩), .pointer (some ⟨bl, 0, none⟩)]] u fun e u' => e = FltI (rk6 p).2 (rk6 p).1 ∧ Below u.heap.size u u' :=
  chk_fail (F := 35) (enters_of Tryz.func35 (by kernel_rfl) rfl) (bad := bad6 p) hn (by decide) (fun u1 i hb hi => by
    show Calls _ _ #[.int .i64 (11 + (i : Int)), .pointer (some ⟨bp, 0, none⟩), .pointer (some ⟨bl, 0, none⟩)] _ _
    exact (lo1_ok (hu.ev.tb.go hb) (cell_keep hu.lb hb) (soft_Ly (hu.go hb).ls) (fun k q => q.2) hi (hab i hi)).mono fun e u2 ⟨a, b⟩ => ⟨a, b.mono hb.size⟩) h0
theorem ck7_pass {w u : World} {S : Nat → Prop} {ao : Option Addr} {cap : Nat} {p : Pg} {bp bl : Nat} {vl : Value} (hn : p.cls.length ≤ 1048576) (hu : Evl w u S (.slice ao (11 + p.cls.length) cap) p bp vl bl) (h0 : (rk7 p).1 = 0) : Calls Tryz.prog 28 #[.slice ao (11 + p.cls.length) cap, .int .i64 1506, .func (.func 37) #[] #[.pointer (some ⟨bp, 0, none⟩), .pointer (some ⟨bl, 0, none⟩)]] u fun e u' => (∃ v, e = .returned v) ∧ Below u.heap.size u u' :=
  chk_pass (F := 37) (enters_of Tryz.func37 (by kernel_rfl) rfl) (bad := bad7 p) hn (by decide) (fun u1 i hb hi => by
    show Calls _ _ #[.int .i64 (11 + (i : Int)), .pointer (some ⟨bp, 0, none⟩), .pointer (some ⟨bl, 0, none⟩)] _ _
    exact (lo2_ok (hu.ev.tb.go hb) (cell_keep hu.lb hb) (soft_Ly (hu.go hb).ls) (fun k q => q.2) hi).mono fun e u2 ⟨a, b⟩ => ⟨a, b.mono hb.size⟩) h0
theorem ck7_fail {w u : World} {S : Nat → Prop} {ao : Option Addr} {cap : Nat} {p : Pg} {bp bl : Nat} {vl : Value} (hn : p.cls.length ≤ 1048576) (hu : Evl w u S (.slice ao (11 + p.cls.length) cap) p bp vl bl) (h0 : (rk7 p).1 ≠ 0) : Calls Tryz.prog 28 #[.slice ao (11 + p.cls.length) cap, .int .i64 1506, .func (.func 37) #[] #[.pointer (some ⟨bp, 0, none⟩), .pointer (some ⟨bl, 0, none⟩)]] u fun e u' => e = FltI (rk7 p).2 (rk7 p).1 ∧ Below u.heap.size u u' :=
  chk_fail (F := 37) (enters_of Tryz.func37 (by kernel_rfl) rfl) (bad := bad7 p) hn (by decide) (fun u1 i hb hi => by
    show Calls _ _ #[.int .i64 (11 + (i : Int)), .pointer (some ⟨bp, 0, none⟩), .pointer (some ⟨bl, 0, none⟩)] _ _
    exact (lo2_ok (hu.ev.tb.go hb) (cell_keep hu.lb hb) (soft_Ly (hu.go hb).ls) (fun k q => q.2) hi).mono fun e u2 ⟨a, b⟩ => ⟨a, b.mono hb.size⟩) h0
set_option maxHeartbeats 8000000 in
set_option maxRecDepth 20000 in
theorem lof6f {S : Nat → Prop} {p : Pg} {cs : List Value} {w : World} (hS : ∀ k, S k → k < w.heap.size) (hR : kPg.R w S p cs) (hok : Okq p) (hF : Hid HqF) (hM : Hid HqM) (h1 : Hid ((rk1 p).1 = 0)) (h2 : Hid ((rk2 p).1 = 0)) (h3 : Hid ((rk3 p).1 = 0)) (h4 : Hid ((rk4 p).1 = 0)) (h5 : Hid ((rk5 p).1 = 0)) (h5a : Hid (st5 p = (0, 0))) (hab : Hid (AbQ p)) (hLy : Hid (HLy p)) (h6 : Hid ((rk6 p).1 ≠ 0)) : Calls Tryz.prog 14 #[.agg cs.toArray] w (LfP p w) := by
  have hn := hok.n
  obtain ⟨y, rfl, hV⟩ := hR
  have hV2 := hV
  obtain ⟨po, pc, rfl, -, -⟩ := hV2
  have hZ : (w.alloc (.cells #[.int .i64 p.main, .slice po p.cls.length pc] 37)).heap.size = w.heap.size + 1 := by simp
  have hc0 : (w.alloc (.cells #[.int .i64 p.main, .slice po p.cls.length pc] 37)).heap[w.heap.size]? = some (.cells #[.int .i64 p.main, .slice po p.cls.length pc] 37 (0, 0)) := heap_alloc_new _ _
  have m0 : (w.alloc (.cells #[.int .i64 p.main, .slice po p.cls.length pc] 37)).cell? ⟨w.heap.size, 0, none⟩ = some (.int .i64 p.main) := bxq_cell hc0 rfl
  have m1 : (w.alloc (.cells #[.int .i64 p.main, .slice po p.cls.length pc] 37)).cell? ⟨w.heap.size, 1, none⟩ = some (.slice po p.cls.length pc) := bxq_cell hc0 rfl
  have HB1 : Hid (Below w.heap.size w (w.alloc (.cells #[.int .i64 p.main, .slice po p.cls.length pc] 37))) := (Below.refl _ _).alloc (Nat.le_refl _) _
  have hT := treeOf_ok (w := (w.alloc (.cells #[.int .i64 p.main, .slice po p.cls.length pc] 37))) (S := S) (p := p) (cs := [.int .i64 p.main, .slice po p.cls.length pc]) (fun k q => by rw [hZ]; exact Nat.lt_succ_of_lt (hS k q)) ⟨_, rfl, hV.keep fun b q => HB1.out.block b (hS b q)⟩ hn
  have HS : Hid (∀ k, S k → k < w.heap.size) := hS
  have HK : Hid (Okq p) := hok
  have HN : Hid (p.cls.length ≤ 1048576) := hn
  clear hc0 hV hS hok hZ hn
  go_enter Tryz.func14, Tryz.ntmps14
  go_upto_region 2 with (go_at_call 27; refine hT.mono ?_; rintro e u1 ⟨v, rfl, hb1, hs1⟩; have hs2 := hs1; obtain ⟨ao, cap, rfl, -, -⟩ := hs2; have HE : Hid _ := evq_start HS.out hb1 hs1; clear hb1 hs1)
  rw [trQ_len p]
  generalize u1.heap.size = bp at *
  generalize u1.alloc (.cells #[.slice ao (11 + p.cls.length) cap] 63) = x1 at *
  obtain ⟨S2, HE1⟩ : ∃ S2, Hid (Evq w x1 S2 (.slice ao (11 + p.cls.length) cap) p bp) := ⟨_, HE.out⟩
  have b1 := HE1.out.tb.box
  clear HE m0 m1 hT HB1
  go_upto_region 3 with (go_at_call 28; refine (ck1_pass HN.out HE1.out h1.out).mono ?_; rintro e x2 ⟨⟨v1, rfl⟩, hb⟩; have HE2 : Hid _ := HE1.out.go hb; have b2 := HE2.out.tb.box; clear b1 hb)
  go_upto_region 4 with (go_at_call 28; refine (ck2_pass HN.out (runJ_ok (by decide) h1.out).2.2 HE2.out h2.out).mono ?_; rintro e x3 ⟨⟨v2, rfl⟩, hb⟩; have HE3 : Hid _ := HE2.out.go hb; have b3 := HE3.out.tb.box; clear b2 hb)
  go_upto_region 5 with (go_at_call 28; refine (ck3_pass HN.out HE3.out h3.out).mono ?_; rintro e x4 ⟨⟨v3, rfl⟩, hb⟩; have HE4 : Hid _ := HE3.out.go hb; have b4 := HE4.out.tb.box; clear b3 hb)
  go_upto_region 6 with (go_at_call 28; refine (ck4_pass HN.out HK.out HE4.out h4.out).mono ?_; rintro e x5 ⟨⟨v4, rfl⟩, hb⟩; have HE5 : Hid _ := HE4.out.go hb; have b5 := HE5.out.tb.box; clear b4 hb)
  go_upto_region 7 with (go_at_call 28; refine (ck5_pass HN.out HK.out hF.out hM.out HE5.out h5.out).mono ?_; rintro e x6 ⟨⟨v5, rfl⟩, hb⟩; have HE6 : Hid _ := HE5.out.go hb; have b6 := HE6.out.tb.box; clear b5 hb)
  have hL := hLy.out _ _ _ HE6.out.tb.tr HE6.out.tb.lo h5a.out
  go_upto_region 8 with (go_at_call 34; refine hL.mono ?_; rintro e y1 ⟨vl, rfl, hb, hs⟩; have hs2 := hs; obtain ⟨al, cl, rfl, -, -⟩ := hs2; have HV : Hid _ := evl_start HE6.out hb hs; clear hL hb hs b6)
  generalize y1.heap.size = bl at *
  generalize y1.alloc (.cells #[.slice al (allJ p).length cl] 38) = y2 at *
  generalize hvl : Value.slice al (allJ p).length cl = vl at *
  have c1 := HV.out.ev.tb.box
  have c2 := HV.out.lb
  go_wp2_with (go_at_call 28; refine (ck6_fail HN.out hab.out HV.out h6.out).mono ?_; rintro e z ⟨rfl, hb⟩; have HF : Hid _ := HV.out.go hb)
  exact ⟨rfl, LfP.err (load_r6 h5a.out h6.out) HF.out.ev.bel⟩
set_option maxHeartbeats 8000000 in
set_option maxRecDepth 20000 in
theorem lof7f {S : Nat → Prop} {p : Pg} {cs : List Value} {w : World} (hS : ∀ k, S k → k < w.heap.size) (hR : kPg.R w S p cs) (hok : Okq p) (hF : Hid HqF) (hM : Hid HqM) (h1 : Hid ((rk1 p).1 = 0)) (h2 : Hid ((rk2 p).1 = 0)) (h3 : Hid ((rk3 p).1 = 0)) (h4 : Hid ((rk4 p).1 = 0)) (h5 : Hid ((rk5 p).1 = 0)) (h5a : Hid (st5 p = (0, 0))) (hab : Hid (AbQ p)) (hLy : Hid (HLy p)) (h6 : Hid ((rk6 p).1 = 0)) (h7 : Hid ((rk7 p).1 ≠ 0)) : Calls Tryz.prog 14 #[.agg cs.toArray] w (LfP p w) := by
  have hn := hok.n
  obtain ⟨y, rfl, hV⟩ := hR
  have hV2 := hV
  obtain ⟨po, pc, rfl, -, -⟩ := hV2
  have hZ : (w.alloc (.cells #[.int .i64 p.main, .slice po p.cls.length pc] 37)).heap.size = w.heap.size + 1 := by simp
  have hc0 : (w.alloc (.cells #[.int .i64 p.main, .slice po p.cls.length pc] 37)).heap[w.heap.size]? = some (.cells #[.int .i64 p.main, .slice po p.cls.length pc] 37 (0, 0)) := heap_alloc_new _ _
  have m0 : (w.alloc (.cells #[.int .i64 p.main, .slice po p.cls.length pc] 37)).cell? ⟨w.heap.size, 0, none⟩ = some (.int .i64 p.main) := bxq_cell hc0 rfl
  have m1 : (w.alloc (.cells #[.int .i64 p.main, .slice po p.cls.length pc] 37)).cell? ⟨w.heap.size, 1, none⟩ = some (.slice po p.cls.length pc) := bxq_cell hc0 rfl
  have HB1 : Hid (Below w.heap.size w (w.alloc (.cells #[.int .i64 p.main, .slice po p.cls.length pc] 37))) := (Below.refl _ _).alloc (Nat.le_refl _) _
  have hT := treeOf_ok (w := (w.alloc (.cells #[.int .i64 p.main, .slice po p.cls.length pc] 37))) (S := S) (p := p) (cs := [.int .i64 p.main, .slice po p.cls.length pc]) (fun k q => by rw [hZ]; exact Nat.lt_succ_of_lt (hS k q)) ⟨_, rfl, hV.keep fun b q => HB1.out.block b (hS b q)⟩ hn
  have HS : Hid (∀ k, S k → k < w.heap.size) := hS
  have HK : Hid (Okq p) := hok
  have HN : Hid (p.cls.length ≤ 1048576) := hn
  clear hc0 hV hS hok hZ hn
  go_enter Tryz.func14, Tryz.ntmps14
  go_upto_region 2 with (go_at_call 27; refine hT.mono ?_; rintro e u1 ⟨v, rfl, hb1, hs1⟩; have hs2 := hs1; obtain ⟨ao, cap, rfl, -, -⟩ := hs2; have HE : Hid _ := evq_start HS.out hb1 hs1; clear hb1 hs1)
  rw [trQ_len p]
  generalize u1.heap.size = bp at *
  generalize u1.alloc (.cells #[.slice ao (11 + p.cls.length) cap] 63) = x1 at *
  obtain ⟨S2, HE1⟩ : ∃ S2, Hid (Evq w x1 S2 (.slice ao (11 + p.cls.length) cap) p bp) := ⟨_, HE.out⟩
  have b1 := HE1.out.tb.box
  clear HE m0 m1 hT HB1
  go_upto_region 3 with (go_at_call 28; refine (ck1_pass HN.out HE1.out h1.out).mono ?_; rintro e x2 ⟨⟨v1, rfl⟩, hb⟩; have HE2 : Hid _ := HE1.out.go hb; have b2 := HE2.out.tb.box; clear b1 hb)
  go_upto_region 4 with (go_at_call 28; refine (ck2_pass HN.out (runJ_ok (by decide) h1.out).2.2 HE2.out h2.out).mono ?_; rintro e x3 ⟨⟨v2, rfl⟩, hb⟩; have HE3 : Hid _ := HE2.out.go hb; have b3 := HE3.out.tb.box; clear b2 hb)
  go_upto_region 5 with (go_at_call 28; refine (ck3_pass HN.out HE3.out h3.out).mono ?_; rintro e x4 ⟨⟨v3, rfl⟩, hb⟩; have HE4 : Hid _ := HE3.out.go hb; have b4 := HE4.out.tb.box; clear b3 hb)
  go_upto_region 6 with (go_at_call 28; refine (ck4_pass HN.out HK.out HE4.out h4.out).mono ?_; rintro e x5 ⟨⟨v4, rfl⟩, hb⟩; have HE5 : Hid _ := HE4.out.go hb; have b5 := HE5.out.tb.box; clear b4 hb)
  go_upto_region 7 with (go_at_call 28; refine (ck5_pass HN.out HK.out hF.out hM.out HE5.out h5.out).mono ?_; rintro e x6 ⟨⟨v5, rfl⟩, hb⟩; have HE6 : Hid _ := HE5.out.go hb; have b6 := HE6.out.tb.box; clear b5 hb)
  have hL := hLy.out _ _ _ HE6.out.tb.tr HE6.out.tb.lo h5a.out
  go_upto_region 8 with (go_at_call 34; refine hL.mono ?_; rintro e y1 ⟨vl, rfl, hb, hs⟩; have hs2 := hs; obtain ⟨al, cl, rfl, -, -⟩ := hs2; have HV : Hid _ := evl_start HE6.out hb hs; clear hL hb hs b6)
  generalize y1.heap.size = bl at *
  generalize y1.alloc (.cells #[.slice al (allJ p).length cl] 38) = y2 at *
  generalize hvl : Value.slice al (allJ p).length cl = vl at *
  have c1 := HV.out.ev.tb.box
  have c2 := HV.out.lb
  go_upto_region 9 with (go_at_call 28; refine (ck6_pass HN.out hab.out HV.out h6.out).mono ?_; rintro e y3 ⟨⟨v6, rfl⟩, hb⟩; have HV2 : Hid _ := HV.out.go hb; have d1 := HV2.out.ev.tb.box; have d2 := HV2.out.lb; clear c1 c2 hb)
  go_wp2_with (go_at_call 28; refine (ck7_fail HN.out HV2.out h7.out).mono ?_; rintro e z ⟨rfl, hb⟩; have HF : Hid _ := HV2.out.go hb)
  exact ⟨rfl, LfP.err (load_r7 h5a.out h6.out h7.out) HF.out.ev.bel⟩
set_option maxHeartbeats 8000000 in
set_option maxRecDepth 20000 in
theorem lof8f {S : Nat → Prop} {p : Pg} {cs : List Value} {w : World} (hS : ∀ k, S k → k < w.heap.size) (hR : kPg.R w S p cs) (hok : Okq p) (hF : Hid HqF) (hM : Hid HqM) (h1 : Hid ((rk1 p).1 = 0)) (h2 : Hid ((rk2 p).1 = 0)) (h3 : Hid ((rk3 p).1 = 0)) (h4 : Hid ((rk4 p).1 = 0)) (h5 : Hid ((rk5 p).1 = 0)) (h5a : Hid (st5 p = (0, 0))) (hab : Hid (AbQ p)) (hLy : Hid (HLy p)) (h6 : Hid ((rk6 p).1 = 0)) (h7 : Hid ((rk7 p).1 = 0)) (h8 : Hid (bad8 p = true)) : Calls Tryz.prog 14 #[.agg cs.toArray] w (LfP p w) := by
  have hn := hok.n
  obtain ⟨y, rfl, hV⟩ := hR
  have hV2 := hV
  obtain ⟨po, pc, rfl, -, -⟩ := hV2
  have hZ : (w.alloc (.cells #[.int .i64 p.main, .slice po p.cls.length pc] 37)).heap.size = w.heap.size + 1 := by simp
  have hc0 : (w.alloc (.cells #[.int .i64 p.main, .slice po p.cls.length pc] 37)).heap[w.heap.size]? = some (.cells #[.int .i64 p.main, .slice po p.cls.length pc] 37 (0, 0)) := heap_alloc_new _ _
  have m0 : (w.alloc (.cells #[.int .i64 p.main, .slice po p.cls.length pc] 37)).cell? ⟨w.heap.size, 0, none⟩ = some (.int .i64 p.main) := bxq_cell hc0 rfl
  have m1 : (w.alloc (.cells #[.int .i64 p.main, .slice po p.cls.length pc] 37)).cell? ⟨w.heap.size, 1, none⟩ = some (.slice po p.cls.length pc) := bxq_cell hc0 rfl
  have HB1 : Hid (Below w.heap.size w (w.alloc (.cells #[.int .i64 p.main, .slice po p.cls.length pc] 37))) := (Below.refl _ _).alloc (Nat.le_refl _) _
  have hT := treeOf_ok (w := (w.alloc (.cells #[.int .i64 p.main, .slice po p.cls.length pc] 37))) (S := S) (p := p) (cs := [.int .i64 p.main, .slice po p.cls.length pc]) (fun k q => by rw [hZ]; exact Nat.lt_succ_of_lt (hS k q)) ⟨_, rfl, hV.keep fun b q => HB1.out.block b (hS b q)⟩ hn
  have HS : Hid (∀ k, S k → k < w.heap.size) := hS
  have HK : Hid (Okq p) := hok
  have HN : Hid (p.cls.length ≤ 1048576) := hn
  clear hc0 hV hS hok hZ hn
  go_enter Tryz.func14, Tryz.ntmps14
  go_upto_region 2 with (go_at_call 27; refine hT.mono ?_; rintro e u1 ⟨v, rfl, hb1, hs1⟩; have hs2 := hs1; obtain ⟨ao, cap, rfl, -, -⟩ := hs2; have HE : Hid _ := evq_start HS.out hb1 hs1; clear hb1 hs1)
  rw [trQ_len p]
  generalize u1.heap.size = bp at *
  generalize u1.alloc (.cells #[.slice ao (11 + p.cls.length) cap] 63) = x1 at *
  obtain ⟨S2, HE1⟩ : ∃ S2, Hid (Evq w x1 S2 (.slice ao (11 + p.cls.length) cap) p bp) := ⟨_, HE.out⟩
  have b1 := HE1.out.tb.box
  clear HE m0 m1 hT HB1
  go_upto_region 3 with (go_at_call 28; refine (ck1_pass HN.out HE1.out h1.out).mono ?_; rintro e x2 ⟨⟨v1, rfl⟩, hb⟩; have HE2 : Hid _ := HE1.out.go hb; have b2 := HE2.out.tb.box; clear b1 hb)
  go_upto_region 4 with (go_at_call 28; refine (ck2_pass HN.out (runJ_ok (by decide) h1.out).2.2 HE2.out h2.out).mono ?_; rintro e x3 ⟨⟨v2, rfl⟩, hb⟩; have HE3 : Hid _ := HE2.out.go hb; have b3 := HE3.out.tb.box; clear b2 hb)
  go_upto_region 5 with (go_at_call 28; refine (ck3_pass HN.out HE3.out h3.out).mono ?_; rintro e x4 ⟨⟨v3, rfl⟩, hb⟩; have HE4 : Hid _ := HE3.out.go hb; have b4 := HE4.out.tb.box; clear b3 hb)
  go_upto_region 6 with (go_at_call 28; refine (ck4_pass HN.out HK.out HE4.out h4.out).mono ?_; rintro e x5 ⟨⟨v4, rfl⟩, hb⟩; have HE5 : Hid _ := HE4.out.go hb; have b5 := HE5.out.tb.box; clear b4 hb)
  go_upto_region 7 with (go_at_call 28; refine (ck5_pass HN.out HK.out hF.out hM.out HE5.out h5.out).mono ?_; rintro e x6 ⟨⟨v5, rfl⟩, hb⟩; have HE6 : Hid _ := HE5.out.go hb; have b6 := HE6.out.tb.box; clear b5 hb)
  have hL := hLy.out _ _ _ HE6.out.tb.tr HE6.out.tb.lo h5a.out
  go_upto_region 8 with (go_at_call 34; refine hL.mono ?_; rintro e y1 ⟨vl, rfl, hb, hs⟩; have hs2 := hs; obtain ⟨al, cl, rfl, -, -⟩ := hs2; have HV : Hid _ := evl_start HE6.out hb hs; clear hL hb hs b6)
  generalize y1.heap.size = bl at *
  generalize y1.alloc (.cells #[.slice al (allJ p).length cl] 38) = y2 at *
  generalize hvl : Value.slice al (allJ p).length cl = vl at *
  have c1 := HV.out.ev.tb.box
  have c2 := HV.out.lb
  go_upto_region 9 with (go_at_call 28; refine (ck6_pass HN.out hab.out HV.out h6.out).mono ?_; rintro e y3 ⟨⟨v6, rfl⟩, hb⟩; have HV2 : Hid _ := HV.out.go hb; have d1 := HV2.out.ev.tb.box; have d2 := HV2.out.lb; clear c1 c2 hb)
  go_upto_region 10 with (go_at_call 28; refine (ck7_pass HN.out HV2.out h7.out).mono ?_; rintro e y4 ⟨⟨v7, rfl⟩, hb⟩; have HV3 : Hid _ := HV2.out.go hb; have e1 := HV3.out.ev.tb.box; have e2 := HV3.out.lb; have e3 := HV3.out.ev.main; clear d1 d2 hb)
  have hMn := main_ok HV3.out.ev.tb.tr HV3.out.ev.tb.lo
  rw [h8.out] at hMn
  go_wp2_with (first | (go_at_call 39; refine hMn.mono ?_; rintro e y5 ⟨rfl, hb⟩; have HV4 : Hid _ := HV3.out.go hb; have f1 := HV4.out.ev.tb.box; have f2 := HV4.out.lb; have f3 := HV4.out.ev.main; clear e1 e2 e3 hb hMn) | (go_at_call 40; refine (throw_any _ _ _).mono ?_; rintro e w8 ⟨rfl, hw⟩; replace hw := hw.symm; subst hw))
  exact ⟨rfl, LfP.err (load_r8 h5a.out h6.out h7.out h8.out) HV4.out.ev.bel⟩
set_option maxHeartbeats 8000000 in
set_option maxRecDepth 20000 in
theorem lof9f {S : Nat → Prop} {p : Pg} {cs : List Value} {w : World} (hS : ∀ k, S k → k < w.heap.size) (hR : kPg.R w S p cs) (hok : Okq p) (hF : Hid HqF) (hM : Hid HqM) (h1 : Hid ((rk1 p).1 = 0)) (h2 : Hid ((rk2 p).1 = 0)) (h3 : Hid ((rk3 p).1 = 0)) (h4 : Hid ((rk4 p).1 = 0)) (h5 : Hid ((rk5 p).1 = 0)) (h5a : Hid (st5 p = (0, 0))) (hab : Hid (AbQ p)) (hLy : Hid (HLy p)) (h6 : Hid ((rk6 p).1 = 0)) (h7 : Hid ((rk7 p).1 = 0)) (h8 : Hid (bad8 p = false)) : Calls Tryz.prog 14 #[.agg cs.toArray] w (LfP p w) := by
  have hn := hok.n
  obtain ⟨y, rfl, hV⟩ := hR
  have hV2 := hV
  obtain ⟨po, pc, rfl, -, -⟩ := hV2
  have hZ : (w.alloc (.cells #[.int .i64 p.main, .slice po p.cls.length pc] 37)).heap.size = w.heap.size + 1 := by simp
  have hc0 : (w.alloc (.cells #[.int .i64 p.main, .slice po p.cls.length pc] 37)).heap[w.heap.size]? = some (.cells #[.int .i64 p.main, .slice po p.cls.length pc] 37 (0, 0)) := heap_alloc_new _ _
  have m0 : (w.alloc (.cells #[.int .i64 p.main, .slice po p.cls.length pc] 37)).cell? ⟨w.heap.size, 0, none⟩ = some (.int .i64 p.main) := bxq_cell hc0 rfl
  have m1 : (w.alloc (.cells #[.int .i64 p.main, .slice po p.cls.length pc] 37)).cell? ⟨w.heap.size, 1, none⟩ = some (.slice po p.cls.length pc) := bxq_cell hc0 rfl
  have HB1 : Hid (Below w.heap.size w (w.alloc (.cells #[.int .i64 p.main, .slice po p.cls.length pc] 37))) := (Below.refl _ _).alloc (Nat.le_refl _) _
  have hT := treeOf_ok (w := (w.alloc (.cells #[.int .i64 p.main, .slice po p.cls.length pc] 37))) (S := S) (p := p) (cs := [.int .i64 p.main, .slice po p.cls.length pc]) (fun k q => by rw [hZ]; exact Nat.lt_succ_of_lt (hS k q)) ⟨_, rfl, hV.keep fun b q => HB1.out.block b (hS b q)⟩ hn
  have HS : Hid (∀ k, S k → k < w.heap.size) := hS
  have HK : Hid (Okq p) := hok
  have HN : Hid (p.cls.length ≤ 1048576) := hn
  clear hc0 hV hS hok hZ hn
  go_enter Tryz.func14, Tryz.ntmps14
  go_upto_region 2 with (go_at_call 27; refine hT.mono ?_; rintro e u1 ⟨v, rfl, hb1, hs1⟩; have hs2 := hs1; obtain ⟨ao, cap, rfl, -, -⟩ := hs2; have HE : Hid _ := evq_start HS.out hb1 hs1; clear hb1 hs1)
  rw [trQ_len p]
  generalize u1.heap.size = bp at *
  generalize u1.alloc (.cells #[.slice ao (11 + p.cls.length) cap] 63) = x1 at *
  obtain ⟨S2, HE1⟩ : ∃ S2, Hid (Evq w x1 S2 (.slice ao (11 + p.cls.length) cap) p bp) := ⟨_, HE.out⟩
  have b1 := HE1.out.tb.box
  clear HE m0 m1 hT HB1
  go_upto_region 3 with (go_at_call 28; refine (ck1_pass HN.out HE1.out h1.out).mono ?_; rintro e x2 ⟨⟨v1, rfl⟩, hb⟩; have HE2 : Hid _ := HE1.out.go hb; have b2 := HE2.out.tb.box; clear b1 hb)
  go_upto_region 4 with (go_at_call 28; refine (ck2_pass HN.out (runJ_ok (by decide) h1.out).2.2 HE2.out h2.out).mono ?_; rintro e x3 ⟨⟨v2, rfl⟩, hb⟩; have HE3 : Hid _ := HE2.out.go hb; have b3 := HE3.out.tb.box; clear b2 hb)
  go_upto_region 5 with (go_at_call 28; refine (ck3_pass HN.out HE3.out h3.out).mono ?_; rintro e x4 ⟨⟨v3, rfl⟩, hb⟩; have HE4 : Hid _ := HE3.out.go hb; have b4 := HE4.out.tb.box; clear b3 hb)
  go_upto_region 6 with (go_at_call 28; refine (ck4_pass HN.out HK.out HE4.out h4.out).mono ?_; rintro e x5 ⟨⟨v4, rfl⟩, hb⟩; have HE5 : Hid _ := HE4.out.go hb; have b5 := HE5.out.tb.box; clear b4 hb)
  go_upto_region 7 with (go_at_call 28; refine (ck5_pass HN.out HK.out hF.out hM.out HE5.out h5.out).mono ?_; rintro e x6 ⟨⟨v5, rfl⟩, hb⟩; have HE6 : Hid _ := HE5.out.go hb; have b6 := HE6.out.tb.box; clear b5 hb)
  have hL := hLy.out _ _ _ HE6.out.tb.tr HE6.out.tb.lo h5a.out
  go_upto_region 8 with (go_at_call 34; refine hL.mono ?_; rintro e y1 ⟨vl, rfl, hb, hs⟩; have hs2 := hs; obtain ⟨al, cl, rfl, -, -⟩ := hs2; have HV : Hid _ := evl_start HE6.out hb hs; clear hL hb hs b6)
  generalize y1.heap.size = bl at *
  generalize y1.alloc (.cells #[.slice al (allJ p).length cl] 38) = y2 at *
  generalize hvl : Value.slice al (allJ p).length cl = vl at *
  have c1 := HV.out.ev.tb.box
  have c2 := HV.out.lb
  go_upto_region 9 with (go_at_call 28; refine (ck6_pass HN.out hab.out HV.out h6.out).mono ?_; rintro e y3 ⟨⟨v6, rfl⟩, hb⟩; have HV2 : Hid _ := HV.out.go hb; have d1 := HV2.out.ev.tb.box; have d2 := HV2.out.lb; clear c1 c2 hb)
  go_upto_region 10 with (go_at_call 28; refine (ck7_pass HN.out HV2.out h7.out).mono ?_; rintro e y4 ⟨⟨v7, rfl⟩, hb⟩; have HV3 : Hid _ := HV2.out.go hb; have e1 := HV3.out.ev.tb.box; have e2 := HV3.out.lb; have e3 := HV3.out.ev.main; clear d1 d2 hb)
  have hMn := main_ok HV3.out.ev.tb.tr HV3.out.ev.tb.lo
  rw [h8.out] at hMn
  go_wp2_with (go_at_call 39; refine hMn.mono ?_; rintro e y5 ⟨rfl, hb⟩; have HV4 : Hid _ := HV3.out.go hb; have f1 := HV4.out.ev.tb.box; have f2 := HV4.out.lb; have f3 := HV4.out.ev.main; clear e1 e2 e3 hb hMn)
  go_ret
  exact ⟨HV4.out.ev.bel, by rw [load_all h5a.out h6.out h7.out h8.out]; exact ⟨_, rfl, HV4.out.ls⟩⟩
end Go.Proofs.YtbbmgjcabmjjdaaGreatDoor
