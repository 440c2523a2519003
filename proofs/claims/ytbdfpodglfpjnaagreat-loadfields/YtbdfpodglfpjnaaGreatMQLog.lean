/- The program's own Load: layoutsOf where one of the first five rules is broken. -/
import Derived.Test.YtbdfpodglfpjnaaGreatMY25
namespace Go.Proofs.YtbdfpodglfpjnaaGreat
open Go.RowKit

theorem evq_start {w u1 : World} {S : Nat → Prop} {p : Pg} {ao po : Option Addr} {cap pc : Nat} (hS : ∀ k, S k → k < w.heap.size) (hb : Below (w.alloc (.cells #[.int .i64 p.main, .slice po p.cls.length pc] 25)).heap.size (w.alloc (.cells #[.int .i64 p.main, .slice po p.cls.length pc] 25)) u1) (hs : Sl kCs u1 (fun k => S k ∨ ((w.alloc (.cells #[.int .i64 p.main, .slice po p.cls.length pc] 25)).heap.size ≤ k ∧ k < u1.heap.size)) (.slice ao (trQ p).length cap) (trQ p)) : Evq w (u1.alloc (.cells #[.slice ao (11 + p.cls.length) cap] 77)) (fun k => S k ∨ ((w.alloc (.cells #[.int .i64 p.main, .slice po p.cls.length pc] 25)).heap.size ≤ k ∧ k < u1.heap.size)) (.slice ao (11 + p.cls.length) cap) p u1.heap.size := by
  have hc0 : (w.alloc (.cells #[.int .i64 p.main, .slice po p.cls.length pc] 25)).heap[w.heap.size]? = some (.cells #[.int .i64 p.main, .slice po p.cls.length pc] 25 (0, 0)) := heap_alloc_new _ _
  have hz : w.heap.size ≤ (w.alloc (.cells #[.int .i64 p.main, .slice po p.cls.length pc] 25)).heap.size := by simp
  have hB : Below w.heap.size w (w.alloc (.cells #[.int .i64 p.main, .slice po p.cls.length pc] 25)) := (Below.refl _ _).alloc (Nat.le_refl _) _
  rw [← trQ_len p]
  have hB2 : Below u1.heap.size u1 (u1.alloc (.cells #[.slice ao (trQ p).length cap] 77)) := (Below.refl _ _).alloc (Nat.le_refl _) _
  exact ⟨Tb.mk_ hs (fun k q => q.elim (fun q => Nat.lt_of_lt_of_le (hS k q) (Nat.le_trans hz hb.size)) (·.2)), cell_keep (cell_keep (bxq_cell hc0 rfl) hb) hB2, (hB.trans (hb.mono hz)).trans (hB2.mono (Nat.le_trans hz hb.size))⟩
set_option maxHeartbeats 8000000 in
set_option maxRecDepth 20000 in
theorem lof1f {S : Nat → Prop} {p : Pg} {cs : List Value} {w : World} (hS : ∀ k, S k → k < w.heap.size) (hR : kPg.R w S p cs) (hok : Okq p) (h1 : Hid ((rk1 p).1 ≠ 0)) : Calls Tryz.prog 23 #[.agg cs.toArray] w (LfP p w) := by
  have hn := hok.n
  obtain ⟨y, rfl, hV⟩ := hR
  have hV2 := hV
  obtain ⟨po, pc, rfl, -, -⟩ := hV2
  have hZ : (w.alloc (.cells #[.int .i64 p.main, .slice po p.cls.length pc] 25)).heap.size = w.heap.size + 1 := by simp
  have hc0 : (w.alloc (.cells #[.int .i64 p.main, .slice po p.cls.length pc] 25)).heap[w.heap.size]? = some (.cells #[.int .i64 p.main, .slice po p.cls.length pc] 25 (0, 0)) := heap_alloc_new _ _
  have m0 : (w.alloc (.cells #[.int .i64 p.main, .slice po p.cls.length pc] 25)).cell? ⟨w.heap.size, 0, none⟩ = some (.int .i64 p.main) := bxq_cell hc0 rfl
  have m1 : (w.alloc (.cells #[.int .i64 p.main, .slice po p.cls.length pc] 25)).cell? ⟨w.heap.size, 1, none⟩ = some (.slice po p.cls.length pc) := bxq_cell hc0 rfl
  have HB1 : Hid (Below w.heap.size w (w.alloc (.cells #[.int .i64 p.main, .slice po p.cls.length pc] 25))) := (Below.refl _ _).alloc (Nat.le_refl _) _
  have hT := treeOf_ok (w := (w.alloc (.cells #[.int .i64 p.main, .slice po p.cls.length pc] 25))) (S := S) (p := p) (cs := [.int .i64 p.main, .slice po p.cls.length pc]) (fun k q => by rw [hZ]; exact Nat.lt_succ_of_lt (hS k q)) ⟨_, rfl, hV.keep fun b q => HB1.out.block b (hS b q)⟩ hn
  have HS : Hid (∀ k, S k → k < w.heap.size) := hS
  have HK : Hid (Okq p) := hok
  have HN : Hid (p.cls.length ≤ 1048576) := hn
  clear hc0 hV hS hok hZ hn
  go_enter Tryz.func23, Tryz.ntmps23
  go_upto_region 2 with (go_at_call 28; refine hT.mono ?_; rintro e u1 ⟨v, rfl, hb1, hs1⟩; have hs2 := hs1; obtain ⟨ao, cap, rfl, -, -⟩ := hs2; have HE : Hid _ := evq_start HS.out hb1 hs1; clear hb1 hs1)
  rw [trQ_len p]
  generalize u1.heap.size = bp at *
  generalize u1.alloc (.cells #[.slice ao (11 + p.cls.length) cap] 77) = x1 at *
  obtain ⟨S2, HE1⟩ : ∃ S2, Hid (Evq w x1 S2 (.slice ao (11 + p.cls.length) cap) p bp) := ⟨_, HE.out⟩
  have b1 := HE1.out.tb.box
  clear HE m0 m1 hT HB1
  go_wp2_with (go_at_call 29; refine (ck1_fail HN.out HE1.out h1.out).mono ?_; rintro e z ⟨rfl, hb⟩; have HF : Hid _ := HE1.out.go hb)
  exact ⟨rfl, LfP.err (load_r1 h1.out) HF.out.bel⟩
set_option maxHeartbeats 8000000 in
set_option maxRecDepth 20000 in
theorem lof2f {S : Nat → Prop} {p : Pg} {cs : List Value} {w : World} (hS : ∀ k, S k → k < w.heap.size) (hR : kPg.R w S p cs) (hok : Okq p) (h1 : Hid ((rk1 p).1 = 0)) (h2 : Hid ((rk2 p).1 ≠ 0)) : Calls Tryz.prog 23 #[.agg cs.toArray] w (LfP p w) := by
  have hn := hok.n
  obtain ⟨y, rfl, hV⟩ := hR
  have hV2 := hV
  obtain ⟨po, pc, rfl, -, -⟩ := hV2
  have hZ : (w.alloc (.cells #[.int .i64 p.main, .slice po p.cls.length pc] 25)).heap.size = w.heap.size + 1 := by simp
  have hc0 : (w.alloc (.cells #[.int .i64 p.main, .slice po p.cls.length pc] 25)).heap[w.heap.size]? = some (.cells #[.int .i64 p.main, .slice po p.cls.length pc] 25 (0, 0)) := heap_alloc_new _ _
  have m0 : (w.alloc (.cells #[.int .i64 p.main, .slice po p.cls.length pc] 25)).cell? ⟨w.heap.size, 0, none⟩ = some (.int .i64 p.main) := bxq_cell hc0 rfl
  have m1 : (w.alloc (.cells #[.int .i64 p.main, .slice po p.cls.length pc] 25)).cell? ⟨w.heap.size, 1, none⟩ = some (.slice po p.cls.length pc) := bxq_cell hc0 rfl
  have HB1 : Hid (Below w.heap.size w (w.alloc (.cells #[.int .i64 p.main, .slice po p.cls.length pc] 25))) := (Below.refl _ _).alloc (Nat.le_refl _) _
  have hT := treeOf_ok (w := (w.alloc (.cells #[.int .i64 p.main, .slice po p.cls.length pc] 25))) (S := S) (p := p) (cs := [.int .i64 p.main, .slice po p.cls.length pc]) (fun k q => by rw [hZ]; exact Nat.lt_succ_of_lt (hS k q)) ⟨_, rfl, hV.keep fun b q => HB1.out.block b (hS b q)⟩ hn
  have HS : Hid (∀ k, S k → k < w.heap.size) := hS
  have HK : Hid (Okq p) := hok
  have HN : Hid (p.cls.length ≤ 1048576) := hn
  clear hc0 hV hS hok hZ hn
  go_enter Tryz.func23, Tryz.ntmps23
  go_upto_region 2 with (go_at_call 28; refine hT.mono ?_; rintro e u1 ⟨v, rfl, hb1, hs1⟩; have hs2 := hs1; obtain ⟨ao, cap, rfl, -, -⟩ := hs2; have HE : Hid _ := evq_start HS.out hb1 hs1; clear hb1 hs1)
  rw [trQ_len p]
  generalize u1.heap.size = bp at *
  generalize u1.alloc (.cells #[.slice ao (11 + p.cls.length) cap] 77) = x1 at *
  obtain ⟨S2, HE1⟩ : ∃ S2, Hid (Evq w x1 S2 (.slice ao (11 + p.cls.length) cap) p bp) := ⟨_, HE.out⟩
  have b1 := HE1.out.tb.box
  clear HE m0 m1 hT HB1
  go_upto_region 3 with (go_at_call 29; refine (ck1_pass HN.out HE1.out h1.out).mono ?_; rintro e x2 ⟨⟨v1, rfl⟩, hb⟩; have HE2 : Hid _ := HE1.out.go hb; have b2 := HE2.out.tb.box; clear b1 hb)
  go_wp2_with (go_at_call 29; refine (ck2_fail HN.out (runJ_ok (by decide) h1.out).2.2 HE2.out h2.out).mono ?_; rintro e z ⟨rfl, hb⟩; have HF : Hid _ := HE2.out.go hb)
  exact ⟨rfl, LfP.err (load_r2 h1.out h2.out) HF.out.bel⟩
set_option maxHeartbeats 8000000 in
set_option maxRecDepth 20000 in
theorem lof3f {S : Nat → Prop} {p : Pg} {cs : List Value} {w : World} (hS : ∀ k, S k → k < w.heap.size) (hR : kPg.R w S p cs) (hok : Okq p) (h1 : Hid ((rk1 p).1 = 0)) (h2 : Hid ((rk2 p).1 = 0)) (h3 : Hid ((rk3 p).1 ≠ 0)) : Calls Tryz.prog 23 #[.agg cs.toArray] w (LfP p w) := by
  have hn := hok.n
  obtain ⟨y, rfl, hV⟩ := hR
  have hV2 := hV
  obtain ⟨po, pc, rfl, -, -⟩ := hV2
  have hZ : (w.alloc (.cells #[.int .i64 p.main, .slice po p.cls.length pc] 25)).heap.size = w.heap.size + 1 := by simp
  have hc0 : (w.alloc (.cells #[.int .i64 p.main, .slice po p.cls.length pc] 25)).heap[w.heap.size]? = some (.cells #[.int .i64 p.main, .slice po p.cls.length pc] 25 (0, 0)) := heap_alloc_new _ _
  have m0 : (w.alloc (.cells #[.int .i64 p.main, .slice po p.cls.length pc] 25)).cell? ⟨w.heap.size, 0, none⟩ = some (.int .i64 p.main) := bxq_cell hc0 rfl
  have m1 : (w.alloc (.cells #[.int .i64 p.main, .slice po p.cls.length pc] 25)).cell? ⟨w.heap.size, 1, none⟩ = some (.slice po p.cls.length pc) := bxq_cell hc0 rfl
  have HB1 : Hid (Below w.heap.size w (w.alloc (.cells #[.int .i64 p.main, .slice po p.cls.length pc] 25))) := (Below.refl _ _).alloc (Nat.le_refl _) _
  have hT := treeOf_ok (w := (w.alloc (.cells #[.int .i64 p.main, .slice po p.cls.length pc] 25))) (S := S) (p := p) (cs := [.int .i64 p.main, .slice po p.cls.length pc]) (fun k q => by rw [hZ]; exact Nat.lt_succ_of_lt (hS k q)) ⟨_, rfl, hV.keep fun b q => HB1.out.block b (hS b q)⟩ hn
  have HS : Hid (∀ k, S k → k < w.heap.size) := hS
  have HK : Hid (Okq p) := hok
  have HN : Hid (p.cls.length ≤ 1048576) := hn
  clear hc0 hV hS hok hZ hn
  go_enter Tryz.func23, Tryz.ntmps23
  go_upto_region 2 with (go_at_call 28; refine hT.mono ?_; rintro e u1 ⟨v, rfl, hb1, hs1⟩; have hs2 := hs1; obtain ⟨ao, cap, rfl, -, -⟩ := hs2; have HE : Hid _ := evq_start HS.out hb1 hs1; clear hb1 hs1)
  rw [trQ_len p]
  generalize u1.heap.size = bp at *
  generalize u1.alloc (.cells #[.slice ao (11 + p.cls.length) cap] 77) = x1 at *
  obtain ⟨S2, HE1⟩ : ∃ S2, Hid (Evq w x1 S2 (.slice ao (11 + p.cls.length) cap) p bp) := ⟨_, HE.out⟩
  have b1 := HE1.out.tb.box
  clear HE m0 m1 hT HB1
  go_upto_region 3 with (go_at_call 29; refine (ck1_pass HN.out HE1.out h1.out).mono ?_; rintro e x2 ⟨⟨v1, rfl⟩, hb⟩; have HE2 : Hid _ := HE1.out.go hb; have b2 := HE2.out.tb.box; clear b1 hb)
  go_upto_region 4 with (go_at_call 29; refine (ck2_pass HN.out (runJ_ok (by decide) h1.out).2.2 HE2.out h2.out).mono ?_; rintro e x3 ⟨⟨v2, rfl⟩, hb⟩; have HE3 : Hid _ := HE2.out.go hb; have b3 := HE3.out.tb.box; clear b2 hb)
  go_wp2_with (go_at_call 29; refine (ck3_fail HN.out HE3.out h3.out).mono ?_; rintro e z ⟨rfl, hb⟩; have HF : Hid _ := HE3.out.go hb)
  exact ⟨rfl, LfP.err (load_r3 h1.out h2.out h3.out) HF.out.bel⟩
set_option maxHeartbeats 8000000 in
set_option maxRecDepth 20000 in
theorem lof4f {S : Nat → Prop} {p : Pg} {cs : List Value} {w : World} (hS : ∀ k, S k → k < w.heap.size) (hR : kPg.R w S p cs) (hok : Okq p) (h1 : Hid ((rk1 p).1 = 0)) (h2 : Hid ((rk2 p).1 = 0)) (h3 : Hid ((rk3 p).1 = 0)) (h4 : Hid ((rk4 p).1 ≠ 0)) : Calls Tryz.prog 23 #[.agg cs.toArray] w (LfP p w) := by
  have hn := hok.n
  obtain ⟨y, rfl, hV⟩ := hR
  have hV2 := hV
  obtain ⟨po, pc, rfl, -, -⟩ := hV2
  have hZ : (w.alloc (.cells #[.int .i64 p.main, .slice po p.cls.length pc] 25)).heap.size = w.heap.size + 1 := by simp
  have hc0 : (w.alloc (.cells #[.int .i64 p.main, .slice po p.cls.length pc] 25)).heap[w.heap.size]? = some (.cells #[.int .i64 p.main, .slice po p.cls.length pc] 25 (0, 0)) := heap_alloc_new _ _
  have m0 : (w.alloc (.cells #[.int .i64 p.main, .slice po p.cls.length pc] 25)).cell? ⟨w.heap.size, 0, none⟩ = some (.int .i64 p.main) := bxq_cell hc0 rfl
  have m1 : (w.alloc (.cells #[.int .i64 p.main, .slice po p.cls.length pc] 25)).cell? ⟨w.heap.size, 1, none⟩ = some (.slice po p.cls.length pc) := bxq_cell hc0 rfl
  have HB1 : Hid (Below w.heap.size w (w.alloc (.cells #[.int .i64 p.main, .slice po p.cls.length pc] 25))) := (Below.refl _ _).alloc (Nat.le_refl _) _
  have hT := treeOf_ok (w := (w.alloc (.cells #[.int .i64 p.main, .slice po p.cls.length pc] 25))) (S := S) (p := p) (cs := [.int .i64 p.main, .slice po p.cls.length pc]) (fun k q => by rw [hZ]; exact Nat.lt_succ_of_lt (hS k q)) ⟨_, rfl, hV.keep fun b q => HB1.out.block b (hS b q)⟩ hn
  have HS : Hid (∀ k, S k → k < w.heap.size) := hS
  have HK : Hid (Okq p) := hok
  have HN : Hid (p.cls.length ≤ 1048576) := hn
  clear hc0 hV hS hok hZ hn
  go_enter Tryz.func23, Tryz.ntmps23
  go_upto_region 2 with (go_at_call 28; refine hT.mono ?_; rintro e u1 ⟨v, rfl, hb1, hs1⟩; have hs2 := hs1; obtain ⟨ao, cap, rfl, -, -⟩ := hs2; have HE : Hid _ := evq_start HS.out hb1 hs1; clear hb1 hs1)
  rw [trQ_len p]
  generalize u1.heap.size = bp at *
  generalize u1.alloc (.cells #[.slice ao (11 + p.cls.length) cap] 77) = x1 at *
  obtain ⟨S2, HE1⟩ : ∃ S2, Hid (Evq w x1 S2 (.slice ao (11 + p.cls.length) cap) p bp) := ⟨_, HE.out⟩
  have b1 := HE1.out.tb.box
  clear HE m0 m1 hT HB1
  go_upto_region 3 with (go_at_call 29; refine (ck1_pass HN.out HE1.out h1.out).mono ?_; rintro e x2 ⟨⟨v1, rfl⟩, hb⟩; have HE2 : Hid _ := HE1.out.go hb; have b2 := HE2.out.tb.box; clear b1 hb)
  go_upto_region 4 with (go_at_call 29; refine (ck2_pass HN.out (runJ_ok (by decide) h1.out).2.2 HE2.out h2.out).mono ?_; rintro e x3 ⟨⟨v2, rfl⟩, hb⟩; have HE3 : Hid _ := HE2.out.go hb; have b3 := HE3.out.tb.box; clear b2 hb)
  go_upto_region 5 with (go_at_call 29; refine (ck3_pass HN.out HE3.out h3.out).mono ?_; rintro e x4 ⟨⟨v3, rfl⟩, hb⟩; have HE4 : Hid _ := HE3.out.go hb; have b4 := HE4.out.tb.box; clear b3 hb)
  go_wp2_with (go_at_call 29; refine (ck4_fail HN.out HK.out HE4.out h4.out).mono ?_; rintro e z ⟨rfl, hb⟩; have HF : Hid _ := HE4.out.go hb)
  exact ⟨rfl, LfP.err (load_r4 h1.out h2.out h3.out h4.out) HF.out.bel⟩
set_option maxHeartbeats 8000000 in
set_option maxRecDepth 20000 in
theorem lof5f {S : Nat → Prop} {p : Pg} {cs : List Value} {w : World} (hS : ∀ k, S k → k < w.heap.size) (hR : kPg.R w S p cs) (hok : Okq p) (hF : Hid HqF) (hM : Hid HqM) (h1 : Hid ((rk1 p).1 = 0)) (h2 : Hid ((rk2 p).1 = 0)) (h3 : Hid ((rk3 p).1 = 0)) (h4 : Hid ((rk4 p).1 = 0)) (h5 : Hid ((rk5 p).1 ≠ 0)) : Calls Tryz.prog 23 #[.agg cs.toArray] w (LfP p w) := by
  have hn := hok.n
  obtain ⟨y, rfl, hV⟩ := hR
  have hV2 := hV
  obtain ⟨po, pc, rfl, -, -⟩ := hV2
  have hZ : (w.alloc (.cells #[.int .i64 p.main, .slice po p.cls.length pc] 25)).heap.size = w.heap.size + 1 := by simp
  have hc0 : (w.alloc (.cells #[.int .i64 p.main, .slice po p.cls.length pc] 25)).heap[w.heap.size]? = some (.cells #[.int .i64 p.main, .slice po p.cls.length pc] 25 (0, 0)) := heap_alloc_new _ _
  have m0 : (w.alloc (.cells #[.int .i64 p.main, .slice po p.cls.length pc] 25)).cell? ⟨w.heap.size, 0, none⟩ = some (.int .i64 p.main) := bxq_cell hc0 rfl
  have m1 : (w.alloc (.cells #[.int .i64 p.main, .slice po p.cls.length pc] 25)).cell? ⟨w.heap.size, 1, none⟩ = some (.slice po p.cls.length pc) := bxq_cell hc0 rfl
  have HB1 : Hid (Below w.heap.size w (w.alloc (.cells #[.int .i64 p.main, .slice po p.cls.length pc] 25))) := (Below.refl _ _).alloc (Nat.le_refl _) _
  have hT := treeOf_ok (w := (w.alloc (.cells #[.int .i64 p.main, .slice po p.cls.length pc] 25))) (S := S) (p := p) (cs := [.int .i64 p.main, .slice po p.cls.length pc]) (fun k q => by rw [hZ]; exact Nat.lt_succ_of_lt (hS k q)) ⟨_, rfl, hV.keep fun b q => HB1.out.block b (hS b q)⟩ hn
  have HS : Hid (∀ k, S k → k < w.heap.size) := hS
  have HK : Hid (Okq p) := hok
  have HN : Hid (p.cls.length ≤ 1048576) := hn
  clear hc0 hV hS hok hZ hn
  go_enter Tryz.func23, Tryz.ntmps23
  go_upto_region 2 with (go_at_call 28; refine hT.mono ?_; rintro e u1 ⟨v, rfl, hb1, hs1⟩; have hs2 := hs1; obtain ⟨ao, cap, rfl, -, -⟩ := hs2; have HE : Hid _ := evq_start HS.out hb1 hs1; clear hb1 hs1)
  rw [trQ_len p]
  generalize u1.heap.size = bp at *
  generalize u1.alloc (.cells #[.slice ao (11 + p.cls.length) cap] 77) = x1 at *
  obtain ⟨S2, HE1⟩ : ∃ S2, Hid (Evq w x1 S2 (.slice ao (11 + p.cls.length) cap) p bp) := ⟨_, HE.out⟩
  have b1 := HE1.out.tb.box
  clear HE m0 m1 hT HB1
  go_upto_region 3 with (go_at_call 29; refine (ck1_pass HN.out HE1.out h1.out).mono ?_; rintro e x2 ⟨⟨v1, rfl⟩, hb⟩; have HE2 : Hid _ := HE1.out.go hb; have b2 := HE2.out.tb.box; clear b1 hb)
  go_upto_region 4 with (go_at_call 29; refine (ck2_pass HN.out (runJ_ok (by decide) h1.out).2.2 HE2.out h2.out).mono ?_; rintro e x3 ⟨⟨v2, rfl⟩, hb⟩; have HE3 : Hid _ := HE2.out.go hb; have b3 := HE3.out.tb.box; clear b2 hb)
  go_upto_region 5 with (go_at_call 29; refine (ck3_pass HN.out HE3.out h3.out).mono ?_; rintro e x4 ⟨⟨v3, rfl⟩, hb⟩; have HE4 : Hid _ := HE3.out.go hb; have b4 := HE4.out.tb.box; clear b3 hb)
  go_upto_region 6 with (go_at_call 29; refine (ck4_pass HN.out HK.out HE4.out h4.out).mono ?_; rintro e x5 ⟨⟨v4, rfl⟩, hb⟩; have HE5 : Hid _ := HE4.out.go hb; have b5 := HE5.out.tb.box; clear b4 hb)
  go_wp2_with (go_at_call 29; refine (ck5_fail HN.out HK.out hF.out hM.out HE5.out h5.out).mono ?_; rintro e z ⟨rfl, hb⟩; have HF : Hid _ := HE5.out.go hb)
  exact ⟨rfl, LfP.err (load_r5 h1.out h2.out h3.out h4.out h5.out) HF.out.bel⟩
end Go.Proofs.YtbdfpodglfpjnaaGreat
