/- SameMethod, where both sides tell the same. -/
import Derived.Test.YtajghalljkphiaaGreatMLSame
namespace Go.Proofs.YtajghalljkphiaaGreat
open Go.RowKit

set_option maxHeartbeats 8000000 in
set_option maxRecDepth 20000 in
theorem SameMethod_eq {Sp Sq : Nat → Prop} {x : Md} {ca cb : List Value} {w : World} (al : ∀ k, Sp k → k < w.heap.size) (bl : ∀ k, Sq k → k < w.heap.size) (aR : kMd.R w Sp x ca) (bR : kMd.R w Sq x cb) :
    Calls Tryz.prog 23 #[.agg ca.toArray, .agg cb.toArray] w fun e w' => e = .returned (.bool true) ∧ Below w.heap.size w w' := by
  obtain ⟨pv1, pv2, pv3, pv4, rfl, a1, a2, a3, a4⟩ := aR
  obtain ⟨qv1, qv2, qv3, qv4, rfl, b1, b2, b3, b4⟩ := bR
  obtain ⟨pa1, pc1, rfl, am1⟩ : ∃ a c, pv1 = .slice a x.args.length c ∧ x.args.length ≤ maxLen := by obtain ⟨a, c, e, e2, _⟩ := a1; exact ⟨a, c, e, e2⟩
  obtain ⟨pa2, pc2, rfl, am2⟩ : ∃ a c, pv2 = .slice a x.code.length c ∧ x.code.length ≤ maxLen := by obtain ⟨a, c, e, e2, _⟩ := a2; exact ⟨a, c, e, e2⟩
  obtain ⟨pa3, pc3, rfl, am3⟩ : ∃ a c, pv3 = .slice a x.tab.length c ∧ x.tab.length ≤ maxLen := by obtain ⟨a, c, e, e2, _⟩ := a3; exact ⟨a, c, e, e2⟩
  obtain ⟨pa4, pc4, rfl, am4⟩ : ∃ a c, pv4 = .slice a x.maps.length c ∧ x.maps.length ≤ maxLen := by obtain ⟨a, c, e, e2, _⟩ := a4; exact ⟨a, c, e, e2⟩
  obtain ⟨qa1, qc1, rfl, bm1⟩ : ∃ a c, qv1 = .slice a x.args.length c ∧ x.args.length ≤ maxLen := by obtain ⟨a, c, e, e2, _⟩ := b1; exact ⟨a, c, e, e2⟩
  obtain ⟨qa2, qc2, rfl, bm2⟩ : ∃ a c, qv2 = .slice a x.code.length c ∧ x.code.length ≤ maxLen := by obtain ⟨a, c, e, e2, _⟩ := b2; exact ⟨a, c, e, e2⟩
  obtain ⟨qa3, qc3, rfl, bm3⟩ : ∃ a c, qv3 = .slice a x.tab.length c ∧ x.tab.length ≤ maxLen := by obtain ⟨a, c, e, e2, _⟩ := b3; exact ⟨a, c, e, e2⟩
  obtain ⟨qa4, qc4, rfl, bm4⟩ : ∃ a c, qv4 = .slice a x.maps.length c ∧ x.maps.length ≤ maxLen := by obtain ⟨a, c, e, e2, _⟩ := b4; exact ⟨a, c, e, e2⟩
  have HA1 : Hid (Sl kI ((w.alloc (.cells #[.string x.nm, .bool x.stc, .slice pa1 x.args.length pc1, .int .i64 x.ret, .int .i64 x.lo, .int .i64 x.st, .slice pa2 x.code.length pc2, .slice pa3 x.tab.length pc3, .slice pa4 x.maps.length pc4] 63)).alloc (.cells #[.string x.nm, .bool x.stc, .slice qa1 x.args.length qc1, .int .i64 x.ret, .int .i64 x.lo, .int .i64 x.st, .slice qa2 x.code.length qc2, .slice qa3 x.tab.length qc3, .slice qa4 x.maps.length qc4] 63)) Sp (.slice pa1 x.args.length pc1) x.args) := a1.keep (fun k hk => by rw [Below.heap_alloc _ _ _ (by have := al k hk; simp; omega), Below.heap_alloc _ _ _ (al k hk)])
  have HA2 : Hid (Sl kIs ((w.alloc (.cells #[.string x.nm, .bool x.stc, .slice pa1 x.args.length pc1, .int .i64 x.ret, .int .i64 x.lo, .int .i64 x.st, .slice pa2 x.code.length pc2, .slice pa3 x.tab.length pc3, .slice pa4 x.maps.length pc4] 63)).alloc (.cells #[.string x.nm, .bool x.stc, .slice qa1 x.args.length qc1, .int .i64 x.ret, .int .i64 x.lo, .int .i64 x.st, .slice qa2 x.code.length qc2, .slice qa3 x.tab.length qc3, .slice qa4 x.maps.length qc4] 63)) Sp (.slice pa2 x.code.length pc2) x.code) := a2.keep (fun k hk => by rw [Below.heap_alloc _ _ _ (by have := al k hk; simp; omega), Below.heap_alloc _ _ _ (al k hk)])
  have HA3 : Hid (Sl kHd ((w.alloc (.cells #[.string x.nm, .bool x.stc, .slice pa1 x.args.length pc1, .int .i64 x.ret, .int .i64 x.lo, .int .i64 x.st, .slice pa2 x.code.length pc2, .slice pa3 x.tab.length pc3, .slice pa4 x.maps.length pc4] 63)).alloc (.cells #[.string x.nm, .bool x.stc, .slice qa1 x.args.length qc1, .int .i64 x.ret, .int .i64 x.lo, .int .i64 x.st, .slice qa2 x.code.length qc2, .slice qa3 x.tab.length qc3, .slice qa4 x.maps.length qc4] 63)) Sp (.slice pa3 x.tab.length pc3) x.tab) := a3.keep (fun k hk => by rw [Below.heap_alloc _ _ _ (by have := al k hk; simp; omega), Below.heap_alloc _ _ _ (al k hk)])
  have HA4 : Hid (Sl kMp ((w.alloc (.cells #[.string x.nm, .bool x.stc, .slice pa1 x.args.length pc1, .int .i64 x.ret, .int .i64 x.lo, .int .i64 x.st, .slice pa2 x.code.length pc2, .slice pa3 x.tab.length pc3, .slice pa4 x.maps.length pc4] 63)).alloc (.cells #[.string x.nm, .bool x.stc, .slice qa1 x.args.length qc1, .int .i64 x.ret, .int .i64 x.lo, .int .i64 x.st, .slice qa2 x.code.length qc2, .slice qa3 x.tab.length qc3, .slice qa4 x.maps.length qc4] 63)) Sp (.slice pa4 x.maps.length pc4) x.maps) := a4.keep (fun k hk => by rw [Below.heap_alloc _ _ _ (by have := al k hk; simp; omega), Below.heap_alloc _ _ _ (al k hk)])
  have HB1 : Hid (Sl kI ((w.alloc (.cells #[.string x.nm, .bool x.stc, .slice pa1 x.args.length pc1, .int .i64 x.ret, .int .i64 x.lo, .int .i64 x.st, .slice pa2 x.code.length pc2, .slice pa3 x.tab.length pc3, .slice pa4 x.maps.length pc4] 63)).alloc (.cells #[.string x.nm, .bool x.stc, .slice qa1 x.args.length qc1, .int .i64 x.ret, .int .i64 x.lo, .int .i64 x.st, .slice qa2 x.code.length qc2, .slice qa3 x.tab.length qc3, .slice qa4 x.maps.length qc4] 63)) Sq (.slice qa1 x.args.length qc1) x.args) := b1.keep (fun k hk => by rw [Below.heap_alloc _ _ _ (by have := bl k hk; simp; omega), Below.heap_alloc _ _ _ (bl k hk)])
  have HB2 : Hid (Sl kIs ((w.alloc (.cells #[.string x.nm, .bool x.stc, .slice pa1 x.args.length pc1, .int .i64 x.ret, .int .i64 x.lo, .int .i64 x.st, .slice pa2 x.code.length pc2, .slice pa3 x.tab.length pc3, .slice pa4 x.maps.length pc4] 63)).alloc (.cells #[.string x.nm, .bool x.stc, .slice qa1 x.args.length qc1, .int .i64 x.ret, .int .i64 x.lo, .int .i64 x.st, .slice qa2 x.code.length qc2, .slice qa3 x.tab.length qc3, .slice qa4 x.maps.length qc4] 63)) Sq (.slice qa2 x.code.length qc2) x.code) := b2.keep (fun k hk => by rw [Below.heap_alloc _ _ _ (by have := bl k hk; simp; omega), Below.heap_alloc _ _ _ (bl k hk)])
  have HB3 : Hid (Sl kHd ((w.alloc (.cells #[.string x.nm, .bool x.stc, .slice pa1 x.args.length pc1, .int .i64 x.ret, .int .i64 x.lo, .int .i64 x.st, .slice pa2 x.code.length pc2, .slice pa3 x.tab.length pc3, .slice pa4 x.maps.length pc4] 63)).alloc (.cells #[.string x.nm, .bool x.stc, .slice qa1 x.args.length qc1, .int .i64 x.ret, .int .i64 x.lo, .int .i64 x.st, .slice qa2 x.code.length qc2, .slice qa3 x.tab.length qc3, .slice qa4 x.maps.length qc4] 63)) Sq (.slice qa3 x.tab.length qc3) x.tab) := b3.keep (fun k hk => by rw [Below.heap_alloc _ _ _ (by have := bl k hk; simp; omega), Below.heap_alloc _ _ _ (bl k hk)])
  have HB4 : Hid (Sl kMp ((w.alloc (.cells #[.string x.nm, .bool x.stc, .slice pa1 x.args.length pc1, .int .i64 x.ret, .int .i64 x.lo, .int .i64 x.st, .slice pa2 x.code.length pc2, .slice pa3 x.tab.length pc3, .slice pa4 x.maps.length pc4] 63)).alloc (.cells #[.string x.nm, .bool x.stc, .slice qa1 x.args.length qc1, .int .i64 x.ret, .int .i64 x.lo, .int .i64 x.st, .slice qa2 x.code.length qc2, .slice qa3 x.tab.length qc3, .slice qa4 x.maps.length qc4] 63)) Sq (.slice qa4 x.maps.length qc4) x.maps) := b4.keep (fun k hk => by rw [Below.heap_alloc _ _ _ (by have := bl k hk; simp; omega), Below.heap_alloc _ _ _ (bl k hk)])
  have HZ : Hid (Below w.heap.size w ((w.alloc (.cells #[.string x.nm, .bool x.stc, .slice pa1 x.args.length pc1, .int .i64 x.ret, .int .i64 x.lo, .int .i64 x.st, .slice pa2 x.code.length pc2, .slice pa3 x.tab.length pc3, .slice pa4 x.maps.length pc4] 63)).alloc (.cells #[.string x.nm, .bool x.stc, .slice qa1 x.args.length qc1, .int .i64 x.ret, .int .i64 x.lo, .int .i64 x.st, .slice qa2 x.code.length qc2, .slice qa3 x.tab.length qc3, .slice qa4 x.maps.length qc4] 63))) := ((Below.refl _ _).alloc (Nat.le_refl _) _).alloc (by simp) _
  have HI : Hid (∀ m, Calls Tryz.prog 21 #[.slice pa1 x.args.length pc1, .slice qa1 x.args.length qc1] (((w.alloc (.cells #[.string x.nm, .bool x.stc, .slice pa1 x.args.length pc1, .int .i64 x.ret, .int .i64 x.lo, .int .i64 x.st, .slice pa2 x.code.length pc2, .slice pa3 x.tab.length pc3, .slice pa4 x.maps.length pc4] 63)).alloc (.cells #[.string x.nm, .bool x.stc, .slice qa1 x.args.length qc1, .int .i64 x.ret, .int .i64 x.lo, .int .i64 x.st, .slice qa2 x.code.length qc2, .slice qa3 x.tab.length qc3, .slice qa4 x.maps.length qc4] 63)).drewN m) fun e w' => e = .returned (.bool true) ∧ ∃ k, w' = (((w.alloc (.cells #[.string x.nm, .bool x.stc, .slice pa1 x.args.length pc1, .int .i64 x.ret, .int .i64 x.lo, .int .i64 x.st, .slice pa2 x.code.length pc2, .slice pa3 x.tab.length pc3, .slice pa4 x.maps.length pc4] 63)).alloc (.cells #[.string x.nm, .bool x.stc, .slice qa1 x.args.length qc1, .int .i64 x.ret, .int .i64 x.lo, .int .i64 x.st, .slice qa2 x.code.length qc2, .slice qa3 x.tab.length qc3, .slice qa4 x.maps.length qc4] 63)).drewN m).drewN k) := fun m => SameInts_eq (HA1.out.keep fun _ _ => rfl) (HB1.out.keep fun _ _ => rfl)
  have hI0 : Calls Tryz.prog 21 #[.slice pa1 x.args.length pc1, .slice qa1 x.args.length qc1] ((w.alloc (.cells #[.string x.nm, .bool x.stc, .slice pa1 x.args.length pc1, .int .i64 x.ret, .int .i64 x.lo, .int .i64 x.st, .slice pa2 x.code.length pc2, .slice pa3 x.tab.length pc3, .slice pa4 x.maps.length pc4] 63)).alloc (.cells #[.string x.nm, .bool x.stc, .slice qa1 x.args.length qc1, .int .i64 x.ret, .int .i64 x.lo, .int .i64 x.st, .slice qa2 x.code.length qc2, .slice qa3 x.tab.length qc3, .slice qa4 x.maps.length qc4] 63)) fun e w' => e = .returned (.bool true) ∧ ∃ k, w' = ((w.alloc (.cells #[.string x.nm, .bool x.stc, .slice pa1 x.args.length pc1, .int .i64 x.ret, .int .i64 x.lo, .int .i64 x.st, .slice pa2 x.code.length pc2, .slice pa3 x.tab.length pc3, .slice pa4 x.maps.length pc4] 63)).alloc (.cells #[.string x.nm, .bool x.stc, .slice qa1 x.args.length qc1, .int .i64 x.ret, .int .i64 x.lo, .int .i64 x.st, .slice qa2 x.code.length qc2, .slice qa3 x.tab.length qc3, .slice qa4 x.maps.length qc4] 63)).drewN k := HI.out 0
  unfold maxLen at am2 am3 am4
  clear a1 a2 a3 a4 b1 b2 b3 b4 al bl am1 bm1 bm2 bm3 bm4 HI
  go_enter Tryz.func23, Tryz.ntmps23
  go_wp2_with (go_at_call 21; refine hI0.mono ?_; rintro e w9 ⟨rfl, m0, rfl⟩; clear hI0)
  have hz1 : (w.alloc (.cells #[.string x.nm, .bool x.stc, .slice pa1 x.args.length pc1, .int .i64 x.ret, .int .i64 x.lo, .int .i64 x.st, .slice pa2 x.code.length pc2, .slice pa3 x.tab.length pc3, .slice pa4 x.maps.length pc4] 63)).heap.size = w.heap.size + 1 := by simp
  have hp : ((w.alloc (.cells #[.string x.nm, .bool x.stc, .slice pa1 x.args.length pc1, .int .i64 x.ret, .int .i64 x.lo, .int .i64 x.st, .slice pa2 x.code.length pc2, .slice pa3 x.tab.length pc3, .slice pa4 x.maps.length pc4] 63)).alloc (.cells #[.string x.nm, .bool x.stc, .slice qa1 x.args.length qc1, .int .i64 x.ret, .int .i64 x.lo, .int .i64 x.st, .slice qa2 x.code.length qc2, .slice qa3 x.tab.length qc3, .slice qa4 x.maps.length qc4] 63)).heap[w.heap.size]? = some (.cells #[.string x.nm, .bool x.stc, .slice pa1 x.args.length pc1, .int .i64 x.ret, .int .i64 x.lo, .int .i64 x.st, .slice pa2 x.code.length pc2, .slice pa3 x.tab.length pc3, .slice pa4 x.maps.length pc4] 63 (0, 0)) := by rw [Below.heap_alloc _ _ _ (by omega)]; exact heap_alloc_new w _
  have hq : ((w.alloc (.cells #[.string x.nm, .bool x.stc, .slice pa1 x.args.length pc1, .int .i64 x.ret, .int .i64 x.lo, .int .i64 x.st, .slice pa2 x.code.length pc2, .slice pa3 x.tab.length pc3, .slice pa4 x.maps.length pc4] 63)).alloc (.cells #[.string x.nm, .bool x.stc, .slice qa1 x.args.length qc1, .int .i64 x.ret, .int .i64 x.lo, .int .i64 x.st, .slice qa2 x.code.length qc2, .slice qa3 x.tab.length qc3, .slice qa4 x.maps.length qc4] 63)).heap[w.heap.size + 1]? = some (.cells #[.string x.nm, .bool x.stc, .slice qa1 x.args.length qc1, .int .i64 x.ret, .int .i64 x.lo, .int .i64 x.st, .slice qa2 x.code.length qc2, .slice qa3 x.tab.length qc3, .slice qa4 x.maps.length qc4] 63 (0, 0)) := by have := heap_alloc_new (w.alloc (.cells #[.string x.nm, .bool x.stc, .slice pa1 x.args.length pc1, .int .i64 x.ret, .int .i64 x.lo, .int .i64 x.st, .slice pa2 x.code.length pc2, .slice pa3 x.tab.length pc3, .slice pa4 x.maps.length pc4] 63)) (.cells #[.string x.nm, .bool x.stc, .slice qa1 x.args.length qc1, .int .i64 x.ret, .int .i64 x.lo, .int .i64 x.st, .slice qa2 x.code.length qc2, .slice qa3 x.tab.length qc3, .slice qa4 x.maps.length qc4] 63); rw [hz1] at this; exact this
  clear hz1
  generalize hW : ((w.alloc (.cells #[.string x.nm, .bool x.stc, .slice pa1 x.args.length pc1, .int .i64 x.ret, .int .i64 x.lo, .int .i64 x.st, .slice pa2 x.code.length pc2, .slice pa3 x.tab.length pc3, .slice pa4 x.maps.length pc4] 63)).alloc (.cells #[.string x.nm, .bool x.stc, .slice qa1 x.args.length qc1, .int .i64 x.ret, .int .i64 x.lo, .int .i64 x.st, .slice qa2 x.code.length qc2, .slice qa3 x.tab.length qc3, .slice qa4 x.maps.length qc4] 63)) = W at *
  clear hW
  have p6 : W.cell? ⟨w.heap.size, 6, none⟩ = some (.slice pa2 x.code.length pc2) := by simp [World.cell?, hp]
  have q6 : W.cell? ⟨w.heap.size + 1, 6, none⟩ = some (.slice qa2 x.code.length qc2) := by simp [World.cell?, hq]
  have p7 : W.cell? ⟨w.heap.size, 7, none⟩ = some (.slice pa3 x.tab.length pc3) := by simp [World.cell?, hp]
  have q7 : W.cell? ⟨w.heap.size + 1, 7, none⟩ = some (.slice qa3 x.tab.length qc3) := by simp [World.cell?, hq]
  have p8 : W.cell? ⟨w.heap.size, 8, none⟩ = some (.slice pa4 x.maps.length pc4) := by simp [World.cell?, hp]
  have q8 : W.cell? ⟨w.heap.size + 1, 8, none⟩ = some (.slice qa4 x.maps.length qc4) := by simp [World.cell?, hq]
  clear hp hq
  go_loopg [5] (x.code.length + 1) (fun kx s wr => ∃ i : Nat, s = .int .i64 i ∧ i ≤ x.code.length ∧ x.code.length - i ≤ kx ∧ Hid (∃ m, wr = W.drewN m))
  case atStart => first | exact ⟨0, rfl, by omega, by omega, _, HM.out⟩ | exact ⟨0, rfl, by omega, by omega, _, rfl⟩
  case round =>
    obtain ⟨i, rfl, hi, hk, HL⟩ := hrel
    obtain ⟨m, hwr⟩ := HL.out
    have hwh : wr.heap = W.heap := by rw [hwr]; rfl
    have HM : Hid (wr = W.drewN m) := hwr
    have pz : wr.cell? ⟨w.heap.size, 6, none⟩ = some (.slice pa2 x.code.length pc2) := by rw [hwr]; exact p6
    have qz : wr.cell? ⟨w.heap.size + 1, 6, none⟩ = some (.slice qa2 x.code.length qc2) := by rw [hwr]; exact q6
    clear HL hwr
    by_cases hlt : i < x.code.length
    · obtain ⟨c, hc⟩ : ∃ c, x.code[i]? = some c := ⟨_, List.getElem?_eq_getElem hlt⟩
      obtain ⟨ap, ao, ea, cs1, r1, ha⟩ := HA2.out.at_ hc
      obtain ⟨bp, bo, eb, cs2, r2, hb⟩ := HB2.out.at_ hc
      obtain rfl := r1
      obtain rfl := r2
      have a0 : wr.cell? ⟨ap, ao + i * 3, none⟩ = some (.int .i64 c.op) := by have := ha 0 _ rfl; rw [show kIs.k = 3 from rfl] at this; rw [show ao + (i * 3 + 0) = ao + i * 3 by omega] at this; rw [World.cell?_of_block (w := W) (by rw [hwh])]; exact this
      have a1 : wr.cell? ⟨ap, ao + i * 3 + 1, none⟩ = some (.int .i64 c.a) := by have := ha 1 _ rfl; rw [show kIs.k = 3 from rfl] at this; rw [show ao + (i * 3 + 1) = ao + i * 3 + 1 by omega] at this; rw [World.cell?_of_block (w := W) (by rw [hwh])]; exact this
      have a2 : wr.cell? ⟨ap, ao + i * 3 + 2, none⟩ = some (.int .i64 c.b) := by have := ha 2 _ rfl; rw [show kIs.k = 3 from rfl] at this; rw [show ao + (i * 3 + 2) = ao + i * 3 + 2 by omega] at this; rw [World.cell?_of_block (w := W) (by rw [hwh])]; exact this
      have b0 : wr.cell? ⟨bp, bo + i * 3, none⟩ = some (.int .i64 c.op) := by have := hb 0 _ rfl; rw [show kIs.k = 3 from rfl] at this; rw [show bo + (i * 3 + 0) = bo + i * 3 by omega] at this; rw [World.cell?_of_block (w := W) (by rw [hwh])]; exact this
      have b1 : wr.cell? ⟨bp, bo + i * 3 + 1, none⟩ = some (.int .i64 c.a) := by have := hb 1 _ rfl; rw [show kIs.k = 3 from rfl] at this; rw [show bo + (i * 3 + 1) = bo + i * 3 + 1 by omega] at this; rw [World.cell?_of_block (w := W) (by rw [hwh])]; exact this
      have b2 : wr.cell? ⟨bp, bo + i * 3 + 2, none⟩ = some (.int .i64 c.b) := by have := hb 2 _ rfl; rw [show kIs.k = 3 from rfl] at this; rw [show bo + (i * 3 + 2) = bo + i * 3 + 2 by omega] at this; rw [World.cell?_of_block (w := W) (by rw [hwh])]; exact this
      have hl2 : (i : Int) < (x.code.length : Int) := by omega
      clear ha hb hc hwh
      subst ea eb
      go_wp2_with (fail)
      go_quiet (fail)
      go_wp2
      go_roundg (x.code.length - (i + 1))
      case measure => omega
      case rel => exact ⟨i + 1, by go_num, by omega, by omega, _, by rw [HM.out, World.drewN_drewN]⟩
    · have hn : i = x.code.length := by omega
      subst hn
      have hl : ¬ ((x.code.length : Nat) : Int) < ((x.code.length : Nat) : Int) := by omega
      clear HA2 HB2
      go_wp2
      clear hl hi hk hlt
      go_loopg [6] (x.tab.length + 1) (fun kx s wr => ∃ i : Nat, s = .int .i64 i ∧ i ≤ x.tab.length ∧ x.tab.length - i ≤ kx ∧ Hid (∃ m, wr = W.drewN m))
      case atStart => first | exact ⟨0, rfl, by omega, by omega, _, HM.out⟩ | exact ⟨0, rfl, by omega, by omega, _, rfl⟩
      case round =>
        obtain ⟨i, rfl, hi, hk, HL⟩ := hrel
        obtain ⟨m, hwr⟩ := HL.out
        have hwh : wr.heap = W.heap := by rw [hwr]; rfl
        have HM : Hid (wr = W.drewN m) := hwr
        have pz : wr.cell? ⟨w.heap.size, 7, none⟩ = some (.slice pa3 x.tab.length pc3) := by rw [hwr]; exact p7
        have qz : wr.cell? ⟨w.heap.size + 1, 7, none⟩ = some (.slice qa3 x.tab.length qc3) := by rw [hwr]; exact q7
        clear HL hwr
        by_cases hlt : i < x.tab.length
        · obtain ⟨c, hc⟩ : ∃ c, x.tab[i]? = some c := ⟨_, List.getElem?_eq_getElem hlt⟩
          obtain ⟨ap, ao, ea, cs1, r1, ha⟩ := HA3.out.at_ hc
          obtain ⟨bp, bo, eb, cs2, r2, hb⟩ := HB3.out.at_ hc
          obtain rfl := r1
          obtain rfl := r2
          have a0 : wr.cell? ⟨ap, ao + i * 4, none⟩ = some (.int .i64 c.fr) := by have := ha 0 _ rfl; rw [show kHd.k = 4 from rfl] at this; rw [show ao + (i * 4 + 0) = ao + i * 4 by omega] at this; rw [World.cell?_of_block (w := W) (by rw [hwh])]; exact this
          have a1 : wr.cell? ⟨ap, ao + i * 4 + 1, none⟩ = some (.int .i64 c.to) := by have := ha 1 _ rfl; rw [show kHd.k = 4 from rfl] at this; rw [show ao + (i * 4 + 1) = ao + i * 4 + 1 by omega] at this; rw [World.cell?_of_block (w := W) (by rw [hwh])]; exact this
          have a2 : wr.cell? ⟨ap, ao + i * 4 + 2, none⟩ = some (.int .i64 c.at_) := by have := ha 2 _ rfl; rw [show kHd.k = 4 from rfl] at this; rw [show ao + (i * 4 + 2) = ao + i * 4 + 2 by omega] at this; rw [World.cell?_of_block (w := W) (by rw [hwh])]; exact this
          have a3 : wr.cell? ⟨ap, ao + i * 4 + 3, none⟩ = some (.int .i64 c.cl) := by have := ha 3 _ rfl; rw [show kHd.k = 4 from rfl] at this; rw [show ao + (i * 4 + 3) = ao + i * 4 + 3 by omega] at this; rw [World.cell?_of_block (w := W) (by rw [hwh])]; exact this
          have b0 : wr.cell? ⟨bp, bo + i * 4, none⟩ = some (.int .i64 c.fr) := by have := hb 0 _ rfl; rw [show kHd.k = 4 from rfl] at this; rw [show bo + (i * 4 + 0) = bo + i * 4 by omega] at this; rw [World.cell?_of_block (w := W) (by rw [hwh])]; exact this
          have b1 : wr.cell? ⟨bp, bo + i * 4 + 1, none⟩ = some (.int .i64 c.to) := by have := hb 1 _ rfl; rw [show kHd.k = 4 from rfl] at this; rw [show bo + (i * 4 + 1) = bo + i * 4 + 1 by omega] at this; rw [World.cell?_of_block (w := W) (by rw [hwh])]; exact this
          have b2 : wr.cell? ⟨bp, bo + i * 4 + 2, none⟩ = some (.int .i64 c.at_) := by have := hb 2 _ rfl; rw [show kHd.k = 4 from rfl] at this; rw [show bo + (i * 4 + 2) = bo + i * 4 + 2 by omega] at this; rw [World.cell?_of_block (w := W) (by rw [hwh])]; exact this
          have b3 : wr.cell? ⟨bp, bo + i * 4 + 3, none⟩ = some (.int .i64 c.cl) := by have := hb 3 _ rfl; rw [show kHd.k = 4 from rfl] at this; rw [show bo + (i * 4 + 3) = bo + i * 4 + 3 by omega] at this; rw [World.cell?_of_block (w := W) (by rw [hwh])]; exact this
          have hl2 : (i : Int) < (x.tab.length : Int) := by omega
          clear ha hb hc hwh
          subst ea eb
          go_wp2_with (fail)
          go_quiet (fail)
          go_wp2
          go_roundg (x.tab.length - (i + 1))
          case measure => omega
          case rel => exact ⟨i + 1, by go_num, by omega, by omega, _, by rw [HM.out, World.drewN_drewN]⟩
        · have hn : i = x.tab.length := by omega
          subst hn
          have hl : ¬ ((x.tab.length : Nat) : Int) < ((x.tab.length : Nat) : Int) := by omega
          clear HA3 HB3
          go_wp2
          clear hl hi hk hlt
          go_loopg [7] (x.maps.length + 1) (fun kx s wr => ∃ i : Nat, s = .int .i64 i ∧ i ≤ x.maps.length ∧ x.maps.length - i ≤ kx ∧ Hid (∃ m, wr = W.drewN m))
          case atStart => first | exact ⟨0, rfl, by omega, by omega, _, HM.out⟩ | exact ⟨0, rfl, by omega, by omega, _, rfl⟩
          case round =>
            obtain ⟨i, rfl, hi, hk, HL⟩ := hrel
            obtain ⟨m, hwr⟩ := HL.out
            have hwh : wr.heap = W.heap := by rw [hwr]; rfl
            have HM : Hid (wr = W.drewN m) := hwr
            have pz : wr.cell? ⟨w.heap.size, 8, none⟩ = some (.slice pa4 x.maps.length pc4) := by rw [hwr]; exact p8
            have qz : wr.cell? ⟨w.heap.size + 1, 8, none⟩ = some (.slice qa4 x.maps.length qc4) := by rw [hwr]; exact q8
            clear HL hwr
            by_cases hlt : i < x.maps.length
            · obtain ⟨c, hc⟩ : ∃ c, x.maps[i]? = some c := ⟨_, List.getElem?_eq_getElem hlt⟩
              obtain ⟨ap, ao, ea, cs1, r1, ha⟩ := HA4.out.at_ hc
              obtain ⟨bp, bo, eb, cs2, r2, hb⟩ := HB4.out.at_ hc
              obtain ⟨pv5, pv6, rfl, s5, s6⟩ := r1
              obtain ⟨qv5, qv6, rfl, t5, t6⟩ := r2
              have hs5 : ∀ n, Calls Tryz.prog 21 #[pv5, qv5] (wr.drewN n) fun e w' => e = .returned (.bool true) ∧ ∃ k, w' = (wr.drewN n).drewN k := fun n => SameInts_eq (s5.keep fun b _ => by show wr.heap[b]? = _; rw [hwh]) (t5.keep fun b _ => by show wr.heap[b]? = _; rw [hwh])
              have hs6 : ∀ n, Calls Tryz.prog 21 #[pv6, qv6] (wr.drewN n) fun e w' => e = .returned (.bool true) ∧ ∃ k, w' = (wr.drewN n).drewN k := fun n => SameInts_eq (s6.keep fun b _ => by show wr.heap[b]? = _; rw [hwh]) (t6.keep fun b _ => by show wr.heap[b]? = _; rw [hwh])
              obtain ⟨pa5, pc5, rfl, -⟩ := s5
              obtain ⟨pa6, pc6, rfl, -⟩ := s6
              obtain ⟨qa5, qc5, rfl, -⟩ := t5
              obtain ⟨qa6, qc6, rfl, -⟩ := t6
              have a0 : wr.cell? ⟨ap, ao + i * 3, none⟩ = some (.int .i64 c.at_) := by have := ha 0 _ rfl; rw [show kMp.k = 3 from rfl] at this; rw [show ao + (i * 3 + 0) = ao + i * 3 by omega] at this; rw [World.cell?_of_block (w := W) (by rw [hwh])]; exact this
              have a1 : wr.cell? ⟨ap, ao + i * 3 + 1, none⟩ = some (.slice pa5 c.lo.length pc5) := by have := ha 1 _ rfl; rw [show kMp.k = 3 from rfl] at this; rw [show ao + (i * 3 + 1) = ao + i * 3 + 1 by omega] at this; rw [World.cell?_of_block (w := W) (by rw [hwh])]; exact this
              have a2 : wr.cell? ⟨ap, ao + i * 3 + 2, none⟩ = some (.slice pa6 c.st.length pc6) := by have := ha 2 _ rfl; rw [show kMp.k = 3 from rfl] at this; rw [show ao + (i * 3 + 2) = ao + i * 3 + 2 by omega] at this; rw [World.cell?_of_block (w := W) (by rw [hwh])]; exact this
              have b0 : wr.cell? ⟨bp, bo + i * 3, none⟩ = some (.int .i64 c.at_) := by have := hb 0 _ rfl; rw [show kMp.k = 3 from rfl] at this; rw [show bo + (i * 3 + 0) = bo + i * 3 by omega] at this; rw [World.cell?_of_block (w := W) (by rw [hwh])]; exact this
              have b1 : wr.cell? ⟨bp, bo + i * 3 + 1, none⟩ = some (.slice qa5 c.lo.length qc5) := by have := hb 1 _ rfl; rw [show kMp.k = 3 from rfl] at this; rw [show bo + (i * 3 + 1) = bo + i * 3 + 1 by omega] at this; rw [World.cell?_of_block (w := W) (by rw [hwh])]; exact this
              have b2 : wr.cell? ⟨bp, bo + i * 3 + 2, none⟩ = some (.slice qa6 c.st.length qc6) := by have := hb 2 _ rfl; rw [show kMp.k = 3 from rfl] at this; rw [show bo + (i * 3 + 2) = bo + i * 3 + 2 by omega] at this; rw [World.cell?_of_block (w := W) (by rw [hwh])]; exact this
              have hl2 : (i : Int) < (x.maps.length : Int) := by omega
              clear ha hb hc hwh
              subst ea eb
              go_wp2_with (fail)
              go_quiet ((go_at_call 21; with_reducible first | exact Calls.quiet_of (hs5 _) | exact Calls.quiet_of (hs6 _)))
              go_wp2
              go_roundg (x.maps.length - (i + 1))
              case measure => omega
              case rel => exact ⟨i + 1, by go_num, by omega, by omega, _, by rw [HM.out, World.drewN_drewN]⟩
            · have hn : i = x.maps.length := by omega
              subst hn
              have hl : ¬ ((x.maps.length : Nat) : Int) < ((x.maps.length : Nat) : Int) := by omega
              clear HA4 HB4
              go_wp2
              clear hl hi hk hlt
              go_ret
              exact ⟨rfl, HM.out ▸ HZ.out.trans (below_drewN _ _ _)⟩
end Go.Proofs.YtajghalljkphiaaGreat
