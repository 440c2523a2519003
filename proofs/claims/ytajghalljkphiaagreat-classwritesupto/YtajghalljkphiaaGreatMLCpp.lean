/- CopyProgram: a program of new blocks that tells the same. -/
import Derived.Test.YtajghalljkphiaaGreatMGCX
import Derived.Test.YtajghalljkphiaaGreatMGD3
import Derived.Test.YtajghalljkphiaaGreatMGWX
import Derived.Test.YtajghalljkphiaaGreatMLRPg
import Derived.Deep.RegionHeld3
namespace Go.Proofs.YtajghalljkphiaaGreat
open Go.RowKit

def Lim (p : Pg) : Prop := p.cls.length ≤ 1073741824 ∧ ∀ c ∈ p.cls, c.faces.length ≤ 1073741824 ∧ c.flds.length ≤ 1073741824 ∧ c.stcs.length ≤ 1073741824 ∧ c.mds.length ≤ 1073741824 ∧ ∀ m ∈ c.mds, m.args.length ≤ 1073741824 ∧ m.code.length ≤ 1073741824 ∧ m.tab.length ≤ 1073741824 ∧ m.maps.length ≤ 1073741824 ∧ ∀ x ∈ m.maps, x.lo.length ≤ 1073741824 ∧ x.st.length ≤ 1073741824
/-- A new struct's box, and nothing else has turned. -/
structure Nb (tb : TypeId) (wr : World) (cb : Nat) (row : Array Value) (u : World) : Prop where
  bel : Below wr.heap.size wr u
  box : u.heap[cb]? = some (.cells row tb (0, 0))
  at_ : wr.heap.size ≤ cb
section
variable {tb : TypeId} {wr : World} {cb : Nat} {row : Array Value} {u : World}
theorem Nb.lt (h : Nb tb wr cb row u) : cb < u.heap.size := (Array.getElem?_eq_some_iff.1 h.box).1
theorem Nb.call {u' : World} (h : Nb tb wr cb row u) (hb : Below u.heap.size u u') : Nb tb wr cb row u' := ⟨h.bel.trans (hb.mono h.bel.size), (hb.block _ h.lt).trans h.box, h.at_⟩
theorem Nb.set {j : Nat} {v : Value} {row' : Array Value} (h : Nb tb wr cb row u) (hr : row.setIfInBounds j v = row') : Nb tb wr cb row' (u.setCell ⟨cb, j, none⟩ v) := by
  subst hr
  refine ⟨⟨h.bel.os, h.bel.tape, h.bel.output, by simp [World.setCell]; exact h.bel.size, fun k hk => ?_⟩, hset h.box _, h.at_⟩
  rw [Below.heap_setCell _ _ _ _ (show k ≠ cb by have := h.at_; omega)]; exact h.bel.block k hk
theorem cell_of_box {u : World} {b j : Nat} {row : Array Value} {T : TypeId} {fr : Nat × Nat} {v : Value} (h : u.heap[b]? = some (.cells row T fr)) (hr : row[j]? = some v) : u.cell? ⟨b, j, none⟩ = some v := by simp [World.cell?, h, hr]
theorem frz_of_box {u : World} {b : Nat} {row : Array Value} {T : TypeId} (h : u.heap[b]? = some (.cells row T (0, 0))) (j : Nat) : u.frozen? ⟨b, j, none⟩ = false := by simp [World.frozen?, h]
theorem Nb.cell {j : Nat} {v : Value} (h : Nb tb wr cb row u) (hr : row[j]? = some v) : u.cell? ⟨cb, j, none⟩ = some v := cell_of_box h.box hr
theorem Nb.frz (h : Nb tb wr cb row u) (j : Nat) : u.frozen? ⟨cb, j, none⟩ = false := frz_of_box h.box j
end
theorem nb_of {r0 u : World} {row : Array Value} {T : TypeId} (h : u.heap[r0.heap.size]? = some (.cells row T (0, 0)) ∧ u.heap.size = r0.heap.size + 1 ∧ (∀ k, k < r0.heap.size → u.heap[k]? = r0.heap[k]?) ∧ u.os = r0.os ∧ u.tape = r0.tape ∧ u.output = r0.output) : Nb T r0 r0.heap.size row u :=
  ⟨⟨h.2.2.2.1, h.2.2.2.2.1, h.2.2.2.2.2, by omega, h.2.2.1⟩, h.1, Nat.le_refl _⟩
def LU {α : Type} (K : Kd α) (cb : Nat) (u : World) (v : Value) (xs : List α) : Prop := Sl K u (fun k => cb + 1 ≤ k ∧ k < u.heap.size) v xs
theorem LU.call {α : Type} {K : Kd α} {cb : Nat} {u u' : World} {v : Value} {xs : List α} (h : LU K cb u v xs) (hb : Below u.heap.size u u') : LU K cb u' v xs :=
  (Sl.keep (fun k hk => hb.block k hk.2) h).mono fun _ hk => ⟨hk.1, Nat.lt_of_lt_of_le hk.2 hb.size⟩
theorem LU.set {α : Type} {K : Kd α} {cb : Nat} {u : World} {v : Value} {xs : List α} (h : LU K cb u v xs) (j : Nat) (x : Value) : LU K cb (u.setCell ⟨cb, j, none⟩ x) v xs :=
  (Sl.keep (fun k hk => Below.heap_setCell _ _ _ _ (show k ≠ cb by have := hk.1; omega)) h).mono fun k hk => ⟨hk.1, by simp [World.setCell]; exact hk.2⟩
theorem lu_of {α : Type} {K : Kd α} {cb : Nat} {u u' : World} {v : Value} {xs : List α} (h : Cpd K u xs v u') (hl : cb < u.heap.size) : LU K cb u' v xs := h.2.mono fun k hk => ⟨by have := hk.1; omega, hk.2⟩
/-- A load under a name of its own: one that a region must not take first. -/
def ldM (t : TypeId) (a : Operand) : Op := Op.load t a
attribute [local go_sem ↓] app_Y
attribute [local go_sem] ldM
set_option maxHeartbeats 16000000 in
set_option maxRecDepth 20000 in
theorem copyP_ok {S : Nat → Prop} {p : Pg} {cs : List Value} {w : World} (hS : ∀ k, S k → k < w.heap.size) (hR : kPg.R w S p cs) (hL : Lim p) : Calls Tryz.prog 11 #[.agg cs.toArray] w fun e w' => ∃ ao cap, e = .returned (.agg #[.int .i64 p.main, .slice ao p.cls.length cap]) ∧ Below w.heap.size w w' ∧ kPgU.R w' (fun k => w.heap.size ≤ k ∧ k < w'.heap.size) p [.int .i64 p.main, .slice ao p.cls.length cap] := by
  obtain ⟨y, rfl, hV⟩ := hR
  have hV2 := hV
  obtain ⟨pa, pc, rfl, mx1, -⟩ := hV2
  unfold maxLen at mx1
  obtain ⟨iC, hiC, hzC0, hzC1, hzC2⟩ := info_parts infoLC
  obtain ⟨iM, hiM, hzM0, hzM1, hzM2⟩ := info_parts infoLM
  obtain ⟨iP, hiP, hzP0, hzP1, hzP2⟩ := info_parts infoLP
  obtain ⟨iS, hiS, hzS0, hzS1, hzS2⟩ := info_parts infoLS
  obtain ⟨iH, hiH, hzH0, hzH1, hzH2⟩ := info_parts infoLH
  have HV : Hid (Sl kCs w S (.slice pa p.cls.length pc) p.cls) := hV
  have HS : Hid (∀ k, S k → k < w.heap.size) := hS
  have HLP : Hid (Lim p) := hL
  have hz0 : ((w.alloc (.cells #[.int .i64 p.main, .slice pa p.cls.length pc] 24)).alloc (.cells #[.int .i64 0, .slice none 0 0] 24)).heap.size = w.heap.size + 1 + 1 := by simp
  have hn0 := heap_alloc_new ((w.alloc (.cells #[.int .i64 p.main, .slice pa p.cls.length pc] 24)).alloc (.cells #[.int .i64 0, .slice none 0 0] 24)) (.cells #[.int .i64 0, .slice none 0 0] 24)
  rw [hz0] at hn0
  have HN0 : Hid ((((w.alloc (.cells #[.int .i64 p.main, .slice pa p.cls.length pc] 24)).alloc (.cells #[.int .i64 0, .slice none 0 0] 24)).alloc (.cells #[.int .i64 0, .slice none 0 0] 24)).heap[w.heap.size + 1 + 1]? = some (.cells #[.int .i64 0, .slice none 0 0] 24 (0, 0))) := hn0
  have HBX : Hid _ := boxed ((w.alloc (.cells #[.int .i64 p.main, .slice pa p.cls.length pc] 24)).alloc (.cells #[.int .i64 0, .slice none 0 0] 24)) #[.int .i64 0, .slice none 0 0] #[.int .i64 p.main, .slice none 0 0] 24
  have HZ0 : Hid (((w.alloc (.cells #[.int .i64 p.main, .slice pa p.cls.length pc] 24)).alloc (.cells #[.int .i64 0, .slice none 0 0] 24)).heap.size = w.heap.size + 1 + 1) := hz0
  have HPP : Hid (((w.alloc (.cells #[.int .i64 p.main, .slice pa p.cls.length pc] 24)).alloc (.cells #[.int .i64 0, .slice none 0 0] 24)).heap[w.heap.size]? = some (.cells #[.int .i64 p.main, .slice pa p.cls.length pc] 24 (0, 0)) ∧ ((w.alloc (.cells #[.int .i64 p.main, .slice pa p.cls.length pc] 24)).alloc (.cells #[.int .i64 0, .slice none 0 0] 24)).heap[w.heap.size + 1]? = some (.cells #[.int .i64 0, .slice none 0 0] 24 (0, 0)) ∧ ∀ b, b < w.heap.size → ((w.alloc (.cells #[.int .i64 p.main, .slice pa p.cls.length pc] 24)).alloc (.cells #[.int .i64 0, .slice none 0 0] 24)).heap[b]? = w.heap[b]?) := ⟨by rw [Below.heap_alloc _ _ _ (by simp)]; exact heap_alloc_new _ _, by have := heap_alloc_new (w.alloc (.cells #[.int .i64 p.main, .slice pa p.cls.length pc] 24)) (.cells #[.int .i64 0, .slice none 0 0] 24); rw [show (w.alloc (.cells #[.int .i64 p.main, .slice pa p.cls.length pc] 24)).heap.size = w.heap.size + 1 by simp] at this; exact this, fun b hb => by rw [Below.heap_alloc _ _ _ (by simp; omega), Below.heap_alloc _ _ _ hb]⟩
  clear hV hS hL hz0 hn0
  go_enter Tryz.func11, Tryz.ntmps11
  go_upto_region 2 with (first
    | (refine wpList_store_row rfl 24 _ _ rfl (w.heap.size + 1 + 1) _ rfl rfl 24 _ HN0.out infoRPg rfl (by simp [Value.oneCell']) ?_; have hx := HBX.out; rw [HZ0.out] at hx; generalize ((((w.alloc (.cells #[.int .i64 p.main, .slice pa p.cls.length pc] 24)).alloc (.cells #[.int .i64 0, .slice none 0 0] 24)).alloc (.cells #[.int .i64 0, .slice none 0 0] 24)).setRow (w.heap.size + 1 + 1) #[.int .i64 p.main, .slice none 0 0]) = U1 at hx ⊢; clear HN0 HBX))
  have HU1 : Hid ((∀ b, b < w.heap.size → U1.heap[b]? = w.heap[b]?) ∧ U1.heap[w.heap.size]? = some (.cells #[.int .i64 p.main, .slice pa p.cls.length pc] 24 (0, 0)) ∧ U1.heap[w.heap.size + 1]? = some (.cells #[.int .i64 0, .slice none 0 0] 24 (0, 0)) ∧ U1.heap.size = w.heap.size + 3) := ⟨fun b hb => by rw [hx.2.2.1 b (by omega)]; exact HPP.out.2.2 b hb, by rw [hx.2.2.1 _ (by omega)]; exact HPP.out.1, by rw [hx.2.2.1 _ (by omega)]; exact HPP.out.2.1, hx.2.1⟩
  have HO1 : Hid (U1.os = w.os ∧ U1.tape = w.tape ∧ U1.output = w.output) := ⟨hx.2.2.2.1, hx.2.2.2.2.1, hx.2.2.2.2.2⟩
  have HOB : Hid (w.heap.size + 1 + 1 < U1.heap.size) := by show _ < _; rw [HU1.out.2.2.2]; omega
  have HL0 : Hid (GIm kCsU 53 24 (fun v => #[.int .i64 p.main, v]) (w.heap.size + 1 + 1) U1 [] (.slice none 0 0) U1) := GIm.start hx.1
  clear hx HPP HZ0
  go_wp2_with (fail)
  go_loopg [4] (p.cls.length + 1) (fun kx s4 wr => ∃ (i : Nat) (v : Value), s4 = .int .i64 i ∧ i ≤ p.cls.length ∧ p.cls.length - i ≤ kx ∧ Hid (GIm kCsU 53 24 (fun v => #[.int .i64 p.main, v]) (w.heap.size + 1 + 1) U1 (p.cls.take i) v wr))
  case atStart => exact ⟨0, _, rfl, by omega, by omega, HL0.out⟩
  case round =>
    clear HL0
    obtain ⟨i, v1, rfl, hi1, hki, HK1⟩ := hrel
    have HLOW : Hid (∀ b, b < w.heap.size → wr.heap[b]? = w.heap[b]?) := fun b hb => by rw [HK1.out.2.1.block b (by have := HU1.out.2.2.2; omega) (by omega)]; exact HU1.out.1 b hb
    have HPB : Hid (wr.heap[w.heap.size]? = some (.cells #[.int .i64 p.main, .slice pa p.cls.length pc] 24 (0, 0))) := by show _ = _; rw [HK1.out.2.1.block _ (by have := HU1.out.2.2.2; omega) (by omega)]; exact HU1.out.2.1
    have pz : wr.cell? ⟨w.heap.size, 1, none⟩ = some (.slice pa p.cls.length pc) := cell_of_box HPB.out rfl
    by_cases hlt1 : i < p.cls.length
    · obtain ⟨c, hc⟩ : ∃ c, p.cls[i]? = some c := ⟨_, List.getElem?_eq_getElem hlt1⟩
      have HLC : Hid _ := HLP.out.2 c (List.mem_of_getElem? hc)
      have HTK1 : Hid (p.cls.take (i + 1) = p.cls.take i ++ [c]) := by show _ = _; rw [List.take_add_one, hc]; rfl
      obtain ⟨sb, so, rfl, hsb, ss, r1, hsd⟩ := HV.out.at3 hc
      have Hsb : Hid (sb < w.heap.size) := HS.out sb hsb
      obtain ⟨o1, o2, o3, o4, rfl, j1, j2, j3, j4⟩ := r1
      have S1 : Hid (Sl kI w S o1 c.faces) := j1
      have S2 : Hid (Sl kFd w S o2 c.flds) := j2
      have S3 : Hid (Sl kFd w S o3 c.stcs) := j3
      have T4 : Hid (Sl kMd w S o4 c.mds) := j4
      obtain ⟨f1, g1, rfl, -⟩ := j1
      obtain ⟨f2, g2, rfl, -⟩ := j2
      obtain ⟨f3, g3, rfl, -⟩ := j3
      obtain ⟨f4, g4, rfl, mx3, -⟩ := j4
      unfold maxLen at mx3
      have t0 : wr.cell? ⟨sb, so + i * 8, none⟩ = some (.string c.nm) := by rw [cell_same (HLOW.out _ Hsb.out)]; have := hsd 0 _ rfl; rw [show kCs.k = 8 from rfl, show so + (i * 8 + 0) = so + i * 8 by omega] at this; exact this
      have t1 : wr.cell? ⟨sb, so + i * 8 + 1, none⟩ = some (.bool c.face) := by rw [cell_same (HLOW.out _ Hsb.out)]; have := hsd 1 _ rfl; rw [show kCs.k = 8 from rfl, show so + (i * 8 + 1) = so + i * 8 + 1 by omega] at this; exact this
      have t2 : wr.cell? ⟨sb, so + i * 8 + 2, none⟩ = some (.bool c.fin) := by rw [cell_same (HLOW.out _ Hsb.out)]; have := hsd 2 _ rfl; rw [show kCs.k = 8 from rfl, show so + (i * 8 + 2) = so + i * 8 + 2 by omega] at this; exact this
      have t3 : wr.cell? ⟨sb, so + i * 8 + 3, none⟩ = some (.int .i64 c.sup) := by rw [cell_same (HLOW.out _ Hsb.out)]; have := hsd 3 _ rfl; rw [show kCs.k = 8 from rfl, show so + (i * 8 + 3) = so + i * 8 + 3 by omega] at this; exact this
      have t4 : wr.cell? ⟨sb, so + i * 8 + 4, none⟩ = some (.slice f1 c.faces.length g1) := by rw [cell_same (HLOW.out _ Hsb.out)]; have := hsd 4 _ rfl; rw [show kCs.k = 8 from rfl, show so + (i * 8 + 4) = so + i * 8 + 4 by omega] at this; exact this
      have t5 : wr.cell? ⟨sb, so + i * 8 + 5, none⟩ = some (.slice f2 c.flds.length g2) := by rw [cell_same (HLOW.out _ Hsb.out)]; have := hsd 5 _ rfl; rw [show kCs.k = 8 from rfl, show so + (i * 8 + 5) = so + i * 8 + 5 by omega] at this; exact this
      have t6 : wr.cell? ⟨sb, so + i * 8 + 6, none⟩ = some (.slice f3 c.stcs.length g3) := by rw [cell_same (HLOW.out _ Hsb.out)]; have := hsd 6 _ rfl; rw [show kCs.k = 8 from rfl, show so + (i * 8 + 6) = so + i * 8 + 6 by omega] at this; exact this
      have t7 : wr.cell? ⟨sb, so + i * 8 + 7, none⟩ = some (.slice f4 c.mds.length g4) := by rw [cell_same (HLOW.out _ Hsb.out)]; have := hsd 7 _ rfl; rw [show kCs.k = 8 from rfl, show so + (i * 8 + 7) = so + i * 8 + 7 by omega] at this; exact this
      have hl7 : (i : Int) < (p.cls.length : Int) := by omega
      have HWZ : Hid (w.heap.size ≤ wr.heap.size) := by show _ ≤ _; have := HK1.out.2.1.size; have := HU1.out.2.2.2; omega
      have hwz := HWZ.out
      have HN1 : Hid ((wr.alloc (.cells #[.string ⟨#[]⟩, .bool false, .bool false, .int .i64 0, .slice none 0 0, .slice none 0 0, .slice none 0 0, .slice none 0 0] 53)).heap[wr.heap.size]? = some (.cells #[.string ⟨#[]⟩, .bool false, .bool false, .int .i64 0, .slice none 0 0, .slice none 0 0, .slice none 0 0, .slice none 0 0] 53 (0, 0))) := heap_alloc_new _ _
      clear hsd hc hsb HPB
      go_upto_region 11 with (first
        | (refine wpList_store_row rfl 53 _ _ rfl wr.heap.size _ rfl rfl 53 _ HN1.out infoRCs rfl (by simp [Value.oneCell']) ?_; have hx := boxed wr #[.string ⟨#[]⟩, .bool false, .bool false, .int .i64 0, .slice none 0 0, .slice none 0 0, .slice none 0 0, .slice none 0 0] #[.string c.nm, .bool c.face, .bool c.fin, .int .i64 c.sup, .slice f1 c.faces.length g1, .slice f2 c.flds.length g2, .slice f3 c.stcs.length g3, .slice f4 c.mds.length g4] 53; generalize ((wr.alloc (.cells #[.string ⟨#[]⟩, .bool false, .bool false, .int .i64 0, .slice none 0 0, .slice none 0 0, .slice none 0 0, .slice none 0 0] 53)).setRow wr.heap.size #[.string c.nm, .bool c.face, .bool c.fin, .int .i64 c.sup, .slice f1 c.faces.length g1, .slice f2 c.flds.length g2, .slice f3 c.stcs.length g3, .slice f4 c.mds.length g4]) = y0 at hx ⊢; have HQ0 : Hid (Nb 53 wr wr.heap.size #[.string c.nm, .bool c.face, .bool c.fin, .int .i64 c.sup, .slice f1 c.faces.length g1, .slice f2 c.flds.length g2, .slice f3 c.stcs.length g3, .slice f4 c.mds.length g4] y0) := nb_of hx; obtain ⟨cb, hcb⟩ : ∃ cb, cb = wr.heap.size := ⟨_, rfl⟩; have HCBQ : Hid (cb = wr.heap.size) := hcb; rw [← hcb] at HQ0 ⊢; have d0 := HQ0.out.cell (j := 4) rfl; have hC1 := copyI_ok (S1.out.keep (fun k hk => by have q := HS.out k hk; rw [(HQ0.out.bel.block k (by omega))]; exact HLOW.out k q)) HLC.out.1; clear hx hcb HN1)
        | (go_at_call 27; refine hC1.mono ?_; rintro e y1 ⟨a1, b1, rfl, hcp⟩; have N0 := HQ0.out.call hcp.1; have La1 : LU kIU cb y1 (.slice a1 c.faces.length b1) c.faces := lu_of hcp HQ0.out.lt; have HQ1 : Hid (Nb 53 wr cb #[.string c.nm, .bool c.face, .bool c.fin, .int .i64 c.sup, .slice a1 c.faces.length b1, .slice f2 c.flds.length g2, .slice f3 c.stcs.length g3, .slice f4 c.mds.length g4] (y1.setCell ⟨cb, 4, none⟩ (.slice a1 c.faces.length b1))) := N0.set rfl; have cy1 := N0.cell (j := 4) rfl; have fy1 := N0.frz 4; have ly1 := N0.lt; have La1 := La1.set 4 (.slice a1 c.faces.length b1); have d1 := HQ1.out.cell (j := 5) rfl; have hC2 := copyF_ok (S2.out.keep (fun k hk => by have q := HS.out k hk; rw [(HQ1.out.bel.block k (by omega))]; exact HLOW.out k q)) HLC.out.2.1; clear hC1 hcp N0)
        | (go_at_call 28; refine hC3.mono ?_; rintro e y3 ⟨a3, b3, rfl, hcp⟩; have N0 := HQ2.out.call hcp.1; have La1 := La1.call hcp.1; have La2 := La2.call hcp.1; have La3 : LU kFdU cb y3 (.slice a3 c.stcs.length b3) c.stcs := lu_of hcp HQ2.out.lt; have HQ3 : Hid (Nb 53 wr cb #[.string c.nm, .bool c.face, .bool c.fin, .int .i64 c.sup, .slice a1 c.faces.length b1, .slice a2 c.flds.length b2, .slice a3 c.stcs.length b3, .slice f4 c.mds.length g4] (y3.setCell ⟨cb, 6, none⟩ (.slice a3 c.stcs.length b3))) := N0.set rfl; have cy3 := N0.cell (j := 6) rfl; have fy3 := N0.frz 6; have ly3 := N0.lt; have La1 := La1.set 6 (.slice a3 c.stcs.length b3); have La2 := La2.set 6 (.slice a3 c.stcs.length b3); have La3 := La3.set 6 (.slice a3 c.stcs.length b3); have d3 := HQ3.out.cell (j := 7) rfl; have e3 := HQ3.out.frz 7; have k3 := HQ3.out.lt; clear hC3 hcp N0)
        | (go_at_call 28; refine hC2.mono ?_; rintro e y2 ⟨a2, b2, rfl, hcp⟩; have N0 := HQ1.out.call hcp.1; have La1 := La1.call hcp.1; have La2 : LU kFdU cb y2 (.slice a2 c.flds.length b2) c.flds := lu_of hcp HQ1.out.lt; have HQ2 : Hid (Nb 53 wr cb #[.string c.nm, .bool c.face, .bool c.fin, .int .i64 c.sup, .slice a1 c.faces.length b1, .slice a2 c.flds.length b2, .slice f3 c.stcs.length g3, .slice f4 c.mds.length g4] (y2.setCell ⟨cb, 5, none⟩ (.slice a2 c.flds.length b2))) := N0.set rfl; have cy2 := N0.cell (j := 5) rfl; have fy2 := N0.frz 5; have ly2 := N0.lt; have La1 := La1.set 5 (.slice a2 c.flds.length b2); have La2 := La2.set 5 (.slice a2 c.flds.length b2); have d2 := HQ2.out.cell (j := 6) rfl; have hC3 := copyF_ok (S3.out.keep (fun k hk => by have q := HS.out k hk; rw [(HQ2.out.bel.block k (by omega))]; exact HLOW.out k q)) HLC.out.2.2.1; clear hC2 hcp N0))
      have HQ4 : Hid (Nb 53 wr cb #[.string c.nm, .bool c.face, .bool c.fin, .int .i64 c.sup, .slice a1 c.faces.length b1, .slice a2 c.flds.length b2, .slice a3 c.stcs.length b3, .slice none 0 0] ((y3.setCell ⟨cb, 6, none⟩ (.slice a3 c.stcs.length b3)).setCell ⟨cb, 7, none⟩ (.slice none 0 0))) := HQ3.out.set rfl
      have HA1 := La1.set 7 (.slice none 0 0)
      have HA2 := La2.set 7 (.slice none 0 0)
      have HA3 := La3.set 7 (.slice none 0 0)
      generalize ((y3.setCell ⟨cb, 6, none⟩ (.slice a3 c.stcs.length b3)).setCell ⟨cb, 7, none⟩ (.slice none 0 0)) = U2 at HQ4 HA1 HA2 HA3 ⊢
      have HA1 : Hid _ := HA1
      have HA2 : Hid _ := HA2
      have HA3 : Hid _ := HA3
      have HU2 : Hid ((∀ b, b < w.heap.size → U2.heap[b]? = w.heap[b]?) ∧ True ∧ w.heap.size ≤ U2.heap.size) := ⟨fun b hb => by rw [HQ4.out.bel.block b (by have := HWZ.out; omega)]; exact HLOW.out b hb, trivial, Nat.le_trans HWZ.out HQ4.out.bel.size⟩
      have HCB : Hid (w.heap.size ≤ cb) := by show _ ≤ _; rw [HCBQ.out]; exact HWZ.out
      have HCB2 : Hid (cb < U2.heap.size) := HQ4.out.lt
      have HL0 : Hid (GIm kMdU 63 53 (fun v => #[.string c.nm, .bool c.face, .bool c.fin, .int .i64 c.sup, .slice a1 c.faces.length b1, .slice a2 c.flds.length b2, .slice a3 c.stcs.length b3, v]) cb U2 [] (.slice none 0 0) U2) := GIm.start HQ4.out.box
      obtain ⟨wr1, hwr1⟩ : ∃ wr1, wr1 = wr := ⟨_, rfl⟩
      rw [← hwr1] at HQ4 HCBQ HK1
      clear HQ0 HQ1 HQ2 HQ3 La1 La2 La3 d0 d1 d2 d3 e3 k3 cy1 fy1 ly1 cy2 fy2 ly2 cy3 fy3 ly3 t0 t1 t2 t3 t4 t5 t6 t7 S1 S2 S3 HWZ hwz HLOW pz hwr1
      go_wp2_with (fail)
      go_loopg [7] (c.mds.length + 1) (fun kx s7 wr => ∃ (k : Nat) (v : Value), s7 = .int .i64 k ∧ k ≤ c.mds.length ∧ c.mds.length - k ≤ kx ∧ Hid (GIm kMdU 63 53 (fun v => #[.string c.nm, .bool c.face, .bool c.fin, .int .i64 c.sup, .slice a1 c.faces.length b1, .slice a2 c.flds.length b2, .slice a3 c.stcs.length b3, v]) cb U2 (c.mds.take k) v wr))
      case atStart => exact ⟨0, _, rfl, by omega, by omega, HL0.out⟩
      case round =>
        clear HL0
        obtain ⟨k, vm, rfl, hk2, hkk, HK⟩ := hrel
        have HLOW : Hid (∀ b, b < w.heap.size → wr.heap[b]? = w.heap[b]?) := fun b hb => by rw [HK.out.2.1.block b (by have := HU2.out.2.2; omega) (by have := HCB.out; omega)]; exact HU2.out.1 b hb
        by_cases hlt2 : k < c.mds.length
        · obtain ⟨m, hm⟩ : ∃ m, c.mds[k]? = some m := ⟨_, List.getElem?_eq_getElem hlt2⟩
          have HLM : Hid _ := HLC.out.2.2.2.2 m (List.mem_of_getElem? hm)
          have HTK2 : Hid (c.mds.take (k + 1) = c.mds.take k ++ [m]) := by show _ = _; rw [List.take_add_one, hm]; rfl
          obtain ⟨db, dO, rfl, hdb, ds, r2, hd⟩ := T4.out.at3 hm
          have Hdb : Hid (db < w.heap.size) := HS.out db hdb
          obtain ⟨o1, o2, o3, o4, rfl, j1, j2, j3, j4⟩ := r2
          have S1 : Hid (Sl kI w S o1 m.args) := j1
          have S2 : Hid (Sl kIs w S o2 m.code) := j2
          have S3 : Hid (Sl kHd w S o3 m.tab) := j3
          have S4 : Hid (Sl kMp w S o4 m.maps) := j4
          obtain ⟨h1, k1, rfl, -⟩ := j1
          obtain ⟨h2, k2, rfl, -⟩ := j2
          obtain ⟨h3, k3, rfl, -⟩ := j3
          obtain ⟨h4, k4, rfl, mx4, -⟩ := j4
          unfold maxLen at mx4
          have t0 : wr.cell? ⟨db, dO + k * 9, none⟩ = some (.string m.nm) := by rw [cell_same (HLOW.out _ Hdb.out)]; have := hd 0 _ rfl; rw [show kMd.k = 9 from rfl, show dO + (k * 9 + 0) = dO + k * 9 by omega] at this; exact this
          have t1 : wr.cell? ⟨db, dO + k * 9 + 1, none⟩ = some (.bool m.stc) := by rw [cell_same (HLOW.out _ Hdb.out)]; have := hd 1 _ rfl; rw [show kMd.k = 9 from rfl, show dO + (k * 9 + 1) = dO + k * 9 + 1 by omega] at this; exact this
          have t2 : wr.cell? ⟨db, dO + k * 9 + 2, none⟩ = some (.slice h1 m.args.length k1) := by rw [cell_same (HLOW.out _ Hdb.out)]; have := hd 2 _ rfl; rw [show kMd.k = 9 from rfl, show dO + (k * 9 + 2) = dO + k * 9 + 2 by omega] at this; exact this
          have t3 : wr.cell? ⟨db, dO + k * 9 + 3, none⟩ = some (.int .i64 m.ret) := by rw [cell_same (HLOW.out _ Hdb.out)]; have := hd 3 _ rfl; rw [show kMd.k = 9 from rfl, show dO + (k * 9 + 3) = dO + k * 9 + 3 by omega] at this; exact this
          have t4 : wr.cell? ⟨db, dO + k * 9 + 4, none⟩ = some (.int .i64 m.lo) := by rw [cell_same (HLOW.out _ Hdb.out)]; have := hd 4 _ rfl; rw [show kMd.k = 9 from rfl, show dO + (k * 9 + 4) = dO + k * 9 + 4 by omega] at this; exact this
          have t5 : wr.cell? ⟨db, dO + k * 9 + 5, none⟩ = some (.int .i64 m.st) := by rw [cell_same (HLOW.out _ Hdb.out)]; have := hd 5 _ rfl; rw [show kMd.k = 9 from rfl, show dO + (k * 9 + 5) = dO + k * 9 + 5 by omega] at this; exact this
          have t6 : wr.cell? ⟨db, dO + k * 9 + 6, none⟩ = some (.slice h2 m.code.length k2) := by rw [cell_same (HLOW.out _ Hdb.out)]; have := hd 6 _ rfl; rw [show kMd.k = 9 from rfl, show dO + (k * 9 + 6) = dO + k * 9 + 6 by omega] at this; exact this
          have t7 : wr.cell? ⟨db, dO + k * 9 + 7, none⟩ = some (.slice h3 m.tab.length k3) := by rw [cell_same (HLOW.out _ Hdb.out)]; have := hd 7 _ rfl; rw [show kMd.k = 9 from rfl, show dO + (k * 9 + 7) = dO + k * 9 + 7 by omega] at this; exact this
          have t8 : wr.cell? ⟨db, dO + k * 9 + 8, none⟩ = some (.slice h4 m.maps.length k4) := by rw [cell_same (HLOW.out _ Hdb.out)]; have := hd 8 _ rfl; rw [show kMd.k = 9 from rfl, show dO + (k * 9 + 8) = dO + k * 9 + 8 by omega] at this; exact this
          have hl8 : (k : Int) < (c.mds.length : Int) := by omega
          have hwz : w.heap.size ≤ wr.heap.size := by have := HK.out.2.1.size; have := HU2.out.2.2; omega
          have HN2 : Hid ((wr.alloc (.cells #[.string ⟨#[]⟩, .bool false, .slice none 0 0, .int .i64 0, .int .i64 0, .int .i64 0, .slice none 0 0, .slice none 0 0, .slice none 0 0] 63)).heap[wr.heap.size]? = some (.cells #[.string ⟨#[]⟩, .bool false, .slice none 0 0, .int .i64 0, .int .i64 0, .int .i64 0, .slice none 0 0, .slice none 0 0, .slice none 0 0] 63 (0, 0))) := heap_alloc_new _ _
          have HWZ : Hid (w.heap.size ≤ wr.heap.size) := hwz
          clear hd hm hdb
          go_upto_region 20 with (first
            | (refine wpList_store_row rfl 63 _ _ rfl wr.heap.size _ rfl rfl 63 _ HN2.out infoRMd rfl (by simp [Value.oneCell']) ?_; have hx := boxed wr #[.string ⟨#[]⟩, .bool false, .slice none 0 0, .int .i64 0, .int .i64 0, .int .i64 0, .slice none 0 0, .slice none 0 0, .slice none 0 0] #[.string m.nm, .bool m.stc, .slice h1 m.args.length k1, .int .i64 m.ret, .int .i64 m.lo, .int .i64 m.st, .slice h2 m.code.length k2, .slice h3 m.tab.length k3, .slice h4 m.maps.length k4] 63; generalize ((wr.alloc (.cells #[.string ⟨#[]⟩, .bool false, .slice none 0 0, .int .i64 0, .int .i64 0, .int .i64 0, .slice none 0 0, .slice none 0 0, .slice none 0 0] 63)).setRow wr.heap.size #[.string m.nm, .bool m.stc, .slice h1 m.args.length k1, .int .i64 m.ret, .int .i64 m.lo, .int .i64 m.st, .slice h2 m.code.length k2, .slice h3 m.tab.length k3, .slice h4 m.maps.length k4]) = z0 at hx ⊢; have HM0 : Hid (Nb 63 wr wr.heap.size #[.string m.nm, .bool m.stc, .slice h1 m.args.length k1, .int .i64 m.ret, .int .i64 m.lo, .int .i64 m.st, .slice h2 m.code.length k2, .slice h3 m.tab.length k3, .slice h4 m.maps.length k4] z0) := nb_of hx; obtain ⟨mb, hmb⟩ : ∃ mb, mb = wr.heap.size := ⟨_, rfl⟩; have HMBQ : Hid (mb = wr.heap.size) := hmb; rw [← hmb] at HM0 ⊢; have d0 := HM0.out.cell (j := 2) rfl; have hC1 := copyI_ok (S1.out.keep (fun k hk => by have q := HS.out k hk; rw [(HM0.out.bel.block k (by omega))]; exact HLOW.out k q)) HLM.out.1; clear hx hmb HN2)
            | (go_at_call 27; refine hC1.mono ?_; rintro e z1 ⟨p1, q1, rfl, hcp⟩; have N0 := HM0.out.call hcp.1; have Lp1 : LU kIU mb z1 (.slice p1 m.args.length q1) m.args := lu_of hcp HM0.out.lt; have HM1 : Hid (Nb 63 wr mb #[.string m.nm, .bool m.stc, .slice p1 m.args.length q1, .int .i64 m.ret, .int .i64 m.lo, .int .i64 m.st, .slice h2 m.code.length k2, .slice h3 m.tab.length k3, .slice h4 m.maps.length k4] (z1.setCell ⟨mb, 2, none⟩ (.slice p1 m.args.length q1))) := N0.set rfl; have cz1 := N0.cell (j := 2) rfl; have fz1 := N0.frz 2; have lz1 := N0.lt; have Lp1 := Lp1.set 2 (.slice p1 m.args.length q1); obtain ⟨p2, q2, z2, hrz2, hcpz2⟩ := cpy_run (K := kIs) (KU := kIsU) (cl := clIs) Tryz.underlying59 hiS hzS0 hzS1 hzS2 rfl (by decide) rfl (fun _ _ _ _ h => h) (fun _ _ _ => rfl) (by intro x u hu; simp [clIs] at hu; rcases hu with rfl | rfl | rfl <;> rfl) (S2.out.keep (fun k hk => by have q := HS.out k hk; rw [(HM1.out.bel.block k (by omega))]; exact HLOW.out k q)) HLM.out.2.1 (H := z1.heap.size) (by simp [World.setCell]); have d1 : ((z1.setCell ⟨mb, 2, none⟩ (.slice p1 m.args.length q1)).alloc (.cells #[] 67)).cell? ⟨mb, 6, none⟩ = some (.slice h2 m.code.length k2) := (by rw [cell_same (Below.heap_alloc _ _ _ HM1.out.lt)]; exact HM1.out.cell rfl); have N2 := HM1.out.call hcpz2.1; have Lp1 := Lp1.call hcpz2.1; have Lp2 : LU kIsU mb z2 (.slice p2 m.code.length q2) m.code := lu_of hcpz2 HM1.out.lt; have HM2 : Hid (Nb 63 wr mb #[.string m.nm, .bool m.stc, .slice p1 m.args.length q1, .int .i64 m.ret, .int .i64 m.lo, .int .i64 m.st, .slice p2 m.code.length q2, .slice h3 m.tab.length k3, .slice h4 m.maps.length k4] (z2.setCell ⟨mb, 6, none⟩ (.slice p2 m.code.length q2))) := N2.set rfl; have cz2 := N2.cell (j := 6) rfl; have fz2 := N2.frz 6; have lz2 := N2.lt; have Lp1 := Lp1.set 6 (.slice p2 m.code.length q2); have Lp2 := Lp2.set 6 (.slice p2 m.code.length q2); clear N2 hcpz2; obtain ⟨p3, q3, z3, hrz3, hcpz3⟩ := cpy_run (K := kHd) (KU := kHdU) (cl := clHd) Tryz.underlying60 hiH hzH0 hzH1 hzH2 rfl (by decide) rfl (fun _ _ _ _ h => h) (fun _ _ _ => rfl) (by intro x u hu; simp [clHd] at hu; rcases hu with rfl | rfl | rfl | rfl <;> rfl) (S3.out.keep (fun k hk => by have q := HS.out k hk; rw [(HM2.out.bel.block k (by omega))]; exact HLOW.out k q)) HLM.out.2.2.1 (H := z2.heap.size) (by simp [World.setCell]); have d2 : ((z2.setCell ⟨mb, 6, none⟩ (.slice p2 m.code.length q2)).alloc (.cells #[] 98)).cell? ⟨mb, 7, none⟩ = some (.slice h3 m.tab.length k3) := (by rw [cell_same (Below.heap_alloc _ _ _ HM2.out.lt)]; exact HM2.out.cell rfl); have N3 := HM2.out.call hcpz3.1; have Lp1 := Lp1.call hcpz3.1; have Lp2 := Lp2.call hcpz3.1; have Lp3 : LU kHdU mb z3 (.slice p3 m.tab.length q3) m.tab := lu_of hcpz3 HM2.out.lt; have HM3 : Hid (Nb 63 wr mb #[.string m.nm, .bool m.stc, .slice p1 m.args.length q1, .int .i64 m.ret, .int .i64 m.lo, .int .i64 m.st, .slice p2 m.code.length q2, .slice p3 m.tab.length q3, .slice h4 m.maps.length k4] (z3.setCell ⟨mb, 7, none⟩ (.slice p3 m.tab.length q3))) := N3.set rfl; have cz3 := N3.cell (j := 7) rfl; have fz3 := N3.frz 7; have lz3 := N3.lt; have Lp1 := Lp1.set 7 (.slice p3 m.tab.length q3); have Lp2 := Lp2.set 7 (.slice p3 m.tab.length q3); have Lp3 := Lp3.set 7 (.slice p3 m.tab.length q3); have d3 := HM3.out.cell (j := 8) rfl; have e3 := HM3.out.frz 8; have k3 := HM3.out.lt; clear N3 hcpz3; clear hC1 hcp N0))
          have HM4 : Hid (Nb 63 wr mb #[.string m.nm, .bool m.stc, .slice p1 m.args.length q1, .int .i64 m.ret, .int .i64 m.lo, .int .i64 m.st, .slice p2 m.code.length q2, .slice p3 m.tab.length q3, .slice none 0 0] ((z3.setCell ⟨mb, 7, none⟩ (.slice p3 m.tab.length q3)).setCell ⟨mb, 8, none⟩ (.slice none 0 0))) := HM3.out.set rfl
          have HP1 := Lp1.set 8 (.slice none 0 0)
          have HP2 := Lp2.set 8 (.slice none 0 0)
          have HP3 := Lp3.set 8 (.slice none 0 0)
          generalize ((z3.setCell ⟨mb, 7, none⟩ (.slice p3 m.tab.length q3)).setCell ⟨mb, 8, none⟩ (.slice none 0 0)) = U3 at HM4 HP1 HP2 HP3 ⊢
          have HP1 : Hid _ := HP1
          have HP2 : Hid _ := HP2
          have HP3 : Hid _ := HP3
          have HU3 : Hid ((∀ b, b < w.heap.size → U3.heap[b]? = w.heap[b]?) ∧ True ∧ w.heap.size ≤ U3.heap.size) := ⟨fun b hb => by rw [HM4.out.bel.block b (by have := HWZ.out; omega)]; exact HLOW.out b hb, trivial, Nat.le_trans HWZ.out HM4.out.bel.size⟩
          have HMB : Hid (w.heap.size ≤ mb) := by show _ ≤ _; rw [HMBQ.out]; exact HWZ.out
          have HMB2 : Hid (mb < U3.heap.size) := HM4.out.lt
          have HL0 : Hid (GIm kMpU 69 63 (fun v => #[.string m.nm, .bool m.stc, .slice p1 m.args.length q1, .int .i64 m.ret, .int .i64 m.lo, .int .i64 m.st, .slice p2 m.code.length q2, .slice p3 m.tab.length q3, v]) mb U3 [] (.slice none 0 0) U3) := GIm.start HM4.out.box
          have HK2 := HK
          obtain ⟨wr2, hwr2⟩ : ∃ wr2, wr2 = wr := ⟨_, rfl⟩
          rw [← hwr2] at HM4 HMBQ HK2
          clear HM0 HM1 HM2 HM3 Lp1 Lp2 Lp3 d0 d1 d2 d3 e3 k3 cz1 fz1 lz1 cz2 fz2 lz2 cz3 fz3 lz3 hrz2 hrz3 t0 t1 t2 t3 t4 t5 t6 t7 t8 S1 S2 S3 hwz HWZ HLOW HK hwr2
          go_wp2_with (fail)
          go_loopg [10] (m.maps.length + 1) (fun kx s10 wr => ∃ (j : Nat) (v : Value), s10 = .int .i64 j ∧ j ≤ m.maps.length ∧ m.maps.length - j ≤ kx ∧ Hid (GIm kMpU 69 63 (fun v => #[.string m.nm, .bool m.stc, .slice p1 m.args.length q1, .int .i64 m.ret, .int .i64 m.lo, .int .i64 m.st, .slice p2 m.code.length q2, .slice p3 m.tab.length q3, v]) mb U3 (m.maps.take j) v wr))
          case atStart => exact ⟨0, _, rfl, by omega, by omega, HL0.out⟩
          case round =>
            clear HL0
            obtain ⟨j, v, rfl, hj, hkj, HL⟩ := hrel
            have HLOW : Hid (∀ b, b < w.heap.size → wr.heap[b]? = w.heap[b]?) := fun b hb => by rw [HL.out.2.1.block b (by have := HU3.out.2.2; omega) (by have := HMB.out; omega)]; exact HU3.out.1 b hb
            by_cases hlt3 : j < m.maps.length
            · obtain ⟨x, hx⟩ : ∃ x, m.maps[j]? = some x := ⟨_, List.getElem?_eq_getElem hlt3⟩
              have hxl := HLM.out.2.2.2.2 x (List.mem_of_getElem? hx)
              have HTK : Hid (m.maps.take (j + 1) = m.maps.take j ++ [x]) := by show _ = _; rw [List.take_add_one, hx]; rfl
              obtain ⟨eb, eo, rfl, heb, es, r1, he⟩ := S4.out.at3 hx
              have Heb : Hid (eb < w.heap.size) := HS.out eb heb
              obtain ⟨w1, w2, rfl, o1, o2⟩ := r1
              have O1 : Hid (Sl kI w S w1 x.lo) := o1
              have O2 : Hid (Sl kI w S w2 x.st) := o2
              obtain ⟨x1, y1, rfl, -⟩ := o1
              obtain ⟨x2, y2, rfl, -⟩ := o2
              have t0 : wr.cell? ⟨eb, eo + j * 3, none⟩ = some (.int .i64 x.at_) := by rw [cell_same (HLOW.out _ Heb.out)]; have := he 0 _ rfl; rw [show kMp.k = 3 from rfl, show eo + (j * 3 + 0) = eo + j * 3 by omega] at this; exact this
              have t1 : wr.cell? ⟨eb, eo + j * 3 + 1, none⟩ = some (.slice x1 x.lo.length y1) := by rw [cell_same (HLOW.out _ Heb.out)]; have := he 1 _ rfl; rw [show kMp.k = 3 from rfl, show eo + (j * 3 + 1) = eo + j * 3 + 1 by omega] at this; exact this
              have t2 : wr.cell? ⟨eb, eo + j * 3 + 2, none⟩ = some (.slice x2 x.st.length y2) := by rw [cell_same (HLOW.out _ Heb.out)]; have := he 2 _ rfl; rw [show kMp.k = 3 from rfl, show eo + (j * 3 + 2) = eo + j * 3 + 2 by omega] at this; exact this
              have z8 : wr.cell? ⟨mb, 8, none⟩ = some v := by simp only [World.cell?]; rw [HL.out.2.2]; rfl
              have hvf : ∃ av nv cv, v = .slice av nv cv := by obtain ⟨av, cv, e⟩ := HL.out.1.slice; exact ⟨av, _, cv, e⟩
              obtain ⟨av, nv, cv, rfl⟩ := hvf
              have hl9 : (j : Int) < (m.maps.length : Int) := by omega
              have HCa : Hid (∀ u, Below wr.heap.size wr u → Calls Tryz.prog 27 #[.slice x1 x.lo.length y1] u fun e w' => ∃ ao cap, e = .returned (.slice ao x.lo.length cap) ∧ Cpd kIU u x.lo (.slice ao x.lo.length cap) w') := fun u hu => copyI_ok (O1.out.keep fun k hk => by have q := HS.out k hk; have q2 := HL.out.2.1.size; have q3 := HU3.out.2.2; rw [hu.block k (by omega), HLOW.out k q]) hxl.1
              have HCb : Hid (∀ u, Below wr.heap.size wr u → Calls Tryz.prog 27 #[.slice x2 x.st.length y2] u fun e w' => ∃ ao cap, e = .returned (.slice ao x.st.length cap) ∧ Cpd kIU u x.st (.slice ao x.st.length cap) w') := fun u hu => copyI_ok (O2.out.keep fun k hk => by have q := HS.out k hk; have q2 := HL.out.2.1.size; have q3 := HU3.out.2.2; rw [hu.block k (by omega), HLOW.out k q]) hxl.2
              have HNX : Hid (∀ w1 r1 s1 r2 s2, Below wr.heap.size wr w1 → Sl kIU w1 (fun b => wr.heap.size ≤ b ∧ b < w1.heap.size) (.slice r1 x.lo.length s1) x.lo → Sl kIU w1 (fun b => wr.heap.size ≤ b ∧ b < w1.heap.size) (.slice r2 x.st.length s2) x.st → _) := fun w1 r1 s1 r2 s2 q1 q2 q3 => HL.out.app (j := 8) HMB2.out (fun _ => rfl) Tryz.underlying61 hiP hzP0 hzP1 hzP2 rfl (by decide) q1 (x := x) (cs := [.int .i64 x.at_, .slice r1 x.lo.length s1, .slice r2 x.st.length s2]) ⟨_, _, rfl, q2, q3⟩ (by rw [List.length_take]; have := HLM.out.2.2.2.1; omega)
              have HEB : Hid (eb < wr.heap.size) := by show _ < _; have := HL.out.2.1.size; have := HU3.out.2.2; have := Heb.out; omega
              have HLT : Hid (mb < wr.heap.size) := by show _ < _; have := HL.out.2.1.size; have := HMB2.out; omega
              have BDs : Hid (Below wr.heap.size wr wr.drew) := ⟨rfl, rfl, rfl, Nat.le_refl _, fun _ _ => rfl⟩
              have HNE2 : Hid (mb ≠ eb) := fun e => by have := Heb.out; have := HMB.out; omega
              have HNE : Hid (eb ≠ mb) := fun e => by have := Heb.out; have := HMB.out; omega
              have HW9 : Hid (∀ (w9 : World) (z : Value) {v' : Value} {xs : List Mp}, GIm kMpU 69 63 (fun v => #[.string m.nm, .bool m.stc, .slice p1 m.args.length q1, .int .i64 m.ret, .int .i64 m.lo, .int .i64 m.st, .slice p2 m.code.length q2, .slice p3 m.tab.length q3, v]) mb U3 xs v' (w9.setCell ⟨mb, 8, none⟩ z) → w9.heap[eb]? = wr.heap[eb]?) := fun w9 z v' xs h => by
                have q1 := h.2.1.block eb (by have := HU3.out.2.2; have := Heb.out; omega) HNE.out
                have q2 := HL.out.2.1.block eb (by have := HU3.out.2.2; have := Heb.out; omega) HNE.out
                rw [Below.heap_setCell _ _ _ _ HNE.out] at q1
                rw [q1, q2]
              have hne := HNE.out
              have HJ : Hid ((m.maps.take j).length = j) := by show _ = _; rw [List.length_take]; omega
              clear he hx heb hxl
              go_upto_region 23 with (fail)
              rw [show Op.load 61 (.tmp 74) = ldM 61 (.tmp 74) from rfl]
              go_region_held3 (fun w' => w'.cell? ⟨eb, eo + j * 3, none⟩ = some (.int .i64 x.at_) ∧ w'.cell? ⟨eb, eo + j * 3 + 1, none⟩ = some (.slice x1 x.lo.length y1) ∧ w'.cell? ⟨eb, eo + j * 3 + 2, none⟩ = some (.slice x2 x.st.length y2)) (first | go_keep | exact ⟨(World.cell?_setCell_far _ _ _ _ HNE2.out).trans tw0, (World.cell?_setCell_far _ _ _ _ HNE2.out).trans tw1, (World.cell?_setCell_far _ _ _ _ HNE2.out).trans tw2⟩) ((go_at_call 27; first
                | (refine (HCa.out _ (by with_reducible first | exact BDs.out | exact BDb.out)).mono ?_; rintro e xa ⟨r1, s1, rfl, hcp⟩; first
                  | (have hz := HCPb.out; have BDa : Hid (Below wr.heap.size wr xa) := BDb.out.trans (hcp.1.mono BDb.out.size); have hS2 := hz.keep (fun k hk => hcp.1.block k hk.2) |>.mono (fun k hk => ⟨hk.1, Nat.lt_of_lt_of_le hk.2 hcp.1.size⟩) (S' := fun b => wr.heap.size ≤ b ∧ b < xa.heap.size); obtain ⟨hm3, gg, gc, w9, hr9, hm9, hG9⟩ := HNX.out xa r1 s1 r2 s2 BDa.out (hcp.2.mono fun k hk => ⟨Nat.le_trans BDb.out.size hk.1, hk.2⟩) hS2; rw [HJ.out] at hr9 hG9; have cz9 : w9.cell? ⟨mb, 8, none⟩ = some (.slice av nv cv) := (by simp only [World.cell?]; rw [hm9]; rfl); have fz9 : w9.frozen? ⟨mb, 8, none⟩ = false := (by simp [World.frozen?, hm9]); have zz : xa.cell? ⟨mb, 8, none⟩ = some (.slice av nv cv) := (by simp only [World.cell?]; rw [hm3]; rfl); have HG9 : Hid _ := hG9; have tkxa0 := (cell_same (BDa.out.block eb HEB.out) (eo + j * 3)).trans t0; have tkxa1 := (cell_same (BDa.out.block eb HEB.out) (eo + j * 3 + 1)).trans t1; have tkxa2 := (cell_same (BDa.out.block eb HEB.out) (eo + j * 3 + 2)).trans t2; have hw9 := HW9.out _ _ hG9; have tw0 := (cell_same hw9 (eo + j * 3)).trans t0; have tw1 := (cell_same hw9 (eo + j * 3 + 1)).trans t1; have tw2 := (cell_same hw9 (eo + j * 3 + 2)).trans t2; have lzz := Nat.lt_of_lt_of_le HLT.out BDa.out.size; clear hz hS2 hm3 hm9 hG9 hcp hw9)
                  | (have HCPa : Hid (Sl kIU xa (fun b => wr.heap.size ≤ b ∧ b < xa.heap.size) (.slice r1 x.lo.length s1) x.lo) := hcp.2; have BDa : Hid (Below wr.heap.size wr xa) := BDs.out.trans hcp.1; have zz : xa.cell? ⟨mb, 8, none⟩ = some (.slice av nv cv) := (by rw [cell_same (BDa.out.block mb HLT.out)]; exact z8); have tkxa0 := (cell_same (BDa.out.block eb HEB.out) (eo + j * 3)).trans t0; have tkxa1 := (cell_same (BDa.out.block eb HEB.out) (eo + j * 3 + 1)).trans t1; have tkxa2 := (cell_same (BDa.out.block eb HEB.out) (eo + j * 3 + 2)).trans t2; clear hcp))
                | (refine (HCb.out _ (by with_reducible first | exact BDs.out | exact BDa.out)).mono ?_; rintro e xb ⟨r2, s2, rfl, hcp⟩; first
                  | (have hz := HCPa.out; have BDb : Hid (Below wr.heap.size wr xb) := BDa.out.trans (hcp.1.mono BDa.out.size); have hS2 := hz.keep (fun k hk => hcp.1.block k hk.2) |>.mono (fun k hk => ⟨hk.1, Nat.lt_of_lt_of_le hk.2 hcp.1.size⟩) (S' := fun b => wr.heap.size ≤ b ∧ b < xb.heap.size); obtain ⟨hm3, gg, gc, w9, hr9, hm9, hG9⟩ := HNX.out xb r1 s1 r2 s2 BDb.out hS2 (hcp.2.mono fun k hk => ⟨Nat.le_trans BDa.out.size hk.1, hk.2⟩); rw [HJ.out] at hr9 hG9; have cz9 : w9.cell? ⟨mb, 8, none⟩ = some (.slice av nv cv) := (by simp only [World.cell?]; rw [hm9]; rfl); have fz9 : w9.frozen? ⟨mb, 8, none⟩ = false := (by simp [World.frozen?, hm9]); have zz : xb.cell? ⟨mb, 8, none⟩ = some (.slice av nv cv) := (by simp only [World.cell?]; rw [hm3]; rfl); have HG9 : Hid _ := hG9; have tkxb0 := (cell_same (BDb.out.block eb HEB.out) (eo + j * 3)).trans t0; have tkxb1 := (cell_same (BDb.out.block eb HEB.out) (eo + j * 3 + 1)).trans t1; have tkxb2 := (cell_same (BDb.out.block eb HEB.out) (eo + j * 3 + 2)).trans t2; have hw9 := HW9.out _ _ hG9; have tw0 := (cell_same hw9 (eo + j * 3)).trans t0; have tw1 := (cell_same hw9 (eo + j * 3 + 1)).trans t1; have tw2 := (cell_same hw9 (eo + j * 3 + 2)).trans t2; have lzz := Nat.lt_of_lt_of_le HLT.out BDb.out.size; clear hz hS2 hm3 hm9 hG9 hcp hw9)
                  | (have HCPb : Hid (Sl kIU xb (fun b => wr.heap.size ≤ b ∧ b < xb.heap.size) (.slice r2 x.st.length s2) x.st) := hcp.2; have BDb : Hid (Below wr.heap.size wr xb) := BDs.out.trans hcp.1; have zz : xb.cell? ⟨mb, 8, none⟩ = some (.slice av nv cv) := (by rw [cell_same (BDb.out.block mb HLT.out)]; exact z8); have tkxb0 := (cell_same (BDb.out.block eb HEB.out) (eo + j * 3)).trans t0; have tkxb1 := (cell_same (BDb.out.block eb HEB.out) (eo + j * 3 + 1)).trans t1; have tkxb2 := (cell_same (BDb.out.block eb HEB.out) (eo + j * 3 + 2)).trans t2; clear hcp))))
              all_goals
                rw [← HTK.out] at HG9
                go_wp2_with (fail)
                go_roundg (m.maps.length - (j + 1))
                case measure => omega
                case rel => exact ⟨j + 1, _, by go_num, by omega, by omega, HG9.out⟩
            · have hn3 : j = m.maps.length := by omega
              subst hn3
              have hl9 : ¬ ((m.maps.length : Nat) : Int) < ((m.maps.length : Nat) : Int) := by omega
              have hG3 := HL.out
              rw [List.take_length] at hG3
              have hF3 := hG3.fin
              have hBL : Below wr2.heap.size wr2 wr := by
                have q1 := HM4.out.bel
                exact ⟨hG3.2.1.os.trans q1.os, hG3.2.1.tape.trans q1.tape, hG3.2.1.output.trans q1.output, Nat.le_trans q1.size hG3.2.1.size, fun k hk => (hG3.2.1.block k (Nat.lt_of_lt_of_le hk q1.size) (by have := HMBQ.out; omega)).trans (q1.block k hk)⟩
              obtain ⟨av, cv, rfl⟩ := hG3.1.slice
              have hkeep : ∀ k, mb + 1 ≤ k ∧ k < U3.heap.size → wr.heap[k]? = U3.heap[k]? := fun k hk => hG3.2.1.block k hk.2 (by omega)
              have HMM : Hid (kMdU.R wr (fun b => wr2.heap.size ≤ b ∧ b < wr.heap.size) m [.string m.nm, .bool m.stc, .slice p1 m.args.length q1, .int .i64 m.ret, .int .i64 m.lo, .int .i64 m.st, .slice p2 m.code.length q2, .slice p3 m.tab.length q3, .slice av m.maps.length cv]) := by
                have q2 := hG3.2.1.size
                have q3 := HMBQ.out
                have q4 := HMB2.out
                exact ⟨_, _, _, _, rfl, (HP1.out.keep hkeep).mono fun k hk => ⟨by omega, by omega⟩, (HP2.out.keep hkeep).mono fun k hk => ⟨by omega, by omega⟩, (HP3.out.keep hkeep).mono fun k hk => ⟨by omega, by omega⟩, hF3.mono fun k hk => ⟨by omega, hk.2⟩⟩
              obtain ⟨hm3, gg, gc, w9, hr9, hm9, hG9⟩ := HK2.out.app (j := 7) HCB2.out (fun _ => rfl) Tryz.underlying51 hiM hzM0 hzM1 hzM2 rfl (by decide) hBL HMM.out (by rw [List.length_take]; have := HLC.out.2.2.2.1; omega)
              rw [show (c.mds.take k).length = k by rw [List.length_take]; omega] at hr9 hG9
              obtain ⟨au, nu, cu, rfl⟩ : ∃ au nu cu, vm = .slice au nu cu := by obtain ⟨a, c, e⟩ := HK2.out.1.slice; exact ⟨a, _, c, e⟩
              have HB3 : Hid (wr.heap[mb]? = some (.cells #[.string m.nm, .bool m.stc, .slice p1 m.args.length q1, .int .i64 m.ret, .int .i64 m.lo, .int .i64 m.st, .slice p2 m.code.length q2, .slice p3 m.tab.length q3, .slice av m.maps.length cv] 63 (0, 0))) := hG3.2.2
              have cz7 := cell_of_box (j := 7) hm3 rfl
              have cz9 := cell_of_box (j := 7) hm9 rfl
              have fz9 := frz_of_box hm9 7
              have lz9 := blk_ltD hm9
              have lz3 := blk_ltD hm3
              have HG9 : Hid (GIm kMdU 63 53 (fun v => #[.string c.nm, .bool c.face, .bool c.fin, .int .i64 c.sup, .slice a1 c.faces.length b1, .slice a2 c.flds.length b2, .slice a3 c.stcs.length b3, v]) cb U2 (c.mds.take k ++ [m]) _ _) := hG9
              rw [← HTK2.out] at HG9
              clear HL hG3 hF3 hBL hkeep HMM hm3 hm9 hG9 HLOW
              go_wp2_with (first
                | (refine wpList_load_row rfl 63 _ rfl mb rfl 63 _ (0, 0) _ HB3.out Tryz.underlying63 rfl infoRMd ?_))
              go_roundg (c.mds.length - (k + 1))
              case measure => omega
              case rel => exact ⟨k + 1, _, by go_num, by omega, by omega, HG9.out⟩
        · have hn2 : k = c.mds.length := by omega
          subst hn2
          have hl9 : ¬ ((c.mds.length : Nat) : Int) < ((c.mds.length : Nat) : Int) := by omega
          have hG3 := HK.out
          rw [List.take_length] at hG3
          have hF3 := hG3.fin
          have hBL : Below wr1.heap.size wr1 wr := by
            have q1 := HQ4.out.bel
            exact ⟨hG3.2.1.os.trans q1.os, hG3.2.1.tape.trans q1.tape, hG3.2.1.output.trans q1.output, Nat.le_trans q1.size hG3.2.1.size, fun k hk => (hG3.2.1.block k (Nat.lt_of_lt_of_le hk q1.size) (by have := HCBQ.out; omega)).trans (q1.block k hk)⟩
          obtain ⟨av, cv, rfl⟩ := hG3.1.slice
          have hkeep : ∀ k, cb + 1 ≤ k ∧ k < U2.heap.size → wr.heap[k]? = U2.heap[k]? := fun k hk => hG3.2.1.block k hk.2 (by omega)
          have HMM : Hid (kCsU.R wr (fun b => wr1.heap.size ≤ b ∧ b < wr.heap.size) c [.string c.nm, .bool c.face, .bool c.fin, .int .i64 c.sup, .slice a1 c.faces.length b1, .slice a2 c.flds.length b2, .slice a3 c.stcs.length b3, .slice av c.mds.length cv]) := by
            have q2 := hG3.2.1.size
            have q3 := HCBQ.out
            have q4 := HCB2.out
            exact ⟨_, _, _, _, rfl, (HA1.out.keep hkeep).mono fun k hk => ⟨by omega, by omega⟩, (HA2.out.keep hkeep).mono fun k hk => ⟨by omega, by omega⟩, (HA3.out.keep hkeep).mono fun k hk => ⟨by omega, by omega⟩, hF3.mono fun k hk => ⟨by omega, hk.2⟩⟩
          obtain ⟨hm3, gg, gc, w9, hr9, hm9, hG9⟩ := HK1.out.app (j := 1) HOB.out (fun _ => rfl) Tryz.underlying22 hiC hzC0 hzC1 hzC2 rfl (by decide) hBL HMM.out (by rw [List.length_take]; have := HLP.out.1; omega)
          rw [show (p.cls.take i).length = i by rw [List.length_take]; omega] at hr9 hG9
          obtain ⟨au, nu, cu, rfl⟩ : ∃ au nu cu, v1 = .slice au nu cu := by obtain ⟨a, c, e⟩ := HK1.out.1.slice; exact ⟨a, _, c, e⟩
          have HB3 : Hid (wr.heap[cb]? = some (.cells #[.string c.nm, .bool c.face, .bool c.fin, .int .i64 c.sup, .slice a1 c.faces.length b1, .slice a2 c.flds.length b2, .slice a3 c.stcs.length b3, .slice av c.mds.length cv] 53 (0, 0))) := hG3.2.2
          have cz7 := cell_of_box (j := 1) hm3 rfl
          have cz9 := cell_of_box (j := 1) hm9 rfl
          have fz9 := frz_of_box hm9 1
          have lz9 := blk_ltD hm9
          have lz3 := blk_ltD hm3
          have HG9 : Hid (GIm kCsU 53 24 (fun v => #[.int .i64 p.main, v]) (w.heap.size + 1 + 1) U1 (p.cls.take i ++ [c]) _ _) := hG9
          rw [← HTK1.out] at HG9
          clear HK hG3 hF3 hBL hkeep HMM hm3 hm9 hG9 HLOW
          go_wp2_with (first
            | (refine wpList_load_row rfl 53 _ rfl cb rfl 53 _ (0, 0) _ HB3.out Tryz.underlying53 rfl infoRCs ?_))
          go_roundg (p.cls.length - (i + 1))
          case measure => omega
          case rel => exact ⟨i + 1, _, by go_num, by omega, by omega, HG9.out⟩
    · have hn1 : i = p.cls.length := by omega
      subst hn1
      have hl7 : ¬ ((p.cls.length : Nat) : Int) < ((p.cls.length : Nat) : Int) := by omega
      have hG3 := HK1.out
      rw [List.take_length] at hG3
      have hF3 := hG3.fin
      obtain ⟨av, cv, rfl⟩ := hG3.1.slice
      have HB3 : Hid (wr.heap[w.heap.size + 1 + 1]? = some (.cells #[.int .i64 p.main, .slice av p.cls.length cv] 24 (0, 0))) := hG3.2.2
      have HR3 : Hid (wr.heap[w.heap.size + 1]? = some (.cells #[.int .i64 0, .slice none 0 0] 24 (0, 0))) := by show _ = _; rw [hG3.2.1.block _ (by have := HU1.out.2.2.2; omega) (by omega)]; exact HU1.out.2.2.1
      have HFF : Hid (Sl kCsU wr (fun b => U1.heap.size ≤ b ∧ b < wr.heap.size) (.slice av p.cls.length cv) p.cls) := hF3
      have HSZ : Hid (U1.heap.size ≤ wr.heap.size) := hG3.2.1.size
      have HOS : Hid (wr.os = U1.os ∧ wr.tape = U1.tape ∧ wr.output = U1.output) := ⟨hG3.2.1.os, hG3.2.1.tape, hG3.2.1.output⟩
      clear hG3 hF3 HK1
      go_wp2_with (first
        | (refine wpList_load_row rfl 24 _ rfl (w.heap.size + 1 + 1) rfl 24 _ (0, 0) _ HB3.out Tryz.underlying24 rfl infoRPg ?_)
        | (refine wpList_store_row rfl 24 _ _ rfl (w.heap.size + 1) _ rfl rfl 24 _ HR3.out infoRPg rfl (by simp [Value.oneCell']) ?_))
      refine bodyPost_ret (results_cell_row rfl _ _ (w.heap.size + 1) 24 #[.int .i64 p.main, .slice av p.cls.length cv] (0, 0) _ rfl (setRow_heap _ _ _ _ _ _ HR3.out) Tryz.underlying24 rfl infoRPg) rfl ?_
      have hsame : ∀ k, k ≠ w.heap.size + 1 → (wr.setRow (w.heap.size + 1) #[.int .i64 p.main, .slice av p.cls.length cv]).heap[k]? = wr.heap[k]? := fun k hn => setRow_other _ _ _ _ hn
      have hsz : (wr.setRow (w.heap.size + 1) #[.int .i64 p.main, .slice av p.cls.length cv]).heap.size = wr.heap.size := by rw [size_setRow]
      have q1 := HU1.out.2.2.2
      have q2 := HSZ.out
      refine ⟨av, cv, rfl, ⟨HOS.out.1.trans HO1.out.1, HOS.out.2.1.trans HO1.out.2.1, HOS.out.2.2.trans HO1.out.2.2, by rw [hsz]; omega, fun k hk => by rw [hsame k (by omega)]; exact HLOW.out k hk⟩, ⟨_, rfl, ?_⟩⟩
      exact (HFF.out.keep fun k hk => hsame k (by have := hk.1; omega)).mono fun k hk => ⟨by have := hk.1; omega, by rw [hsz]; exact hk.2⟩
end Go.Proofs.YtajghalljkphiaaGreat
