/- The document's own Load: what the first three rules see to (plain). -/
import Derived.Test.YtbbmgjcabmjjdaaGreatDoorMGJ8
import Derived.Test.YtbbmgjcabmjjdaaGreatDoorMGJ4
namespace Go.Proofs.YtbbmgjcabmjjdaaGreatDoor
open Go.RowKit

/-- Going up n times. -/
def itJ (p : Pg) (k : Int) : Nat → Int
  | 0 => k
  | n + 1 => itJ p (supJ p k) n
theorem itJ_add (p : Pg) : ∀ (m : Nat) (k : Int) (n : Nat), itJ p k (m + n) = itJ p (itJ p k m) n
  | 0, k, n => by rw [Nat.zero_add]; rfl
  | m + 1, k, n => by rw [Nat.succ_add]; exact itJ_add p m (supJ p k) n
theorem itJ_succ (p : Pg) (k : Int) (n : Nat) : itJ p k (n + 1) = supJ p (itJ p k n) := itJ_add p n k 1
theorem back_hit {p : Pg} {at_ : Int} : ∀ (d f : Nat) (y : Int), d < f → (∀ e, e ≤ d → 0 ≤ itJ p y e) → itJ p y d = at_ → backJ p at_ f y = true
  | 0, f + 1, y, _, h, he => by
    have := h 0 (Nat.le_refl _)
    rw [back_on p at_ y this]
    have : y = at_ := he
    simp [this]
  | d + 1, f + 1, y, hd, h, he => by
    have := h 0 (by omega)
    rw [back_on p at_ y this, back_hit d f (supJ p y) (by omega) (fun e he => h (e + 1) (by omega)) he]
    simp
theorem chn_blt {p : Pg} {k : Int} (hk : isJ p k = true) (h : k < 11) (f : Nat) : chn p (f + 4) k := by
  have hk2 : 0 ≤ k := by simp [isJ] at hk; exact hk.1
  have i0 : isJ p 0 = true := by simp [isJ]; omega
  have i1 : isJ p 1 = true := by simp [isJ]; omega
  have s0 : supJ p 0 < 0 := by simp [supJ, bltJ]
  have c0 : ∀ g, chn p (g + 1) 0 := fun g => ⟨i0, .inl s0⟩
  have s1 : supJ p 1 = 0 := by simp [supJ, bltJ]
  have c1 : ∀ g, chn p (g + 2) 1 := fun g => ⟨i1, .inr (by rw [s1]; exact c0 g)⟩
  refine ⟨hk, ?_⟩
  rw [show supJ p k = bltJ k by simp [supJ, h]]
  unfold bltJ
  split
  · exact .inl (by decide)
  · right
    split
    · exact c1 (f + 1)
    · exact c0 (f + 2)
theorem chn_of {p : Pg} (hS : SupOk p) : ∀ (m : Nat) (k : Int), isJ p k = true → (∃ e, e ≤ m ∧ userJ p (itJ p k e) = false) → chn p (m + 4) k
  | 0, k, hk, ⟨e, he, hu⟩ => by
    obtain rfl : e = 0 := by omega
    exact chn_blt hk (blt_sup hk hu) 0
  | m + 1, k, hk, ⟨e, he, hu⟩ => by
    cases e with
    | zero => exact chn_blt hk (blt_sup hk hu) (m + 1)
    | succ e =>
      refine ⟨hk, ?_⟩
      rcases hS k hk with h | h
      · exact .inl h
      · exact .inr (chn_of hS m (supJ p k) h ⟨e, by omega, hu⟩)
theorem gp_ok {p : Pg} (h1 : ∀ i, i < p.cls.length → bad1 p i = false) (h2 : ∀ i, i < p.cls.length → bad2 p i = false) (h3 : ∀ i, i < p.cls.length → bad3 p i = false) : Gp p := by
  have hS := sup_ok h1
  refine ⟨h1, fun k hu x hx => ?_, fun k hk => ?_⟩
  · obtain ⟨i, rfl, hi, -⟩ := user_at hu
    have := h3 i hi
    rw [bad3] at this
    simp only [Bool.or_eq_false_iff, List.any_eq_false] at this
    have hf := this.1 x hx
    simp [faceJ, userJ] at hf
    exact hf.1.2
  · by_cases hex : ∃ e, e ≤ p.cls.length ∧ userJ p (itJ p k e) = false
    · have hc := chn_of hS p.cls.length k hk hex
      have mono : ∀ (f : Nat) (k : Int), chn p f k → ∀ g, chn p (f + g) k := by
        intro f
        induction f with
        | zero => intro k h; exact h.elim
        | succ f ih =>
          intro k h g
          rw [Nat.succ_add]
          exact ⟨h.1, h.2.imp_right fun q => ih _ q g⟩
      have := mono _ _ hc 8
      rw [show p.cls.length + 4 + 8 = nJ p + 1 by unfold nJ; omega] at this
      exact this
    · exfalso
      have hall : ∀ e, e ≤ p.cls.length → userJ p (itJ p k e) = true := fun e he => by
        rcases hq : userJ p (itJ p k e) with _ | _
        · exact absurd ⟨e, he, hq⟩ hex
        · rfl
      have hpos : ∀ e, e ≤ p.cls.length → 11 ≤ itJ p k e ∧ itJ p k e < 11 + (p.cls.length : Int) := fun e he => by
        have := hall e he
        simp [userJ, isJ] at this
        omega
      have hnd : ((List.range (p.cls.length + 1)).map fun e => itJ p k e - 11).Nodup := by
        rw [List.Nodup, List.pairwise_iff_getElem]
        intro i j hi hj hij
        simp only [List.length_map, List.length_range] at hi hj
        simp only [List.getElem_map, List.getElem_range]
        intro he
        have heq : itJ p k i = itJ p k j := by omega
        obtain ⟨a, ha, hal, -⟩ := user_at (hall i (by omega))
        have hb := h2 a hal
        rw [bad2, ← ha] at hb
        have := back_hit (p := p) (at_ := itJ p k i) (j - i - 1) (p.cls.length + 1) (supJ p (itJ p k i)) (by omega) (fun e he => by
          have h5 : itJ p (supJ p (itJ p k i)) e = itJ p k (i + 1 + e) := by rw [itJ_add p (i + 1) k e, itJ_succ]
          rw [h5]
          have := hpos (i + 1 + e) (by omega)
          omega) (by
          have h5 : itJ p (supJ p (itJ p k i)) (j - i - 1) = itJ p k (i + 1 + (j - i - 1)) := by rw [itJ_add p (i + 1) k, itJ_succ]
          rw [h5, show i + 1 + (j - i - 1) = j by omega, heq])
        rw [this] at hb
        cases hb
      have hlen := nodup_len p.cls.length _ hnd (fun x hx => by
        simp only [List.mem_map, List.mem_range] at hx
        obtain ⟨e, he, rfl⟩ := hx
        have := hpos e (by omega)
        omega)
      rw [List.length_map, List.length_range] at hlen
      omega
end Go.Proofs.YtbbmgjcabmjjdaaGreatDoor
/- The document's own Load, whole. -/
namespace Go.Proofs.YtbbmgjcabmjjdaaGreatDoor
open Go.RowKit

theorem infoLL : (Tryz.prog.info? 58).map (fun i => (i.zero, i.size, i.bytes)) = some (some (.agg #[.slice none 0 0, .int .i64 0, .slice none 0 0, .slice none 0 0]), 4, 80) := by kernel_rfl
/-- One more in a row of a call's own that lies in a slot: the append's run. -/
theorem Gro.run {α : Type} {K : Kd α} {T : TypeId} {base : Nat} {xs : List α} {v : Value} {wr : World} (h5 : Gro K T base wr v xs) (hB : base ≤ wr.heap.size) {Ts : TypeId} {i : TypeInfo} {z : Value} {bytes : Nat} (ht : Tryz.prog.underlying Ts = some (.slice T)) (hi : Tryz.prog.info? T = some i) (hz : i.zero = some z) (hsize : i.size = K.k) (hby : i.bytes = bytes) (hzs : z.cells.size = K.k) (hbb : bytes ≤ 1000)
    {w1 : World} (hb : Below wr.heap.size wr w1) {x : α} {cs : List Value} (hR : K.R w1 (fun b => wr.heap.size ≤ b ∧ b < w1.heap.size) x cs) (hn : xs.length ≤ 1073741824) :
    ∃ g cap w2, (appY #[Ts, Ts] Ts #[v, .slice (some ⟨w1.heap.size, 0, none⟩) 1 1]).run Tryz.prog (w1.alloc (.cells cs.toArray T)) = .ok (.slice (some ⟨g, 0, none⟩) (xs.length + 1) cap) w2 ∧ Gro K T base w2 (.slice (some ⟨g, 0, none⟩) (xs.length + 1) cap) (xs ++ [x]) ∧ Below base wr w2 := by
  have hbz := hb.size
  have hG : Gro K T base w1 v xs := h5.kept (row := none) ⟨hb.os, hb.tape, hb.output, hb.size, fun k hk _ => hb.block k hk⟩ (fun b e => by cases e)
  obtain ⟨fs, hf⟩ := hG.own
  have hsz : (w1.alloc (.cells cs.toArray T)).heap.size = w1.heap.size + 1 := by simp
  have hbyt : (xs.length + 1) * bytes ≤ 140737488355328 := by
    have : (xs.length + 1) * bytes ≤ 1073741825 * 1000 := Nat.mul_le_mul (by omega) hbb
    omega
  obtain ⟨g, cap, w2, hr, hown, hg, hat, -⟩ := run_append_lies (P := Tryz.prog) (w1.alloc (.cells cs.toArray T)) Ts Ts base T i z K.k bytes ht hi hz hsize hby hzs K.pos v xs.length fs (hf.alloc _) ⟨w1.heap.size, 0, none⟩ 1 1 cs (by rw [K.len hR]; omega) (fun j u hu => news_at w1 cs.toArray T j u (by simpa using hu)) (K.one hR) (by decide) (by unfold maxLen; omega) hbyt (by omega) _ rfl
  have hv : ∀ g, v.ownBlock = some g → g < wr.heap.size ∧ base ≤ g := fun g hg => by
    rcases h5.shape with e | ⟨g', cap, e, hge, hlt⟩
    · rw [e] at hg; cases hg
    · rw [e] at hg
      have : g' = g := by simpa [Value.ownBlock] using hg
      omega
  have hA := hG.app hR hB (fun g hg => (hv g hg).1) hf hown hg hat
  have hgs := hg.size
  refine ⟨g, cap, w2, hr, hA, ⟨hg.os.trans hb.os, hg.tape.trans hb.tape, hg.output.trans hb.output, by omega, fun k hk => ?_⟩⟩
  rw [hg.block k (by omega) (fun e => by have := (hv k e.symm).2; omega), Below.heap_alloc _ _ _ (by omega), hb.block k (by omega)]
/-- What Load answers. -/
def LdP (p : Pg) (w : World) (e : Ending) (w' : World) : Prop := Below w.heap.size w w' ∧ match loadJ p with
  | .ok ls => ∃ ao cap, e = .returned (.tuple #[.slice ao ls.length cap, .int .i64 0, .int .i64 0]) ∧ Sl kLyU w' (fun b => w.heap.size ≤ b ∧ b < w'.heap.size) (.slice ao ls.length cap) ls
  | .error s => e = .returned (.tuple #[.slice none 0 0, .int .i64 s.2, .int .i64 s.1])
theorem jc_start {w : World} {p : Pg} {S : Nat → Prop} {v : Value} (hz : Okz p) (hS : ∀ k, S k → k < w.heap.size) (hv : Sl kCs w S v p.cls) : Jc ((w.alloc (.cells #[.int .i64 p.main, v] 37)).alloc (.cells #[.int .i64 p.main, v, .int .i64 0, .int .i64 0] 55)) (w.heap.size + 1) p S v (0, 0) ∧ ((w.alloc (.cells #[.int .i64 p.main, v] 37)).alloc (.cells #[.int .i64 p.main, v, .int .i64 0, .int .i64 0] 55)).heap[w.heap.size]? = some (.cells #[.int .i64 p.main, v] 37 (0, 0)) ∧ Below w.heap.size w ((w.alloc (.cells #[.int .i64 p.main, v] 37)).alloc (.cells #[.int .i64 p.main, v, .int .i64 0, .int .i64 0] 55)) ∧ ((w.alloc (.cells #[.int .i64 p.main, v] 37)).alloc (.cells #[.int .i64 p.main, v, .int .i64 0, .int .i64 0] 55)).heap.size = w.heap.size + 2 := by
  have s1 : (w.alloc (.cells #[.int .i64 p.main, v] 37)).heap.size = w.heap.size + 1 := by simp
  have s2 : ((w.alloc (.cells #[.int .i64 p.main, v] 37)).alloc (.cells #[.int .i64 p.main, v, .int .i64 0, .int .i64 0] 55)).heap.size = w.heap.size + 2 := by simp
  have hB : Below w.heap.size w ((w.alloc (.cells #[.int .i64 p.main, v] 37)).alloc (.cells #[.int .i64 p.main, v, .int .i64 0, .int .i64 0] 55)) := ((Below.refl _ _).alloc (Nat.le_refl _) _).alloc (by omega) _
  refine ⟨⟨?_, hv.keep (fun b hb => hB.block b (hS b hb)), fun hq => by have := hS _ hq; omega, fun b hb => by have := hS b hb; omega, hz⟩, ?_, hB, s2⟩
  · have := heap_alloc_new (w.alloc (.cells #[.int .i64 p.main, v] 37)) (.cells #[.int .i64 p.main, v, .int .i64 0, .int .i64 0] 55)
    rw [s1] at this; exact this
  · rw [Below.heap_alloc _ _ _ (by omega)]; exact heap_alloc_new _ _
theorem ly_R {u w' : World} {y : Ly} {a0 a2 a3 : Option Addr} {c0 c2 c3 : Nat} (hg : Gro kEnU 79 u.heap.size w' (.slice a2 y.vir.length c2) y.vir) (hf : Sl kFdU w' (Sx u.heap.size w' (.slice a2 y.vir.length c2)) (.slice a0 y.flds.length c0) y.flds) (ha : Sl kIU w' (Sx u.heap.size w' (.slice a2 y.vir.length c2)) (.slice a3 y.abv.length c3) y.abv) : kLyU.R w' (fun b => u.heap.size ≤ b ∧ b < w'.heap.size) y [.slice a0 y.flds.length c0, .int .i64 y.off, .slice a2 y.vir.length c2, .slice a3 y.abv.length c3] :=
  ⟨_, _, _, rfl, hf.mono (fun _ q => ⟨q.1, q.2.1⟩), hg.sl, ha.mono (fun _ q => ⟨q.1, q.2.1⟩)⟩
/-- The states between the rules. -/
theorem st2_gp {p : Pg} (h : (st2 p).1 = 0) : (∀ i, i < p.cls.length → bad1 p i = false) ∧ (∀ i, i < p.cls.length → bad2 p i = false) ∧ st2 p = (0, 0) := by
  unfold st2 at h ⊢
  obtain ⟨q1, q2, q3⟩ := runJ_ok (by decide) h
  obtain ⟨r1, r2, r3⟩ := runJ_ok (by decide) q1
  exact ⟨r3, q3, q2.trans r2⟩
theorem st5_gp {p : Pg} (h : (st5 p).1 = 0) : Gp p := by
  unfold st5 at h
  split at h
  · rename_i h2
    obtain ⟨g1, g2, g3⟩ := st2_gp h2
    obtain ⟨q1, q2, q3⟩ := runJ_ok (by decide) h
    obtain ⟨r1, r2, r3⟩ := runJ_ok (by decide) q1
    obtain ⟨t1, t2, t3⟩ := runJ_ok (by decide) r1
    exact gp_ok g1 g2 t3
  · rename_i h2; exact absurd h h2
theorem st6_gp {p : Pg} (h : (runJ (bad6 p) 1507 (st5 p) p.cls.length).1 = 0) : Gp p := st5_gp (runJ_ok (by decide) h).1
end Go.Proofs.YtbbmgjcabmjjdaaGreatDoor
/- The document's own Load: the walk. -/
namespace Go.Proofs.YtbbmgjcabmjjdaaGreatDoor
open Go.RowKit

attribute [local go_sem ↓] app_Y
theorem bel_bx {w W u : World} (h : Below w.heap.size w W) (hb : Bx (w.heap.size + 1) W u) : Below w.heap.size w u := ⟨hb.os.trans h.os, hb.tape.trans h.tape, hb.output.trans h.output, Nat.le_trans h.size hb.size, fun k hk => (hb.block k (Nat.lt_of_lt_of_le hk h.size) (by omega)).trans (h.block k hk)⟩
set_option maxHeartbeats 8000000 in
set_option maxRecDepth 20000 in
theorem jload1_ok {p : Pg} (hz : Okz p) {w : World} {S : Nat → Prop} (hS : ∀ k, S k → k < w.heap.size) {pa : Option Addr} {pc : Nat} (hv : Sl kCs w S (.slice pa p.cls.length pc) p.cls) (h2 : (st2 p).1 ≠ 0) : Calls Tryz.prog 8 #[.agg #[.int .i64 p.main, (.slice pa p.cls.length pc)]] w (LdP p w) := by
  have HC1 : Hid ((runJ (bad1 p) 1500 (0, 0) p.cls.length).1 = 0 → SupOk p) := fun q => sup_ok (runJ_ok (by decide) q).2.2
  have e5 : st5 p = st2 p := by unfold st5; rw [if_neg h2]
  have HC6 : Hid ((st2 p).1 = 0 → Gp p) := fun q => absurd q h2
  have e6 : runJ (bad6 p) 1507 (st2 p) p.cls.length = st2 p := runJ_on h2 _
  have e7 : st7 p = st2 p := by unfold st7; rw [e5, e6]; exact runJ_on h2 _
  have e8 : st8 p = st2 p := by unfold st8; rw [if_neg (by rw [e7]; exact h2), e7]
  have HC7 : Hid ((runJ (bad6 p) 1507 (st2 p) p.cls.length).1 = 0 → Gp p) := fun q => absurd (show (st2 p).1 = 0 by rw [← e6]; exact q) h2
  have HLA : Hid (runJ (bad7 p) 1506 (runJ (bad6 p) 1507 (st2 p) p.cls.length) p.cls.length = st8 p) := by show _ = _; rw [e8, e6]; exact runJ_on h2 _
  have h8 : (st8 p).1 ≠ 0 := by rw [e8]; exact h2
  have t2 : ((st2 p).1 == 0) = false := by simp [h2]
  have t7 : ((st8 p).1 == 0) = false := by simp [h8]
  clear e5 e6 e7 e8
  have t8 : ((st8 p).1 != 0) = true := by simp [h8]
  have HLD : Hid (loadJ p = .error (st8 p)) := by show _ = _; unfold loadJ; rw [if_neg h8]
  clear h2 h8
  obtain ⟨hJ0, hP0, hB0, hZ0⟩ := jc_start hz hS hv
  have HCS : Hid (∀ k, S k → k < w.heap.size) := hS
  have hcn := hz.n
  clear hS hv
  go_enter Tryz.func8, Tryz.ntmps8
  go_upto_region 2 with (fail)
  generalize (w.alloc (.cells #[.int .i64 p.main, (.slice pa p.cls.length pc)] 37)).alloc (.cells #[.int .i64 p.main, (.slice pa p.cls.length pc), .int .i64 0, .int .i64 0] 55) = W at *
  have HJ0 : Hid (Jc W (w.heap.size + 1) p S (.slice pa p.cls.length pc) (0, 0)) := hJ0
  have HP0 : Hid (W.heap[w.heap.size]? = some (.cells #[.int .i64 p.main, (.slice pa p.cls.length pc)] 37 (0, 0))) := hP0
  have HB0 : Hid (Bx (w.heap.size + 1) W W) := Bx.refl _ _
  have HW0 : Hid (Below w.heap.size w W ∧ W.heap.size = w.heap.size + 2) := ⟨hB0, hZ0⟩
  clear hJ0 hP0 hB0 hZ0
  go_upto_region 13 with (first
    | (go_at_call 16; refine (jsupers_ok HJ0.out).mono ?_; rintro e u_supers ⟨rfl, hj, hbx⟩; have HJ_supers : Hid _ := hj; have HB_supers : Hid (Bx (w.heap.size + 1) W u_supers) := HB0.out.trans hbx; have HP_supers : Hid (u_supers.heap[w.heap.size]? = some (.cells #[.int .i64 p.main, (.slice pa p.cls.length pc)] 37 (0, 0))) := (hbx.block w.heap.size (Array.getElem?_eq_some_iff.1 HP0.out).1 (by omega)).trans HP0.out; clear hj hbx)
    | (go_at_call 17; refine (jcycles_ok HJ_supers.out HC1.out).mono ?_; rintro e u_cycles ⟨rfl, hj, hbx⟩; have HJ_cycles : Hid (Jc u_cycles (w.heap.size + 1) p S (.slice pa p.cls.length pc) (st2 p)) := hj; have HB_cycles : Hid (Bx (w.heap.size + 1) W u_cycles) := HB_supers.out.trans hbx; have HP_cycles : Hid (u_cycles.heap[w.heap.size]? = some (.cells #[.int .i64 p.main, (.slice pa p.cls.length pc)] 37 (0, 0))) := (hbx.block w.heap.size (Array.getElem?_eq_some_iff.1 HP_supers.out).1 (by omega)).trans HP_supers.out; have c_cycles := HJ_cycles.out.c2; have d_cycles := HJ_cycles.out.c3; clear hj hbx)
    | (go_at_call 21; refine (jmissing_ok HJ_cycles.out HC6.out).mono ?_; rintro e u_missing ⟨rfl, hj, hbx⟩; have HJ_missing : Hid _ := hj; have HB_missing : Hid (Bx (w.heap.size + 1) W u_missing) := HB_cycles.out.trans hbx; have HP_missing : Hid (u_missing.heap[w.heap.size]? = some (.cells #[.int .i64 p.main, (.slice pa p.cls.length pc)] 37 (0, 0))) := (hbx.block w.heap.size (Array.getElem?_eq_some_iff.1 HP_cycles.out).1 (by omega)).trans HP_cycles.out; clear hj hbx)
    | (go_at_call 22; refine (jfinals_ok HJ_missing.out HC7.out).mono ?_; rintro e u_finals ⟨rfl, hj, hbx⟩; have HJ_finals : Hid (Jc u_finals (w.heap.size + 1) p S (.slice pa p.cls.length pc) (st8 p)) := HLA.out ▸ hj; have HB_finals : Hid (Bx (w.heap.size + 1) W u_finals) := HB_missing.out.trans hbx; have HP_finals : Hid (u_finals.heap[w.heap.size]? = some (.cells #[.int .i64 p.main, (.slice pa p.cls.length pc)] 37 (0, 0))) := (hbx.block w.heap.size (Array.getElem?_eq_some_iff.1 HP_missing.out).1 (by omega)).trans HP_missing.out; have c_finals := HJ_finals.out.c2; have d_finals := HJ_finals.out.c3; clear hj hbx))
  go_quiet (fail)
  go_wp2
  go_ret3
  unfold LdP
  rw [HLD.out]
  refine ⟨(bel_bx HW0.out.1 HB_finals.out).trans (below_drewN _ _ _), ?_⟩
  skip
  rfl
set_option maxHeartbeats 8000000 in
set_option maxRecDepth 20000 in
theorem jload2_ok {p : Pg} (hz : Okz p) {w : World} {S : Nat → Prop} (hS : ∀ k, S k → k < w.heap.size) {pa : Option Addr} {pc : Nat} (hv : Sl kCs w S (.slice pa p.cls.length pc) p.cls) (h2 : (st2 p).1 = 0) (h7 : (st7 p).1 ≠ 0) : Calls Tryz.prog 8 #[.agg #[.int .i64 p.main, (.slice pa p.cls.length pc)]] w (LdP p w) := by
  have HC1 : Hid ((runJ (bad1 p) 1500 (0, 0) p.cls.length).1 = 0 → SupOk p) := fun q => sup_ok (runJ_ok (by decide) q).2.2
  have HE5 : Hid (runJ (bad5 p) 1503 (runJ (bad4 p) 1504 (runJ (bad3 p) 1502 (st2 p) p.cls.length) p.cls.length) p.cls.length = st5 p) := by show _ = _; unfold st5; rw [if_pos h2]
  have HC6 : Hid ((st5 p).1 = 0 → Gp p) := fun q => st5_gp q
  have HC7 : Hid ((runJ (bad6 p) 1507 (st5 p) p.cls.length).1 = 0 → Gp p) := fun q => st6_gp q
  have t2 : ((st2 p).1 == 0) = true := by simp [h2]
  have e8 : st8 p = st7 p := by unfold st8; rw [if_neg h7]
  have h8 : (st8 p).1 ≠ 0 := by rw [e8]; exact h7
  have t7 : ((st7 p).1 == 0) = false := by simp [h7]
  have t9 : ((st7 p).1 != 0) = true := by simp [h7]
  have HE8 : Hid (st8 p = st7 p) := e8
  clear e8
  have t8 : ((st8 p).1 != 0) = true := by simp [h8]
  have HLD : Hid (loadJ p = .error (st8 p)) := by show _ = _; unfold loadJ; rw [if_neg h8]
  clear h2 h7 h8
  obtain ⟨hJ0, hP0, hB0, hZ0⟩ := jc_start hz hS hv
  have HCS : Hid (∀ k, S k → k < w.heap.size) := hS
  have hcn := hz.n
  clear hS hv
  go_enter Tryz.func8, Tryz.ntmps8
  go_upto_region 2 with (fail)
  generalize (w.alloc (.cells #[.int .i64 p.main, (.slice pa p.cls.length pc)] 37)).alloc (.cells #[.int .i64 p.main, (.slice pa p.cls.length pc), .int .i64 0, .int .i64 0] 55) = W at *
  have HJ0 : Hid (Jc W (w.heap.size + 1) p S (.slice pa p.cls.length pc) (0, 0)) := hJ0
  have HP0 : Hid (W.heap[w.heap.size]? = some (.cells #[.int .i64 p.main, (.slice pa p.cls.length pc)] 37 (0, 0))) := hP0
  have HB0 : Hid (Bx (w.heap.size + 1) W W) := Bx.refl _ _
  have HW0 : Hid (Below w.heap.size w W ∧ W.heap.size = w.heap.size + 2) := ⟨hB0, hZ0⟩
  clear hJ0 hP0 hB0 hZ0
  go_upto_region 13 with (first
    | (go_at_call 16; refine (jsupers_ok HJ0.out).mono ?_; rintro e u_supers ⟨rfl, hj, hbx⟩; have HJ_supers : Hid _ := hj; have HB_supers : Hid (Bx (w.heap.size + 1) W u_supers) := HB0.out.trans hbx; have HP_supers : Hid (u_supers.heap[w.heap.size]? = some (.cells #[.int .i64 p.main, (.slice pa p.cls.length pc)] 37 (0, 0))) := (hbx.block w.heap.size (Array.getElem?_eq_some_iff.1 HP0.out).1 (by omega)).trans HP0.out; clear hj hbx)
    | (go_at_call 17; refine (jcycles_ok HJ_supers.out HC1.out).mono ?_; rintro e u_cycles ⟨rfl, hj, hbx⟩; have HJ_cycles : Hid (Jc u_cycles (w.heap.size + 1) p S (.slice pa p.cls.length pc) (st2 p)) := hj; have HB_cycles : Hid (Bx (w.heap.size + 1) W u_cycles) := HB_supers.out.trans hbx; have HP_cycles : Hid (u_cycles.heap[w.heap.size]? = some (.cells #[.int .i64 p.main, (.slice pa p.cls.length pc)] 37 (0, 0))) := (hbx.block w.heap.size (Array.getElem?_eq_some_iff.1 HP_supers.out).1 (by omega)).trans HP_supers.out; have c_cycles := HJ_cycles.out.c2; have d_cycles := HJ_cycles.out.c3; clear hj hbx)
    | (go_at_call 18; refine (jfaces_ok HJ_cycles.out).mono ?_; rintro e u_faces ⟨rfl, hj, hbx⟩; have HJ_faces : Hid _ := hj; have HB_faces : Hid (Bx (w.heap.size + 1) W u_faces) := HB_cycles.out.trans hbx; have HP_faces : Hid (u_faces.heap[w.heap.size]? = some (.cells #[.int .i64 p.main, (.slice pa p.cls.length pc)] 37 (0, 0))) := (hbx.block w.heap.size (Array.getElem?_eq_some_iff.1 HP_cycles.out).1 (by omega)).trans HP_cycles.out; clear hj hbx)
    | (go_at_call 19; refine (jsigns_ok HJ_faces.out).mono ?_; rintro e u_signs ⟨rfl, hj, hbx⟩; have HJ_signs : Hid _ := hj; have HB_signs : Hid (Bx (w.heap.size + 1) W u_signs) := HB_faces.out.trans hbx; have HP_signs : Hid (u_signs.heap[w.heap.size]? = some (.cells #[.int .i64 p.main, (.slice pa p.cls.length pc)] 37 (0, 0))) := (hbx.block w.heap.size (Array.getElem?_eq_some_iff.1 HP_faces.out).1 (by omega)).trans HP_faces.out; clear hj hbx)
    | (go_at_call 20; refine (jtwice_ok HJ_signs.out).mono ?_; rintro e u_twice ⟨rfl, hj, hbx⟩; have HJ_twice : Hid (Jc u_twice (w.heap.size + 1) p S (.slice pa p.cls.length pc) (st5 p)) := HE5.out ▸ hj; have HB_twice : Hid (Bx (w.heap.size + 1) W u_twice) := HB_signs.out.trans hbx; have HP_twice : Hid (u_twice.heap[w.heap.size]? = some (.cells #[.int .i64 p.main, (.slice pa p.cls.length pc)] 37 (0, 0))) := (hbx.block w.heap.size (Array.getElem?_eq_some_iff.1 HP_signs.out).1 (by omega)).trans HP_signs.out; clear hj hbx)
    | (go_at_call 21; refine (jmissing_ok HJ_twice.out HC6.out).mono ?_; rintro e u_missing ⟨rfl, hj, hbx⟩; have HJ_missing : Hid _ := hj; have HB_missing : Hid (Bx (w.heap.size + 1) W u_missing) := HB_twice.out.trans hbx; have HP_missing : Hid (u_missing.heap[w.heap.size]? = some (.cells #[.int .i64 p.main, (.slice pa p.cls.length pc)] 37 (0, 0))) := (hbx.block w.heap.size (Array.getElem?_eq_some_iff.1 HP_twice.out).1 (by omega)).trans HP_twice.out; clear hj hbx)
    | (go_at_call 22; refine (jfinals_ok HJ_missing.out HC7.out).mono ?_; rintro e u_finals ⟨rfl, hj, hbx⟩; have HJ_finals : Hid (Jc u_finals (w.heap.size + 1) p S (.slice pa p.cls.length pc) (st7 p)) := hj; have HB_finals : Hid (Bx (w.heap.size + 1) W u_finals) := HB_missing.out.trans hbx; have HP_finals : Hid (u_finals.heap[w.heap.size]? = some (.cells #[.int .i64 p.main, (.slice pa p.cls.length pc)] 37 (0, 0))) := (hbx.block w.heap.size (Array.getElem?_eq_some_iff.1 HP_missing.out).1 (by omega)).trans HP_missing.out; have c_finals := HJ_finals.out.c2; have d_finals := HJ_finals.out.c3; clear hj hbx))
  go_quiet (fail)
  go_wp2
  go_ret3
  unfold LdP
  rw [HLD.out]
  refine ⟨(bel_bx HW0.out.1 HB_finals.out).trans (below_drewN _ _ _), ?_⟩
  rw [HE8.out]
  rfl
set_option maxHeartbeats 8000000 in
set_option maxRecDepth 20000 in
theorem jload3_ok {p : Pg} (hz : Okz p) {w : World} {S : Nat → Prop} (hS : ∀ k, S k → k < w.heap.size) {pa : Option Addr} {pc : Nat} (hv : Sl kCs w S (.slice pa p.cls.length pc) p.cls) (h2 : (st2 p).1 = 0) (h7 : (st7 p).1 = 0) (h8 : (st8 p).1 ≠ 0) : Calls Tryz.prog 8 #[.agg #[.int .i64 p.main, (.slice pa p.cls.length pc)]] w (LdP p w) := by
  have HC1 : Hid ((runJ (bad1 p) 1500 (0, 0) p.cls.length).1 = 0 → SupOk p) := fun q => sup_ok (runJ_ok (by decide) q).2.2
  have HE5 : Hid (runJ (bad5 p) 1503 (runJ (bad4 p) 1504 (runJ (bad3 p) 1502 (st2 p) p.cls.length) p.cls.length) p.cls.length = st5 p) := by show _ = _; unfold st5; rw [if_pos h2]
  have HC6 : Hid ((st5 p).1 = 0 → Gp p) := fun q => st5_gp q
  have HC7 : Hid ((runJ (bad6 p) 1507 (st5 p) p.cls.length).1 = 0 → Gp p) := fun q => st6_gp q
  have t2 : ((st2 p).1 == 0) = true := by simp [h2]
  have t7 : ((st7 p).1 == 0) = true := by simp [h7]
  have HLA : Hid (ftJ (st7 p) (bad8 p) 1505 p.main = st8 p) := by show _ = _; unfold st8; rw [if_pos h7]
  have t8 : ((st8 p).1 != 0) = true := by simp [h8]
  have HLD : Hid (loadJ p = .error (st8 p)) := by show _ = _; unfold loadJ; rw [if_neg h8]
  clear h2 h7 h8
  obtain ⟨hJ0, hP0, hB0, hZ0⟩ := jc_start hz hS hv
  have HCS : Hid (∀ k, S k → k < w.heap.size) := hS
  have hcn := hz.n
  clear hS hv
  go_enter Tryz.func8, Tryz.ntmps8
  go_upto_region 2 with (fail)
  generalize (w.alloc (.cells #[.int .i64 p.main, (.slice pa p.cls.length pc)] 37)).alloc (.cells #[.int .i64 p.main, (.slice pa p.cls.length pc), .int .i64 0, .int .i64 0] 55) = W at *
  have HJ0 : Hid (Jc W (w.heap.size + 1) p S (.slice pa p.cls.length pc) (0, 0)) := hJ0
  have HP0 : Hid (W.heap[w.heap.size]? = some (.cells #[.int .i64 p.main, (.slice pa p.cls.length pc)] 37 (0, 0))) := hP0
  have HB0 : Hid (Bx (w.heap.size + 1) W W) := Bx.refl _ _
  have HW0 : Hid (Below w.heap.size w W ∧ W.heap.size = w.heap.size + 2) := ⟨hB0, hZ0⟩
  clear hJ0 hP0 hB0 hZ0
  go_upto_region 13 with (first
    | (go_at_call 16; refine (jsupers_ok HJ0.out).mono ?_; rintro e u_supers ⟨rfl, hj, hbx⟩; have HJ_supers : Hid _ := hj; have HB_supers : Hid (Bx (w.heap.size + 1) W u_supers) := HB0.out.trans hbx; have HP_supers : Hid (u_supers.heap[w.heap.size]? = some (.cells #[.int .i64 p.main, (.slice pa p.cls.length pc)] 37 (0, 0))) := (hbx.block w.heap.size (Array.getElem?_eq_some_iff.1 HP0.out).1 (by omega)).trans HP0.out; clear hj hbx)
    | (go_at_call 17; refine (jcycles_ok HJ_supers.out HC1.out).mono ?_; rintro e u_cycles ⟨rfl, hj, hbx⟩; have HJ_cycles : Hid (Jc u_cycles (w.heap.size + 1) p S (.slice pa p.cls.length pc) (st2 p)) := hj; have HB_cycles : Hid (Bx (w.heap.size + 1) W u_cycles) := HB_supers.out.trans hbx; have HP_cycles : Hid (u_cycles.heap[w.heap.size]? = some (.cells #[.int .i64 p.main, (.slice pa p.cls.length pc)] 37 (0, 0))) := (hbx.block w.heap.size (Array.getElem?_eq_some_iff.1 HP_supers.out).1 (by omega)).trans HP_supers.out; have c_cycles := HJ_cycles.out.c2; have d_cycles := HJ_cycles.out.c3; clear hj hbx)
    | (go_at_call 18; refine (jfaces_ok HJ_cycles.out).mono ?_; rintro e u_faces ⟨rfl, hj, hbx⟩; have HJ_faces : Hid _ := hj; have HB_faces : Hid (Bx (w.heap.size + 1) W u_faces) := HB_cycles.out.trans hbx; have HP_faces : Hid (u_faces.heap[w.heap.size]? = some (.cells #[.int .i64 p.main, (.slice pa p.cls.length pc)] 37 (0, 0))) := (hbx.block w.heap.size (Array.getElem?_eq_some_iff.1 HP_cycles.out).1 (by omega)).trans HP_cycles.out; clear hj hbx)
    | (go_at_call 19; refine (jsigns_ok HJ_faces.out).mono ?_; rintro e u_signs ⟨rfl, hj, hbx⟩; have HJ_signs : Hid _ := hj; have HB_signs : Hid (Bx (w.heap.size + 1) W u_signs) := HB_faces.out.trans hbx; have HP_signs : Hid (u_signs.heap[w.heap.size]? = some (.cells #[.int .i64 p.main, (.slice pa p.cls.length pc)] 37 (0, 0))) := (hbx.block w.heap.size (Array.getElem?_eq_some_iff.1 HP_faces.out).1 (by omega)).trans HP_faces.out; clear hj hbx)
    | (go_at_call 20; refine (jtwice_ok HJ_signs.out).mono ?_; rintro e u_twice ⟨rfl, hj, hbx⟩; have HJ_twice : Hid (Jc u_twice (w.heap.size + 1) p S (.slice pa p.cls.length pc) (st5 p)) := HE5.out ▸ hj; have HB_twice : Hid (Bx (w.heap.size + 1) W u_twice) := HB_signs.out.trans hbx; have HP_twice : Hid (u_twice.heap[w.heap.size]? = some (.cells #[.int .i64 p.main, (.slice pa p.cls.length pc)] 37 (0, 0))) := (hbx.block w.heap.size (Array.getElem?_eq_some_iff.1 HP_signs.out).1 (by omega)).trans HP_signs.out; clear hj hbx)
    | (go_at_call 21; refine (jmissing_ok HJ_twice.out HC6.out).mono ?_; rintro e u_missing ⟨rfl, hj, hbx⟩; have HJ_missing : Hid _ := hj; have HB_missing : Hid (Bx (w.heap.size + 1) W u_missing) := HB_twice.out.trans hbx; have HP_missing : Hid (u_missing.heap[w.heap.size]? = some (.cells #[.int .i64 p.main, (.slice pa p.cls.length pc)] 37 (0, 0))) := (hbx.block w.heap.size (Array.getElem?_eq_some_iff.1 HP_twice.out).1 (by omega)).trans HP_twice.out; clear hj hbx)
    | (go_at_call 22; refine (jfinals_ok HJ_missing.out HC7.out).mono ?_; rintro e u_finals ⟨rfl, hj, hbx⟩; have HJ_finals : Hid (Jc u_finals (w.heap.size + 1) p S (.slice pa p.cls.length pc) (st7 p)) := hj; have HB_finals : Hid (Bx (w.heap.size + 1) W u_finals) := HB_missing.out.trans hbx; have HP_finals : Hid (u_finals.heap[w.heap.size]? = some (.cells #[.int .i64 p.main, (.slice pa p.cls.length pc)] 37 (0, 0))) := (hbx.block w.heap.size (Array.getElem?_eq_some_iff.1 HP_missing.out).1 (by omega)).trans HP_missing.out; have c_finals := HJ_finals.out.c2; have d_finals := HJ_finals.out.c3; clear hj hbx)
    | (go_at_call 23; refine (jmain_ok HJ_finals.out).mono ?_; rintro e u_main ⟨rfl, hj, hbx⟩; have HJ_main : Hid (Jc u_main (w.heap.size + 1) p S (.slice pa p.cls.length pc) (st8 p)) := HLA.out ▸ hj; have HB_main : Hid (Bx (w.heap.size + 1) W u_main) := HB_finals.out.trans hbx; have HP_main : Hid (u_main.heap[w.heap.size]? = some (.cells #[.int .i64 p.main, (.slice pa p.cls.length pc)] 37 (0, 0))) := (hbx.block w.heap.size (Array.getElem?_eq_some_iff.1 HP_finals.out).1 (by omega)).trans HP_finals.out; have c_main := HJ_main.out.c2; have d_main := HJ_main.out.c3; clear hj hbx))
  go_quiet (fail)
  go_wp2
  go_ret3
  unfold LdP
  rw [HLD.out]
  refine ⟨(bel_bx HW0.out.1 HB_main.out).trans (below_drewN _ _ _), ?_⟩
  skip
  rfl
set_option maxHeartbeats 8000000 in
set_option maxRecDepth 20000 in
theorem jload4_ok {p : Pg} (hz : Okz p) {w : World} {S : Nat → Prop} (hS : ∀ k, S k → k < w.heap.size) {pa : Option Addr} {pc : Nat} (hv : Sl kCs w S (.slice pa p.cls.length pc) p.cls) (h2 : (st2 p).1 = 0) (h7 : (st7 p).1 = 0) (h8 : (st8 p).1 = 0) : Calls Tryz.prog 8 #[.agg #[.int .i64 p.main, (.slice pa p.cls.length pc)]] w (LdP p w) := by
  obtain ⟨i0, hi0, hz0, hz1, hz2⟩ := info_parts infoLL
  have HC1 : Hid ((runJ (bad1 p) 1500 (0, 0) p.cls.length).1 = 0 → SupOk p) := fun q => sup_ok (runJ_ok (by decide) q).2.2
  have HE5 : Hid (runJ (bad5 p) 1503 (runJ (bad4 p) 1504 (runJ (bad3 p) 1502 (st2 p) p.cls.length) p.cls.length) p.cls.length = st5 p) := by show _ = _; unfold st5; rw [if_pos h2]
  have HC6 : Hid ((st5 p).1 = 0 → Gp p) := fun q => st5_gp q
  have HC7 : Hid ((runJ (bad6 p) 1507 (st5 p) p.cls.length).1 = 0 → Gp p) := fun q => st6_gp q
  have t2 : ((st2 p).1 == 0) = true := by simp [h2]
  have t7 : ((st7 p).1 == 0) = true := by simp [h7]
  have HLA : Hid (ftJ (st7 p) (bad8 p) 1505 p.main = st8 p) := by show _ = _; unfold st8; rw [if_pos h7]
  have t8 : ((st8 p).1 != 0) = false := by simp [h8]
  have HLD : Hid (loadJ p = .ok (allJ p)) := by show _ = _; unfold loadJ; rw [if_pos h8]
  have HGP : Hid (Gp p) := by
    unfold st7 at h7
    exact st6_gp (runJ_ok (by decide) h7).1
  clear h2 h7 h8
  obtain ⟨hJ0, hP0, hB0, hZ0⟩ := jc_start hz hS hv
  have HCS : Hid (∀ k, S k → k < w.heap.size) := hS
  have hcn := hz.n
  clear hS hv
  go_enter Tryz.func8, Tryz.ntmps8
  go_upto_region 2 with (fail)
  generalize (w.alloc (.cells #[.int .i64 p.main, (.slice pa p.cls.length pc)] 37)).alloc (.cells #[.int .i64 p.main, (.slice pa p.cls.length pc), .int .i64 0, .int .i64 0] 55) = W at *
  have HJ0 : Hid (Jc W (w.heap.size + 1) p S (.slice pa p.cls.length pc) (0, 0)) := hJ0
  have HP0 : Hid (W.heap[w.heap.size]? = some (.cells #[.int .i64 p.main, (.slice pa p.cls.length pc)] 37 (0, 0))) := hP0
  have HB0 : Hid (Bx (w.heap.size + 1) W W) := Bx.refl _ _
  have HW0 : Hid (Below w.heap.size w W ∧ W.heap.size = w.heap.size + 2) := ⟨hB0, hZ0⟩
  clear hJ0 hP0 hB0 hZ0
  go_upto_region 14 with (first
    | (go_at_call 16; refine (jsupers_ok HJ0.out).mono ?_; rintro e u_supers ⟨rfl, hj, hbx⟩; have HJ_supers : Hid _ := hj; have HB_supers : Hid (Bx (w.heap.size + 1) W u_supers) := HB0.out.trans hbx; have HP_supers : Hid (u_supers.heap[w.heap.size]? = some (.cells #[.int .i64 p.main, (.slice pa p.cls.length pc)] 37 (0, 0))) := (hbx.block w.heap.size (Array.getElem?_eq_some_iff.1 HP0.out).1 (by omega)).trans HP0.out; clear hj hbx)
    | (go_at_call 17; refine (jcycles_ok HJ_supers.out HC1.out).mono ?_; rintro e u_cycles ⟨rfl, hj, hbx⟩; have HJ_cycles : Hid (Jc u_cycles (w.heap.size + 1) p S (.slice pa p.cls.length pc) (st2 p)) := hj; have HB_cycles : Hid (Bx (w.heap.size + 1) W u_cycles) := HB_supers.out.trans hbx; have HP_cycles : Hid (u_cycles.heap[w.heap.size]? = some (.cells #[.int .i64 p.main, (.slice pa p.cls.length pc)] 37 (0, 0))) := (hbx.block w.heap.size (Array.getElem?_eq_some_iff.1 HP_supers.out).1 (by omega)).trans HP_supers.out; have c_cycles := HJ_cycles.out.c2; have d_cycles := HJ_cycles.out.c3; clear hj hbx)
    | (go_at_call 18; refine (jfaces_ok HJ_cycles.out).mono ?_; rintro e u_faces ⟨rfl, hj, hbx⟩; have HJ_faces : Hid _ := hj; have HB_faces : Hid (Bx (w.heap.size + 1) W u_faces) := HB_cycles.out.trans hbx; have HP_faces : Hid (u_faces.heap[w.heap.size]? = some (.cells #[.int .i64 p.main, (.slice pa p.cls.length pc)] 37 (0, 0))) := (hbx.block w.heap.size (Array.getElem?_eq_some_iff.1 HP_cycles.out).1 (by omega)).trans HP_cycles.out; clear hj hbx)
    | (go_at_call 19; refine (jsigns_ok HJ_faces.out).mono ?_; rintro e u_signs ⟨rfl, hj, hbx⟩; have HJ_signs : Hid _ := hj; have HB_signs : Hid (Bx (w.heap.size + 1) W u_signs) := HB_faces.out.trans hbx; have HP_signs : Hid (u_signs.heap[w.heap.size]? = some (.cells #[.int .i64 p.main, (.slice pa p.cls.length pc)] 37 (0, 0))) := (hbx.block w.heap.size (Array.getElem?_eq_some_iff.1 HP_faces.out).1 (by omega)).trans HP_faces.out; clear hj hbx)
    | (go_at_call 20; refine (jtwice_ok HJ_signs.out).mono ?_; rintro e u_twice ⟨rfl, hj, hbx⟩; have HJ_twice : Hid (Jc u_twice (w.heap.size + 1) p S (.slice pa p.cls.length pc) (st5 p)) := HE5.out ▸ hj; have HB_twice : Hid (Bx (w.heap.size + 1) W u_twice) := HB_signs.out.trans hbx; have HP_twice : Hid (u_twice.heap[w.heap.size]? = some (.cells #[.int .i64 p.main, (.slice pa p.cls.length pc)] 37 (0, 0))) := (hbx.block w.heap.size (Array.getElem?_eq_some_iff.1 HP_signs.out).1 (by omega)).trans HP_signs.out; clear hj hbx)
    | (go_at_call 21; refine (jmissing_ok HJ_twice.out HC6.out).mono ?_; rintro e u_missing ⟨rfl, hj, hbx⟩; have HJ_missing : Hid _ := hj; have HB_missing : Hid (Bx (w.heap.size + 1) W u_missing) := HB_twice.out.trans hbx; have HP_missing : Hid (u_missing.heap[w.heap.size]? = some (.cells #[.int .i64 p.main, (.slice pa p.cls.length pc)] 37 (0, 0))) := (hbx.block w.heap.size (Array.getElem?_eq_some_iff.1 HP_twice.out).1 (by omega)).trans HP_twice.out; clear hj hbx)
    | (go_at_call 22; refine (jfinals_ok HJ_missing.out HC7.out).mono ?_; rintro e u_finals ⟨rfl, hj, hbx⟩; have HJ_finals : Hid (Jc u_finals (w.heap.size + 1) p S (.slice pa p.cls.length pc) (st7 p)) := hj; have HB_finals : Hid (Bx (w.heap.size + 1) W u_finals) := HB_missing.out.trans hbx; have HP_finals : Hid (u_finals.heap[w.heap.size]? = some (.cells #[.int .i64 p.main, (.slice pa p.cls.length pc)] 37 (0, 0))) := (hbx.block w.heap.size (Array.getElem?_eq_some_iff.1 HP_missing.out).1 (by omega)).trans HP_missing.out; have c_finals := HJ_finals.out.c2; have d_finals := HJ_finals.out.c3; clear hj hbx)
    | (go_at_call 23; refine (jmain_ok HJ_finals.out).mono ?_; rintro e u_main ⟨rfl, hj, hbx⟩; have HJ_main : Hid (Jc u_main (w.heap.size + 1) p S (.slice pa p.cls.length pc) (st8 p)) := HLA.out ▸ hj; have HB_main : Hid (Bx (w.heap.size + 1) W u_main) := HB_finals.out.trans hbx; have HP_main : Hid (u_main.heap[w.heap.size]? = some (.cells #[.int .i64 p.main, (.slice pa p.cls.length pc)] 37 (0, 0))) := (hbx.block w.heap.size (Array.getElem?_eq_some_iff.1 HP_finals.out).1 (by omega)).trans HP_finals.out; have c_main := HJ_main.out.c2; have d_main := HJ_main.out.c3; clear hj hbx))
  have HBU : Hid (Below w.heap.size w u_main) := bel_bx HW0.out.1 HB_main.out
  have HUZ : Hid (w.heap.size + 2 ≤ u_main.heap.size) := by show _ ≤ _; have := HB_main.out.size; have := HW0.out.2; omega
  have HNA : Hid ((allJ p).length = 11 + p.cls.length) := by show _ = _; simp [allJ, nJ]
  clear c_cycles c_finals c_main d_cycles d_finals d_main HJ_supers HJ_cycles HJ_faces HJ_signs HJ_twice HJ_missing HJ_finals HB_supers HB_cycles HB_faces HB_signs HB_twice HB_missing HB_finals HB_main HP_supers HP_cycles HP_faces HP_signs HP_twice HP_missing HP_finals HJ0 HP0 HB0 HW0 t2 t7 t8 HC1 HC6 HC7 HE5 HLA
  go_wp2_with (fail)
  go_loopg [6, 7] (11 + p.cls.length + 1) (fun kx s6 s7 wr => ∃ (i : Nat) (vo : Value), vo = s6 ∧ s7 = .int .i64 i ∧ i ≤ 11 + p.cls.length ∧ 11 + p.cls.length - i ≤ kx ∧ Hid (Gro kLyU 58 u_main.heap.size wr vo ((allJ p).take i)) ∧ Hid (Below u_main.heap.size u_main wr))
  case atStart => exact ⟨0, _, rfl, rfl, by omega, by omega, Gro.nil _ _ _ _, Below.refl _ _⟩
  case round =>
    obtain ⟨i, vo, hvo, rfl, hi, hk, HG, HB⟩ := hrel
    subst hvo
    have HJ : Hid (Jc wr (w.heap.size + 1) p S (.slice pa p.cls.length pc) (st8 p)) := HJ_main.out.below HB.out
    have p1 : wr.cell? ⟨w.heap.size, 1, none⟩ = some (.slice pa p.cls.length pc) := by
      rw [cell_same (HB.out.block w.heap.size (by have := HUZ.out; omega))]
      have := HP_main.out
      simp [World.cell?, this]
    obtain ⟨ao, cp, hvf⟩ := HG.out.slice
    obtain ⟨nv, hnv⟩ : ∃ nv, nv = ((allJ p).take i).length := ⟨_, rfl⟩
    have HNV : Hid (nv = ((allJ p).take i).length) := hnv
    rw [← hnv] at hvf
    clear hnv
    subst hvf
    by_cases hlt : i < 11 + p.cls.length
    · have hl : (i : Int) < 11 + (p.cls.length : Int) := by omega
      have HIS : Hid (isJ p (i : Int) = true) := by show _ = _; simp [isJ]; omega
      have hLy := jly_ok HGP.out HJ.out HIS.out
      have HTK : Hid ((allJ p).take (i + 1) = (allJ p).take i ++ [lyJ p (i : Int)]) := by
        show _ = _
        rw [List.take_add_one]
        have : (allJ p)[i]? = some (lyJ p (i : Int)) := by
          unfold allJ
          rw [List.getElem?_map, List.getElem?_range (by unfold nJ; omega)]; rfl
        rw [this]; rfl
      have HLT : Hid (((allJ p).take i).length ≤ 1073741824) := by show _ ≤ _; have := HNA.out; rw [List.length_take]; omega
      generalize lyJ p (i : Int) = y at *
      generalize (allJ p).take i = L at *
      go_wp2_with (go_at_call 24; refine hLy.mono ?_; rintro e u1 ⟨b0, e0, b2, e2, b3, e3, rfl, hg, hf, ha, hb1⟩; obtain ⟨gg, gc, w9, hr9, hG9, hB9⟩ := HG.out.run HB.out.size Tryz.underlying38 hi0 hz0 hz1 hz2 rfl (by decide) hb1 (ly_R hg hf ha) HLT.out; have HG9 : Hid _ := hG9; have HB9 : Hid (Below u_main.heap.size u_main w9) := HB.out.trans hB9; clear hLy hg hf ha hb1 hG9 hB9)
      go_roundg (11 + p.cls.length - (i + 1))
      case measure => omega
      case rel => exact ⟨i + 1, _, rfl, by go_num, by omega, by omega, by rw [HTK.out]; exact HG9.out, HB9.out⟩
    · have hn2 : i = 11 + p.cls.length := by omega
      have hl : decide ((i : Int) < 11 + (p.cls.length : Int)) = false := by simp; omega
      have HE : Hid ((allJ p).take i = allJ p) := List.take_of_length_le (by rw [HNA.out]; omega)
      clear hn2
      go_wp2
      go_ret3
      unfold LdP
      rw [HLD.out]
      have hG := HG.out
      rw [HE.out] at hG
      have hq : nv = (allJ p).length := by rw [HNV.out, HE.out]
      subst hq
      refine ⟨HBU.out.trans (HB.out.mono (by have := HUZ.out; omega)), ao, cp, rfl, ?_⟩
      exact hG.sl.mono fun b hb => ⟨by have := hb.1; have := HUZ.out; omega, hb.2⟩
theorem Load_any {p : Pg} (hz : Okz p) {w : World} {S : Nat → Prop} (hS : ∀ k, S k → k < w.heap.size) {pa : Option Addr} {pc : Nat} (hv : Sl kCs w S (.slice pa p.cls.length pc) p.cls) : Calls Tryz.prog 8 #[.agg #[.int .i64 p.main, (.slice pa p.cls.length pc)]] w (LdP p w) := by
  by_cases h2 : (st2 p).1 = 0
  · by_cases h7 : (st7 p).1 = 0
    · by_cases h8 : (st8 p).1 = 0
      · exact jload4_ok hz hS hv h2 h7 h8
      · exact jload3_ok hz hS hv h2 h7 h8
    · exact jload2_ok hz hS hv h2 h7
  · exact jload1_ok hz hS hv h2
end Go.Proofs.YtbbmgjcabmjjdaaGreatDoor
