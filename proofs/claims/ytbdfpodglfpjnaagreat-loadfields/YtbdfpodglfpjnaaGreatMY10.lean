/- The document's own Load: what the first three rules see to (plain). -/
import Derived.Test.YtbdfpodglfpjnaaGreatMGJ6
import Derived.Test.YtbdfpodglfpjnaaGreatMY8
namespace Go.Proofs.YtbdfpodglfpjnaaGreat
open Go.RowKit

attribute [local go_sem ↓] app_Y
end Go.Proofs.YtbdfpodglfpjnaaGreat
/- The document's own Load: layout, a program's class. -/
namespace Go.Proofs.YtbdfpodglfpjnaaGreat
open Go.RowKit

theorem infoLFx : (Tryz.prog.info? 42).map (fun i => (i.zero, i.size, i.bytes)) = some (some (.agg #[.string ⟨#[]⟩, .int .i64 0]), 2, 24) := by kernel_rfl
theorem app_none (w : World) (t e : TypeId) (i : TypeInfo) (ht : Tryz.prog.underlying t = some (.slice e)) (hi : Tryz.prog.info? e = some i) (a d : Option Addr) (n cp c : Nat) (hn : n ≤ cp) : (appY #[t, t] t #[.slice d n cp, .slice a 0 c]).run Tryz.prog w = .ok (.slice d n cp) w := by
  simp [appY, Builtin.append_, run_underlying ht, sizeOf, typeInfo, hi, Builtin.lenOf, Builtin.firstCells, hn]
  cases a <;> cases d <;> rfl
/-- Fields appended to a row of the call's own. -/
theorem fld_app {w : World} {base : Nat} {v : Value} {fl : List Fd} {i : TypeInfo} {z : Value} (hi : Tryz.prog.info? 42 = some i) (hz : i.zero = some z) (hs : i.size = 2) (hby : i.bytes = 24) (hzs : z.cells.size = 2) (h : w.ownsRow base 42 2 v fl.length (fl.map clFd).flatten) (hB : base ≤ w.heap.size) {S : Nat → Prop} {a : Option Addr} {c : Nat} {xs : List Fd} (hv : Sl kFd w S (.slice a xs.length c) xs) (hl : fl.length + xs.length ≤ 1073741824) :
    ∃ ao cap w2, (appY #[28, 28] 28 #[v, .slice a xs.length c]).run Tryz.prog w = .ok (.slice ao (fl.length + xs.length) cap) w2 ∧ w2.ownsRow base 42 2 (.slice ao (fl.length + xs.length) cap) (fl ++ xs).length ((fl ++ xs).map clFd).flatten ∧ Below base w w2 := by
  obtain ⟨d, cp, hvf, hcp⟩ : ∃ d cp, v = .slice d fl.length cp ∧ fl.length ≤ cp := by
    rcases h.2 with ⟨h1, h2⟩ | ⟨g, cap, cur, h1, _, _, h3, _⟩
    · rw [h2]; exact ⟨none, 0, h1, Nat.le_refl _⟩
    · exact ⟨_, cap, h1, h3⟩
  rcases Nat.eq_zero_or_pos xs.length with h0 | h0
  · have hx : xs = [] := List.eq_nil_of_length_eq_zero h0
    subst hx
    subst hvf
    exact ⟨d, cp, w, app_none w _ _ i Tryz.underlying28 hi a d _ cp c hcp, by simpa using h, Below.refl _ _⟩
  · obtain ⟨b, o, rfl, -, hb, hlen, hcell⟩ := flat_cells (cl := clFd) (fun _ _ _ _ h => h) hv h0
    have hbyt : (fl.length + xs.length) * 24 ≤ 140737488355328 := by omega
    obtain ⟨g, cap, w2, hr, hown, hg, -, -⟩ := run_append_lies (P := Tryz.prog) w 28 28 base 42 i z 2 24 Tryz.underlying28 hi hz hs hby hzs (by decide) v fl.length _ h ⟨b, o, none⟩ xs.length c (xs.map clFd).flatten hlen hcell (one_flat (by intro x u hu; simp [clFd] at hu; rcases hu with rfl | rfl <;> rfl) xs) h0 (by unfold maxLen; omega) hbyt hB _ rfl
    refine ⟨_, cap, w2, hr, by rw [List.map_append, List.flatten_append, List.length_append]; exact hown, ⟨hg.os, hg.tape, hg.output, hg.size, fun k hk => hg.block k (by omega) (fun e => ?_)⟩⟩
    have := World.ownsRow.lt h k e.symm
    omega
theorem own_belowJ {w w' : World} {base : Nat} {T : TypeId} {k n : Nat} {v : Value} {xs : List Value} (h : w.ownsRow base T k v n xs) (hb : Below w.heap.size w w') : w'.ownsRow base T k v n xs := by
  refine ⟨h.1, ?_⟩
  rcases h.2 with r | ⟨g, cap, cur, rfl, h1, h2, h3⟩
  · exact .inl r
  · exact .inr ⟨g, cap, cur, rfl, h1, (hb.block g (Array.getElem?_eq_some_iff.1 h2).1).trans h2, h3⟩
theorem fld_sl {w : World} {base : Nat} {v : Value} {fl : List Fd} (h : w.ownsRow base 42 2 v fl.length (fl.map clFd).flatten) : Sl kFdU w (fun b => base ≤ b ∧ b < w.heap.size) v fl :=
  Gro.sl (K := kFdU) (T := 42) ⟨fl.map clFd, by simp, fun i x hx => ⟨clFd x, by rw [List.getElem?_map, hx]; rfl, rfl⟩, h⟩
theorem fld5 (a : ByteArray) (b c : Bool) (d : Int) (e g h : Value) (q : Option Addr) (n m : Nat) (w : World) : (Instr.field 31 (.agg #[.string a, .bool b, .bool c, .int .i64 d, e, .slice q n m, g, h]) 5).run Tryz.prog w = .ok (.slice q n m) w := by kernel_rfl
theorem virJ_stc {vir : List En} {k : Int} {ms : List Md} {j : Nat} {m : Md} (hm : ms[j]? = some m) (hs : m.stc = true) : virJ vir k ms (j + 1) = virJ vir k ms j := by rw [virJ, hm]; simp [hs]
theorem virJ_set {vir : List En} {k : Int} {ms : List Md} {j a : Nat} {m : Md} (hm : ms[j]? = some m) (hs : m.stc = false) (ho : OfJ (virJ vir k ms j) m.nm m.args m.ret = some a) : virJ vir k ms (j + 1) = (virJ vir k ms j).set a (ownJ m k j) := by
  rw [virJ, hm]; simp only [hs, putJ, ownJ]; rw [ho]; rfl
theorem virJ_add {vir : List En} {k : Int} {ms : List Md} {j : Nat} {m : Md} (hm : ms[j]? = some m) (hs : m.stc = false) (ho : OfJ (virJ vir k ms j) m.nm m.args m.ret = none) : virJ vir k ms (j + 1) = virJ vir k ms j ++ [ownJ m k j] := by
  rw [virJ, hm]; simp only [hs, putJ, ownJ]; rw [ho]; rfl
theorem virJ_len (vir : List En) (k : Int) (ms : List Md) : ∀ j, (virJ vir k ms j).length ≤ vir.length + j
  | 0 => Nat.le_refl _
  | j + 1 => by
    have ih := virJ_len vir k ms j
    rw [virJ]
    split
    · split
      · omega
      · unfold putJ
        split
        · rw [List.length_set]; omega
        · rw [List.length_append, List.length_singleton]; omega
    · omega
theorem of_lt {es : List En} {nm : ByteArray} {args : List Int} {ret : Int} {a : Nat} (h : OfJ es nm args ret = some a) : a < es.length := by
  unfold OfJ at h
  exact (List.findIdx?_eq_some_iff_getElem.1 h).1
theorem Gro.at_ {α : Type} {K : Kd α} {T : TypeId} {base g cap : Nat} {w : World} {xs : List α} (h : Gro K T base w (.slice (some ⟨g, 0, none⟩) xs.length cap) xs) {i : Nat} (hi : i < xs.length) : (∀ j, w.frozen? ⟨g, j, none⟩ = false) ∧ ∀ j, j < K.k → ∃ u, w.cell? ⟨g, i * K.k + j, none⟩ = some u := by
  obtain ⟨css, h1, h2, h3⟩ := h.css
  rcases h3.2 with ⟨q, _⟩ | ⟨g', cap', cur, q, e2, e3, e4, e5, e6, e7⟩
  · simp at q
  · simp only [Value.slice.injEq, Option.some.injEq, Addr.mk.injEq, and_true, true_and] at q
    obtain ⟨rfl, rfl⟩ := q
    refine ⟨fun j => by simp [World.frozen?, e3], fun j hj => ?_⟩
    have hlt : i * K.k + j < cur.size := by
      rw [e6]
      have : (i + 1) * K.k ≤ cap * K.k := Nat.mul_le_mul_right _ (by omega)
      rw [Nat.succ_mul] at this; omega
    exact ⟨cur[i * K.k + j], by simp [World.cell?, e3, Array.getElem?_eq_getElem hlt]⟩
attribute [local go_sem ↓] app_Y
attribute [local go_sem] ldJ
end Go.Proofs.YtbdfpodglfpjnaaGreat
namespace Go.Proofs.YtbdfpodglfpjnaaGreat
open Go.RowKit

/-- Going up from k comes to an end within f steps. -/
def chn (p : Pg) : Nat → Int → Prop
  | 0, _ => False
  | f + 1, k => isJ p k = true ∧ (supJ p k < 0 ∨ chn p f (supJ p k))
theorem face_user {p : Pg} {k : Int} (h : userJ p k = false) : faceJ p k = false := by simp [faceJ, h]
theorem blt_sup {p : Pg} {k : Int} (hk : isJ p k = true) (hu : userJ p k = false) : k < 11 := by
  simp [userJ, hk] at hu; omega
theorem sup_neg {p : Pg} (hok : ∀ i, i < p.cls.length → bad1 p i = false) {k : Int} (hk : isJ p k = true) (hs : supJ p k < 0) : k = 0 := by
  by_cases h1 : k < 11
  · rw [show supJ p k = bltJ k by simp [supJ, h1]] at hs
    unfold bltJ at hs
    split at hs
    · assumption
    · split at hs <;> omega
  · rw [show supJ p k = (ofJ p k).sup by simp [supJ, h1]] at hs
    have hk2 : 0 ≤ k ∧ k < (11 + p.cls.length : Nat) := by simpa [isJ] using hk
    have hb := hok (k - 11).toNat (by omega)
    rw [bad1, show (11 : Int) + ((k - 11).toNat : Int) = k by omega] at hb
    simp at hb
    have := hb.1.1.1
    simp [isJ] at this
    omega
/-- How long a layout's rows are. -/
theorem lay_len {p : Pg} (hz : Okz p) : ∀ (f : Nat) (k : Int), (layJ p f k).vir.length ≤ f * 1001 ∧ (layJ p f k).flds.length ≤ f * 1000
  | 0, _ => ⟨Nat.le_refl _, Nat.le_refl _⟩
  | f + 1, k => by
    have ih := lay_len hz f (supJ p k)
    have hoc : (ofJ p k).mds.length ≤ 1000 ∧ (ofJ p k).flds.length ≤ 1000 := by
      unfold ofJ
      rw [List.getD_eq_getElem?_getD]
      rcases he : p.cls[(k - 11).toNat]? with _ | c
      · exact ⟨by decide, by decide⟩
      · have := hz.cls c (List.mem_of_getElem? he)
        exact ⟨this.nmds, this.nflds⟩
    rw [layJ]
    split
    · refine ⟨?_, Nat.zero_le _⟩
      show ((ofJ p k).mds.mapIdx _).length ≤ _
      rw [List.length_mapIdx]; omega
    · have hup : (if 0 ≤ supJ p k then layJ p f (supJ p k) else ly0).vir.length ≤ f * 1001 ∧ (if 0 ≤ supJ p k then layJ p f (supJ p k) else ly0).flds.length ≤ f * 1000 := by
        split
        · exact ih
        · exact ⟨Nat.zero_le _, Nat.zero_le _⟩
      simp only
      generalize (if 0 ≤ supJ p k then layJ p f (supJ p k) else ly0) = up at hup ⊢
      have hv : (if k = 9 then up.vir ++ [runE] else up.vir).length ≤ up.vir.length + 1 := by
        split
        · simp
        · omega
      generalize (if k = 9 then up.vir ++ [runE] else up.vir) = vir at hv ⊢
      split
      · refine ⟨?_, ?_⟩
        · have := virJ_len vir k (ofJ p k).mds (ofJ p k).mds.length
          show (virJ _ _ _ _).length ≤ _
          by_cases h9 : k = 9
          · omega
          · omega
        · show (up.flds ++ _).length ≤ _
          rw [List.length_append]; omega
      · exact ⟨by show vir.length ≤ _; omega, by show up.flds.length ≤ _; omega⟩
end Go.Proofs.YtbdfpodglfpjnaaGreat
/- The document's own Load: finals, main. -/
namespace Go.Proofs.YtbdfpodglfpjnaaGreat
open Go.RowKit

/-- What the first rules see to. -/
structure Gp (p : Pg) : Prop where
  b1 : ∀ i, i < p.cls.length → bad1 p i = false
  fc : FaceOk p
  ch : ∀ k, isJ p k = true → chn p (nJ p + 1) k
section
variable {u u' : World} {cb : Nat} {p : Pg} {S : Nat → Prop} {v : Value} {s s' : Fs} {lb : Nat} {y : Ly} {a0 a2 a3 : Option Addr} {c0 c2 c3 : Nat}
end
theorem ofI_neg (r : Option Nat) : decide (ofI r < 0) = r.isNone := by
  cases r with
  | none => rfl
  | some a => exact decide_eq_false (show ¬ (a : Int) < 0 by omega)

end Go.Proofs.YtbdfpodglfpjnaaGreat
/- The document's own Load: main. -/
namespace Go.Proofs.YtbdfpodglfpjnaaGreat
open Go.RowKit

end Go.Proofs.YtbdfpodglfpjnaaGreat
/- The document's own Load: missing. -/
namespace Go.Proofs.YtbdfpodglfpjnaaGreat
open Go.RowKit

def lackM (vir : List En) (m : Md) : Bool := (OfJ vir m.nm m.args m.ret).isNone
def lackF (p : Pg) (vir : List En) (x : Int) : Bool := faceJ p x && (ofJ p x).mds.any (lackM vir)
theorem face_is {p : Pg} {x : Int} (h : faceJ p x = true) : userJ p x = true := by simp [faceJ] at h; exact h.1
end Go.Proofs.YtbdfpodglfpjnaaGreat
namespace Go.Proofs.YtbdfpodglfpjnaaGreat
open Go.RowKit

/-- Going up n times. -/
def itJ (p : Pg) (k : Int) : Nat → Int
  | 0 => k
  | n + 1 => itJ p (supJ p k) n
theorem itJ_add (p : Pg) : ∀ (m : Nat) (k : Int) (n : Nat), itJ p k (m + n) = itJ p (itJ p k m) n
  | 0, k, n => by rw [Nat.zero_add]; rfl
  | m + 1, k, n => by rw [Nat.succ_add]; exact itJ_add p m (supJ p k) n
theorem itJ_succ (p : Pg) (k : Int) (n : Nat) : itJ p k (n + 1) = supJ p (itJ p k n) := itJ_add p n k 1
theorem back_hit {p : Pg} {at_ : Int} : ∀ (d f : Nat) (y : Int), d < f → (∀ e, e ≤ d → 0 ≤ itJ p y e) → itJ p y d = at_ → backJ p at_ f y = true
  | 0, f + 1, y, _, h, he => by
    have := h 0 (Nat.le_refl _)
    rw [back_on p at_ y this]
    have : y = at_ := he
    simp [this]
  | d + 1, f + 1, y, hd, h, he => by
    have := h 0 (by omega)
    rw [back_on p at_ y this, back_hit d f (supJ p y) (by omega) (fun e he => h (e + 1) (by omega)) he]
    simp
theorem chn_blt {p : Pg} {k : Int} (hk : isJ p k = true) (h : k < 11) (f : Nat) : chn p (f + 4) k := by
  have hk2 : 0 ≤ k := by simp [isJ] at hk; exact hk.1
  have i0 : isJ p 0 = true := by simp [isJ]; omega
  have i1 : isJ p 1 = true := by simp [isJ]; omega
  have s0 : supJ p 0 < 0 := by simp [supJ, bltJ]
  have c0 : ∀ g, chn p (g + 1) 0 := fun g => ⟨i0, .inl s0⟩
  have s1 : supJ p 1 = 0 := by simp [supJ, bltJ]
  have c1 : ∀ g, chn p (g + 2) 1 := fun g => ⟨i1, .inr (by rw [s1]; exact c0 g)⟩
  refine ⟨hk, ?_⟩
  rw [show supJ p k = bltJ k by simp [supJ, h]]
  unfold bltJ
  split
  · exact .inl (by decide)
  · right
    split
    · exact c1 (f + 1)
    · exact c0 (f + 2)
theorem chn_of {p : Pg} (hS : SupOk p) : ∀ (m : Nat) (k : Int), isJ p k = true → (∃ e, e ≤ m ∧ userJ p (itJ p k e) = false) → chn p (m + 4) k
  | 0, k, hk, ⟨e, he, hu⟩ => by
    obtain rfl : e = 0 := by omega
    exact chn_blt hk (blt_sup hk hu) 0
  | m + 1, k, hk, ⟨e, he, hu⟩ => by
    cases e with
    | zero => exact chn_blt hk (blt_sup hk hu) (m + 1)
    | succ e =>
      refine ⟨hk, ?_⟩
      rcases hS k hk with h | h
      · exact .inl h
      · exact .inr (chn_of hS m (supJ p k) h ⟨e, by omega, hu⟩)
theorem gp_ok {p : Pg} (h1 : ∀ i, i < p.cls.length → bad1 p i = false) (h2 : ∀ i, i < p.cls.length → bad2 p i = false) (h3 : ∀ i, i < p.cls.length → bad3 p i = false) : Gp p := by
  have hS := sup_ok h1
  refine ⟨h1, fun k hu x hx => ?_, fun k hk => ?_⟩
  · obtain ⟨i, rfl, hi, -⟩ := user_at hu
    have := h3 i hi
    rw [bad3] at this
    simp only [Bool.or_eq_false_iff, List.any_eq_false] at this
    have hf := this.1 x hx
    simp [faceJ, userJ] at hf
    exact hf.1.2
  · by_cases hex : ∃ e, e ≤ p.cls.length ∧ userJ p (itJ p k e) = false
    · have hc := chn_of hS p.cls.length k hk hex
      have mono : ∀ (f : Nat) (k : Int), chn p f k → ∀ g, chn p (f + g) k := by
        intro f
        induction f with
        | zero => intro k h; exact h.elim
        | succ f ih =>
          intro k h g
          rw [Nat.succ_add]
          exact ⟨h.1, h.2.imp_right fun q => ih _ q g⟩
      have := mono _ _ hc 8
      rw [show p.cls.length + 4 + 8 = nJ p + 1 by unfold nJ; omega] at this
      exact this
    · exfalso
      have hall : ∀ e, e ≤ p.cls.length → userJ p (itJ p k e) = true := fun e he => by
        rcases hq : userJ p (itJ p k e) with _ | _
        · exact absurd ⟨e, he, hq⟩ hex
        · rfl
      have hpos : ∀ e, e ≤ p.cls.length → 11 ≤ itJ p k e ∧ itJ p k e < 11 + (p.cls.length : Int) := fun e he => by
        have := hall e he
        simp [userJ, isJ] at this
        omega
      have hnd : ((List.range (p.cls.length + 1)).map fun e => itJ p k e - 11).Nodup := by
        rw [List.Nodup, List.pairwise_iff_getElem]
        intro i j hi hj hij
        simp only [List.length_map, List.length_range] at hi hj
        simp only [List.getElem_map, List.getElem_range]
        intro he
        have heq : itJ p k i = itJ p k j := by omega
        obtain ⟨a, ha, hal, -⟩ := user_at (hall i (by omega))
        have hb := h2 a hal
        rw [bad2, ← ha] at hb
        have := back_hit (p := p) (at_ := itJ p k i) (j - i - 1) (p.cls.length + 1) (supJ p (itJ p k i)) (by omega) (fun e he => by
          have h5 : itJ p (supJ p (itJ p k i)) e = itJ p k (i + 1 + e) := by rw [itJ_add p (i + 1) k e, itJ_succ]
          rw [h5]
          have := hpos (i + 1 + e) (by omega)
          omega) (by
          have h5 : itJ p (supJ p (itJ p k i)) (j - i - 1) = itJ p k (i + 1 + (j - i - 1)) := by rw [itJ_add p (i + 1) k, itJ_succ]
          rw [h5, show i + 1 + (j - i - 1) = j by omega, heq])
        rw [this] at hb
        cases hb
      have hlen := nodup_len p.cls.length _ hnd (fun x hx => by
        simp only [List.mem_map, List.mem_range] at hx
        obtain ⟨e, he, rfl⟩ := hx
        have := hpos e (by omega)
        omega)
      rw [List.length_map, List.length_range] at hlen
      omega
end Go.Proofs.YtbdfpodglfpjnaaGreat
/- The document's own Load, whole. -/
namespace Go.Proofs.YtbdfpodglfpjnaaGreat
open Go.RowKit

theorem infoLL : (Tryz.prog.info? 54).map (fun i => (i.zero, i.size, i.bytes)) = some (some (.agg #[.slice none 0 0, .int .i64 0, .slice none 0 0, .slice none 0 0]), 4, 80) := by kernel_rfl
/-- One more in a row of a call's own that lies in a slot: the append's run. -/
theorem Gro.run {α : Type} {K : Kd α} {T : TypeId} {base : Nat} {xs : List α} {v : Value} {wr : World} (h5 : Gro K T base wr v xs) (hB : base ≤ wr.heap.size) {Ts : TypeId} {i : TypeInfo} {z : Value} {bytes : Nat} (ht : Tryz.prog.underlying Ts = some (.slice T)) (hi : Tryz.prog.info? T = some i) (hz : i.zero = some z) (hsize : i.size = K.k) (hby : i.bytes = bytes) (hzs : z.cells.size = K.k) (hbb : bytes ≤ 1000)
    {w1 : World} (hb : Below wr.heap.size wr w1) {x : α} {cs : List Value} (hR : K.R w1 (fun b => wr.heap.size ≤ b ∧ b < w1.heap.size) x cs) (hn : xs.length ≤ 1073741824) :
    ∃ g cap w2, (appY #[Ts, Ts] Ts #[v, .slice (some ⟨w1.heap.size, 0, none⟩) 1 1]).run Tryz.prog (w1.alloc (.cells cs.toArray T)) = .ok (.slice (some ⟨g, 0, none⟩) (xs.length + 1) cap) w2 ∧ Gro K T base w2 (.slice (some ⟨g, 0, none⟩) (xs.length + 1) cap) (xs ++ [x]) ∧ Below base wr w2 := by
  have hbz := hb.size
  have hG : Gro K T base w1 v xs := h5.kept (row := none) ⟨hb.os, hb.tape, hb.output, hb.size, fun k hk _ => hb.block k hk⟩ (fun b e => by cases e)
  obtain ⟨fs, hf⟩ := hG.own
  have hsz : (w1.alloc (.cells cs.toArray T)).heap.size = w1.heap.size + 1 := by simp
  have hbyt : (xs.length + 1) * bytes ≤ 140737488355328 := by
    have : (xs.length + 1) * bytes ≤ 1073741825 * 1000 := Nat.mul_le_mul (by omega) hbb
    omega
  obtain ⟨g, cap, w2, hr, hown, hg, hat, -⟩ := run_append_lies (P := Tryz.prog) (w1.alloc (.cells cs.toArray T)) Ts Ts base T i z K.k bytes ht hi hz hsize hby hzs K.pos v xs.length fs (hf.alloc _) ⟨w1.heap.size, 0, none⟩ 1 1 cs (by rw [K.len hR]; omega) (fun j u hu => news_at w1 cs.toArray T j u (by simpa using hu)) (K.one hR) (by decide) (by unfold maxLen; omega) hbyt (by omega) _ rfl
  have hv : ∀ g, v.ownBlock = some g → g < wr.heap.size ∧ base ≤ g := fun g hg => by
    rcases h5.shape with e | ⟨g', cap, e, hge, hlt⟩
    · rw [e] at hg; cases hg
    · rw [e] at hg
      have : g' = g := by simpa [Value.ownBlock] using hg
      omega
  have hA := hG.app hR hB (fun g hg => (hv g hg).1) hf hown hg hat
  have hgs := hg.size
  refine ⟨g, cap, w2, hr, hA, ⟨hg.os.trans hb.os, hg.tape.trans hb.tape, hg.output.trans hb.output, by omega, fun k hk => ?_⟩⟩
  rw [hg.block k (by omega) (fun e => by have := (hv k e.symm).2; omega), Below.heap_alloc _ _ _ (by omega), hb.block k (by omega)]
/-- What Load answers. -/
def LdP (p : Pg) (w : World) (e : Ending) (w' : World) : Prop := Below w.heap.size w w' ∧ match loadJ p with
  | .ok ls => ∃ ao cap, e = .returned (.tuple #[.slice ao ls.length cap, .int .i64 0, .int .i64 0]) ∧ Sl kLyU w' (fun b => w.heap.size ≤ b ∧ b < w'.heap.size) (.slice ao ls.length cap) ls
  | .error s => e = .returned (.tuple #[.slice none 0 0, .int .i64 s.2, .int .i64 s.1])
theorem ly_R {u w' : World} {y : Ly} {a0 a2 a3 : Option Addr} {c0 c2 c3 : Nat} (hg : Gro kEnU 72 u.heap.size w' (.slice a2 y.vir.length c2) y.vir) (hf : Sl kFdU w' (Sx u.heap.size w' (.slice a2 y.vir.length c2)) (.slice a0 y.flds.length c0) y.flds) (ha : Sl kIU w' (Sx u.heap.size w' (.slice a2 y.vir.length c2)) (.slice a3 y.abv.length c3) y.abv) : kLyU.R w' (fun b => u.heap.size ≤ b ∧ b < w'.heap.size) y [.slice a0 y.flds.length c0, .int .i64 y.off, .slice a2 y.vir.length c2, .slice a3 y.abv.length c3] :=
  ⟨_, _, _, rfl, hf.mono (fun _ q => ⟨q.1, q.2.1⟩), hg.sl, ha.mono (fun _ q => ⟨q.1, q.2.1⟩)⟩
/-- The states between the rules. -/
theorem st2_gp {p : Pg} (h : (st2 p).1 = 0) : (∀ i, i < p.cls.length → bad1 p i = false) ∧ (∀ i, i < p.cls.length → bad2 p i = false) ∧ st2 p = (0, 0) := by
  unfold st2 at h ⊢
  obtain ⟨q1, q2, q3⟩ := runJ_ok (by decide) h
  obtain ⟨r1, r2, r3⟩ := runJ_ok (by decide) q1
  exact ⟨r3, q3, q2.trans r2⟩
theorem st5_gp {p : Pg} (h : (st5 p).1 = 0) : Gp p := by
  unfold st5 at h
  split at h
  · rename_i h2
    obtain ⟨g1, g2, g3⟩ := st2_gp h2
    obtain ⟨q1, q2, q3⟩ := runJ_ok (by decide) h
    obtain ⟨r1, r2, r3⟩ := runJ_ok (by decide) q1
    obtain ⟨t1, t2, t3⟩ := runJ_ok (by decide) r1
    exact gp_ok g1 g2 t3
  · rename_i h2; exact absurd h h2
theorem st6_gp {p : Pg} (h : (runJ (bad6 p) 1507 (st5 p) p.cls.length).1 = 0) : Gp p := st5_gp (runJ_ok (by decide) h).1
end Go.Proofs.YtbdfpodglfpjnaaGreat
/- The document's own Load: the walk. -/
namespace Go.Proofs.YtbdfpodglfpjnaaGreat
open Go.RowKit

attribute [local go_sem ↓] app_Y
theorem bel_bx {w W u : World} (h : Below w.heap.size w W) (hb : Bx (w.heap.size + 1) W u) : Below w.heap.size w u := ⟨hb.os.trans h.os, hb.tape.trans h.tape, hb.output.trans h.output, Nat.le_trans h.size hb.size, fun k hk => (hb.block k (Nat.lt_of_lt_of_le hk h.size) (by omega)).trans (h.block k hk)⟩
end Go.Proofs.YtbdfpodglfpjnaaGreat
