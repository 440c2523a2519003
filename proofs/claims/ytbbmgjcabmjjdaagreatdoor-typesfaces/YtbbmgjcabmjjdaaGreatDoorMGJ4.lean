/- The document's own Load: named; Of. -/
import Derived.Test.YtbbmgjcabmjjdaaGreatDoorMJSig
namespace Go.Proofs.YtbbmgjcabmjjdaaGreatDoor
open Go.RowKit

set_option maxHeartbeats 4000000 in
set_option maxRecDepth 20000 in
theorem jnamed_ok {S : Nat → Prop} {v : Value} {fs : List Fd} {w : World} (h : Sl kFd w S v fs) (hn : fs.length ≤ 1048576) : Calls Tryz.prog 47 #[v] w fun e w' => e = .returned (.bool (namedJ fs)) ∧ ∃ m, w' = w.drewN m := by
  obtain ⟨R, hR⟩ : ∃ R, namedJ fs = R := ⟨_, rfl⟩
  have HR : Hid (pairJ (fun x y => eqB x.nm y.nm) fs fs.length = R) := hR
  rw [hR]
  clear hR
  have hA2 := h
  obtain ⟨aa, ca, rfl, -, -⟩ := hA2
  have HC : Hid (∀ (i : Nat) (x : Fd), fs[i]? = some x → (∃ b o, aa = some ⟨b, o, none⟩ ∧ w.cell? ⟨b, o + i * 2, none⟩ = some (.string x.nm))) := fun i x hx => h.fnm hx
  clear h
  go_enter Tryz.func47, Tryz.ntmps47
  go_wp2
  go_loopg [3] (fs.length + 1) (fun kx s3 wr => ∃ i : Nat, s3 = .int .i64 i ∧ i ≤ fs.length ∧ fs.length - i ≤ kx ∧ Hid (∃ m, wr = w.drewN m) ∧ Hid (pairJ (fun x y : Fd => eqB x.nm y.nm) fs i = false))
  case atStart => exact ⟨0, rfl, by omega, by omega, ⟨0, rfl⟩, rfl⟩
  case round =>
    obtain ⟨i, rfl, hi, hk, HL, HT⟩ := hrel
    by_cases hlt : i < fs.length
    · have hl2 : (i : Int) < (fs.length : Int) := by omega
      obtain ⟨x, hx⟩ : ∃ c, fs[i]? = some c := ⟨_, List.getElem?_eq_getElem hlt⟩
      have HX : Hid (fs[i]? = some x) := hx
      clear hx
      go_wp2
      go_loopg [4] (i + 1) (fun kx s4 wr => ∃ j : Nat, s4 = .int .i64 j ∧ j ≤ i ∧ i - j ≤ kx ∧ Hid (∃ m, wr = w.drewN m) ∧ Hid (rowJ (fun x y : Fd => eqB x.nm y.nm) fs i j = false))
      case atStart => exact ⟨0, rfl, by omega, by omega, HL.out, rfl⟩
      case round =>
        obtain ⟨j, rfl, hj, hkj, HL2, HT2⟩ := hrel
        clear HL
        obtain ⟨m, rfl⟩ := HL2.out
        clear HL2
        by_cases hjl : j < i
        · have hl3 : (j : Int) < (i : Int) := by omega
          have hl4 : (j : Int) < (fs.length : Int) := by omega
          obtain ⟨y, hy⟩ : ∃ c, fs[j]? = some c := ⟨_, List.getElem?_eq_getElem (by omega)⟩
          obtain ⟨b1, o1, rfl, a0⟩ := HC.out i x HX.out
          obtain ⟨b2, o2, he, b0⟩ := HC.out j y hy
          injection he with he
          injection he with he1 he2
          subst he1 he2
          have HA : Hid _ := atJ_eq (eq := fun x y : Fd => eqB x.nm y.nm) HX.out hy
          clear HC hy
          rcases hxy : eqB x.nm y.nm with _ | _
          · have e1 : (x.nm.toList == y.nm.toList) = false := by rw [eqB_list]; exact hxy
            have HE : Hid (rowJ (fun x y : Fd => eqB x.nm y.nm) fs i (j + 1) = false) := by show _ = _; rw [rowJ_succ, HT2.out, HA.out, hxy]; rfl
            clear hxy HA HT2
            go_wp2_with (fail)
            go_quiet (fail)
            go_wp2
            go_roundg (i - (j + 1))
            case measure => omega
            case rel => exact ⟨j + 1, by go_num, by omega, by omega, ⟨_, by first | rfl | exact drewN_two _ _ _⟩, HE.out⟩
          · have e1 : (x.nm.toList == y.nm.toList) = true := by rw [eqB_list]; exact hxy
            have HE : Hid (R = true) := by show _ = _; rw [← HR.out]; exact pairJ_hit (rowJ_hit (HA.out.trans hxy) hjl) hlt
            clear hxy HA HT2 HR
            go_wp2_with (fail)
            go_quiet (fail)
            go_wp2
            go_ret
            exact ⟨by rw [HE.out]; rfl, _, drewN_two _ _ _⟩
        · have hj2 : j = i := by omega
          subst hj2
          have hl3 : ¬ (j : Int) < (j : Int) := by omega
          have HE : Hid (pairJ (fun x y : Fd => eqB x.nm y.nm) fs (j + 1) = false) := by show _ = _; rw [pairJ_succ, HT.out, HT2.out]; rfl
          clear HT HT2
          go_wp2
          go_roundg (fs.length - (j + 1))
          case measure => omega
          case rel => exact ⟨j + 1, by go_num, by omega, by omega, ⟨_, rfl⟩, HE.out⟩
    · have hn2 : i = fs.length := by omega
      subst hn2
      have hl : ¬ ((fs.length : Nat) : Int) < ((fs.length : Nat) : Int) := by omega
      have HE : Hid (R = false) := by show _ = _; rw [← HR.out]; exact HT.out
      clear HC
      go_wp2
      go_ret
      exact ⟨by rw [HE.out]; rfl, HL.out⟩

/-- Entries and layouts as they lie in memory. -/
def kEnb (u : Bool) : Kd En where
  uf := u
  k := 5
  pos := by decide
  R := fun w S x cs => ∃ v1, cs = [.string x.nm, v1, .int .i64 x.ret, .int .i64 x.cl, .int .i64 x.me] ∧ Sl (kIb u) w S v1 x.args
  len := by rintro _ _ _ _ ⟨_, rfl, _⟩; rfl
  one := by
    rintro _ _ _ _ ⟨_, rfl, h1⟩ u hu
    simp at hu
    rcases hu with rfl | rfl | rfl | rfl | rfl
    · rfl
    · exact h1.one
    · rfl
    · rfl
    · rfl
  keep := by rintro _ _ _ _ _ e ⟨_, rfl, h1⟩; exact ⟨_, rfl, h1.keep e⟩
  mono := by rintro _ _ _ _ _ e ⟨_, rfl, h1⟩; exact ⟨_, rfl, h1.mono e⟩
abbrev kEn := kEnb false
abbrev kEnU := kEnb true
theorem soft_En {w : World} {S : Nat → Prop} {v : Value} {xs : List En} (h : Sl kEnU w S v xs) : Sl kEn w S v xs := Sl.soft (K := kEnU) (fun _ _ ⟨_, e, h1⟩ => ⟨_, e, soft_I h1⟩) rfl rfl h
def kLyb (u : Bool) : Kd Ly where
  uf := u
  k := 4
  pos := by decide
  R := fun w S x cs => ∃ v1 v2 v3, cs = [v1, .int .i64 x.off, v2, v3] ∧ Sl (kFdb u) w S v1 x.flds ∧ Sl (kEnb u) w S v2 x.vir ∧ Sl (kIb u) w S v3 x.abv
  len := by rintro _ _ _ _ ⟨_, _, _, rfl, _⟩; rfl
  one := by
    rintro _ _ _ _ ⟨_, _, _, rfl, h1, h2, h3⟩ u hu
    simp at hu
    rcases hu with rfl | rfl | rfl | rfl
    · exact h1.one
    · rfl
    · exact h2.one
    · exact h3.one
  keep := by rintro _ _ _ _ _ e ⟨_, _, _, rfl, h1, h2, h3⟩; exact ⟨_, _, _, rfl, h1.keep e, h2.keep e, h3.keep e⟩
  mono := by rintro _ _ _ _ _ e ⟨_, _, _, rfl, h1, h2, h3⟩; exact ⟨_, _, _, rfl, h1.mono e, h2.mono e, h3.mono e⟩
abbrev kLy := kLyb false
abbrev kLyU := kLyb true
def ofI (r : Option Nat) : Int := match r with
  | some i => (i : Int)
  | none => -1
theorem idx_none {es : List En} {f : En → Bool} (h : (es.take es.length).findIdx? f = none) : es.findIdx? f = none := by rw [List.take_length] at h; exact h
theorem idx_on {es : List En} {f : En → Bool} {i : Nat} {e : En} (h : (es.take i).findIdx? f = none) (he : es[i]? = some e) : (f e = false → (es.take (i + 1)).findIdx? f = none) ∧ (f e = true → es.findIdx? f = some i) := by
  refine ⟨fun hf => ?_, fun hf => ?_⟩
  · rw [List.take_add_one, he]
    simp [List.findIdx?_append, h, hf]
  · have hi : i < es.length := (List.getElem?_eq_some_iff.1 he).1
    have e2 : es = es.take i ++ e :: es.drop (i + 1) := by
      rw [← (List.getElem?_eq_some_iff.1 he).2, List.getElem_cons_drop hi, List.take_append_drop]
    rw [e2, List.findIdx?_append, h]
    simp [List.findIdx?_cons, hf]; omega

set_option maxHeartbeats 4000000 in
set_option maxRecDepth 20000 in
theorem jOf_ok {S Sb : Nat → Prop} {v vb : Value} {es : List En} {args : List Int} {w : World} (h : Sl kEn w S v es) (hn : es.length ≤ 1073741824) (nm : ByteArray) (hB : Sl kI w Sb vb args) (ret : Int) : Calls Tryz.prog 50 #[v, .string nm, vb, .int .i64 ret] w fun e w' => e = .returned (.int .i64 (ofI (OfJ es nm args ret))) ∧ ∃ m, w' = w.drewN m := by
  obtain ⟨R, hR⟩ : ∃ R, OfJ es nm args ret = R := ⟨_, rfl⟩
  have HR : Hid (es.findIdx? (fun e => likeJ e.nm e.args e.ret nm args ret) = R) := hR
  rw [hR]
  clear hR
  have hA2 := h
  obtain ⟨aa, ca, rfl, -, -⟩ := hA2
  have HC : Hid (∀ (i : Nat) (x : En), es[i]? = some x → (∃ b o v1, aa = some ⟨b, o, none⟩ ∧ w.cell? ⟨b, o + i * 5, none⟩ = some (.string x.nm) ∧ w.cell? ⟨b, o + i * 5 + 1, none⟩ = some v1 ∧ w.cell? ⟨b, o + i * 5 + 2, none⟩ = some (.int .i64 x.ret) ∧ Sl kI w S v1 x.args)) := fun i x hx => by
    obtain ⟨b, o, e, -, cs, ⟨v1, rfl, hv1⟩, hc⟩ := h.atJ hx
    refine ⟨b, o, v1, e, ?_, ?_, ?_, hv1⟩
    · have := hc 0 _ rfl
      rw [show kEn.k = 5 from rfl, show o + (i * 5 + 0) = o + i * 5 by omega] at this; exact this
    · have := hc 1 _ rfl
      rw [show kEn.k = 5 from rfl, show o + (i * 5 + 1) = o + i * 5 + 1 by omega] at this; exact this
    · have := hc 2 _ rfl
      rw [show kEn.k = 5 from rfl, show o + (i * 5 + 2) = o + i * 5 + 2 by omega] at this; exact this
  have HB : Hid (Sl kI w Sb vb args) := hB
  obtain ⟨ab, cb, rfl, -⟩ := hB
  clear h
  go_enter Tryz.func50, Tryz.ntmps50
  go_wp2
  go_loopg [9] (es.length + 1) (fun kx s9 wr => ∃ i : Nat, s9 = .int .i64 i ∧ i ≤ es.length ∧ es.length - i ≤ kx ∧ Hid (∃ m, wr = w.drewN m) ∧ Hid ((es.take i).findIdx? (fun e => likeJ e.nm e.args e.ret nm args ret) = none))
  case atStart => exact ⟨0, rfl, by omega, by omega, ⟨0, rfl⟩, by show _ = _; simp⟩
  case round =>
    obtain ⟨i, rfl, hi, hk, HL, HT⟩ := hrel
    by_cases hlt : i < es.length
    · have hl2 : (i : Int) < (es.length : Int) := by omega
      obtain ⟨x, hx⟩ : ∃ c, es[i]? = some c := ⟨_, List.getElem?_eq_getElem hlt⟩
      obtain ⟨b1, o1, v1, rfl, a0, a1, a2, hv1⟩ := HC.out i x hx
      have HQ : Hid _ := idx_on HT.out hx
      obtain ⟨m, hm⟩ := HL.out
      have hq : ∀ b : Nat, wr.heap[b]? = w.heap[b]? := fun b => by rw [hm]; rfl
      have HLk : Hid (∀ n, Calls Tryz.prog 48 #[.string x.nm, v1, .int .i64 x.ret, .string nm, .slice ab args.length cb, .int .i64 ret] (wr.drewN n) fun e w' => e = .returned (.bool (likeJ x.nm x.args x.ret nm args ret)) ∧ ∃ m, w' = (wr.drewN n).drewN m) := fun n => jlike_ok _ _ _ _ (hv1.keep (fun b _ => hq b)) (HB.out.keep (fun b _ => hq b))
      have q0 := (cell_same (hq b1) (o1 + i * 5)).trans a0
      have q1 := (cell_same (hq b1) (o1 + i * 5 + 1)).trans a1
      have q2 := (cell_same (hq b1) (o1 + i * 5 + 2)).trans a2
      obtain ⟨fa, fc, rfl⟩ : ∃ fa fc, v1 = .slice fa x.args.length fc := by obtain ⟨a, c, e, -⟩ := hv1; exact ⟨a, c, e⟩
      have HM : Hid (wr = w.drewN m) := hm
      clear HC hx hq a0 a1 a2 hv1 hm HL
      rcases hxy : likeJ x.nm x.args x.ret nm args ret with _ | _
      · rw [hxy] at HLk
        have HE : Hid _ := HQ.out.1 hxy
        clear hxy
        go_wp2_with (fail)
        go_quiet ((go_at_call 48; exact Calls.quiet_of (HLk.out _)))
        go_wp2
        go_roundg (es.length - (i + 1))
        case measure => omega
        case rel => exact ⟨i + 1, by go_num, by omega, by omega, by rw [HM.out]; exact ⟨_, drewN_two _ _ _⟩, HE.out⟩
      · rw [hxy] at HLk
        have HE : Hid (R = some i) := by show _ = _; rw [← HR.out]; exact HQ.out.2 hxy
        clear hxy
        go_wp2_with (fail)
        go_quiet ((go_at_call 48; exact Calls.quiet_of (HLk.out _)))
        go_wp2
        go_ret
        exact ⟨by rw [HE.out]; rfl, by rw [HM.out]; exact ⟨_, drewN_two _ _ _⟩⟩
    · have hn2 : i = es.length := by omega
      subst hn2
      have hl : ¬ ((es.length : Nat) : Int) < ((es.length : Nat) : Int) := by omega
      have HE : Hid (R = none) := by show _ = _; rw [← HR.out]; exact idx_none HT.out
      clear HC
      go_wp2
      go_ret
      exact ⟨by rw [HE.out]; rfl, HL.out⟩
end Go.Proofs.YtbbmgjcabmjjdaaGreatDoor
/- The document's own Load: twice. -/
namespace Go.Proofs.YtbbmgjcabmjjdaaGreatDoor
open Go.RowKit

theorem cell_of_box2 {u : World} {b j : Nat} {row : Array Value} {T : TypeId} {fr : Nat × Nat} {v : Value} (h : u.heap[b]? = some (.cells row T fr)) (hr : row[j]? = some v) : u.cell? ⟨b, j, none⟩ = some v := by simp [World.cell?, h, hr]
theorem JK.drew {w : World} {cb : Nat} {p : Pg} {S : Nat → Prop} {v : Value} {s : Fs} {kb : Nat} {c : Cs} {f1 f2 f3 f4 : Option Addr} {g1 g2 g3 g4 : Nat} (h : JK w cb p S v s kb c f1 f2 f3 f4 g1 g2 g3 g4) {w' : World} (hm : ∃ m, w' = w.drewN m) : JK w' cb p S v s kb c f1 f2 f3 f4 g1 g2 g3 g4 ∧ Below w.heap.size w w' := by
  obtain ⟨m, rfl⟩ := hm
  exact ⟨h.below (below_drewN _ _ _), below_drewN _ _ _⟩
set_option maxHeartbeats 16000000 in
set_option maxRecDepth 20000 in
theorem jtwice_ok {w : World} {cb : Nat} {p : Pg} {S : Nat → Prop} {v : Value} {s : Fs} (h : Jc w cb p S v s) : Calls Tryz.prog 20 #[.pointer (some ⟨cb, 0, none⟩)] w fun e w' => e = .returned (.tuple #[]) ∧ Jc w' cb p S v (runJ (bad5 p) 1503 s p.cls.length) ∧ Bx cb w w' := by
  have H0 : Hid (Jc w cb p S v s) := h
  have hn := h.ok.n
  clear h
  go_enter Tryz.func20, Tryz.ntmps20
  go_wp2
  go_loopg [2] (p.cls.length + 1) (fun kx s2 wr => ∃ i : Nat, s2 = .int .i64 i ∧ i ≤ p.cls.length ∧ p.cls.length - i ≤ kx ∧ Hid (Jc wr cb p S v (runJ (bad5 p) 1503 s i)) ∧ Hid (Bx cb w wr))
  case atStart => exact ⟨0, rfl, by omega, by omega, H0.out, Bx.refl _ _⟩
  case round =>
    obtain ⟨i, rfl, hi, hk, HJ, HB⟩ := hrel
    clear H0
    by_cases hlt : i < p.cls.length
    · obtain ⟨sb, so, cap, f1, f2, f3, f4, g1, g2, g3, g4, hv, ⟨t0, t1, t2, t3, t4, t5, t6, t7⟩, HU⟩ := HJ.out.cls hlt
      subst hv
      have c1 := HJ.out.c1
      have hl : (i : Int) < (p.cls.length : Int) := by omega
      have HR : Hid (runJ (bad5 p) 1503 s (i + 1) = ftJ (runJ (bad5 p) 1503 s i) (bad5 p i) 1503 (11 + (i : Int))) := rfl
      have HBD : Hid (bad5 p i = ((namedJ (ofJ p (11 + i)).flds || namedJ (ofJ p (11 + i)).stcs) || pairJ likeM (ofJ p (11 + i)).mds (ofJ p (11 + i)).mds.length)) := rfl
      have HOK : Hid (OkC (ofJ p (11 + (i : Int)))) := badOk HJ.out.ok (user_of hlt).2.1
      generalize ofJ p (11 + (i : Int)) = c at *
      generalize runJ (bad5 p) 1503 s i = s1 at *
      go_upto_region 4 with (fail)
      have hKx := HU.out; generalize wr.alloc (.cells #[.string c.nm, .bool c.face, .bool c.fin, .int .i64 c.sup, .slice f1 c.faces.length g1, .slice f2 c.flds.length g2, .slice f3 c.stcs.length g3, .slice f4 c.mds.length g4] 34) = y0 at hKx ⊢; have HB2 : Hid (Bx cb w y0) := HB.out.low hKx.2; replace hKx := hKx.1; obtain ⟨kb, hkb⟩ : ∃ kb, kb = wr.heap.size := ⟨_, rfl⟩; rw [← hkb] at hKx ⊢; have HK : Hid _ := hKx; clear hKx hkb HU HB
      generalize Value.agg #[.string c.nm, .bool c.face, .bool c.fin, .int .i64 c.sup, .slice f1 c.faces.length g1, .slice f2 c.flds.length g2, .slice f3 c.stcs.length g3, .slice f4 c.mds.length g4] = V25
      clear t0 t1 t2 t3 t4 t5 t6 t7 c1 HJ
      have n7 := HOK.out.nmds
      obtain ⟨-, -, -, -, k5, k6, -⟩ := HK.out.cells
      have hN1 := jnamed_ok HK.out.bc.s2 (Nat.le_trans HOK.out.nflds (by decide))
      obtain ⟨B1, hB1⟩ : ∃ B, (namedJ c.flds || namedJ c.stcs) = B := ⟨_, rfl⟩
      have HT0 : Hid ((namedJ c.flds || namedJ c.stcs) = B1) := hB1
      rw [hB1] at HBD
      clear hB1
      go_upto_region 5 with (fail)
      go_cut [] from 29 to 39 (fun wx => ∃ u2 : World, u2 = wx ∧ Hid (JK u2 cb p S (.slice (some ⟨sb, so, none⟩) p.cls.length cap) (ftJ s1 B1 1503 (11 + (i : Int))) kb c f1 f2 f3 f4 g1 g2 g3 g4) ∧ Hid (Bx cb w u2))
      case first =>
        rcases e1 : namedJ c.flds with _ | _
        · rw [e1] at hN1
          have HE : Hid (B1 = namedJ c.stcs) := by show _ = _; rw [← HT0.out, e1]; rfl
          go_wp2_with (first
            | (go_at_call 47; refine hN1.mono ?_; rintro e u1 ⟨rfl, hm1⟩; have HK1 : Hid _ := (HK.out.drew hm1).1; have HB1 : Hid (Bx cb w u1) := HB2.out.low (HK.out.drew hm1).2; have hN2 := jnamed_ok HK1.out.bc.s3 HOK.out.nstcs; obtain ⟨-, -, -, -, -, m6, -⟩ := HK1.out.cells; clear hN1 hm1 k5 k6)
            | (go_at_call 47; refine hN2.mono ?_; rintro e u2 ⟨rfl, hm2⟩; have HK2 : Hid _ := (HK1.out.drew hm2).1; have HB3 : Hid (Bx cb w u2) := HB1.out.low (HK1.out.drew hm2).2; clear hN2 hm2)
            | (go_at_call 42; refine (jfault_ok HK2.out.jc _ _ _).mono ?_; rintro e u3 ⟨rfl, hj2, hbx⟩; have HK3 : Hid _ := HK2.out.bx hbx hj2; have HB4 : Hid (Bx cb w u3) := HB3.out.trans hbx; clear hj2 hbx))
          go_meet
          exact ⟨_, rfl, by rw [HE.out]; exact HK3.out, HB4.out⟩
        · rw [e1] at hN1
          have HE : Hid (B1 = true) := by show _ = _; rw [← HT0.out, e1]; rfl
          go_wp2_with (first
            | (go_at_call 47; refine hN1.mono ?_; rintro e u1 ⟨rfl, hm1⟩; have HK1 : Hid _ := (HK.out.drew hm1).1; have HB1 : Hid (Bx cb w u1) := HB2.out.low (HK.out.drew hm1).2; clear hN1 hm1 k5 k6)
            | (go_at_call 42; refine (jfault_ok HK1.out.jc _ _ _).mono ?_; rintro e u3 ⟨rfl, hj2, hbx⟩; have HK3 : Hid _ := HK1.out.bx hbx hj2; have HB4 : Hid (Bx cb w u3) := HB1.out.trans hbx; clear hj2 hbx))
          go_meet
          exact ⟨_, rfl, by rw [HE.out]; exact HK3.out, HB4.out⟩
      case rest =>
      obtain ⟨u2, hu2, HK3, HB3⟩ := hcut
      subst hu2
      clear k5 k6 HK HB2 HT0 hN1
      go_wp2_with (fail)
      go_loopg [5] (c.mds.length + 1) (fun kx s5 wr => ∃ a : Nat, s5 = .int .i64 a ∧ a ≤ c.mds.length ∧ c.mds.length - a ≤ kx ∧ Hid (JK wr cb p S (.slice (some ⟨sb, so, none⟩) p.cls.length cap) (ftJ s1 (B1 || pairJ likeM c.mds a) 1503 (11 + (i : Int))) kb c f1 f2 f3 f4 g1 g2 g3 g4) ∧ Hid (Bx cb w wr))
      case atStart => exact ⟨0, rfl, by omega, by omega, by rw [show pairJ likeM c.mds 0 = false from rfl, Bool.or_false]; exact HK3.out, HB3.out⟩
      case round =>
        obtain ⟨a, rfl, ha, hka, HJK, HB⟩ := hrel
        clear HK3 HB3
        obtain ⟨-, -, -, -, -, -, k7⟩ := HJK.out.cells
        by_cases hal : a < c.mds.length
        · have hl2 : (a : Int) < (c.mds.length : Int) := by omega
          obtain ⟨x, hx⟩ : ∃ c1, c.mds[a]? = some c1 := ⟨_, List.getElem?_eq_getElem hal⟩
          have HX : Hid (c.mds[a]? = some x) := hx
          clear hx
          go_wp2_with (fail)
          go_loopg [6] (a + 1) (fun kx s6 wr => ∃ b : Nat, s6 = .int .i64 b ∧ b ≤ a ∧ a - b ≤ kx ∧ Hid (JK wr cb p S (.slice (some ⟨sb, so, none⟩) p.cls.length cap) (ftJ s1 ((B1 || pairJ likeM c.mds a) || rowJ likeM c.mds a b) 1503 (11 + (i : Int))) kb c f1 f2 f3 f4 g1 g2 g3 g4) ∧ Hid (Bx cb w wr))
          case atStart => exact ⟨0, rfl, by omega, by omega, by rw [show rowJ likeM c.mds a 0 = false from rfl, Bool.or_false]; exact HJK.out, HB.out⟩
          case round =>
            obtain ⟨b, rfl, hb, hkb2, HJ2, HB2⟩ := hrel
            clear HJK HB k7
            obtain ⟨-, -, -, -, -, -, k7⟩ := HJ2.out.cells
            by_cases hbl : b < a
            · have hl3 : (b : Int) < (a : Int) := by omega
              have hl4 : (b : Int) < (c.mds.length : Int) := by omega
              obtain ⟨y, hy⟩ : ∃ c1, c.mds[b]? = some c1 := ⟨_, List.getElem?_eq_getElem (by omega)⟩
              obtain ⟨mb, mo, d1, d2, d3, d4, h1, h2, h3, h4, hf4, ⟨t0, t1, t2, t3, t4, t5, t6, t7, t8⟩, q1, -⟩ := mth_at HJ2.out.bc.s4 HJ2.out.jc.low HX.out
              subst hf4
              obtain ⟨mb', mo', e1, e2, e3, e4, r1, r2, r3, r4, hf5, ⟨y0, y1, y2, y3, y4, y5, y6, y7, y8⟩, q2, -⟩ := mth_at HJ2.out.bc.s4 HJ2.out.jc.low hy
              injection hf5 with hf5
              injection hf5 with hf6 hf7
              subst hf6 hf7
              have HA : Hid (rowJ likeM c.mds a (b + 1) = (rowJ likeM c.mds a b || likeM x y)) := by show _ = _; rw [rowJ_succ, atJ_eq HX.out hy]
              have HQ1 : Hid (Sl kI wr S (.slice d1 x.args.length h1) x.args) := q1
              have HQ2 : Hid (Sl kI wr S (.slice e1 y.args.length r1) y.args) := q2
              have hnk := World.new_ne wr _ k7
              have hnm := World.new_ne wr _ t0
              have hkl := HJ2.out.lt
              have hml := cell_lt t0
              clear hy q1 q2
              go_upto_region 12 with (fail)
              go_cut [7, 8] from 52 to 61 (fun s7 s8 wc => ∃ bx by_ : Nat, s7 = .pointer (some ⟨bx, 0, none⟩) ∧ s8 = .pointer (some ⟨by_, 0, none⟩) ∧ Hid (bx ≠ by_ ∧ wc.heap[bx]? = some (.cells #[.string x.nm, .bool x.stc, .slice d1 x.args.length h1, .int .i64 x.ret, .int .i64 x.lo, .int .i64 x.st, .slice d2 x.code.length h2, .slice d3 x.tab.length h3, .slice d4 x.maps.length h4] 30 (0, 0)) ∧ wc.heap[by_]? = some (.cells #[.string y.nm, .bool y.stc, .slice e1 y.args.length r1, .int .i64 y.ret, .int .i64 y.lo, .int .i64 y.st, .slice e2 y.code.length r2, .slice e3 y.tab.length r3, .slice e4 y.maps.length r4] 30 (0, 0)) ∧ Below wr.heap.size wr wc))
              case first =>
                go_region_held3 (fun w' => w'.cell? ⟨kb, 7, none⟩ = some (.slice (some ⟨mb, mo, none⟩) c.mds.length g4) ∧ w'.cell? ⟨mb, mo + a * 9, none⟩ = some (.string x.nm) ∧ w'.cell? ⟨mb, mo + a * 9 + 1, none⟩ = some (.bool x.stc) ∧ w'.cell? ⟨mb, mo + a * 9 + 2, none⟩ = some (.slice d1 x.args.length h1) ∧ w'.cell? ⟨mb, mo + a * 9 + 3, none⟩ = some (.int .i64 x.ret) ∧ w'.cell? ⟨mb, mo + a * 9 + 4, none⟩ = some (.int .i64 x.lo) ∧ w'.cell? ⟨mb, mo + a * 9 + 5, none⟩ = some (.int .i64 x.st) ∧ w'.cell? ⟨mb, mo + a * 9 + 6, none⟩ = some (.slice d2 x.code.length h2) ∧ w'.cell? ⟨mb, mo + a * 9 + 7, none⟩ = some (.slice d3 x.tab.length h3) ∧ w'.cell? ⟨mb, mo + a * 9 + 8, none⟩ = some (.slice d4 x.maps.length h4) ∧ w'.cell? ⟨mb, mo + b * 9, none⟩ = some (.string y.nm) ∧ w'.cell? ⟨mb, mo + b * 9 + 1, none⟩ = some (.bool y.stc) ∧ w'.cell? ⟨mb, mo + b * 9 + 2, none⟩ = some (.slice e1 y.args.length r1) ∧ w'.cell? ⟨mb, mo + b * 9 + 3, none⟩ = some (.int .i64 y.ret) ∧ w'.cell? ⟨mb, mo + b * 9 + 4, none⟩ = some (.int .i64 y.lo) ∧ w'.cell? ⟨mb, mo + b * 9 + 5, none⟩ = some (.int .i64 y.st) ∧ w'.cell? ⟨mb, mo + b * 9 + 6, none⟩ = some (.slice e2 y.code.length r2) ∧ w'.cell? ⟨mb, mo + b * 9 + 7, none⟩ = some (.slice e3 y.tab.length r3) ∧ w'.cell? ⟨mb, mo + b * 9 + 8, none⟩ = some (.slice e4 y.maps.length r4)) (go_keep) (fail)
                · go_wp2_with (fail)
                  go_meet
                  exact ⟨wr.heap.size, wr.heap.size + 1, rfl, rfl, box2 wr _ _⟩
                · go_wp2_with (fail)
                  go_meet
                  exact ⟨wr.heap.size + 1, wr.heap.size, rfl, rfl, box2' wr _ _⟩
              case rest =>
              obtain ⟨bx, by_, rfl, rfl, HXY⟩ := hcut
              have hX := HXY.out.2.1
              have hY := HXY.out.2.2.1
              have HBW : Hid (Below wr.heap.size wr wc) := HXY.out.2.2.2
              have x0 : wc.cell? ⟨bx, 0, none⟩ = some (.string x.nm) := cell_of_box2 hX rfl
              have x2 : wc.cell? ⟨bx, 2, none⟩ = some (.slice d1 x.args.length h1) := cell_of_box2 hX rfl
              have x3 : wc.cell? ⟨bx, 3, none⟩ = some (.int .i64 x.ret) := cell_of_box2 hX rfl
              have z0 : wc.cell? ⟨by_, 0, none⟩ = some (.string y.nm) := cell_of_box2 hY rfl
              have z2 : wc.cell? ⟨by_, 2, none⟩ = some (.slice e1 y.args.length r1) := cell_of_box2 hY rfl
              have z3 : wc.cell? ⟨by_, 3, none⟩ = some (.int .i64 y.ret) := cell_of_box2 hY rfl
              have HJ3 : Hid _ := HJ2.out.below HBW.out
              have HB3 : Hid (Bx cb w wc) := HB2.out.low HBW.out
              have hLk := jlike_ok x.nm y.nm x.ret y.ret (HQ1.out.keep (w' := wc) (fun b hb => HBW.out.block b (HJ2.out.jc.low b hb))) (HQ2.out.keep (w' := wc) (fun b hb => HBW.out.block b (HJ2.out.jc.low b hb)))
              clear t0 t1 t2 t3 t4 t5 t6 t7 t8 y0 y1 y2 y3 y4 y5 y6 y7 y8 k7 hX hY HXY hnk hnm hkl hml HQ1 HQ2
              go_wp2_with (first
                | (go_at_call 48; refine hLk.mono ?_; rintro e u3 ⟨rfl, hm3⟩; have HJ4 : Hid _ := (HJ3.out.drew hm3).1; have HB4 : Hid (Bx cb w u3) := HB3.out.low (HJ3.out.drew hm3).2; clear hLk hm3 HJ3 HB3 HJ2 HB2 HBW)
                | (go_at_call 42; refine (jfault_ok HJ4.out.jc _ _ _).mono ?_; rintro e u4 ⟨rfl, hj2, hbx⟩; have HJ5 : Hid _ := HJ4.out.bx hbx hj2; have HB5 : Hid (Bx cb w u4) := HB4.out.trans hbx; clear hj2 hbx HJ4 HB4))
              go_roundg (a - (b + 1))
              case measure => omega
              case rel => exact ⟨b + 1, by go_num, by omega, by omega, by rw [HA.out, ← Bool.or_assoc, ← ftJ_or]; exact HJ5.out, HB5.out⟩
            · have hb2 : b = a := by omega
              subst hb2
              have hl3 : ¬ (b : Int) < (b : Int) := by omega
              have HK4 : Hid (JK wr cb p S (.slice (some ⟨sb, so, none⟩) p.cls.length cap) (ftJ s1 (B1 || pairJ likeM c.mds (b + 1)) 1503 (11 + (i : Int))) kb c f1 f2 f3 f4 g1 g2 g3 g4) := by have := HJ2.out; rw [Bool.or_assoc, ← pairJ_succ] at this; exact this
              clear HJ2
              go_wp2_with (fail)
              go_roundg (c.mds.length - (b + 1))
              case measure => omega
              case rel => exact ⟨b + 1, by go_num, by omega, by omega, HK4.out, HB2.out⟩
        · have ha2 : a = c.mds.length := by omega
          subst ha2
          have hl2 : ¬ ((c.mds.length : Nat) : Int) < ((c.mds.length : Nat) : Int) := by omega
          have HK2 : Hid (Jc wr cb p S (.slice (some ⟨sb, so, none⟩) p.cls.length cap) (runJ (bad5 p) 1503 s (i + 1))) := by show Jc _ _ _ _ _ _; rw [HR.out, HBD.out]; exact HJK.out.jc
          clear HJK
          go_wp2_with (fail)
          go_roundg (p.cls.length - (i + 1))
          case measure => omega
          case rel => exact ⟨i + 1, by go_num, by omega, by omega, HK2.out, HB.out⟩
    · have hn2 : i = p.cls.length := by omega
      subst hn2
      have hl : ¬ ((p.cls.length : Nat) : Int) < ((p.cls.length : Nat) : Int) := by omega
      obtain ⟨a, cap, hv, -⟩ := HJ.out.slice
      subst hv
      have c1 := HJ.out.c1
      go_wp2
      go_end0
      exact ⟨rfl, HJ.out, HB.out⟩
end Go.Proofs.YtbbmgjcabmjjdaaGreatDoor
/- The document's own Load: own. -/
namespace Go.Proofs.YtbbmgjcabmjjdaaGreatDoor
open Go.RowKit

theorem infoEn : (Tryz.prog.info? 79).map (·.size) = some 5 := by kernel_rfl
/-- An entry that was made since. -/
def OwP (m : Md) (k i : Int) (w : World) (e : Ending) (w' : World) : Prop := ∃ ao cap, e = .returned (.agg #[.string m.nm, .slice ao m.args.length cap, .int .i64 m.ret, .int .i64 k, .int .i64 i]) ∧ Sl kIU w' (fun b => w.heap.size ≤ b ∧ b < w'.heap.size) (.slice ao m.args.length cap) m.args ∧ Below w.heap.size w w'
attribute [local go_sem ↓] app_Y
set_option maxHeartbeats 4000000 in
set_option maxRecDepth 20000 in
theorem jown_ok {w : World} {S : Nat → Prop} {m : Md} {d1 d2 d3 d4 : Option Addr} {h1 h2 h3 h4 : Nat} (hA : Sl kI w S (.slice d1 m.args.length h1) m.args) (hS : ∀ k, S k → k < w.heap.size) (hn : m.args.length ≤ 1048576) (k i : Int) : Calls Tryz.prog 54 #[.agg #[.string m.nm, .bool m.stc, .slice d1 m.args.length h1, .int .i64 m.ret, .int .i64 m.lo, .int .i64 m.st, .slice d2 m.code.length h2, .slice d3 m.tab.length h3, .slice d4 m.maps.length h4], .int .i64 k, .int .i64 i] w (OwP m k i w) := by
  obtain ⟨i0, hi0, hz0, hz1, hz2⟩ := info_parts infoLI
  have HU : Hid (∀ U, U = (w.alloc (.cells #[.string m.nm, .bool m.stc, .slice d1 m.args.length h1, .int .i64 m.ret, .int .i64 m.lo, .int .i64 m.st, .slice d2 m.code.length h2, .slice d3 m.tab.length h3, .slice d4 m.maps.length h4] 30)).alloc (.cells #[.string ⟨#[]⟩, .slice none 0 0, .int .i64 0, .int .i64 0, .int .i64 0] 79) →
      U.heap[w.heap.size]? = some (.cells #[.string m.nm, .bool m.stc, .slice d1 m.args.length h1, .int .i64 m.ret, .int .i64 m.lo, .int .i64 m.st, .slice d2 m.code.length h2, .slice d3 m.tab.length h3, .slice d4 m.maps.length h4] 30 (0, 0)) ∧ U.heap[w.heap.size + 1]? = some (.cells #[.string ⟨#[]⟩, .slice none 0 0, .int .i64 0, .int .i64 0, .int .i64 0] 79 (0, 0)) ∧ U.heap.size = w.heap.size + 2 ∧ Below w.heap.size w U) := fun U hU => by
    subst hU
    have s1 : (w.alloc (.cells #[.string m.nm, .bool m.stc, .slice d1 m.args.length h1, .int .i64 m.ret, .int .i64 m.lo, .int .i64 m.st, .slice d2 m.code.length h2, .slice d3 m.tab.length h3, .slice d4 m.maps.length h4] 30)).heap.size = w.heap.size + 1 := by simp
    refine ⟨?_, ?_, by simp, ((Below.refl _ _).alloc (Nat.le_refl _) _).alloc (by omega) _⟩
    · rw [Below.heap_alloc _ _ _ (by omega)]; exact heap_alloc_new _ _
    · have := heap_alloc_new (w.alloc (.cells #[.string m.nm, .bool m.stc, .slice d1 m.args.length h1, .int .i64 m.ret, .int .i64 m.lo, .int .i64 m.st, .slice d2 m.code.length h2, .slice d3 m.tab.length h3, .slice d4 m.maps.length h4] 30)) (.cells #[.string ⟨#[]⟩, .slice none 0 0, .int .i64 0, .int .i64 0, .int .i64 0] 79)
      rw [s1] at this; exact this
  have HA : Hid (Sl kI w S (.slice d1 m.args.length h1) m.args) := hA
  have HS : Hid (∀ k, S k → k < w.heap.size) := hS
  clear hA hS
  go_enter Tryz.func54, Tryz.ntmps54
  go_upto_region 1 with (fail)
  have hUx := HU.out _ rfl
  generalize (w.alloc (.cells #[.string m.nm, .bool m.stc, .slice d1 m.args.length h1, .int .i64 m.ret, .int .i64 m.lo, .int .i64 m.st, .slice d2 m.code.length h2, .slice d3 m.tab.length h3, .slice d4 m.maps.length h4] 30)).alloc (.cells #[.string ⟨#[]⟩, .slice none 0 0, .int .i64 0, .int .i64 0, .int .i64 0] 79) = U at hUx ⊢
  obtain ⟨b0, b1, hsz, hbU⟩ := hUx
  obtain ⟨ao, cap, w2, hrun, hc⟩ := cpy_run (K := kI) (KU := kIU) (cl := clI) Tryz.underlying26 hi0 hz0 hz1 hz2 rfl (by decide) rfl (fun _ _ _ _ h => h) (fun _ _ _ => rfl) (by intro x u hu; simp [clI] at hu; rcases hu with rfl; rfl) (w := U.drew) (HA.out.keep (fun b hb => hbU.block b (HS.out b hb))) (by omega) (H := U.heap.size) rfl
  have hr : (appY #[26, 26] 26 #[.slice (some ⟨U.heap.size, 0, none⟩) 0 0, .slice d1 m.args.length h1]).run Tryz.prog (U.alloc (.cells #[] 3)).drew = .ok (.slice ao m.args.length cap) w2 := hrun
  have c0 : U.cell? ⟨w.heap.size, 0, none⟩ = some (.string m.nm) := by simp [World.cell?, b0]
  have c2 : U.cell? ⟨w.heap.size, 2, none⟩ = some (.slice d1 m.args.length h1) := by simp [World.cell?, b0]
  have c3 : U.cell? ⟨w.heap.size, 3, none⟩ = some (.int .i64 m.ret) := by simp [World.cell?, b0]
  have hw0 : w2.heap[w.heap.size]? = some (.cells #[.string m.nm, .bool m.stc, .slice d1 m.args.length h1, .int .i64 m.ret, .int .i64 m.lo, .int .i64 m.st, .slice d2 m.code.length h2, .slice d3 m.tab.length h3, .slice d4 m.maps.length h4] 30 (0, 0)) := (hc.1.block _ (by show _ < U.heap.size; omega)).trans b0
  have hw1 : w2.heap[w.heap.size + 1]? = some (.cells #[.string ⟨#[]⟩, .slice none 0 0, .int .i64 0, .int .i64 0, .int .i64 0] 79 (0, 0)) := (hc.1.block _ (by show _ < U.heap.size; omega)).trans b1
  have d0 : w2.cell? ⟨w.heap.size, 0, none⟩ = some (.string m.nm) := by simp [World.cell?, hw0]
  have d2' : w2.cell? ⟨w.heap.size, 2, none⟩ = some (.slice d1 m.args.length h1) := by simp [World.cell?, hw0]
  have d3' : w2.cell? ⟨w.heap.size, 3, none⟩ = some (.int .i64 m.ret) := by simp [World.cell?, hw0]
  have g0 : w2.cell? ⟨w.heap.size + 1, 0, none⟩ = some (.string ⟨#[]⟩) := by simp [World.cell?, hw1]
  have g1 : w2.cell? ⟨w.heap.size + 1, 1, none⟩ = some (.slice none 0 0) := by simp [World.cell?, hw1]
  have g2 : w2.cell? ⟨w.heap.size + 1, 2, none⟩ = some (.int .i64 0) := by simp [World.cell?, hw1]
  have g3 : w2.cell? ⟨w.heap.size + 1, 3, none⟩ = some (.int .i64 0) := by simp [World.cell?, hw1]
  have g4 : w2.cell? ⟨w.heap.size + 1, 4, none⟩ = some (.int .i64 0) := by simp [World.cell?, hw1]
  have fz : ∀ j, w2.frozen? ⟨w.heap.size + 1, j, none⟩ = false := fun j => by simp [World.frozen?, hw1]
  have z0 := fz 0
  have z1 := fz 1
  have z2 := fz 2
  have z3 := fz 3
  have z4 := fz 4
  have HW1 : Hid (w2.heap[w.heap.size + 1]? = some (.cells #[.string ⟨#[]⟩, .slice none 0 0, .int .i64 0, .int .i64 0, .int .i64 0] 79 (0, 0))) := hw1
  have HC : Hid (Cpd kIU U.drew m.args (.slice ao m.args.length cap) w2) := hc
  have HBU : Hid (Below w.heap.size w U ∧ U.heap.size = w.heap.size + 2) := ⟨hbU, hsz⟩
  have hlw : w.heap.size + 1 < w2.heap.size := (Array.getElem?_eq_some_iff.1 hw1).1
  clear hw0 hw1 hc hrun b0 b1 hsz hbU fz HU HA HS
  go_region_held3 (fun w' => w'.cell? ⟨w.heap.size, 0, none⟩ = some (.string m.nm) ∧ w'.cell? ⟨w.heap.size, 2, none⟩ = some (.slice d1 m.args.length h1) ∧ w'.cell? ⟨w.heap.size, 3, none⟩ = some (.int .i64 m.ret)) (go_keep) (fail)
  go_wp2_with (fail)
  have hb5 := hset (k := 4) (hset (k := 3) (hset (k := 2) (hset (k := 1) (hset (k := 0) HW1.out (.string m.nm)) (.slice ao m.args.length cap)) (.int .i64 m.ret)) (.int .i64 k)) (.int .i64 i)
  refine bodyPost_ret (results_cell_row rfl _ _ (w.heap.size + 1) 79 #[.string m.nm, .slice ao m.args.length cap, .int .i64 m.ret, .int .i64 k, .int .i64 i] (0, 0) _ rfl hb5 Tryz.underlying79 rfl infoEn) rfl ?_
  have hne : ∀ b, b ≠ w.heap.size + 1 → (((((w2.setCell ⟨w.heap.size + 1, 0, none⟩ (.string m.nm)).setCell ⟨w.heap.size + 1, 1, none⟩ (.slice ao m.args.length cap)).setCell ⟨w.heap.size + 1, 2, none⟩ (.int .i64 m.ret)).setCell ⟨w.heap.size + 1, 3, none⟩ (.int .i64 k)).setCell ⟨w.heap.size + 1, 4, none⟩ (.int .i64 i)).heap[b]? = w2.heap[b]? := fun b hb => by
    rw [Below.heap_setCell _ _ _ _ hb, Below.heap_setCell _ _ _ _ hb, Below.heap_setCell _ _ _ _ hb, Below.heap_setCell _ _ _ _ hb, Below.heap_setCell _ _ _ _ hb]
  have hc := HC.out
  have hbU := HBU.out.1
  have hsz := HBU.out.2
  have hc1 : Below U.heap.size U w2 := ⟨hc.1.os, hc.1.tape, hc.1.output, hc.1.size, hc.1.block⟩
  have hc2 := hc1.size
  have hz : (((((w2.setCell ⟨w.heap.size + 1, 0, none⟩ (.string m.nm)).setCell ⟨w.heap.size + 1, 1, none⟩ (.slice ao m.args.length cap)).setCell ⟨w.heap.size + 1, 2, none⟩ (.int .i64 m.ret)).setCell ⟨w.heap.size + 1, 3, none⟩ (.int .i64 k)).setCell ⟨w.heap.size + 1, 4, none⟩ (.int .i64 i)).heap.size = w2.heap.size := by simp [World.setCell]
  refine ⟨ao, cap, rfl, ?_, ?_⟩
  · refine (hc.2.keep (fun b hb => hne b (by have : U.heap.size ≤ b := hb.1; omega))).mono fun b hb => ⟨by have : U.heap.size ≤ b := hb.1; omega, by rw [hz]; exact hb.2⟩
  · exact ⟨hc1.os.trans hbU.os, hc1.tape.trans hbU.tape, hc1.output.trans hbU.output, by rw [hz]; omega, fun b hb => by rw [hne b (by omega), hc1.block b (by omega)]; exact hbU.block b hb⟩
end Go.Proofs.YtbbmgjcabmjjdaaGreatDoor
