/- The document's own Load: signs. -/
import Derived.Test.YtbbmgjcabmjjdaaGreatDoorMGJ2
namespace Go.Proofs.YtbbmgjcabmjjdaaGreatDoor
open Go.RowKit

theorem BoxM.bx {w : World} {S : Nat → Prop} {mb cb : Nat} {m : Md} {f1 f2 f3 f4 : Option Addr} {g1 g2 g3 g4 : Nat} (h : BoxM w S mb m f1 f2 f3 f4 g1 g2 g3 g4) {w' : World} (hb : Bx cb w w') (low : ∀ k, S k → k < w.heap.size) (far : ¬ S cb) (hne : cb ≠ mb) : BoxM w' S mb m f1 f2 f3 f4 g1 g2 g3 g4 :=
  h.keep (hb.block mb h.lt (fun e => hne e.symm)) (fun b hS => hb.block b (low b hS) (fun e => far (e ▸ hS)))
theorem Sl.fty {w : World} {S : Nat → Prop} {ao : Option Addr} {l cap : Nat} {xs : List Fd} (h : Sl kFd w S (.slice ao l cap) xs) {i : Nat} {x : Fd} (hx : xs[i]? = some x) : ∃ b o, ao = some ⟨b, o, none⟩ ∧ w.cell? ⟨b, o + i * 2 + 1, none⟩ = some (.int .i64 x.ty) := by
  obtain ⟨b, o, e, -, cs, rfl, hc⟩ := h.atJ hx
  refine ⟨b, o, e, ?_⟩
  have := hc 1 _ rfl
  rw [show kFd.k = 2 from rfl, show o + (i * 2 + 1) = o + i * 2 + 1 by omega] at this; exact this
theorem Sl.fnm {w : World} {S : Nat → Prop} {ao : Option Addr} {l cap : Nat} {xs : List Fd} (h : Sl kFd w S (.slice ao l cap) xs) {i : Nat} {x : Fd} (hx : xs[i]? = some x) : ∃ b o, ao = some ⟨b, o, none⟩ ∧ w.cell? ⟨b, o + i * 2, none⟩ = some (.string x.nm) := by
  obtain ⟨b, o, e, -, cs, rfl, hc⟩ := h.atJ hx
  refine ⟨b, o, e, ?_⟩
  have := hc 0 _ rfl
  rw [show kFd.k = 2 from rfl, show o + (i * 2 + 0) = o + i * 2 by omega] at this; exact this

set_option maxHeartbeats 16000000 in
set_option maxRecDepth 20000 in
theorem jsigns_ok {w : World} {cb : Nat} {p : Pg} {S : Nat → Prop} {v : Value} {s : Fs} (h : Jc w cb p S v s) : Calls Tryz.prog 19 #[.pointer (some ⟨cb, 0, none⟩)] w fun e w' => e = .returned (.tuple #[]) ∧ Jc w' cb p S v (runJ (bad4 p) 1504 s p.cls.length) ∧ Bx cb w w' := by
  have H0 : Hid (Jc w cb p S v s) := h
  have hn := h.ok.n
  clear h
  go_enter Tryz.func19, Tryz.ntmps19
  go_wp2
  go_loopg [2] (p.cls.length + 1) (fun kx s2 wr => ∃ i : Nat, s2 = .int .i64 i ∧ i ≤ p.cls.length ∧ p.cls.length - i ≤ kx ∧ Hid (Jc wr cb p S v (runJ (bad4 p) 1504 s i)) ∧ Hid (Bx cb w wr))
  case atStart => exact ⟨0, rfl, by omega, by omega, H0.out, Bx.refl _ _⟩
  case round =>
    obtain ⟨i, rfl, hi, hk, HJ, HB⟩ := hrel
    clear H0
    by_cases hlt : i < p.cls.length
    · obtain ⟨sb, so, cap, f1, f2, f3, f4, g1, g2, g3, g4, hv, ⟨t0, t1, t2, t3, t4, t5, t6, t7⟩, HU⟩ := HJ.out.cls hlt
      subst hv
      have c1 := HJ.out.c1
      have hl : (i : Int) < (p.cls.length : Int) := by omega
      have HR : Hid (runJ (bad4 p) 1504 s (i + 1) = ftJ (runJ (bad4 p) 1504 s i) (bad4 p i) 1504 (11 + (i : Int))) := rfl
      have HBD : Hid (bad4 p i = ((ofJ p (11 + i)).flds.any (fun f => !typJ p f.ty) || ((ofJ p (11 + i)).stcs.any (fun f => !typJ p f.ty) || (ofJ p (11 + i)).mds.any (badM p (ofJ p (11 + i)).face)))) := rfl
      have HOK : Hid (OkC (ofJ p (11 + (i : Int)))) := badOk HJ.out.ok (user_of hlt).2.1
      generalize ofJ p (11 + (i : Int)) = c at *
      generalize runJ (bad4 p) 1504 s i = s1 at *
      go_upto_region 4 with (fail)
      have hKx := HU.out; generalize wr.alloc (.cells #[.string c.nm, .bool c.face, .bool c.fin, .int .i64 c.sup, .slice f1 c.faces.length g1, .slice f2 c.flds.length g2, .slice f3 c.stcs.length g3, .slice f4 c.mds.length g4] 34) = y0 at hKx ⊢; have HB2 : Hid (Bx cb w y0) := HB.out.low hKx.2; replace hKx := hKx.1; obtain ⟨kb, hkb⟩ : ∃ kb, kb = wr.heap.size := ⟨_, rfl⟩; rw [← hkb] at hKx ⊢; have HK : Hid _ := hKx; clear hKx hkb HU HB
      generalize Value.agg #[.string c.nm, .bool c.face, .bool c.fin, .int .i64 c.sup, .slice f1 c.faces.length g1, .slice f2 c.flds.length g2, .slice f3 c.stcs.length g3, .slice f4 c.mds.length g4] = V25
      clear t0 t1 t2 t3 t4 t5 t6 t7 c1 HJ
      have n5 := HOK.out.nflds
      have n6 := HOK.out.nstcs
      have n7 := HOK.out.nmds
      go_wp2_with (fail)
      go_loopg [5] (c.flds.length + 1) (fun kx sx wr => ∃ j : Nat, sx = .int .i64 j ∧ j ≤ c.flds.length ∧ c.flds.length - j ≤ kx ∧ Hid (JK wr cb p S (.slice (some ⟨sb, so, none⟩) p.cls.length cap) (ftJ s1 ((c.flds.take j).any (fun f => !typJ p f.ty)) 1504 (11 + (i : Int))) kb c f1 f2 f3 f4 g1 g2 g3 g4) ∧ Hid (Bx cb w wr))
      case atStart => exact ⟨0, rfl, by omega, by omega, by simp only [List.take_zero, List.any_nil, ftJ_false]; exact HK.out, HB2.out⟩
      case round =>
        obtain ⟨j, rfl, hj, hkj, HJK, HB⟩ := hrel
        clear HK HB2
        obtain ⟨-, -, -, -, k5, k6, -⟩ := HJK.out.cells
        by_cases hjl : j < c.flds.length
        · obtain ⟨x, hx⟩ : ∃ c1, c.flds[j]? = some c1 := ⟨_, List.getElem?_eq_getElem hjl⟩
          obtain ⟨ab, ao, rfl, a0⟩ := HJK.out.bc.s2.fty hx
          have hT := jtyp_ok HJK.out.jc (HOK.out.flds x (List.mem_of_getElem? hx))
          have hl2 : (j : Int) < (c.flds.length : Int) := by omega
          have HA : Hid ((c.flds.take (j + 1)).any (fun f => !typJ p f.ty) = ((c.flds.take j).any (fun f => !typJ p f.ty) || !typJ p x.ty)) := any_take hx
          clear hx
          go_wp2_with (first
            | (go_at_call 46; refine hT.mono ?_; rintro e w9 ⟨rfl, hw9⟩; replace hw9 := hw9.symm; subst hw9)
            | (go_at_call 42; refine (jfault_ok HJK.out.jc _ _ _).mono ?_; rintro e u2 ⟨rfl, hj2, hbx⟩; have HK2 : Hid _ := HJK.out.bx hbx hj2; have HB2 : Hid (Bx cb w u2) := HB.out.trans hbx; clear hj2 hbx HJK HB))
          go_roundg (c.flds.length - (j + 1))
          case measure => omega
          case rel => exact ⟨j + 1, by go_num, by omega, by omega, by rw [HA.out, ← ftJ_or]; exact HK2.out, HB2.out⟩
        · have hj2 : j = c.flds.length := by omega
          subst hj2
          have hl2 : ¬ ((c.flds.length : Nat) : Int) < ((c.flds.length : Nat) : Int) := by omega
          have HK : Hid (JK wr cb p S (.slice (some ⟨sb, so, none⟩) p.cls.length cap) (ftJ s1 (c.flds.any (fun f => !typJ p f.ty)) 1504 (11 + (i : Int))) kb c f1 f2 f3 f4 g1 g2 g3 g4) := by have := HJK.out; rw [any_full] at this; exact this
          have HB2 : Hid (Bx cb w wr) := HB.out
          clear HJK HB
          go_wp2_with (fail)
          go_loopg [6] (c.stcs.length + 1) (fun kx sx wr => ∃ j : Nat, sx = .int .i64 j ∧ j ≤ c.stcs.length ∧ c.stcs.length - j ≤ kx ∧ Hid (JK wr cb p S (.slice (some ⟨sb, so, none⟩) p.cls.length cap) (ftJ s1 ((c.flds.any (fun f => !typJ p f.ty)) || (c.stcs.take j).any (fun f => !typJ p f.ty)) 1504 (11 + (i : Int))) kb c f1 f2 f3 f4 g1 g2 g3 g4) ∧ Hid (Bx cb w wr))
          case atStart => exact ⟨0, rfl, by omega, by omega, by simp only [List.take_zero, List.any_nil, Bool.or_false]; exact HK.out, HB2.out⟩
          case round =>
            obtain ⟨j, rfl, hj, hkj, HJK, HB⟩ := hrel
            clear HK HB2 k5 k6
            obtain ⟨-, -, -, -, k5, k6, -⟩ := HJK.out.cells
            by_cases hjl : j < c.stcs.length
            · obtain ⟨x, hx⟩ : ∃ c1, c.stcs[j]? = some c1 := ⟨_, List.getElem?_eq_getElem hjl⟩
              obtain ⟨ab, ao, rfl, a0⟩ := HJK.out.bc.s3.fty hx
              have hT := jtyp_ok HJK.out.jc (HOK.out.stcs x (List.mem_of_getElem? hx))
              have hl2 : (j : Int) < (c.stcs.length : Int) := by omega
              have HA : Hid ((c.stcs.take (j + 1)).any (fun f => !typJ p f.ty) = ((c.stcs.take j).any (fun f => !typJ p f.ty) || !typJ p x.ty)) := any_take hx
              clear hx
              go_wp2_with (first
                | (go_at_call 46; refine hT.mono ?_; rintro e w9 ⟨rfl, hw9⟩; replace hw9 := hw9.symm; subst hw9)
                | (go_at_call 42; refine (jfault_ok HJK.out.jc _ _ _).mono ?_; rintro e u2 ⟨rfl, hj2, hbx⟩; have HK2 : Hid _ := HJK.out.bx hbx hj2; have HB2 : Hid (Bx cb w u2) := HB.out.trans hbx; clear hj2 hbx HJK HB))
              go_roundg (c.stcs.length - (j + 1))
              case measure => omega
              case rel => exact ⟨j + 1, by go_num, by omega, by omega, by rw [HA.out, ← Bool.or_assoc, ← ftJ_or]; exact HK2.out, HB2.out⟩
            · have hj2 : j = c.stcs.length := by omega
              subst hj2
              have hl2 : ¬ ((c.stcs.length : Nat) : Int) < ((c.stcs.length : Nat) : Int) := by omega
              have HK : Hid (JK wr cb p S (.slice (some ⟨sb, so, none⟩) p.cls.length cap) (ftJ s1 ((c.flds.any (fun f => !typJ p f.ty)) || c.stcs.any (fun f => !typJ p f.ty)) 1504 (11 + (i : Int))) kb c f1 f2 f3 f4 g1 g2 g3 g4) := by have := HJK.out; rw [any_full] at this; exact this
              have HB2 : Hid (Bx cb w wr) := HB.out
              clear HJK HB
              go_wp2_with (fail)
              go_loopg [7] (c.mds.length + 1) (fun kx sx wr => ∃ j : Nat, sx = .int .i64 j ∧ j ≤ c.mds.length ∧ c.mds.length - j ≤ kx ∧ Hid (JK wr cb p S (.slice (some ⟨sb, so, none⟩) p.cls.length cap) (ftJ s1 (((c.flds.any (fun f => !typJ p f.ty)) || c.stcs.any (fun f => !typJ p f.ty)) || (c.mds.take j).any (badM p c.face)) 1504 (11 + (i : Int))) kb c f1 f2 f3 f4 g1 g2 g3 g4) ∧ Hid (Bx cb w wr))
              case atStart => exact ⟨0, rfl, by omega, by omega, by simp only [List.take_zero, List.any_nil, Bool.or_false]; exact HK.out, HB2.out⟩
              case round =>
                obtain ⟨j, rfl, hj, hkj, HJK, HB⟩ := hrel
                clear HK HB2 k5 k6
                obtain ⟨-, -, -, -, -, -, k7⟩ := HJK.out.cells
                by_cases hjl : j < c.mds.length
                · obtain ⟨m, hm⟩ : ∃ c1, c.mds[j]? = some c1 := ⟨_, List.getElem?_eq_getElem hjl⟩
                  have HOM : Hid (OkM m) := HOK.out.mds m (List.mem_of_getElem? hm)
                  obtain ⟨mb, mo, d1, d2, d3, d4, h1, h2, h3, h4, rfl, ⟨t0, t1, t2, t3, t4, t5, t6, t7, t8⟩, -, HM⟩ := mth_at HJK.out.bc.s4 HJK.out.jc.low hm
                  have hl2 : (j : Int) < (c.mds.length : Int) := by omega
                  have HA : Hid ((c.mds.take (j + 1)).any (badM p c.face) = ((c.mds.take j).any (badM p c.face) || badM p c.face m)) := any_take hm
                  have HLT : Hid (cb ≠ wr.heap.size) := by have := HJK.out.jc.lt; show _ ≠ _; omega
                  clear hm
                  go_upto_region 17 with (fail)
                  have hMx := HM.out
                  generalize wr.alloc (.cells #[.string m.nm, .bool m.stc, .slice d1 m.args.length h1, .int .i64 m.ret, .int .i64 m.lo, .int .i64 m.st, .slice d2 m.code.length h2, .slice d3 m.tab.length h3, .slice d4 m.maps.length h4] 30) = y1 at hMx ⊢
                  have HB4 : Hid (Bx cb w y1) := HB.out.low hMx.2
                  obtain ⟨mbx, hmbx⟩ : ∃ mbx, mbx = wr.heap.size := ⟨_, rfl⟩
                  rw [← hmbx] at hMx HLT ⊢
                  have HK4 : Hid (JK y1 cb p S (.slice (some ⟨sb, so, none⟩) p.cls.length cap) (ftJ s1 (((c.flds.any (fun f => !typJ p f.ty)) || c.stcs.any (fun f => !typJ p f.ty)) || (c.mds.take j).any (badM p c.face)) 1504 (11 + (i : Int))) kb c f1 f2 f3 (some ⟨mb, mo, none⟩) g1 g2 g3 g4 ∧ BoxM y1 S mbx m d1 d2 d3 d4 h1 h2 h3 h4) := ⟨HJK.out.below (hmbx ▸ hMx.2), hMx.1⟩
                  have na := HOM.out.nargs
                  clear t0 t1 t2 t3 t4 t5 t6 t7 t8 hMx HM HJK HB k7 hmbx
                  go_wp2_with (fail)
                  go_loopg [9] (m.args.length + 1) (fun kx sx wr => ∃ a : Nat, sx = .int .i64 a ∧ a ≤ m.args.length ∧ m.args.length - a ≤ kx ∧ Hid (JK wr cb p S (.slice (some ⟨sb, so, none⟩) p.cls.length cap) (ftJ s1 ((((c.flds.any (fun f => !typJ p f.ty)) || c.stcs.any (fun f => !typJ p f.ty)) || (c.mds.take j).any (badM p c.face)) || (m.args.take a).any (fun t => !typJ p t)) 1504 (11 + (i : Int))) kb c f1 f2 f3 (some ⟨mb, mo, none⟩) g1 g2 g3 g4 ∧ BoxM wr S mbx m d1 d2 d3 d4 h1 h2 h3 h4) ∧ Hid (Bx cb w wr))
                  case atStart => exact ⟨0, rfl, by omega, by omega, by simp only [List.take_zero, List.any_nil, Bool.or_false]; exact HK4.out, HB4.out⟩
                  case round =>
                    obtain ⟨a, rfl, ha, hka, HJK, HB⟩ := hrel
                    clear HK4 HB4
                    obtain ⟨-, n1, n2, n3, n4, -⟩ := HJK.out.2.cells
                    by_cases hal : a < m.args.length
                    · obtain ⟨x, hx⟩ : ∃ c1, m.args[a]? = some c1 := ⟨_, List.getElem?_eq_getElem hal⟩
                      obtain ⟨ab, ao, rfl, a0⟩ := HJK.out.2.s1.int hx
                      have hT := jtyp_ok HJK.out.1.jc (HOM.out.args x (List.mem_of_getElem? hx))
                      have hl3 : (a : Int) < (m.args.length : Int) := by omega
                      have HA2 : Hid ((m.args.take (a + 1)).any (fun t => !typJ p t) = ((m.args.take a).any (fun t => !typJ p t) || !typJ p x)) := any_take hx
                      clear hx
                      go_wp2_with (first
                        | (go_at_call 46; refine hT.mono ?_; rintro e w9 ⟨rfl, hw9⟩; replace hw9 := hw9.symm; subst hw9)
                        | (go_at_call 42; refine (jfault_ok HJK.out.1.jc _ _ _).mono ?_; rintro e u2 ⟨rfl, hj2, hbx⟩; have HK2 : Hid (_ ∧ BoxM u2 S mbx m (some ⟨ab, ao, none⟩) d2 d3 d4 h1 h2 h3 h4) := ⟨HJK.out.1.bx hbx hj2, HJK.out.2.bx hbx HJK.out.1.jc.low HJK.out.1.jc.far HLT.out⟩; have HB2 : Hid (Bx cb w u2) := HB.out.trans hbx; clear hj2 hbx HJK HB))
                      go_roundg (m.args.length - (a + 1))
                      case measure => omega
                      case rel => exact ⟨a + 1, by go_num, by omega, by omega, by rw [HA2.out, ← Bool.or_assoc, ← ftJ_or]; exact HK2.out, HB2.out⟩
                    · have ha2 : a = m.args.length := by omega
                      subst ha2
                      have hl3 : ¬ ((m.args.length : Nat) : Int) < ((m.args.length : Nat) : Int) := by omega
                      have HK5 : Hid (JK wr cb p S (.slice (some ⟨sb, so, none⟩) p.cls.length cap) (ftJ s1 ((((c.flds.any (fun f => !typJ p f.ty)) || c.stcs.any (fun f => !typJ p f.ty)) || (c.mds.take j).any (badM p c.face)) || m.args.any (fun t => !typJ p t)) 1504 (11 + (i : Int))) kb c f1 f2 f3 (some ⟨mb, mo, none⟩) g1 g2 g3 g4 ∧ BoxM wr S mbx m d1 d2 d3 d4 h1 h2 h3 h4) := by have := HJK.out; rw [any_full] at this; exact this
                      have HB5 : Hid (Bx cb w wr) := HB.out
                      obtain ⟨k1, -⟩ := HK5.out.1.cells
                      have hT := jtyp_ok HK5.out.1.jc HOM.out.ret
                      have HAR : Hid (True) := trivial
                      have HN : Hid (∀ (u3 : World) (b : Bool), JK u3 cb p S (.slice (some ⟨sb, so, none⟩) p.cls.length cap) (ftJ (ftJ s1 ((((c.flds.any (fun f => !typJ p f.ty)) || c.stcs.any (fun f => !typJ p f.ty)) || (c.mds.take j).any (badM p c.face)) || m.args.any (fun t => !typJ p t)) 1504 (11 + (i : Int))) b 1504 (11 + (i : Int))) kb c f1 f2 f3 (some ⟨mb, mo, none⟩) g1 g2 g3 g4 → JK u3 cb p S (.slice (some ⟨sb, so, none⟩) p.cls.length cap) (ftJ s1 (((c.flds.any (fun f => !typJ p f.ty)) || c.stcs.any (fun f => !typJ p f.ty)) || ((c.mds.take j).any (badM p c.face) || (m.args.any (fun t => !typJ p t) || b))) 1504 (11 + (i : Int))) kb c f1 f2 f3 (some ⟨mb, mo, none⟩) g1 g2 g3 g4) := fun u3 b h => by rw [ftJ_or] at h; simp only [Bool.or_assoc] at h ⊢; exact h
                      clear HJK HB
                      rcases hst : m.stc with _ | _
                      · rw [hst] at n1
                        by_cases hr : m.ret = 0
                        · have er : (m.ret != 0) = false := by simp [hr]
                          rcases hfc : c.face with _ | _
                          · have HE : Hid (badM p c.face m = (m.args.any (fun t => !typJ p t) || decide (m.lo < (m.args.length : Int) + 1))) := by show _ = _; simp only [badM, needJ, hst, hfc, hr]; simp
                            rw [hfc] at k1
                            clear hfc hr HAR
                            go_wp2_with (first --LEAF
                              | (go_at_call 46; refine hT.mono ?_; rintro e w9 ⟨rfl, hw9⟩; replace hw9 := hw9.symm; subst hw9)
                              | (go_at_call 42; refine (jfault_ok HK5.out.1.jc _ _ _).mono ?_; rintro e u3 ⟨rfl, hj3, hbx⟩; have HK6 : Hid _ := HK5.out.1.bx hbx hj3; have HB6 : Hid (Bx cb w u3) := HB5.out.trans hbx; clear hj3 hbx HK5 HB5))
                            go_roundg (c.mds.length - (j + 1))
                            case measure => omega
                            case rel => exact ⟨j + 1, by go_num, by omega, by omega, by rw [HA.out, HE.out]; exact HN.out _ _ HK6.out, HB6.out⟩
                          · have HE : Hid (badM p c.face m = (m.args.any (fun t => !typJ p t) || false)) := by show _ = _; simp only [badM, needJ, hst, hfc, hr]; simp
                            rw [hfc] at k1
                            clear hfc hr HAR
                            go_wp2_with (first --LEAF
                              | (go_at_call 46; refine hT.mono ?_; rintro e w9 ⟨rfl, hw9⟩; replace hw9 := hw9.symm; subst hw9)
                              | (go_at_call 42; refine (jfault_ok HK5.out.1.jc _ _ _).mono ?_; rintro e u3 ⟨rfl, hj3, hbx⟩; have HK6 : Hid _ := HK5.out.1.bx hbx hj3; have HB6 : Hid (Bx cb w u3) := HB5.out.trans hbx; clear hj3 hbx HK5 HB5))
                            go_roundg (c.mds.length - (j + 1))
                            case measure => omega
                            case rel => exact ⟨j + 1, by go_num, by omega, by omega, by rw [HA.out, HE.out]; exact HN.out _ _ HK6.out, HB6.out⟩
                        · have er : (m.ret != 0) = true := by simp [hr]
                          rcases ht : typJ p m.ret with _ | _
                          · have HE : Hid (badM p c.face m = (m.args.any (fun t => !typJ p t) || true)) := by show _ = _; simp [badM, ht, hr]
                            rw [ht] at hT
                            clear ht hr HAR
                            go_wp2_with (first --LEAF
                              | (go_at_call 46; refine hT.mono ?_; rintro e w9 ⟨rfl, hw9⟩; replace hw9 := hw9.symm; subst hw9)
                              | (go_at_call 42; refine (jfault_ok HK5.out.1.jc _ _ _).mono ?_; rintro e u3 ⟨rfl, hj3, hbx⟩; have HK6 : Hid _ := HK5.out.1.bx hbx hj3; have HB6 : Hid (Bx cb w u3) := HB5.out.trans hbx; clear hj3 hbx HK5 HB5))
                            go_roundg (c.mds.length - (j + 1))
                            case measure => omega
                            case rel => exact ⟨j + 1, by go_num, by omega, by omega, by rw [HA.out, HE.out]; exact HN.out _ _ HK6.out, HB6.out⟩
                          · rw [ht] at hT
                            rcases hfc : c.face with _ | _
                            · have HE : Hid (badM p c.face m = (m.args.any (fun t => !typJ p t) || decide (m.lo < (m.args.length : Int) + 1))) := by show _ = _; simp only [badM, needJ, hst, hfc, ht, er]; simp
                              rw [hfc] at k1
                              clear hfc hr HAR
                              go_wp2_with (first --LEAF
                                | (go_at_call 46; refine hT.mono ?_; rintro e w9 ⟨rfl, hw9⟩; replace hw9 := hw9.symm; subst hw9)
                                | (go_at_call 42; refine (jfault_ok HK5.out.1.jc _ _ _).mono ?_; rintro e u3 ⟨rfl, hj3, hbx⟩; have HK6 : Hid _ := HK5.out.1.bx hbx hj3; have HB6 : Hid (Bx cb w u3) := HB5.out.trans hbx; clear hj3 hbx HK5 HB5))
                              go_roundg (c.mds.length - (j + 1))
                              case measure => omega
                              case rel => exact ⟨j + 1, by go_num, by omega, by omega, by rw [HA.out, HE.out]; exact HN.out _ _ HK6.out, HB6.out⟩
                            · have HE : Hid (badM p c.face m = (m.args.any (fun t => !typJ p t) || false)) := by show _ = _; simp only [badM, needJ, hst, hfc, ht, er]; simp
                              rw [hfc] at k1
                              clear hfc hr HAR
                              go_wp2_with (first --LEAF
                                | (go_at_call 46; refine hT.mono ?_; rintro e w9 ⟨rfl, hw9⟩; replace hw9 := hw9.symm; subst hw9)
                                | (go_at_call 42; refine (jfault_ok HK5.out.1.jc _ _ _).mono ?_; rintro e u3 ⟨rfl, hj3, hbx⟩; have HK6 : Hid _ := HK5.out.1.bx hbx hj3; have HB6 : Hid (Bx cb w u3) := HB5.out.trans hbx; clear hj3 hbx HK5 HB5))
                              go_roundg (c.mds.length - (j + 1))
                              case measure => omega
                              case rel => exact ⟨j + 1, by go_num, by omega, by omega, by rw [HA.out, HE.out]; exact HN.out _ _ HK6.out, HB6.out⟩
                      · rw [hst] at n1
                        by_cases hr : m.ret = 0
                        · have er : (m.ret != 0) = false := by simp [hr]
                          rcases hfc : c.face with _ | _
                          · have HE : Hid (badM p c.face m = (m.args.any (fun t => !typJ p t) || decide (m.lo < (m.args.length : Int)))) := by show _ = _; simp only [badM, needJ, hst, hfc, hr]; simp
                            rw [hfc] at k1
                            clear hfc hr HAR
                            go_wp2_with (first --LEAF
                              | (go_at_call 46; refine hT.mono ?_; rintro e w9 ⟨rfl, hw9⟩; replace hw9 := hw9.symm; subst hw9)
                              | (go_at_call 42; refine (jfault_ok HK5.out.1.jc _ _ _).mono ?_; rintro e u3 ⟨rfl, hj3, hbx⟩; have HK6 : Hid _ := HK5.out.1.bx hbx hj3; have HB6 : Hid (Bx cb w u3) := HB5.out.trans hbx; clear hj3 hbx HK5 HB5))
                            go_roundg (c.mds.length - (j + 1))
                            case measure => omega
                            case rel => exact ⟨j + 1, by go_num, by omega, by omega, by rw [HA.out, HE.out]; exact HN.out _ _ HK6.out, HB6.out⟩
                          · have HE : Hid (badM p c.face m = (m.args.any (fun t => !typJ p t) || false)) := by show _ = _; simp only [badM, needJ, hst, hfc, hr]; simp
                            rw [hfc] at k1
                            clear hfc hr HAR
                            go_wp2_with (first --LEAF
                              | (go_at_call 46; refine hT.mono ?_; rintro e w9 ⟨rfl, hw9⟩; replace hw9 := hw9.symm; subst hw9)
                              | (go_at_call 42; refine (jfault_ok HK5.out.1.jc _ _ _).mono ?_; rintro e u3 ⟨rfl, hj3, hbx⟩; have HK6 : Hid _ := HK5.out.1.bx hbx hj3; have HB6 : Hid (Bx cb w u3) := HB5.out.trans hbx; clear hj3 hbx HK5 HB5))
                            go_roundg (c.mds.length - (j + 1))
                            case measure => omega
                            case rel => exact ⟨j + 1, by go_num, by omega, by omega, by rw [HA.out, HE.out]; exact HN.out _ _ HK6.out, HB6.out⟩
                        · have er : (m.ret != 0) = true := by simp [hr]
                          rcases ht : typJ p m.ret with _ | _
                          · have HE : Hid (badM p c.face m = (m.args.any (fun t => !typJ p t) || true)) := by show _ = _; simp [badM, ht, hr]
                            rw [ht] at hT
                            clear ht hr HAR
                            go_wp2_with (first --LEAF
                              | (go_at_call 46; refine hT.mono ?_; rintro e w9 ⟨rfl, hw9⟩; replace hw9 := hw9.symm; subst hw9)
                              | (go_at_call 42; refine (jfault_ok HK5.out.1.jc _ _ _).mono ?_; rintro e u3 ⟨rfl, hj3, hbx⟩; have HK6 : Hid _ := HK5.out.1.bx hbx hj3; have HB6 : Hid (Bx cb w u3) := HB5.out.trans hbx; clear hj3 hbx HK5 HB5))
                            go_roundg (c.mds.length - (j + 1))
                            case measure => omega
                            case rel => exact ⟨j + 1, by go_num, by omega, by omega, by rw [HA.out, HE.out]; exact HN.out _ _ HK6.out, HB6.out⟩
                          · rw [ht] at hT
                            rcases hfc : c.face with _ | _
                            · have HE : Hid (badM p c.face m = (m.args.any (fun t => !typJ p t) || decide (m.lo < (m.args.length : Int)))) := by show _ = _; simp only [badM, needJ, hst, hfc, ht, er]; simp
                              rw [hfc] at k1
                              clear hfc hr HAR
                              go_wp2_with (first --LEAF
                                | (go_at_call 46; refine hT.mono ?_; rintro e w9 ⟨rfl, hw9⟩; replace hw9 := hw9.symm; subst hw9)
                                | (go_at_call 42; refine (jfault_ok HK5.out.1.jc _ _ _).mono ?_; rintro e u3 ⟨rfl, hj3, hbx⟩; have HK6 : Hid _ := HK5.out.1.bx hbx hj3; have HB6 : Hid (Bx cb w u3) := HB5.out.trans hbx; clear hj3 hbx HK5 HB5))
                              go_roundg (c.mds.length - (j + 1))
                              case measure => omega
                              case rel => exact ⟨j + 1, by go_num, by omega, by omega, by rw [HA.out, HE.out]; exact HN.out _ _ HK6.out, HB6.out⟩
                            · have HE : Hid (badM p c.face m = (m.args.any (fun t => !typJ p t) || false)) := by show _ = _; simp only [badM, needJ, hst, hfc, ht, er]; simp
                              rw [hfc] at k1
                              clear hfc hr HAR
                              go_wp2_with (first --LEAF
                                | (go_at_call 46; refine hT.mono ?_; rintro e w9 ⟨rfl, hw9⟩; replace hw9 := hw9.symm; subst hw9)
                                | (go_at_call 42; refine (jfault_ok HK5.out.1.jc _ _ _).mono ?_; rintro e u3 ⟨rfl, hj3, hbx⟩; have HK6 : Hid _ := HK5.out.1.bx hbx hj3; have HB6 : Hid (Bx cb w u3) := HB5.out.trans hbx; clear hj3 hbx HK5 HB5))
                              go_roundg (c.mds.length - (j + 1))
                              case measure => omega
                              case rel => exact ⟨j + 1, by go_num, by omega, by omega, by rw [HA.out, HE.out]; exact HN.out _ _ HK6.out, HB6.out⟩
                · have hj2 : j = c.mds.length := by omega
                  subst hj2
                  have hl2 : ¬ ((c.mds.length : Nat) : Int) < ((c.mds.length : Nat) : Int) := by omega
                  have HK2 : Hid (Jc wr cb p S (.slice (some ⟨sb, so, none⟩) p.cls.length cap) (runJ (bad4 p) 1504 s (i + 1))) := by have := HJK.out.jc; rw [any_full] at this; show Jc _ _ _ _ _ _; rw [HR.out, HBD.out, ← Bool.or_assoc]; exact this
                  clear HJK
                  go_wp2_with (fail)
                  go_roundg (p.cls.length - (i + 1))
                  case measure => omega
                  case rel => exact ⟨i + 1, by go_num, by omega, by omega, HK2.out, HB.out⟩
    · have hn2 : i = p.cls.length := by omega
      subst hn2
      have hl : ¬ ((p.cls.length : Nat) : Int) < ((p.cls.length : Nat) : Int) := by omega
      obtain ⟨a, cap, hv, -⟩ := HJ.out.slice
      subst hv
      have c1 := HJ.out.c1
      go_wp2
      go_end0
      exact ⟨rfl, HJ.out, HB.out⟩
end Go.Proofs.YtbbmgjcabmjjdaaGreatDoor
