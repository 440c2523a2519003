/- layer 15's awake; bounds of closed programs. -/
import Derived.Test.YtbdfpodglfpjnaaGreatMQLts
import Derived.Test.YtbdfpodglfpjnaaGreatMY39
import Derived.Test.YtbdfpodglfpjnaaGreatMQHqf
import Derived.Test.YtbdfpodglfpjnaaGreatMQHqm
import Derived.Test.YtbdfpodglfpjnaaGreatMY29
namespace Go.Proofs.YtbdfpodglfpjnaaGreat
open Go.RowKit

theorem hvi_ok {p : Pg} (hO : Okl p) {c : Int} (hc : isJ p c = true) : HVi p c (upL p c).vir := by
  intro w S v vs h1 h2 hS
  obtain ⟨-, l2, l3⟩ := upL_ok hO hc
  have o := hO.cl hc
  exact virtual_ok hc h1 h2 hS l2 l3 o.args o.nmm
theorem own_sl {w : World} {base : Nat} {v : Value} {xs : List Int} (h : w.ownsRow base 3 1 v xs.length (xs.map fun x => Value.int .i64 x)) : Sl kIU w (fun b => base ≤ b ∧ b < w.heap.size) v xs := by
  have e : ∀ ys : List Int, (ys.map fun x => [Value.int .i64 x]).flatten = ys.map fun x => Value.int .i64 x := fun ys => by
    induction ys with
    | nil => rfl
    | cons y ys ih => rw [List.map_cons, List.flatten_cons, ih]; rfl
  have hg : Gro kIU 3 base w v xs := ⟨xs.map fun x => [Value.int .i64 x], by simp, fun i x hx => ⟨[.int .i64 x], by rw [List.getElem?_map, hx]; rfl, rfl⟩, by rw [e]; exact h⟩
  exact hg.sl
theorem hab_ok {p : Pg} (hO : Okl p) (k5 : Kp5 p) {c : Int} (hc : isJ p c = true) : HAb p c := by
  intro w S v h hS
  refine (above_ok k5.sup k5.face k5.b1 k5.b2 k5.b3 hO.okz.n (fun k hk => (hO.cl hk).nfc) h hS hc).mono ?_
  rintro e w' ⟨v', rfl, h1, h2⟩
  exact ⟨v', rfl, h2, own_sl h1⟩
theorem hly_ok {p : Pg} (hO : Okl p) : HLy p := by
  intro S u v h hS h5
  exact layouts_ok hO (fun c hc => hvi_ok hO hc) (fun c hc => hab_ok hO (kp5_of h5) hc) S u v h hS h5
/-- load.Load. -/
theorem load_any {S : Nat → Prop} {p : Pg} {cs : List Value} {w : World} (hO : Okl p) (hS : ∀ k, S k → k < w.heap.size) (hR : kPg.R w S p cs) : Calls Tryz.prog 15 #[.agg cs.toArray] w (LdQ p w) :=
  loadQ_of hO.okz.q hqF_ok hqM_ok (hly_ok hO) hS hR
end Go.Proofs.YtbdfpodglfpjnaaGreat
namespace Go.Proofs.YtbdfpodglfpjnaaGreat
open Go.RowKit Go.Deep

/-- What Find answers. -/
def fndT (ls : List Ly) (k : Int) (nm : ByteArray) (xs : List Int) (ret : Int) : Int × Int × Bool := if inT ls k then match OfJ (lyAt ls k).vir nm xs ret with
  | some i => match (lyAt ls k).vir[i]? with
    | some e => (e.cl, e.me, true)
    | none => (-1, -1, false)
  | none => (-1, -1, false) else (-1, -1, false)
set_option maxRecDepth 20000 in
set_option maxHeartbeats 4000000 in
theorem find_ok {S Sa : Nat → Prop} {v va : Value} {ls : List Ly} {xs : List Int} {w : World} (h : Sl kLy w S v ls) (hS : ∀ k, S k → k < w.heap.size) (ha : Sl kI w Sa va xs) (hSa : ∀ k, Sa k → k < w.heap.size) (k : Int) (nm : ByteArray) (ret : Int) : Calls Tryz.prog 17 #[v, .int .i64 k, .string nm, va, .int .i64 ret] w fun e w' => e = .returned (.tuple #[.int .i64 (fndT ls k nm xs ret).1, .int .i64 (fndT ls k nm xs ret).2.1, .bool (fndT ls k nm xs ret).2.2]) ∧ Below w.heap.size w w' := by
  have hP := tplace_ok h k
  obtain ⟨ao, cap, rfl⟩ := h.form
  obtain ⟨aa, ea, rfl⟩ := ha.form
  rcases hT : inT ls k with _ | _
  · have HE : Hid (fndT ls k nm xs ret = (-1, -1, false)) := by show _ = _; unfold fndT; rw [hT]; rfl
    rw [hT] at hP
    clear h ha hT hS hSa
    go_enter Tryz.func17, Tryz.ntmps17
    go_wp2_with (go_at_call 24; refine hP.mono ?_; rintro e w9 ⟨rfl, hw9⟩; replace hw9 := hw9.symm; subst hw9)
    go_ret3
    exact ⟨by rw [HE.out]; rfl, Below.refl _ _⟩
  · rw [hT] at hP
    have hk := hT
    simp [inT] at hk
    obtain ⟨i, rfl⟩ : ∃ i : Nat, k = (i : Int) := ⟨k.toNat, by omega⟩
    have hi : i < ls.length := by omega
    have hy : ls[i]? = some (lyAt ls (i : Int)) := by
      unfold lyAt
      rw [List.getD_eq_getElem?_getD, List.getElem?_eq_getElem (by simpa using hi)]
      simp [List.getElem?_eq_getElem hi]
    obtain ⟨b, o, rfl, hb, cs, ⟨v1, v2, v3, rfl, -, s2, -⟩, hcs⟩ := h.atJ hy
    have c2 := hcs 2 _ rfl
    rw [show o + (i * kLy.k + 2) = o + i * 4 + 2 by show o + (i * 4 + 2) = _; omega] at c2
    have hil : (i : Int) < (ls.length : Int) := by omega
    have HV : Hid (Sl kEn w S v2 (lyAt ls (i : Int)).vir) := s2
    obtain ⟨a2, e2, rfl⟩ := s2.form
    have hPl : Calls Tryz.prog 25 #[.slice a2 (lyAt ls (i : Int)).vir.length e2, .agg #[.string nm, .slice aa xs.length ea, .int .i64 ret]] w fun e w' => e = .returned (.int .i64 (plJ (lyAt ls (i : Int)).vir ⟨nm, xs, ret⟩)) ∧ Below w.heap.size w w' := place_ok (s := ⟨nm, xs, ret⟩) s2 hS ha hSa
    have HE : Hid (fndT ls (i : Int) nm xs ret = match OfJ (lyAt ls (i : Int)).vir nm xs ret with
        | some i1 => match (lyAt ls (i : Int)).vir[i1]? with
          | some e => (e.cl, e.me, true)
          | none => (-1, -1, false)
        | none => (-1, -1, false)) := by show _ = _; unfold fndT; rw [hT, if_pos rfl]
    clear h ha hT hS hSa hcs hk s2 hy
    generalize (lyAt ls (i : Int)).vir = vir at *
    rcases hof : OfJ vir nm xs ret with _ | j
    · have hpl : plJ vir ⟨nm, xs, ret⟩ = -1 := by unfold plJ; rw [hof]
      have HF : Hid (fndT ls (i : Int) nm xs ret = (-1, -1, false)) := by show _ = _; rw [HE.out, hof]
      rw [hpl] at hPl
      clear hpl hof HE
      go_enter Tryz.func17, Tryz.ntmps17
      go_wp2_with (first
        | (go_at_call 24; refine hP.mono ?_; rintro e w9 ⟨rfl, hw9⟩; replace hw9 := hw9.symm; subst hw9)
        | (go_at_call 25; refine hPl.mono ?_; rintro e w2 ⟨rfl, hb2⟩; have HB : Hid _ := hb2; clear hb2 hPl))
      go_ret3
      exact ⟨by rw [HF.out]; rfl, HB.out⟩
    · have hpl : plJ vir ⟨nm, xs, ret⟩ = (j : Int) := by unfold plJ; rw [hof]
      have hjl := of_lt hof
      obtain ⟨e, he⟩ : ∃ e, vir[j]? = some e := ⟨_, List.getElem?_eq_getElem hjl⟩
      have HF : Hid (fndT ls (i : Int) nm xs ret = (e.cl, e.me, true)) := by show _ = _; rw [HE.out, hof]; simp only [he]
      have HC : Hid (∃ bE oE, a2 = some ⟨bE, oE, none⟩ ∧ ∀ w2, Below w.heap.size w w2 → w2.cell? ⟨bE, oE + j * 5 + 3, none⟩ = some (.int .i64 e.cl) ∧ w2.cell? ⟨bE, oE + j * 5 + 4, none⟩ = some (.int .i64 e.me)) := by
        obtain ⟨bE, oE, h1, hbE, cs, ⟨_, rfl, -⟩, hcs⟩ := HV.out.atJ he
        refine ⟨bE, oE, by first | exact h1 | (injection h1), fun w2 hb2 => ⟨?_, ?_⟩⟩
        · have := cell_keep (hcs 3 _ rfl) hb2
          rw [show oE + (j * kEn.k + 3) = oE + j * 5 + 3 by show oE + (j * 5 + 3) = _; omega] at this
          exact this
        · have := cell_keep (hcs 4 _ rfl) hb2
          rw [show oE + (j * kEn.k + 4) = oE + j * 5 + 4 by show oE + (j * 5 + 4) = _; omega] at this
          exact this
      obtain ⟨bE, oE, rfl, hc⟩ := HC.out
      have HCC : Hid _ := hc
      have hjl2 : (j : Int) < (vir.length : Int) := by omega
      rw [hpl] at hPl
      clear hpl hof HE HC hc he
      go_enter Tryz.func17, Tryz.ntmps17
      go_wp2_with (first
        | (go_at_call 24; refine hP.mono ?_; rintro e w9 ⟨rfl, hw9⟩; replace hw9 := hw9.symm; subst hw9)
        | (go_at_call 25; refine hPl.mono ?_; rintro e w2 ⟨rfl, hb2⟩; have HB : Hid _ := hb2; obtain ⟨x3, x4⟩ := HCC.out w2 hb2; clear hb2 hPl))
      go_region
      all_goals go_wp2
      all_goals go_ret3
      all_goals exact ⟨by rw [HF.out]; rfl, HB.out.drew⟩
end Go.Proofs.YtbdfpodglfpjnaaGreat
namespace Go.Proofs.YtbdfpodglfpjnaaGreat
open Go.RowKit

def rgB (x : Int) : Bool := decide (-9223372036854775808 ≤ x) && decide (x ≤ 9223372036854775807)
theorem rgB_ok {x : Int} (h : rgB x = true) : rg x := by
  unfold rgB at h
  rw [Bool.and_eq_true, decide_eq_true_eq, decide_eq_true_eq] at h
  exact h
def okmB (m : Md) : Bool := decide (m.args.length ≤ 1048576) && (m.args.all rgB && (rgB m.ret && (rgB m.lo && decide (m.nm.size ≤ 281474976710656))))
def okfB (f : Fd) : Bool := rgB f.ty && decide (f.nm.size ≤ 281474976710656)
def okcB (c : Cs) : Bool := rgB c.sup && (decide (c.faces.length ≤ 262144) && (c.faces.all rgB && (decide (c.flds.length ≤ 1000) && (c.flds.all okfB && (decide (c.stcs.length ≤ 1000) && (c.stcs.all okfB && (decide (c.mds.length ≤ 1000) && c.mds.all okmB)))))))
def okB (p : Pg) : Bool := rgB p.main && (decide (p.cls.length ≤ 1000) && p.cls.all okcB)
theorem okl_of {p : Pg} (h : okB p = true) : Okl p := by
  unfold okB at h
  simp only [Bool.and_eq_true, decide_eq_true_eq, List.all_eq_true] at h
  obtain ⟨h1, h2, h3⟩ := h
  have hc : ∀ c ∈ p.cls, OkC c ∧ (∀ f ∈ c.flds, f.nm.size ≤ 281474976710656) ∧ (∀ m ∈ c.mds, m.nm.size ≤ 281474976710656) ∧ c.faces.length ≤ 262144 := fun c hc => by
    have q := h3 c hc
    unfold okcB at q
    simp only [Bool.and_eq_true, decide_eq_true_eq, List.all_eq_true] at q
    obtain ⟨q1, q2, q3, q4, q5, q6, q7, q8, q9⟩ := q
    have qf : ∀ f, okfB f = true → rg f.ty ∧ f.nm.size ≤ 281474976710656 := fun f hf => by
      unfold okfB at hf
      simp only [Bool.and_eq_true, decide_eq_true_eq] at hf
      exact ⟨rgB_ok hf.1, hf.2⟩
    have qm : ∀ m, okmB m = true → OkM m ∧ m.nm.size ≤ 281474976710656 := fun m hm => by
      unfold okmB at hm
      simp only [Bool.and_eq_true, decide_eq_true_eq, List.all_eq_true] at hm
      obtain ⟨a, b, d, e, f⟩ := hm
      exact ⟨⟨a, fun x hx => rgB_ok (b x hx), rgB_ok d, rgB_ok e⟩, f⟩
    exact ⟨⟨rgB_ok q1, by omega, fun x hx => rgB_ok (q3 x hx), q4, fun f hf => (qf f (q5 f hf)).1, by omega, fun f hf => (qf f (q7 f hf)).1, q8, fun m hm => (qm m (q9 m hm)).1⟩, fun f hf => (qf f (q5 f hf)).2, fun m hm => (qm m (q9 m hm)).2, q2⟩
  exact ⟨⟨rgB_ok h1, h2, fun c h => (hc c h).1⟩, fun c h => (hc c h).2.1, fun c h => (hc c h).2.2.1, fun c h => (hc c h).2.2.2⟩
def p99 : Pg := ⟨99, []⟩
theorem tiny_okl : Okl tinyP := okl_of (by kernel_rfl)
theorem p99_okl : Okl p99 := okl_of (by kernel_rfl)
theorem p99_load : loadJ p99 = .error (1505, 99) := by kernel_rfl
theorem tiny_find : fndT tinyLs 9 ⟨#[114, 117, 110]⟩ [] 0 = (9, 0, true) := by kernel_rfl
theorem tiny_is1 : isLy tinyLs 3 1 = true := by kernel_rfl
theorem tiny_is2 : isLy tinyLs 11 9 = false := by kernel_rfl
set_option maxRecDepth 20000 in
set_option maxHeartbeats 4000000 in
theorem awake15 (w : World) : Calls Tryz.prog 11 #[] w fun e w' => e = .returned (.bool true) ∧ Below w.heap.size w w' := by
  have hT := tiny_at17 w
  have HNL : Hid (tinyLs.length = 12) := tiny_ls
  go_enter Tryz.func11, Tryz.ntmps11
  go_wp2_with (first
    | (go_at_call 20; refine hT.mono ?_; rintro e w1 ⟨ao, cap, S, rfl, hb1, hs1, hS1⟩; have HB1 : Hid _ := hb1; have hL := load_any (w := w1) (S := S) (cs := [.int .i64 11, .slice ao 1 cap]) tiny_okl hS1 ⟨_, rfl, hs1⟩; unfold LdQ at hL; rw [tiny_load] at hL; clear hT hb1 hs1 hS1)
    | (go_at_call 15; refine hL.mono ?_; rintro e w2 ⟨hb2, vl, rfl, hs⟩; have HB2 : Hid (Below w.heap.size w w2) := HB1.out.trans (hb2.mono HB1.out.size); have HS : Hid (Sl kLy w2 (fun k => k < w2.heap.size) vl tinyLs) := (soft_Ly hs).mono fun k q => q.2; obtain ⟨al, cl, rfl⟩ := hs.form; have hL2 := load_any (w := w2) (S := fun _ => False) p99_okl (fun k q => q.elim) (cs := [.int .i64 99, .slice none 0 0]) ⟨_, rfl, Sl.nil _ _ _⟩; unfold LdQ at hL2; rw [p99_load] at hL2; clear hL hb2 hs)
    | (go_at_call 15; refine hL2.mono ?_; rintro e w3 ⟨hb3, rfl⟩; have HB3 : Hid (Below w.heap.size w w3) := HB2.out.trans (hb3.mono HB2.out.size); have HS3 : Hid (Sl kLy w3 (fun k => k < w3.heap.size) (.slice al tinyLs.length cl) tinyLs) := (HS.out.keep fun k q => hb3.block k q).mono fun k q => Nat.lt_of_lt_of_le q hb3.size; have hF := find_ok HS3.out (fun _ q => q) (Sl.nil kI w3 (fun _ => False)) (fun _ q => q.elim) 9 ⟨#[114, 117, 110]⟩ 0; rw [tiny_find] at hF; clear hL2 hb3)
    | (go_at_call 17; refine hF.mono ?_; rintro e w4 ⟨rfl, hb4⟩; have HB4 : Hid (Below w.heap.size w w4) := HB3.out.trans (hb4.mono HB3.out.size); have HS4 : Hid (Sl kLy w4 (fun k => k < w4.heap.size) (.slice al tinyLs.length cl) tinyLs) := (HS3.out.keep fun k q => hb4.block k q).mono fun k q => Nat.lt_of_lt_of_le q hb4.size; have hI1 := tis_ok HS4.out tiny_abv 3 1; have hI2 := tis_ok HS4.out tiny_abv 11 9; rw [tiny_is1] at hI1; rw [tiny_is2] at hI2; clear hF hb4)
    | (go_at_call 18; first | (refine hI1.mono ?_; clear hI1; rintro e w5 ⟨rfl, hw5⟩; replace hw5 := hw5.symm; subst hw5) | (refine hI2.mono ?_; clear hI2; rintro e w6 ⟨rfl, hw6⟩; replace hw6 := hw6.symm; subst hw6))
    | (go_at_call 16; refine (num_any _ _).mono ?_; rintro e w9 ⟨rfl, hw9⟩; replace hw9 := hw9.symm; subst hw9))
  go_ret
  exact ⟨rfl, HB4.out⟩
end Go.Proofs.YtbdfpodglfpjnaaGreat
