/- LoadFields: its plain part and the two loops that make rows. -/
import Derived.Test.YtbdfpodglfpjnaaGreatMQCyw
namespace Go.Proofs.YtbdfpodglfpjnaaGreat
open Go.RowKit Go.Deep

def nms : List ByteArray := [⟨#[97]⟩, ⟨#[98]⟩, ⟨#[99]⟩, ⟨#[100]⟩, ⟨#[101]⟩, ⟨#[102]⟩, ⟨#[103]⟩, ⟨#[104]⟩]
/-- So many fields, all of one type. -/
def fdsF (t : Int) (a : Nat) : List Fd := (nms.take a).map fun s => ⟨s, t⟩
def fldP (a b : Nat) : Pg := ⟨11, [tinyC, ⟨⟨#[65]⟩, false, false, 0, [], fdsF 1 a, [], []⟩, ⟨⟨#[66]⟩, false, false, 12, [], fdsF 4 b, fdsF 1 a, []⟩]⟩
theorem fld_tab : ((List.range 8).all fun a => (List.range 8).all fun b => okB (fldP a b) && decide (st8 (fldP a b) = (0, 0))) = true := by kernel_rfl
theorem fld_at (a b : Nat) (ha : a ≤ 7) (hb : b ≤ 7) : Okl (fldP a b) ∧ loadJ (fldP a b) = .ok (allJ (fldP a b)) := by
  have h := List.all_eq_true.1 (List.all_eq_true.1 fld_tab a (List.mem_range.2 (by omega))) b (List.mem_range.2 (by omega))
  rw [Bool.and_eq_true, decide_eq_true_eq] at h
  exact ⟨okl_of h.1, (load_of h.2).trans rfl⟩
theorem fds_len (t : Int) (a : Nat) (h : a ≤ 8) : (fdsF t a).length = a := by
  unfold fdsF
  rw [List.length_map, List.length_take, show nms.length = 8 from rfl]; omega
theorem fds_at {t : Int} {a i : Nat} {s : ByteArray} (h : nms[i]? = some s) (hi : i < a) : (fdsF t a)[i]? = some ⟨s, t⟩ := by
  unfold fdsF
  rw [List.getElem?_map, List.getElem?_take, if_pos hi, h]; rfl
theorem fds_take {t : Int} {i : Nat} {s : ByteArray} (h : nms[i]? = some s) : fdsF t (i + 1) = fdsF t i ++ [⟨s, t⟩] := by
  unfold fdsF
  rw [take_next h, List.map_append]; rfl
theorem nms_at (i : Nat) (h : i < 8) : ∃ s, nms[i]? = some s := ⟨_, List.getElem?_eq_getElem (show i < nms.length from h)⟩
theorem fld_len (a b : Nat) : (allJ (fldP a b)).length = 14 := by unfold allJ; rw [List.length_map, List.length_range]; rfl
theorem fld_ly (a b i : Nat) (h : i < 14) : (allJ (fldP a b))[i]? = some (lyJ (fldP a b) (i : Nat)) := by
  unfold allJ
  rw [List.getElem?_map, List.getElem?_range (show i < nJ (fldP a b) from h)]; rfl
theorem fld_12 (a b : Nat) : (lyJ (fldP a b) 12).flds = fdsF 1 a ∧ (lyJ (fldP a b) 12).off = 0 := ⟨by kernel_rfl, by kernel_rfl⟩
theorem fld_13 (a b : Nat) : (lyJ (fldP a b) 13).flds = fdsF 1 a ++ fdsF 4 b ∧ (lyJ (fldP a b) 13).off = ((fdsF 1 a).length : Int) := ⟨by kernel_rfl, by kernel_rfl⟩
/-- One more field in a row of one's own. -/
theorem fld_push {base : Nat} {wr : World} {v : Value} {t : Int} {i : Nat} {s : ByteArray} (hG : Gro kFd 42 base wr v (fdsF t i)) (hb : base ≤ wr.heap.size) (h : nms[i]? = some s) : ∃ g cap w2, (appY #[28, 28] 28 #[v, .slice (some ⟨wr.heap.size, 0, none⟩) 1 1]).run Tryz.prog (wr.alloc (.cells #[.string s, .int .i64 t] 42)) = .ok (.slice (some ⟨g, 0, none⟩) (i + 1) cap) w2 ∧ Hid (Gro kFd 42 base w2 (.slice (some ⟨g, 0, none⟩) (i + 1) cap) (fdsF t (i + 1))) ∧ Hid (Below base wr w2) := by
  obtain ⟨i0, hi, hz0, hz1, hz2⟩ := info_parts infoCF
  have hi8 : i < 8 := (List.getElem?_eq_some_iff.1 h).1
  have hl := fds_len t i (by omega)
  obtain ⟨g, cap, w2, h1, h2, h3, -⟩ := Gro.push hG hb Tryz.underlying28 hi hz0 hz1 hz2 rfl (by decide) (Below.refl _ _) (x := ⟨s, t⟩) (cs := [.string s, .int .i64 t]) rfl (by omega)
  rw [hl] at h1 h2
  rw [← fds_take h] at h2
  exact ⟨g, cap, w2, h1, h2, h3⟩
theorem fld_cells {w : World} {S : Nat → Prop} {al : Option Addr} {cl a b : Nat} (ha : a ≤ 7) (hb : b ≤ 7) (h : Sl kLy w S (.slice al 14 cl) (allJ (fldP a b))) : ∃ p o f2 d2 f3 d3, al = some ⟨p, o, none⟩ ∧ w.cell? ⟨p, o + 48, none⟩ = some (.slice f2 a d2) ∧ w.cell? ⟨p, o + 49, none⟩ = some (.int .i64 0) ∧ w.cell? ⟨p, o + 52, none⟩ = some (.slice f3 (a + b) d3) ∧ w.cell? ⟨p, o + 53, none⟩ = some (.int .i64 a) ∧ Sl kFd w S (.slice f3 (a + b) d3) (fdsF 1 a ++ fdsF 4 b) := by
  obtain ⟨p, o, e1, -, cs, ⟨v1, v2, v3, rfl, s1, -, -⟩, hc⟩ := h.atJ (fld_ly a b 12 (by decide))
  obtain ⟨p', o', e2, -, cs', ⟨u1, u2, u3, rfl, t1, -, -⟩, hc'⟩ := h.atJ (fld_ly a b 13 (by decide))
  subst e1
  obtain ⟨rfl, rfl⟩ : p = p' ∧ o = o' := by
    have q := Addr.mk.inj (Option.some.inj e2)
    exact ⟨q.1, q.2.1⟩
  have l1 := fds_len 1 a (by omega)
  have l2 := fds_len 4 b (by omega)
  have k0 := hc 0 _ rfl
  have k1 := hc 1 _ rfl
  have m0 := hc' 0 _ rfl
  have m1 := hc' 1 _ rfl
  rw [show ((12 : Nat) : Int) = 12 from rfl, (fld_12 a b).2] at k1
  rw [show ((13 : Nat) : Int) = 13 from rfl, (fld_13 a b).2, l1] at m1
  rw [show ((12 : Nat) : Int) = 12 from rfl, (fld_12 a b).1] at s1
  rw [show ((13 : Nat) : Int) = 13 from rfl, (fld_13 a b).1] at t1
  have s1' := s1
  have t1' := t1
  obtain ⟨f2, d2, rfl, -⟩ := s1'
  obtain ⟨f3, d3, rfl, -⟩ := t1'
  rw [l1] at k0
  rw [List.length_append, l1, l2] at m0 t1
  exact ⟨p, o, f2, d2, f3, d3, rfl, k0, k1, m0, m1, t1⟩
end Go.Proofs.YtbdfpodglfpjnaaGreat
