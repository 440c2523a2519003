/- A store of objects: Free. -/
import Derived.Test.YtojblddfggoecaaGreatORow
namespace Go.Proofs.YtojblddfggoecaaGreat
open Go.RowKit
theorem Mine.cell {w : World} {B q cap n : Nat} {f : Nat → Int} (h : Mine w B (.slice (some ⟨q, 0, none⟩) n cap) n f) {i : Nat} (hi : i < n) : w.cell? ⟨q, i, none⟩ = some (.int .i64 (f i)) := by
  obtain ⟨p, c, e, _, _, _, cur, hg, _, _, hc⟩ := h.shape (by omega)
  simp only [Value.slice.injEq, Option.some.injEq, Addr.mk.injEq, and_true] at e
  obtain ⟨rfl, _⟩ := e
  simp only [World.cell?, hg]
  exact hc i hi
section
variable {w : World} {P : Nat → Prop} {so mb p b W base N G : Nat} {cs : Nat → Int} {T : Int} {xs : List Int} {ws : Nat → Int} {nn : Nat} {D : DataW Unit} {O : List Ob}
theorem gone_no (h : Sto w P so mb p b W base N G cs T xs ws nn D O) (A ref : Int) (hw : (Lit.int .i64 ref).wf = true) (hb : Bad G O A ref) :
    Calls Tryz.prog 10 #[.pointer (some ⟨so, 0, none⟩), .int .i64 A, .int .i64 ref] w fun e w' => e = .returned (.int .i64 803) ∧ w' = w := by
  have ha := access_no h.raw A ref hw (h.bad hb)
  clear h hb
  go_enter Tryz.func10, Tryz.ntmps10
  go_wp2_with (go_at_call 26; refine ha.mono ?_; rintro e w9 ⟨rfl, hw9⟩; replace hw9 := hw9.symm; subst hw9)
  go_ret
  exact ⟨rfl, rfl⟩
/-- What Free leaves. -/
def GonePost (w : World) (P : Nat → Prop) (so mb p b W base N G : Nat) (cs : Nat → Int) (T : Int) (xs : List Int) (ws : Nat → Int) (nn : Nat) (O : List Ob) (k : Nat) (e : Ending) (w' : World) : Prop :=
  e = .returned (.int .i64 0) ∧ ∃ xs' cs' D' P', Grew cs cs' 300 ∧ xs'.length = xs.length + k ∧ Sto w' P' so mb p b W base N G cs' (T + k) xs' ws nn D' O ∧ Bt P w w' ∧ Wider P P' w
set_option maxRecDepth 20000 in
set_option maxHeartbeats 1000000 in
theorem gone_ok (h : Sto w P so mb p b W base N G cs T xs ws nn D O) {a : Nat} {o : Ob} (ha : O[a]? = some o) (g : Nat) (hg : g < G) (hT : T ≤ 900000) :
    Calls Tryz.prog 10 #[.pointer (some ⟨so, 0, none⟩), .int .i64 g, .int .i64 o.ref] w (GonePost w P so mb p b W base N G cs T xs (freed base N ws o.c (frg o.n)) nn (O.eraseIdx a) (frg o.n)) := by
  have ho := List.mem_of_getElem? ha
  have hac := h.access ho g hg
  have hs := h.inv.size o ho
  have hfr := fragments_ok o.n (by omega)
  have hrow := row_ok h ho g hg
  have hwf := (h.wf ho).1
  have HF : Hid (OInv (freed base N ws o.c (frg o.n)) base N (xs.length + frg o.n) (O.eraseIdx a) ∧ Mp (D.del (.int .i64 o.ref)) (O.eraseIdx a)) := ⟨h.inv.free ha, h.mp.del ha fun b z hb hne => h.inv.ref_ne hb ha hne⟩
  have Hu : Hid (∀ k, k < frg o.n → o.c k < N ∧ freed base N ws o.c k (base + 8 * N + o.c k) ≠ 0) := fun k hk => ⟨(h.inv.used o ho k hk).1, by
    rw [freed_col ws o.c k fun j hj e => by have := h.inv.inj o ho j k (by omega) hk e; omega]
    exact (h.inv.used o ho k hk).2⟩
  have h9 := frg_nine hs
  have h1 := frg_pos o.n
  generalize o.ref = ref at hac hrow hwf HF ⊢
  generalize frg o.n = M at *
  clear h ha
  go_enter Tryz.func10, Tryz.ntmps10
  go_wp2_with (first
    | (go_at_call 26; refine hac.mono ?_; rintro e w9 ⟨rfl, hw9⟩; replace hw9 := hw9.symm; subst hw9)
    | (go_at_call 28; refine (hfr _).mono ?_; rintro e w9 ⟨rfl, hw9⟩; replace hw9 := hw9.symm; subst hw9)
    | (go_at_call 27; refine hrow.mono ?_; rintro e w2 ⟨v, cs2, P2, rfl, hg2, hB2⟩; obtain ⟨q, cp, rfl, _⟩ := hB2.row.shape h1))
  clear hac hfr hrow
  have HB2 : Hid (Bes w w2 P P2 so mb p b W base N G cs2 T xs ws nn D (.slice (some ⟨q, 0, none⟩) M cp) M (fun k => (o.c k : Nat))) := hB2
  clear hB2
  go_loopg [10, 28] (M + 1) (fun kx s10 s28 wr => ∃ (k : Nat) (cs' : Nat → Int) (xs' : List Int) (P' : Nat → Prop), s28 = .int .i64 k ∧ k ≤ M ∧ M - k ≤ kx ∧ Grew cs2 cs' (10 * k) ∧ xs'.length = xs.length + k ∧ Bes w wr P P' so mb p b W base N G cs' (T + k) xs' (freed base N ws o.c k) nn D (.slice (some ⟨q, 0, none⟩) M cp) M (fun k => (o.c k : Nat)))
  case atStart => exact ⟨0, cs2, xs, P2, rfl, by omega, by omega, Grew.refl _ _, rfl, by rw [show T + ((0 : Nat) : Int) = T by omega]; exact HB2.out⟩
  case round =>
    clear HB2
    obtain ⟨k, cs', xs', P', rfl, hk, hkx, hgr, hl, hBs⟩ := hrel
    have cc := hBs.raw.cells
    by_cases hlt : k < M
    · have hlt' : (k : Int) < (M : Int) := by omega
      have ck := hBs.row.cell hlt
      have hfk := hBs.raw.free (by omega) g (o.c k) hg (Hu.out k hlt).1 (Hu.out k hlt).2
      have HG : Hid (Grew cs2 cs' (10 * k) ∧ xs'.length = xs.length + k) := ⟨hgr, hl⟩
      clear hgr hl
      go_wp2_with (go_at_call 29; refine hfk.mono ?_; rintro e w3 ⟨rfl, xs3, cs3, hl3, hg3, hR3⟩; obtain ⟨P3, hB3⟩ := hBs.turn hR3)
      go_roundg (M - (k + 1))
      case measure => omega
      case rel =>
        refine ⟨k + 1, cs3, xs3, P3, by go_num, by omega, by omega, (HG.out.1.trans hg3).mono (by omega), by have := HG.out.2; omega, ?_⟩
        rw [show T + ((k + 1 : Nat) : Int) = T + (k : Int) + 1 by omega]
        exact hB3
    · obtain rfl : k = M := by omega
      have hlt' : ¬ (k : Int) < (k : Int) := by omega
      go_wp2_with (at_delete; refine wpList_delete_own _ rfl _ _ 62 3 rfl 3 keyed3 Tryz.underlying62 _ mb nn D rfl hBs.raw.map _ _ rfl (Maps.keyOf_int_mk Tryz.underlying3 hwf) ?_; intro w5 hm5 ht5)
      go_ret
      obtain ⟨P5, hR5, hB5, hW5⟩ := hBs.raw.remap hm5 ht5.grown
      refine ⟨rfl, xs', cs', _, P5, (hg2.trans hgr).mono (by omega), hl, ⟨hR5, ?_, HF.out.2⟩, hBs.bt.wide hB5 hBs.wider, hBs.wider.trans hW5 hBs.bt.size⟩
      rw [hl]; exact HF.out.1
end
end Go.Proofs.YtojblddfggoecaaGreat
