/- The program's own Load: fieldsOf. -/
import Derived.Test.YtllpjjglnopgaabGreatMY26
import Derived.Test.YtllpjjglnopgaabGreatMY7
import Derived.Test.YtllpjjglnopgaabGreatMY1
import Derived.Deep.RegionHeld3
import Derived.Deep.LoopGhost
namespace Go.Proofs.YtllpjjglnopgaabGreat
open Go.RowKit Go.Deep

/-- The run of 'append([]T{}, a...)', cell by cell. -/
theorem cpyR_run {α : Type} {K : Kd α} {T Ts : TypeId} {i : TypeInfo} {z : Value} {bytes : Nat} (ht : Tryz.prog.underlying Ts = some (.slice T)) (hi : Tryz.prog.info? T = some i) (hz : i.zero = some z) (hsize : i.size = K.k) (hby : i.bytes = bytes) (hzs : z.cells.size = K.k) (hbb : bytes ≤ 1000)
    {w : World} {S : Nat → Prop} {a : Option Addr} {c : Nat} {xs : List α} (hv : Sl K w S (.slice a xs.length c) xs) (hS : ∀ k, S k → k < w.heap.size) (hl : xs.length ≤ 1073741824) :
    ∃ (ao : Option Addr) (cap : Nat) (w2 : World) (CS : List (List Value)), (appY #[Ts, Ts] Ts #[.slice (some ⟨w.heap.size, 0, none⟩) 0 0, .slice a xs.length c]).run Tryz.prog (w.alloc (.cells #[] T)) = .ok (.slice ao xs.length cap) w2 ∧ Below w.heap.size w w2 ∧ CS.length = xs.length ∧ (∀ (i : Nat) (x : α), xs[i]? = some x → ∃ cs, CS[i]? = some cs ∧ K.R w S x cs) ∧ (∀ r ∈ CS, r.length = K.k) ∧ w2.ownsRow w.heap.size T K.k (.slice ao xs.length cap) xs.length CS.flatten := by
  rcases Nat.eq_zero_or_pos xs.length with h0 | h0
  · have hx : xs = [] := List.eq_nil_of_length_eq_zero h0
    subst hx
    exact ⟨_, _, _, [], run_app_zero (w.alloc (.cells #[] T)) Ts T i ht hi a c w.heap.size, (Below.refl _ _).alloc (Nat.le_refl _) _, rfl, fun i x h => by simp at h, fun r h => by simp at h, own_empty w T K.k⟩
  · obtain ⟨b, o, CS, rfl, hb, hCl, hCS, hCk, hC1, hcell⟩ := Sl.raw hv h0
    have hlen : CS.flatten.length = xs.length * K.k := by rw [flat_len CS hCk, hCl]
    have hbyt : (0 + xs.length) * bytes ≤ 140737488355328 := by
      have : (0 + xs.length) * bytes ≤ 1073741824 * 1000 := Nat.mul_le_mul (by omega) hbb
      omega
    obtain ⟨g, cap, w2, hr, hown, hg, hat, -⟩ := run_append_lies (P := Tryz.prog) (w.alloc (.cells #[] T)) Ts Ts w.heap.size T i z K.k bytes ht hi hz hsize hby hzs K.pos _ 0 [] (own_empty w T K.k) ⟨b, o, none⟩ xs.length c CS.flatten hlen (fun j u hu => by
      have hadd : (⟨b, o, none⟩ : Addr).add j = ⟨b, o + j, none⟩ := by unfold Addr.add; split <;> simp_all
      have := hcell j u hu
      rw [hadd]
      rw [cell_same (Below.heap_alloc _ _ _ (hS b hb))]; exact this) (fun u hu => by
        obtain ⟨r, hr, hur⟩ := List.mem_flatten.1 hu
        exact hC1 r hr u hur) h0 (by unfold maxLen; omega) hbyt (by simp) _ rfl
    rw [Nat.zero_add] at hr hown
    have hsz : (w.alloc (.cells #[] T)).heap.size = w.heap.size + 1 := by simp
    have hgs := hg.size
    refine ⟨_, _, _, CS, hr, ⟨hg.os, hg.tape, hg.output, by omega, fun k hk => by rw [hg.block k (by omega) (fun e => by have h2 : some k = some w.heap.size := e; injection h2; omega), Below.heap_alloc _ _ _ hk]⟩, hCl, hCS, hCk, ?_⟩
    simpa using hown
/-- What a clone leaves. -/
def CloP {α : Type} (K : Kd α) (T : TypeId) (w : World) (S : Nat → Prop) (xs : List α) (e : Ending) (w' : World) : Prop := ∃ (v : Value) (CS : List (List Value)), e = .returned v ∧ Below w.heap.size w w' ∧ CS.length = xs.length ∧ (∀ (i : Nat) (x : α), xs[i]? = some x → ∃ cs, CS[i]? = some cs ∧ K.R w S x cs) ∧ (∀ r ∈ CS, r.length = K.k) ∧ w'.ownsRow w.heap.size T K.k v xs.length CS.flatten
attribute [local go_sem ↓] app_Y
theorem infoCF : (Tryz.prog.info? 29).map (fun i => (i.zero, i.size, i.bytes)) = some (some (.agg #[.string ⟨#[]⟩, .int .i64 0]), 2, 24) := by kernel_rfl
set_option maxRecDepth 20000 in
theorem cloF_ok {w : World} {S : Nat → Prop} {v : Value} {xs : List Fd} (hv : Sl kFd w S v xs) (hS : ∀ k, S k → k < w.heap.size) (hl : xs.length ≤ 1073741824) : Calls Tryz.prog 97 #[v] w (CloP kFd 29 w S xs) := by
  obtain ⟨i0, hi, hz0, hz1, hz2⟩ := info_parts infoCF
  have hv2 := hv
  obtain ⟨a, c, rfl, -, hh⟩ := hv2
  rcases a with _ | a
  · have hx : xs = [] := by
      rcases hh with q | ⟨b, o, e, -⟩
      · exact q
      · cases e
    subst hx
    have HR : Hid (CloP kFd 29 w S [] (.returned (.slice none 0 0)) w) := ⟨_, [], rfl, Below.refl _ _, rfl, fun i x h => by simp at h, fun r h => by simp at h, World.ownsRow_nil _ _ _ _⟩
    have hq : ∀ W, (binOp BinOp.eql 24 (.slice none 0 c) (.slice none 0 0)).run Tryz.prog W = .ok (.bool true) W := fun W => by kernel_rfl
    clear hv hh
    go_enter Tryz.func97, Tryz.ntmps97
    go_wp2
    go_ret
    exact HR.out
  · obtain ⟨ao, cap, w2, CS, hr, hb, h1, h2, h3, h4⟩ := cpyR_run (K := kFd) (T := 29) (Ts := 24) Tryz.underlying24 hi hz0 hz1 hz2 rfl (by decide) hv hS hl
    have HR : Hid (CloP kFd 29 w S xs (.returned (.slice ao xs.length cap)) w2) := ⟨_, CS, rfl, hb, h1, h2, h3, h4⟩
    have hq : ∀ W, (binOp BinOp.eql 24 (.slice (some a) xs.length c) (.slice none 0 0)).run Tryz.prog W = .ok (.bool false) W := fun W => by kernel_rfl
    clear hv hh hb h1 h2 h3 h4
    go_enter Tryz.func97, Tryz.ntmps97
    go_wp2
    go_ret
    exact HR.out
theorem infoCE : (Tryz.prog.info? 68).map (fun i => (i.zero, i.size, i.bytes)) = some (some (.agg #[.string ⟨#[]⟩, .slice none 0 0, .int .i64 0, .int .i64 0, .int .i64 0]), 5, 64) := by kernel_rfl
set_option maxRecDepth 20000 in
theorem cloE_ok {w : World} {S : Nat → Prop} {v : Value} {xs : List En} (hv : Sl kEn w S v xs) (hS : ∀ k, S k → k < w.heap.size) (hl : xs.length ≤ 1073741824) : Calls Tryz.prog 99 #[v] w (CloP kEn 68 w S xs) := by
  obtain ⟨i0, hi, hz0, hz1, hz2⟩ := info_parts infoCE
  have hv2 := hv
  obtain ⟨a, c, rfl, -, hh⟩ := hv2
  rcases a with _ | a
  · have hx : xs = [] := by
      rcases hh with q | ⟨b, o, e, -⟩
      · exact q
      · cases e
    subst hx
    have HR : Hid (CloP kEn 68 w S [] (.returned (.slice none 0 0)) w) := ⟨_, [], rfl, Below.refl _ _, rfl, fun i x h => by simp at h, fun r h => by simp at h, World.ownsRow_nil _ _ _ _⟩
    have hq : ∀ W, (binOp BinOp.eql 50 (.slice none 0 c) (.slice none 0 0)).run Tryz.prog W = .ok (.bool true) W := fun W => by kernel_rfl
    clear hv hh
    go_enter Tryz.func99, Tryz.ntmps99
    go_wp2
    go_ret
    exact HR.out
  · obtain ⟨ao, cap, w2, CS, hr, hb, h1, h2, h3, h4⟩ := cpyR_run (K := kEn) (T := 68) (Ts := 50) Tryz.underlying50 hi hz0 hz1 hz2 rfl (by decide) hv hS hl
    have HR : Hid (CloP kEn 68 w S xs (.returned (.slice ao xs.length cap)) w2) := ⟨_, CS, rfl, hb, h1, h2, h3, h4⟩
    have hq : ∀ W, (binOp BinOp.eql 50 (.slice (some a) xs.length c) (.slice none 0 0)).run Tryz.prog W = .ok (.bool false) W := fun W => by kernel_rfl
    clear hv hh hb h1 h2 h3 h4
    go_enter Tryz.func99, Tryz.ntmps99
    go_wp2
    go_ret
    exact HR.out
theorem infoCI : (Tryz.prog.info? 3).map (fun i => (i.zero, i.size, i.bytes)) = some (some (.int .i64 0), 1, 8) := by kernel_rfl
set_option maxRecDepth 20000 in
theorem cloI_ok {w : World} {S : Nat → Prop} {v : Value} {xs : List Int} (hv : Sl kI w S v xs) (hS : ∀ k, S k → k < w.heap.size) (hl : xs.length ≤ 1073741824) : Calls Tryz.prog 100 #[v] w (CloP kI 3 w S xs) := by
  obtain ⟨i0, hi, hz0, hz1, hz2⟩ := info_parts infoCI
  have hv2 := hv
  obtain ⟨a, c, rfl, -, hh⟩ := hv2
  rcases a with _ | a
  · have hx : xs = [] := by
      rcases hh with q | ⟨b, o, e, -⟩
      · exact q
      · cases e
    subst hx
    have HR : Hid (CloP kI 3 w S [] (.returned (.slice none 0 0)) w) := ⟨_, [], rfl, Below.refl _ _, rfl, fun i x h => by simp at h, fun r h => by simp at h, World.ownsRow_nil _ _ _ _⟩
    have hq : ∀ W, (binOp BinOp.eql 23 (.slice none 0 c) (.slice none 0 0)).run Tryz.prog W = .ok (.bool true) W := fun W => by kernel_rfl
    clear hv hh
    go_enter Tryz.func100, Tryz.ntmps100
    go_wp2
    go_ret
    exact HR.out
  · obtain ⟨ao, cap, w2, CS, hr, hb, h1, h2, h3, h4⟩ := cpyR_run (K := kI) (T := 3) (Ts := 23) Tryz.underlying23 hi hz0 hz1 hz2 rfl (by decide) hv hS hl
    have HR : Hid (CloP kI 3 w S xs (.returned (.slice ao xs.length cap)) w2) := ⟨_, CS, rfl, hb, h1, h2, h3, h4⟩
    have hq : ∀ W, (binOp BinOp.eql 23 (.slice (some a) xs.length c) (.slice none 0 0)).run Tryz.prog W = .ok (.bool false) W := fun W => by kernel_rfl
    clear hv hh hb h1 h2 h3 h4
    go_enter Tryz.func100, Tryz.ntmps100
    go_wp2
    go_ret
    exact HR.out
end Go.Proofs.YtllpjjglnopgaabGreat
namespace Go.Proofs.YtllpjjglnopgaabGreat
open Go.RowKit Go.Deep

/-- One more, in a row that a slot holds. -/
theorem Gro.push {α : Type} {K : Kd α} {T : TypeId} {base : Nat} {wr w1 : World} {v : Value} {xs : List α} (h : Gro K T base wr v xs) (hbase : base ≤ wr.heap.size) {Ts : TypeId} {i : TypeInfo} {z : Value} {bytes : Nat} (ht : Tryz.prog.underlying Ts = some (.slice T)) (hi : Tryz.prog.info? T = some i) (hz : i.zero = some z) (hsize : i.size = K.k) (hby : i.bytes = bytes) (hzs : z.cells.size = K.k) (hbb : bytes ≤ 1000)
    (hb : Below wr.heap.size wr w1) {x : α} {cs : List Value} (hR : K.R w1 (fun b => wr.heap.size ≤ b ∧ b < w1.heap.size) x cs) (hn : xs.length ≤ 1073741824) :
    ∃ g cap w2, (appY #[Ts, Ts] Ts #[v, .slice (some ⟨w1.heap.size, 0, none⟩) 1 1]).run Tryz.prog (w1.alloc (.cells cs.toArray T)) = .ok (.slice (some ⟨g, 0, none⟩) (xs.length + 1) cap) w2 ∧ Gro K T base w2 (.slice (some ⟨g, 0, none⟩) (xs.length + 1) cap) (xs ++ [x]) ∧ Below base wr w2 ∧ ∀ k, wr.heap.size ≤ k → k < w1.heap.size → w2.heap[k]? = w1.heap[k]? := by
  have hbz := hb.size
  have hG : Gro K T base w1 v xs := h.kept (row := none) ⟨hb.os, hb.tape, hb.output, hb.size, fun k hk _ => hb.block k hk⟩ (fun b e => by cases e)
  obtain ⟨fs, hf⟩ := hG.own
  have hsz : (w1.alloc (.cells cs.toArray T)).heap.size = w1.heap.size + 1 := by simp
  have hbyt : (xs.length + 1) * bytes ≤ 140737488355328 := by
    have : (xs.length + 1) * bytes ≤ 1073741825 * 1000 := Nat.mul_le_mul (by omega) hbb
    omega
  obtain ⟨g, cap, w2, hr, hown, hg, hat, -⟩ := run_append_lies (P := Tryz.prog) (w1.alloc (.cells cs.toArray T)) Ts Ts base T i z K.k bytes ht hi hz hsize hby hzs K.pos v xs.length fs (hf.alloc _) ⟨w1.heap.size, 0, none⟩ 1 1 cs (by rw [K.len hR]; omega) (fun j u hu => news_at w1 cs.toArray T j u (by simpa using hu)) (K.one hR) (by decide) (by unfold maxLen; omega) hbyt (by omega) _ rfl
  have hv : ∀ g, v.ownBlock = some g → g < wr.heap.size ∧ base ≤ g := fun g hg => by
    rcases h.shape with e | ⟨g', cap, e, hge, hlt⟩
    · rw [e] at hg; cases hg
    · rw [e] at hg
      have : g' = g := by simpa [Value.ownBlock] using hg
      omega
  have hA := hG.app hR (by omega) (fun g hg => (hv g hg).1) hf hown hg hat
  refine ⟨g, cap, w2, hr, hA, (hb.mono hbase).trans ⟨hg.os, hg.tape, hg.output, by have := hg.size; omega, fun k hk => ?_⟩, fun k hk1 hk2 => ?_⟩
  · rw [hg.block k (by omega) (fun e => by have := (hv k e.symm).2; omega), Below.heap_alloc _ _ _ (by omega)]
  · rw [hg.block k (by omega) (fun e => by have := (hv k e.symm).1; omega), Below.heap_alloc _ _ _ hk2]
theorem CloP.gro {w w' : World} {S : Nat → Prop} {xs : List Fd} {e : Ending} (h : CloP kFd 29 w S xs e w') : ∃ v, e = .returned v ∧ Below w.heap.size w w' ∧ Gro kFdU 29 w.heap.size w' v xs := by
  obtain ⟨v, CS, rfl, hb, h1, h2, h3, h4⟩ := h
  exact ⟨v, rfl, hb, CS, h1, fun i x hx => by obtain ⟨cs, e1, e2⟩ := h2 i x hx; exact ⟨cs, e1, e2⟩, h4⟩
/-- What fieldsOf leaves. -/
def FldP (w : World) (zs : List Fd) (e : Ending) (w' : World) : Prop := ∃ v, e = .returned v ∧ Below w.heap.size w w' ∧ Sl kFdU w' (fun k => w.heap.size ≤ k ∧ k < w'.heap.size) v zs
attribute [local go_sem ↓] app_Y
set_option maxRecDepth 20000 in
set_option maxHeartbeats 4000000 in
theorem fieldsOf_ok {w : World} {S : Nat → Prop} {v1 v2 : Value} {xs ys : List Fd} (h1 : Sl kFd w S v1 xs) (h2 : Sl kFd w S v2 ys) (hS : ∀ k, S k → k < w.heap.size) (hl : xs.length + ys.length ≤ 1048576) (hnm : ∀ f ∈ ys, f.nm.size ≤ 281474976710656) : Calls Tryz.prog 85 #[v1, v2] w (FldP w (xs ++ ys)) := by
  obtain ⟨i0, hi, hz0, hz1, hz2⟩ := info_parts infoCF
  have hC := cloF_ok h1 hS (by omega)
  have hv2 := h2
  obtain ⟨a2, c2, rfl, -⟩ := hv2
  have H2 : Hid (Sl kFd w S (.slice a2 ys.length c2) ys) := h2
  have HS : Hid (∀ k, S k → k < w.heap.size) := hS
  have HP : Hid (∀ (wr w1 : World) (v : Value) (zs : List Fd) (x : Fd), Gro kFdU 29 w.heap.size wr v zs → w.heap.size ≤ wr.heap.size → Below wr.heap.size wr w1 → zs.length ≤ 1048576 → ∃ g cap w2, (appY #[24, 24] 24 #[v, .slice (some ⟨w1.heap.size, 0, none⟩) 1 1]).run Tryz.prog (w1.alloc (.cells #[.string x.nm, .int .i64 x.ty] 29)) = .ok (.slice (some ⟨g, 0, none⟩) (zs.length + 1) cap) w2 ∧ Hid (Gro kFdU 29 w.heap.size w2 (.slice (some ⟨g, 0, none⟩) (zs.length + 1) cap) (zs ++ [x])) ∧ Hid (Below w.heap.size wr w2) ∧ Hid (∀ k, wr.heap.size ≤ k → k < w1.heap.size → w2.heap[k]? = w1.heap[k]?)) := fun wr w1 v zs x hG hb0 hb hn => Gro.push hG hb0 Tryz.underlying24 hi hz0 hz1 hz2 rfl (by decide) hb (x := x) (cs := [.string x.nm, .int .i64 x.ty]) rfl (by omega)
  clear h1 h2 hS hi hz0 hz1 hz2
  go_enter Tryz.func85, Tryz.ntmps85
  go_wp2_with (go_at_call 97; refine hC.mono ?_; intro e w1 hc; obtain ⟨v, rfl, hb, hg⟩ := hc.gro; have HB1 : Hid (Below w.heap.size w w1) := hb; have HG1 : Hid (Gro kFdU 29 w.heap.size w1 v xs) := hg; clear hc hb hg hC)
  go_loopg [5, 12] (ys.length + 1) (fun kx s5 s12 wr => ∃ i : Nat, s12 = .int .i64 i ∧ i ≤ ys.length ∧ ys.length - i ≤ kx ∧ Hid (Gro kFdU 29 w.heap.size wr s5 (xs ++ ys.take i)) ∧ Hid (Below w.heap.size w wr))
  case atStart => exact ⟨0, rfl, by omega, by omega, by have := HG1.out; rw [List.take_zero, List.append_nil]; exact this, HB1⟩
  case round =>
    clear HB1 HG1
    obtain ⟨i, rfl, hi, hk, HG, HB⟩ := hrel
    by_cases hlt : i < ys.length
    · obtain ⟨x, hx⟩ : ∃ x, ys[i]? = some x := ⟨_, List.getElem?_eq_getElem hlt⟩
      have hl2 : (i : Int) < (ys.length : Int) := by omega
      obtain ⟨p, o, rfl, -, cs, hr, hc⟩ := (H2.out.keep fun b hb => HB.out.block b (HS.out b hb)).atJ hx
      obtain rfl := hr
      have a0 := hc 0 _ rfl
      have a1 := hc 1 _ rfl
      rw [show o + (i * kFd.k + 0) = o + i * 2 by show o + (i * 2 + 0) = o + i * 2; omega] at a0
      rw [show o + (i * kFd.k + 1) = o + i * 2 + 1 by show o + (i * 2 + 1) = o + i * 2 + 1; omega] at a1
      have HX : Hid (ys[i]? = some x) := hx
      clear hc hx
      have hlim := hnm x (List.mem_of_getElem? HX.out)
      obtain ⟨U, hU⟩ : ∃ U, U = wr.alloc (.cells #[.string x.nm, .int .i64 x.ty] 29) := ⟨_, rfl⟩
      have hbU : U.heap[wr.heap.size]? = some (.cells #[.string x.nm, .int .i64 x.ty] 29 (0, 0)) := by rw [hU]; exact Array.getElem?_push_size
      have hzU : U.heap.size = wr.heap.size + 1 := by rw [hU]; exact Array.size_push _
      have bU : Below wr.heap.size wr U := by rw [hU]; exact (Below.refl _ _).alloc (Nat.le_refl _) _
      have u0 : U.drew.cell? ⟨wr.heap.size, 0, none⟩ = some (.string x.nm) := bxq_cell (show U.drew.heap[wr.heap.size]? = _ from hbU) rfl
      have u1 : U.drew.cell? ⟨wr.heap.size, 1, none⟩ = some (.int .i64 x.ty) := bxq_cell (show U.drew.heap[wr.heap.size]? = _ from hbU) rfl
      obtain ⟨zs, hzs⟩ : ∃ zs, xs ++ ys.take i = zs := ⟨_, rfl⟩
      have HGz : Hid (Gro kFdU 29 w.heap.size wr u5 zs) := hzs ▸ HG.out
      have hzl : Hid (zs.length = xs.length + i) := show zs.length = xs.length + i by rw [← hzs, List.length_append, List.length_take, Nat.min_eq_left (by omega)]
      have ht : xs ++ ys.take (i + 1) = zs ++ [x] := by rw [take_next HX.out, ← hzs, List.append_assoc]
      have HN : Hid (∀ w2, Below U.heap.size U.drew w2 → (w2.cell? ⟨wr.heap.size, 0, none⟩ = some (.string x.nm) ∧ w2.cell? ⟨wr.heap.size, 1, none⟩ = some (.int .i64 x.ty)) ∧ ∃ g cap w3, (appY #[24, 24] 24 #[u5, .slice (some ⟨w2.heap.size, 0, none⟩) 1 1]).run Tryz.prog (w2.alloc (.cells #[.string x.nm, .int .i64 x.ty] 29)) = .ok (.slice (some ⟨g, 0, none⟩) (zs.length + 1) cap) w3 ∧ Hid (Gro kFdU 29 w.heap.size w3 (.slice (some ⟨g, 0, none⟩) (zs.length + 1) cap) (xs ++ ys.take (i + 1))) ∧ Hid (Below w.heap.size w w3) ∧ w3.cell? ⟨wr.heap.size, 0, none⟩ = some (.string x.nm) ∧ w3.cell? ⟨wr.heap.size, 1, none⟩ = some (.int .i64 x.ty)) := fun w2 hb => by
        have e : w2.heap[wr.heap.size]? = _ := (hb.block wr.heap.size (by omega)).trans hbU
        have hb2 : Below wr.heap.size wr w2 := (bU.drew).trans (hb.mono (by omega))
        obtain ⟨g, cap, w3, hr, h1, h2, h3⟩ := HP.out wr w2 u5 zs x HGz.out HB.out.size hb2 (by have := hzl.out; omega)
        have e3 := (h3.out wr.heap.size (Nat.le_refl _) (by have : U.heap.size ≤ w2.heap.size := hb.size; omega)).trans e
        refine ⟨⟨bxq_cell e rfl, bxq_cell e rfl⟩, g, cap, w3, hr, ?_, HB.out.trans h2.out, bxq_cell e3 rfl, bxq_cell e3 rfl⟩
        rw [ht]; exact h1
      clear hzs ht
      clear hbU hzU bU
      go_upto_region 5 with fail
      rw [← hU]
      clear hU
      go_region_held3 (fun w' => w'.cell? ⟨wr.heap.size, 0, none⟩ = some (.string x.nm) ∧ w'.cell? ⟨wr.heap.size, 1, none⟩ = some (.int .i64 x.ty)) (go_keep) ((go_at_call 98; refine (clone_any x.nm _ hlim).mono ?_; rintro e w2 ⟨rfl, hb⟩; obtain ⟨⟨k0, k1⟩, g, cap, w3, hrun, HG3, HB3, j0, j1⟩ := HN.out _ hb; clear hb))
      go_wp2
      go_roundg (ys.length - (i + 1))
      case measure => omega
      case rel => exact ⟨i + 1, by go_num, by omega, Nat.le_refl _, HG3, HB3⟩
    · obtain rfl : i = ys.length := by omega
      have hl2 : ¬ (ys.length : Int) < (ys.length : Int) := by omega
      have hG := HG.out
      rw [List.take_length] at hG
      have HR : Hid (FldP w (xs ++ ys) (.returned u5) wr) := ⟨u5, rfl, HB.out, hG.sl⟩
      clear HG HB hG
      go_wp2
      go_ret
      exact HR.out
end Go.Proofs.YtllpjjglnopgaabGreat
