/- The program's own Load: one cell of a row of one's own is written; entries whose Args are cloned one after the other. -/
import Derived.Test.YtbbmgjcabmjjdaaGreatDoorMY26
import Derived.Test.YtbbmgjcabmjjdaaGreatDoorMY5
import Derived.Test.YtbbmgjcabmjjdaaGreatDoorMY1
import Derived.Deep.RegionHeld3
import Derived.Deep.LoopGhost
import Derived.Test.YtbbmgjcabmjjdaaGreatDoorMGJ7
import Derived.Test.YtbbmgjcabmjjdaaGreatDoorMGJ4
namespace Go.Proofs.YtbbmgjcabmjjdaaGreatDoor
open Go.RowKit Go.Deep

/-- The run of 'append([]T{}, a...)', cell by cell. -/
theorem cpyR_run {α : Type} {K : Kd α} {T Ts : TypeId} {i : TypeInfo} {z : Value} {bytes : Nat} (ht : Tryz.prog.underlying Ts = some (.slice T)) (hi : Tryz.prog.info? T = some i) (hz : i.zero = some z) (hsize : i.size = K.k) (hby : i.bytes = bytes) (hzs : z.cells.size = K.k) (hbb : bytes ≤ 1000)
    {w : World} {S : Nat → Prop} {a : Option Addr} {c : Nat} {xs : List α} (hv : Sl K w S (.slice a xs.length c) xs) (hS : ∀ k, S k → k < w.heap.size) (hl : xs.length ≤ 1073741824) :
    ∃ (ao : Option Addr) (cap : Nat) (w2 : World) (CS : List (List Value)), (appY #[Ts, Ts] Ts #[.slice (some ⟨w.heap.size, 0, none⟩) 0 0, .slice a xs.length c]).run Tryz.prog (w.alloc (.cells #[] T)) = .ok (.slice ao xs.length cap) w2 ∧ Below w.heap.size w w2 ∧ CS.length = xs.length ∧ (∀ (i : Nat) (x : α), xs[i]? = some x → ∃ cs, CS[i]? = some cs ∧ K.R w S x cs) ∧ (∀ r ∈ CS, r.length = K.k) ∧ w2.ownsRow w.heap.size T K.k (.slice ao xs.length cap) xs.length CS.flatten := by
  rcases Nat.eq_zero_or_pos xs.length with h0 | h0
  · have hx : xs = [] := List.eq_nil_of_length_eq_zero h0
    subst hx
    exact ⟨_, _, _, [], run_app_zero (w.alloc (.cells #[] T)) Ts T i ht hi a c w.heap.size, (Below.refl _ _).alloc (Nat.le_refl _) _, rfl, fun i x h => by simp at h, fun r h => by simp at h, own_empty w T K.k⟩
  · obtain ⟨b, o, CS, rfl, hb, hCl, hCS, hCk, hC1, hcell⟩ := Sl.raw hv h0
    have hlen : CS.flatten.length = xs.length * K.k := by rw [flat_len CS hCk, hCl]
    have hbyt : (0 + xs.length) * bytes ≤ 140737488355328 := by
      have : (0 + xs.length) * bytes ≤ 1073741824 * 1000 := Nat.mul_le_mul (by omega) hbb
      omega
    obtain ⟨g, cap, w2, hr, hown, hg, hat, -⟩ := run_append_lies (P := Tryz.prog) (w.alloc (.cells #[] T)) Ts Ts w.heap.size T i z K.k bytes ht hi hz hsize hby hzs K.pos _ 0 [] (own_empty w T K.k) ⟨b, o, none⟩ xs.length c CS.flatten hlen (fun j u hu => by
      have hadd : (⟨b, o, none⟩ : Addr).add j = ⟨b, o + j, none⟩ := by unfold Addr.add; split <;> simp_all
      have := hcell j u hu
      rw [hadd]
      rw [cell_same (Below.heap_alloc _ _ _ (hS b hb))]; exact this) (fun u hu => by
        obtain ⟨r, hr, hur⟩ := List.mem_flatten.1 hu
        exact hC1 r hr u hur) h0 (by unfold maxLen; omega) hbyt (by simp) _ rfl
    rw [Nat.zero_add] at hr hown
    have hsz : (w.alloc (.cells #[] T)).heap.size = w.heap.size + 1 := by simp
    have hgs := hg.size
    refine ⟨_, _, _, CS, hr, ⟨hg.os, hg.tape, hg.output, by omega, fun k hk => by rw [hg.block k (by omega) (fun e => by have h2 : some k = some w.heap.size := e; injection h2; omega), Below.heap_alloc _ _ _ hk]⟩, hCl, hCS, hCk, ?_⟩
    simpa using hown
/-- What a clone leaves. -/
def CloP {α : Type} (K : Kd α) (T : TypeId) (w : World) (S : Nat → Prop) (xs : List α) (e : Ending) (w' : World) : Prop := ∃ (v : Value) (CS : List (List Value)), e = .returned v ∧ Below w.heap.size w w' ∧ CS.length = xs.length ∧ (∀ (i : Nat) (x : α), xs[i]? = some x → ∃ cs, CS[i]? = some cs ∧ K.R w S x cs) ∧ (∀ r ∈ CS, r.length = K.k) ∧ w'.ownsRow w.heap.size T K.k v xs.length CS.flatten
attribute [local go_sem ↓] app_Y
theorem infoCF : (Tryz.prog.info? 71).map (fun i => (i.zero, i.size, i.bytes)) = some (some (.agg #[.string ⟨#[]⟩, .int .i64 0]), 2, 24) := by kernel_rfl
set_option maxRecDepth 20000 in
theorem cloF_ok {w : World} {S : Nat → Prop} {v : Value} {xs : List Fd} (hv : Sl kFd w S v xs) (hS : ∀ k, S k → k < w.heap.size) (hl : xs.length ≤ 1073741824) : Calls Tryz.prog 125 #[v] w (CloP kFd 71 w S xs) := by
  obtain ⟨i0, hi, hz0, hz1, hz2⟩ := info_parts infoCF
  have hv2 := hv
  obtain ⟨a, c, rfl, -, hh⟩ := hv2
  rcases a with _ | a
  · have hx : xs = [] := by
      rcases hh with q | ⟨b, o, e, -⟩
      · exact q
      · cases e
    subst hx
    have HR : Hid (CloP kFd 71 w S [] (.returned (.slice none 0 0)) w) := ⟨_, [], rfl, Below.refl _ _, rfl, fun i x h => by simp at h, fun r h => by simp at h, World.ownsRow_nil _ _ _ _⟩
    have hq : ∀ W, (binOp BinOp.eql 32 (.slice none 0 c) (.slice none 0 0)).run Tryz.prog W = .ok (.bool true) W := fun W => by kernel_rfl
    clear hv hh
    go_enter Tryz.func125, Tryz.ntmps125
    go_wp2
    go_ret
    exact HR.out
  · obtain ⟨ao, cap, w2, CS, hr, hb, h1, h2, h3, h4⟩ := cpyR_run (K := kFd) (T := 71) (Ts := 32) Tryz.underlying32 hi hz0 hz1 hz2 rfl (by decide) hv hS hl
    have HR : Hid (CloP kFd 71 w S xs (.returned (.slice ao xs.length cap)) w2) := ⟨_, CS, rfl, hb, h1, h2, h3, h4⟩
    have hq : ∀ W, (binOp BinOp.eql 32 (.slice (some a) xs.length c) (.slice none 0 0)).run Tryz.prog W = .ok (.bool false) W := fun W => by kernel_rfl
    clear hv hh hb h1 h2 h3 h4
    go_enter Tryz.func125, Tryz.ntmps125
    go_wp2
    go_ret
    exact HR.out
theorem infoCE : (Tryz.prog.info? 79).map (fun i => (i.zero, i.size, i.bytes)) = some (some (.agg #[.string ⟨#[]⟩, .slice none 0 0, .int .i64 0, .int .i64 0, .int .i64 0]), 5, 64) := by kernel_rfl
set_option maxRecDepth 20000 in
theorem cloE_ok {w : World} {S : Nat → Prop} {v : Value} {xs : List En} (hv : Sl kEn w S v xs) (hS : ∀ k, S k → k < w.heap.size) (hl : xs.length ≤ 1073741824) : Calls Tryz.prog 127 #[v] w (CloP kEn 79 w S xs) := by
  obtain ⟨i0, hi, hz0, hz1, hz2⟩ := info_parts infoCE
  have hv2 := hv
  obtain ⟨a, c, rfl, -, hh⟩ := hv2
  rcases a with _ | a
  · have hx : xs = [] := by
      rcases hh with q | ⟨b, o, e, -⟩
      · exact q
      · cases e
    subst hx
    have HR : Hid (CloP kEn 79 w S [] (.returned (.slice none 0 0)) w) := ⟨_, [], rfl, Below.refl _ _, rfl, fun i x h => by simp at h, fun r h => by simp at h, World.ownsRow_nil _ _ _ _⟩
    have hq : ∀ W, (binOp BinOp.eql 56 (.slice none 0 c) (.slice none 0 0)).run Tryz.prog W = .ok (.bool true) W := fun W => by kernel_rfl
    clear hv hh
    go_enter Tryz.func127, Tryz.ntmps127
    go_wp2
    go_ret
    exact HR.out
  · obtain ⟨ao, cap, w2, CS, hr, hb, h1, h2, h3, h4⟩ := cpyR_run (K := kEn) (T := 79) (Ts := 56) Tryz.underlying56 hi hz0 hz1 hz2 rfl (by decide) hv hS hl
    have HR : Hid (CloP kEn 79 w S xs (.returned (.slice ao xs.length cap)) w2) := ⟨_, CS, rfl, hb, h1, h2, h3, h4⟩
    have hq : ∀ W, (binOp BinOp.eql 56 (.slice (some a) xs.length c) (.slice none 0 0)).run Tryz.prog W = .ok (.bool false) W := fun W => by kernel_rfl
    clear hv hh hb h1 h2 h3 h4
    go_enter Tryz.func127, Tryz.ntmps127
    go_wp2
    go_ret
    exact HR.out
theorem infoCI : (Tryz.prog.info? 3).map (fun i => (i.zero, i.size, i.bytes)) = some (some (.int .i64 0), 1, 8) := by kernel_rfl
set_option maxRecDepth 20000 in
theorem cloI_ok {w : World} {S : Nat → Prop} {v : Value} {xs : List Int} (hv : Sl kI w S v xs) (hS : ∀ k, S k → k < w.heap.size) (hl : xs.length ≤ 1073741824) : Calls Tryz.prog 128 #[v] w (CloP kI 3 w S xs) := by
  obtain ⟨i0, hi, hz0, hz1, hz2⟩ := info_parts infoCI
  have hv2 := hv
  obtain ⟨a, c, rfl, -, hh⟩ := hv2
  rcases a with _ | a
  · have hx : xs = [] := by
      rcases hh with q | ⟨b, o, e, -⟩
      · exact q
      · cases e
    subst hx
    have HR : Hid (CloP kI 3 w S [] (.returned (.slice none 0 0)) w) := ⟨_, [], rfl, Below.refl _ _, rfl, fun i x h => by simp at h, fun r h => by simp at h, World.ownsRow_nil _ _ _ _⟩
    have hq : ∀ W, (binOp BinOp.eql 26 (.slice none 0 c) (.slice none 0 0)).run Tryz.prog W = .ok (.bool true) W := fun W => by kernel_rfl
    clear hv hh
    go_enter Tryz.func128, Tryz.ntmps128
    go_wp2
    go_ret
    exact HR.out
  · obtain ⟨ao, cap, w2, CS, hr, hb, h1, h2, h3, h4⟩ := cpyR_run (K := kI) (T := 3) (Ts := 26) Tryz.underlying26 hi hz0 hz1 hz2 rfl (by decide) hv hS hl
    have HR : Hid (CloP kI 3 w S xs (.returned (.slice ao xs.length cap)) w2) := ⟨_, CS, rfl, hb, h1, h2, h3, h4⟩
    have hq : ∀ W, (binOp BinOp.eql 26 (.slice (some a) xs.length c) (.slice none 0 0)).run Tryz.prog W = .ok (.bool false) W := fun W => by kernel_rfl
    clear hv hh hb h1 h2 h3 h4
    go_enter Tryz.func128, Tryz.ntmps128
    go_wp2
    go_ret
    exact HR.out
end Go.Proofs.YtbbmgjcabmjjdaaGreatDoor
namespace Go.Proofs.YtbbmgjcabmjjdaaGreatDoor
open Go.RowKit Go.Deep

/-- One more, in a row that a slot holds. -/
theorem Gro.push {α : Type} {K : Kd α} {T : TypeId} {base : Nat} {wr w1 : World} {v : Value} {xs : List α} (h : Gro K T base wr v xs) (hbase : base ≤ wr.heap.size) {Ts : TypeId} {i : TypeInfo} {z : Value} {bytes : Nat} (ht : Tryz.prog.underlying Ts = some (.slice T)) (hi : Tryz.prog.info? T = some i) (hz : i.zero = some z) (hsize : i.size = K.k) (hby : i.bytes = bytes) (hzs : z.cells.size = K.k) (hbb : bytes ≤ 1000)
    (hb : Below wr.heap.size wr w1) {x : α} {cs : List Value} (hR : K.R w1 (fun b => wr.heap.size ≤ b ∧ b < w1.heap.size) x cs) (hn : xs.length ≤ 1073741824) :
    ∃ g cap w2, (appY #[Ts, Ts] Ts #[v, .slice (some ⟨w1.heap.size, 0, none⟩) 1 1]).run Tryz.prog (w1.alloc (.cells cs.toArray T)) = .ok (.slice (some ⟨g, 0, none⟩) (xs.length + 1) cap) w2 ∧ Gro K T base w2 (.slice (some ⟨g, 0, none⟩) (xs.length + 1) cap) (xs ++ [x]) ∧ Below base wr w2 ∧ ∀ k, wr.heap.size ≤ k → k < w1.heap.size → w2.heap[k]? = w1.heap[k]? := by
  have hbz := hb.size
  have hG : Gro K T base w1 v xs := h.kept (row := none) ⟨hb.os, hb.tape, hb.output, hb.size, fun k hk _ => hb.block k hk⟩ (fun b e => by cases e)
  obtain ⟨fs, hf⟩ := hG.own
  have hsz : (w1.alloc (.cells cs.toArray T)).heap.size = w1.heap.size + 1 := by simp
  have hbyt : (xs.length + 1) * bytes ≤ 140737488355328 := by
    have : (xs.length + 1) * bytes ≤ 1073741825 * 1000 := Nat.mul_le_mul (by omega) hbb
    omega
  obtain ⟨g, cap, w2, hr, hown, hg, hat, -⟩ := run_append_lies (P := Tryz.prog) (w1.alloc (.cells cs.toArray T)) Ts Ts base T i z K.k bytes ht hi hz hsize hby hzs K.pos v xs.length fs (hf.alloc _) ⟨w1.heap.size, 0, none⟩ 1 1 cs (by rw [K.len hR]; omega) (fun j u hu => news_at w1 cs.toArray T j u (by simpa using hu)) (K.one hR) (by decide) (by unfold maxLen; omega) hbyt (by omega) _ rfl
  have hv : ∀ g, v.ownBlock = some g → g < wr.heap.size ∧ base ≤ g := fun g hg => by
    rcases h.shape with e | ⟨g', cap, e, hge, hlt⟩
    · rw [e] at hg; cases hg
    · rw [e] at hg
      have : g' = g := by simpa [Value.ownBlock] using hg
      omega
  have hA := hG.app hR (by omega) (fun g hg => (hv g hg).1) hf hown hg hat
  refine ⟨g, cap, w2, hr, hA, (hb.mono hbase).trans ⟨hg.os, hg.tape, hg.output, by have := hg.size; omega, fun k hk => ?_⟩, fun k hk1 hk2 => ?_⟩
  · rw [hg.block k (by omega) (fun e => by have := (hv k e.symm).2; omega), Below.heap_alloc _ _ _ (by omega)]
  · rw [hg.block k (by omega) (fun e => by have := (hv k e.symm).1; omega), Below.heap_alloc _ _ _ hk2]
theorem CloP.gro {w w' : World} {S : Nat → Prop} {xs : List Fd} {e : Ending} (h : CloP kFd 71 w S xs e w') : ∃ v, e = .returned v ∧ Below w.heap.size w w' ∧ Gro kFdU 71 w.heap.size w' v xs := by
  obtain ⟨v, CS, rfl, hb, h1, h2, h3, h4⟩ := h
  exact ⟨v, rfl, hb, CS, h1, fun i x hx => by obtain ⟨cs, e1, e2⟩ := h2 i x hx; exact ⟨cs, e1, e2⟩, h4⟩
/-- What fieldsOf leaves. -/
def FldP (w : World) (zs : List Fd) (e : Ending) (w' : World) : Prop := ∃ v, e = .returned v ∧ Below w.heap.size w w' ∧ Sl kFdU w' (fun k => w.heap.size ≤ k ∧ k < w'.heap.size) v zs
attribute [local go_sem ↓] app_Y
set_option maxRecDepth 20000 in
set_option maxHeartbeats 4000000 in
theorem fieldsOf_ok {w : World} {S : Nat → Prop} {v1 v2 : Value} {xs ys : List Fd} (h1 : Sl kFd w S v1 xs) (h2 : Sl kFd w S v2 ys) (hS : ∀ k, S k → k < w.heap.size) (hl : xs.length + ys.length ≤ 1048576) (hnm : ∀ f ∈ ys, f.nm.size ≤ 281474976710656) : Calls Tryz.prog 106 #[v1, v2] w (FldP w (xs ++ ys)) := by
  obtain ⟨i0, hi, hz0, hz1, hz2⟩ := info_parts infoCF
  have hC := cloF_ok h1 hS (by omega)
  have hv2 := h2
  obtain ⟨a2, c2, rfl, -⟩ := hv2
  have H2 : Hid (Sl kFd w S (.slice a2 ys.length c2) ys) := h2
  have HS : Hid (∀ k, S k → k < w.heap.size) := hS
  have HP : Hid (∀ (wr w1 : World) (v : Value) (zs : List Fd) (x : Fd), Gro kFdU 71 w.heap.size wr v zs → w.heap.size ≤ wr.heap.size → Below wr.heap.size wr w1 → zs.length ≤ 1048576 → ∃ g cap w2, (appY #[32, 32] 32 #[v, .slice (some ⟨w1.heap.size, 0, none⟩) 1 1]).run Tryz.prog (w1.alloc (.cells #[.string x.nm, .int .i64 x.ty] 71)) = .ok (.slice (some ⟨g, 0, none⟩) (zs.length + 1) cap) w2 ∧ Hid (Gro kFdU 71 w.heap.size w2 (.slice (some ⟨g, 0, none⟩) (zs.length + 1) cap) (zs ++ [x])) ∧ Hid (Below w.heap.size wr w2) ∧ Hid (∀ k, wr.heap.size ≤ k → k < w1.heap.size → w2.heap[k]? = w1.heap[k]?)) := fun wr w1 v zs x hG hb0 hb hn => Gro.push hG hb0 Tryz.underlying32 hi hz0 hz1 hz2 rfl (by decide) hb (x := x) (cs := [.string x.nm, .int .i64 x.ty]) rfl (by omega)
  clear h1 h2 hS hi hz0 hz1 hz2
  go_enter Tryz.func106, Tryz.ntmps106
  go_wp2_with (go_at_call 125; refine hC.mono ?_; intro e w1 hc; obtain ⟨v, rfl, hb, hg⟩ := hc.gro; have HB1 : Hid (Below w.heap.size w w1) := hb; have HG1 : Hid (Gro kFdU 71 w.heap.size w1 v xs) := hg; clear hc hb hg hC)
  go_loopg [5, 12] (ys.length + 1) (fun kx s5 s12 wr => ∃ i : Nat, s12 = .int .i64 i ∧ i ≤ ys.length ∧ ys.length - i ≤ kx ∧ Hid (Gro kFdU 71 w.heap.size wr s5 (xs ++ ys.take i)) ∧ Hid (Below w.heap.size w wr))
  case atStart => exact ⟨0, rfl, by omega, by omega, by have := HG1.out; rw [List.take_zero, List.append_nil]; exact this, HB1⟩
  case round =>
    clear HB1 HG1
    obtain ⟨i, rfl, hi, hk, HG, HB⟩ := hrel
    by_cases hlt : i < ys.length
    · obtain ⟨x, hx⟩ : ∃ x, ys[i]? = some x := ⟨_, List.getElem?_eq_getElem hlt⟩
      have hl2 : (i : Int) < (ys.length : Int) := by omega
      obtain ⟨p, o, rfl, -, cs, hr, hc⟩ := (H2.out.keep fun b hb => HB.out.block b (HS.out b hb)).atJ hx
      obtain rfl := hr
      have a0 := hc 0 _ rfl
      have a1 := hc 1 _ rfl
      rw [show o + (i * kFd.k + 0) = o + i * 2 by show o + (i * 2 + 0) = o + i * 2; omega] at a0
      rw [show o + (i * kFd.k + 1) = o + i * 2 + 1 by show o + (i * 2 + 1) = o + i * 2 + 1; omega] at a1
      have HX : Hid (ys[i]? = some x) := hx
      clear hc hx
      have hlim := hnm x (List.mem_of_getElem? HX.out)
      obtain ⟨U, hU⟩ : ∃ U, U = wr.alloc (.cells #[.string x.nm, .int .i64 x.ty] 71) := ⟨_, rfl⟩
      have hbU : U.heap[wr.heap.size]? = some (.cells #[.string x.nm, .int .i64 x.ty] 71 (0, 0)) := by rw [hU]; exact Array.getElem?_push_size
      have hzU : U.heap.size = wr.heap.size + 1 := by rw [hU]; exact Array.size_push _
      have bU : Below wr.heap.size wr U := by rw [hU]; exact (Below.refl _ _).alloc (Nat.le_refl _) _
      have u0 : U.drew.cell? ⟨wr.heap.size, 0, none⟩ = some (.string x.nm) := bxq_cell (show U.drew.heap[wr.heap.size]? = _ from hbU) rfl
      have u1 : U.drew.cell? ⟨wr.heap.size, 1, none⟩ = some (.int .i64 x.ty) := bxq_cell (show U.drew.heap[wr.heap.size]? = _ from hbU) rfl
      obtain ⟨zs, hzs⟩ : ∃ zs, xs ++ ys.take i = zs := ⟨_, rfl⟩
      have HGz : Hid (Gro kFdU 71 w.heap.size wr u5 zs) := hzs ▸ HG.out
      have hzl : Hid (zs.length = xs.length + i) := show zs.length = xs.length + i by rw [← hzs, List.length_append, List.length_take, Nat.min_eq_left (by omega)]
      have ht : xs ++ ys.take (i + 1) = zs ++ [x] := by rw [take_next HX.out, ← hzs, List.append_assoc]
      have HN : Hid (∀ w2, Below U.heap.size U.drew w2 → (w2.cell? ⟨wr.heap.size, 0, none⟩ = some (.string x.nm) ∧ w2.cell? ⟨wr.heap.size, 1, none⟩ = some (.int .i64 x.ty)) ∧ ∃ g cap w3, (appY #[32, 32] 32 #[u5, .slice (some ⟨w2.heap.size, 0, none⟩) 1 1]).run Tryz.prog (w2.alloc (.cells #[.string x.nm, .int .i64 x.ty] 71)) = .ok (.slice (some ⟨g, 0, none⟩) (zs.length + 1) cap) w3 ∧ Hid (Gro kFdU 71 w.heap.size w3 (.slice (some ⟨g, 0, none⟩) (zs.length + 1) cap) (xs ++ ys.take (i + 1))) ∧ Hid (Below w.heap.size w w3) ∧ w3.cell? ⟨wr.heap.size, 0, none⟩ = some (.string x.nm) ∧ w3.cell? ⟨wr.heap.size, 1, none⟩ = some (.int .i64 x.ty)) := fun w2 hb => by
        have e : w2.heap[wr.heap.size]? = _ := (hb.block wr.heap.size (by omega)).trans hbU
        have hb2 : Below wr.heap.size wr w2 := (bU.drew).trans (hb.mono (by omega))
        obtain ⟨g, cap, w3, hr, h1, h2, h3⟩ := HP.out wr w2 u5 zs x HGz.out HB.out.size hb2 (by have := hzl.out; omega)
        have e3 := (h3.out wr.heap.size (Nat.le_refl _) (by have : U.heap.size ≤ w2.heap.size := hb.size; omega)).trans e
        refine ⟨⟨bxq_cell e rfl, bxq_cell e rfl⟩, g, cap, w3, hr, ?_, HB.out.trans h2.out, bxq_cell e3 rfl, bxq_cell e3 rfl⟩
        rw [ht]; exact h1
      clear hzs ht
      clear hbU hzU bU
      go_upto_region 5 with fail
      rw [← hU]
      clear hU
      go_region_held3 (fun w' => w'.cell? ⟨wr.heap.size, 0, none⟩ = some (.string x.nm) ∧ w'.cell? ⟨wr.heap.size, 1, none⟩ = some (.int .i64 x.ty)) (go_keep) ((go_at_call 126; refine (clone_any x.nm _ hlim).mono ?_; rintro e w2 ⟨rfl, hb⟩; obtain ⟨⟨k0, k1⟩, g, cap, w3, hrun, HG3, HB3, j0, j1⟩ := HN.out _ hb; clear hb))
      go_wp2
      go_roundg (ys.length - (i + 1))
      case measure => omega
      case rel => exact ⟨i + 1, by go_num, by omega, Nat.le_refl _, HG3, HB3⟩
    · obtain rfl : i = ys.length := by omega
      have hl2 : ¬ (ys.length : Int) < (ys.length : Int) := by omega
      have hG := HG.out
      rw [List.take_length] at hG
      have HR : Hid (FldP w (xs ++ ys) (.returned u5) wr) := ⟨u5, rfl, HB.out, hG.sl⟩
      clear HG HB hG
      go_wp2
      go_ret
      exact HR.out
end Go.Proofs.YtbbmgjcabmjjdaaGreatDoor
namespace Go.Proofs.YtbbmgjcabmjjdaaGreatDoor
open Go.RowKit

theorem infoLys : (Tryz.prog.info? 58).map (fun i => (i.zero, i.size, i.bytes)) = some (some (.agg #[.slice none 0 0, .int .i64 0, .slice none 0 0, .slice none 0 0]), 4, 80) := by kernel_rfl
def lyZ : List Value := [.slice none 0 0, .int .i64 0, .slice none 0 0, .slice none 0 0]
theorem made_lys (n : Nat) : (madeCells #[.slice none 0 0, .int .i64 0, .slice none 0 0, .slice none 0 0] (n * 4)).toList = (List.replicate n lyZ).flatten := by
  have hl : ∀ r ∈ List.replicate n lyZ, r.length = 4 := fun r hr => by rw [(List.mem_replicate.1 hr).2]; rfl
  apply List.ext_getElem?
  intro j
  by_cases hj : j < n * 4
  · have ej : j = (j / 4) * 4 + j % 4 := by omega
    have hm : j % 4 < 4 := by omega
    have hz : (List.replicate n lyZ)[j / 4]? = some lyZ := by rw [List.getElem?_replicate, if_pos (by omega)]
    have hr := flat_at (k := 4) _ hl (j / 4) lyZ hz (j % 4) hm
    rw [← ej] at hr
    rw [hr, Array.getElem?_toList]
    unfold madeCells
    simp only [Array.getElem?_map]
    rw [show (Array.range (n * 4))[j]? = some j by simp [hj]]
    simp only [Option.map_some, lyZ]
    rcases (show j % 4 = 0 ∨ j % 4 = 1 ∨ j % 4 = 2 ∨ j % 4 = 3 by omega) with e | e | e | e <;> simp [e]
  · rw [List.getElem?_eq_none (by rw [Array.length_toList, size_madeCells]; omega), List.getElem?_eq_none (by rw [flat_len (k := 4) _ hl, List.length_replicate]; omega)]
theorem ly0_at (w : World) (S : Nat → Prop) : kLyU.R w S ly0 lyZ :=
  ⟨_, _, _, rfl, ⟨none, 0, rfl, Nat.zero_le _, .inl rfl⟩, ⟨none, 0, rfl, Nat.zero_le _, .inl rfl⟩, ⟨none, 0, rfl, Nat.zero_le _, .inl rfl⟩⟩
theorem make_lys (n : Nat) (hn : n ≤ 1048576) : ∃ C : Array Value, (∀ u : World, (Instr.makeSlice 38 (.int .i64 n) (.int .i64 n)).run Tryz.prog u = .ok (.slice (some ⟨u.heap.size, 0, none⟩) n n) (u.alloc (.cells C 58))) ∧
    ∀ (u : World) (base : Nat), base ≤ u.heap.size → (u.alloc (.cells C 58)).ownsRow base 58 4 (.slice (some ⟨u.heap.size, 0, none⟩) n n) n (List.replicate n lyZ).flatten := by
  obtain ⟨i, hi, hz, hs, hb⟩ := info_parts infoLys
  refine ⟨madeCells #[.slice none 0 0, .int .i64 0, .slice none 0 0, .slice none 0 0] (n * 4), fun u => ?_, fun u base hbase => ?_⟩
  · have := run_make (P := Tryz.prog) u 38 58 i _ Tryz.underlying38 hi hz .i64 .i64 n n (by omega) (Int.le_refl _) (by rw [hb]; omega) (by omega)
    rw [hs] at this
    simpa [Value.cells] using this
  · refine ⟨?_, .inr ⟨u.heap.size, n, _, rfl, hbase, heap_alloc_new u _, Nat.le_refl _, by unfold maxLen; omega, ?_, ?_⟩⟩
    · rw [flat_len (k := 4) _ (fun r hr => by rw [(List.mem_replicate.1 hr).2]; rfl), List.length_replicate]
    · rw [size_madeCells]
    · rw [made_lys, List.take_of_length_le (by rw [flat_len (k := 4) _ (fun r hr => by rw [(List.mem_replicate.1 hr).2]; rfl), List.length_replicate]; exact Nat.le_refl _)]
end Go.Proofs.YtbbmgjcabmjjdaaGreatDoor
namespace Go.Proofs.YtbbmgjcabmjjdaaGreatDoor
open Go.RowKit

theorem flatten_set1 {k j : Nat} {u : Value} (hj : j < k) : ∀ (CS : List (List Value)) (i : Nat) (r : List Value), (∀ x ∈ CS, x.length = k) → CS[i]? = some r → (CS.set i (r.set j u)).flatten = CS.flatten.set (i * k + j) u
  | [], _, _, _, h => by simp at h
  | a :: CS, 0, r, hk, h => by
    have : a = r := by simpa using h
    subst this
    have ha := hk a (by simp)
    simp only [List.set_cons_zero, List.flatten_cons, Nat.zero_mul, Nat.zero_add]
    rw [List.set_append_left _ _ (by omega)]
  | a :: CS, i + 1, r, hk, h => by
    have ha := hk a (by simp)
    have ih := flatten_set1 (u := u) hj CS i r (fun x hx => hk x (by simp [hx])) (by simpa using h)
    simp only [List.set_cons_succ, List.flatten_cons]
    rw [ih, List.set_append_right _ _ (by rw [Nat.succ_mul]; omega), ha, Nat.succ_mul, show i * k + k + j - k = i * k + j by omega]
theorem own_set1 {W : World} {B : Nat} {T : TypeId} {k n cap g idx : Nat} {vals : List Value} {u : Value} (h : W.ownsRow B T k (.slice (some ⟨g, 0, none⟩) n cap) n vals) : (W.setCell ⟨g, idx, none⟩ u).ownsRow B T k (.slice (some ⟨g, 0, none⟩) n cap) n (vals.set idx u) := by
  obtain ⟨h1, h2⟩ := h
  rcases h2 with ⟨e, -⟩ | ⟨g', cap', cur, e, r1, r2, r3, r4, r5, r6⟩
  · cases e
  · injection e with e1 e2 e3
    obtain rfl : g = g' := by injection e1 with e1; injection e1
    subst e3
    have hb : (W.setCell ⟨g, idx, none⟩ u).heap[g]? = some (.cells (cur.setIfInBounds idx u) T (0, 0)) := by
      simp [World.setCell, Array.getElem?_modify, r2]
    refine ⟨by rw [List.length_set]; exact h1, .inr ⟨g, cap, _, rfl, r1, hb, r3, r4, by rw [Array.size_setIfInBounds]; exact r5, ?_⟩⟩
    rw [Array.toList_setIfInBounds, List.take_set, r6]
/-- A copy of entries in a row of one's own: the first i have Args of their own. -/
structure Vr (w : World) (S : Nat → Prop) (es : List En) (i : Nat) (W : World) (v : Value) : Prop where
  css : ∃ CS : List (List Value), CS.length = es.length ∧ (∀ (j : Nat) (x : En), es[j]? = some x → ∃ cs, CS[j]? = some cs ∧ ((j < i → kEnU.R W (Sx w.heap.size W v) x cs) ∧ (i ≤ j → kEn.R w S x cs))) ∧ (∀ r ∈ CS, r.length = 5) ∧ W.ownsRow w.heap.size 79 5 v es.length CS.flatten
  bel : Below w.heap.size w W
theorem Vr.of_clo {w w' : World} {S : Nat → Prop} {es : List En} {e : Ending} (h : CloP kEn 79 w S es e w') : ∃ v, e = .returned v ∧ Vr w S es 0 w' v := by
  obtain ⟨v, CS, rfl, hb, h1, h2, h3, h4⟩ := h
  exact ⟨v, rfl, ⟨CS, h1, fun j x hx => by obtain ⟨cs, e1, e2⟩ := h2 j x hx; exact ⟨cs, e1, fun q => absurd q (by omega), fun _ => e2⟩, h3, h4⟩, hb⟩
theorem Vr.gro {w W : World} {S : Nat → Prop} {es : List En} {v : Value} (h : Vr w S es es.length W v) : Gro kEnU 79 w.heap.size W v es := by
  obtain ⟨CS, h1, h2, -, h4⟩ := h.css
  refine ⟨CS, h1, fun j x hx => ?_, h4⟩
  obtain ⟨cs, e1, e2, -⟩ := h2 j x hx
  exact ⟨cs, e1, e2 (List.getElem?_eq_some_iff.1 hx).1⟩
theorem CloP.ints {w w' : World} {S : Nat → Prop} {xs : List Int} {e : Ending} (h : CloP kI 3 w S xs e w') : ∃ v, e = .returned v ∧ Below w.heap.size w w' ∧ Gro kIU 3 w.heap.size w' v xs := by
  obtain ⟨v, CS, rfl, hb, h1, h2, h3, h4⟩ := h
  exact ⟨v, rfl, hb, CS, h1, fun i x hx => by obtain ⟨cs, e1, e2⟩ := h2 i x hx; exact ⟨cs, e1, e2⟩, h4⟩
section
variable {w W W1 : World} {S : Nat → Prop} {es : List En} {i : Nat} {v : Value}
theorem Vr.shape (h : Vr w S es i W v) : v = .slice none 0 0 ∧ es = [] ∨ ∃ g cap, v = .slice (some ⟨g, 0, none⟩) es.length cap ∧ w.heap.size ≤ g ∧ g < W.heap.size := by
  obtain ⟨CS, _, _, _, h4⟩ := h.css
  rcases h4.2 with ⟨h1, h2⟩ | ⟨g, cap, cur, h1, h2, h3, _⟩
  · exact .inl ⟨h1, List.eq_nil_of_length_eq_zero h2⟩
  · exact .inr ⟨g, cap, h1, h2, (Array.getElem?_eq_some_iff.1 h3).1⟩
/-- The cell of the next entry's Args. -/
theorem Vr.cell (h : Vr w S es i W v) {x : En} (hx : es[i]? = some x) : ∃ g cap v1, v = .slice (some ⟨g, 0, none⟩) es.length cap ∧ W.cell? ⟨g, i * 5 + 1, none⟩ = some v1 ∧ W.frozen? ⟨g, i * 5 + 1, none⟩ = false ∧ Sl kI w S v1 x.args := by
  obtain ⟨CS, h1, h2, h3, h4⟩ := h.css
  obtain ⟨cs, e1, -, e2⟩ := h2 i x hx
  obtain ⟨v1, rfl, hs⟩ := e2 (Nat.le_refl _)
  have hi := (List.getElem?_eq_some_iff.1 hx).1
  rcases h4.2 with ⟨-, q⟩ | ⟨g, cap, cur, r0, r1, r2, r3, r4, r5, r6⟩
  · omega
  · refine ⟨g, cap, v1, r0, ?_, by simp [World.frozen?, r2], hs⟩
    have hl : ∀ z ∈ CS, z.length = 5 := h3
    have hg : CS.flatten[i * 5 + 1]? = some v1 := flat_at CS hl i _ e1 1 (by omega)
    rw [← r6, List.getElem?_take] at hg
    split at hg
    · exact bxq_cell r2 (by rw [← Array.getElem?_toList]; exact hg)
    · cases hg
/-- Its Args are cloned. -/
theorem Vr.step (h : Vr w S es i W v) {x : En} (hx : es[i]? = some x) {g cap : Nat} (hv : v = .slice (some ⟨g, 0, none⟩) es.length cap) (hb : Below W.heap.size W W1) {v2 : Value} (hG : Gro kIU 3 W.heap.size W1 v2 x.args) : Vr w S es (i + 1) (W1.setCell ⟨g, i * 5 + 1, none⟩ v2) v := by
  subst hv
  have hgl : w.heap.size ≤ g ∧ g < W.heap.size := by
    rcases h.shape with ⟨e, -⟩ | ⟨g', cap', e, q⟩
    · cases e
    · injection e with e1 e2 e3
      injection e1 with e1
      injection e1 with e1
      rw [e1]; exact q
  have hz : (W1.setCell ⟨g, i * 5 + 1, none⟩ v2).heap.size = W1.heap.size := by simp only [World.setCell, Array.size_modify]
  have hbz := hb.size
  have hne : ∀ k, k ≠ g → (W1.setCell ⟨g, i * 5 + 1, none⟩ v2).heap[k]? = W1.heap[k]? := fun k hk => Below.heap_setCell _ _ _ _ hk
  obtain ⟨CS, h1, h2, h3, h4⟩ := h.css
  obtain ⟨cs, e1, -, e2⟩ := h2 i x hx
  obtain ⟨v1, rfl, hs⟩ := e2 (Nat.le_refl _)
  have hi := (List.getElem?_eq_some_iff.1 hx).1
  refine ⟨⟨CS.set i ([Value.string x.nm, v1, .int .i64 x.ret, .int .i64 x.cl, .int .i64 x.me].set 1 v2), by rw [List.length_set]; exact h1, fun j y hy => ?_, fun r hr => ?_, ?_⟩, ?_⟩
  · by_cases e : j = i
    · subst e
      rw [hx] at hy; injection hy with hy; subst hy
      refine ⟨_, List.getElem?_set_self (by omega), fun _ => ⟨v2, rfl, ?_⟩, fun q => absurd q (by omega)⟩
      refine (hG.sl.keep fun b hq => hne b (by have := hq.1; omega)).mono fun b hq => ⟨by have := hq.1; omega, by rw [hz]; exact hq.2, fun q => ?_⟩
      have : g = b := by simpa [Value.ownBlock] using q
      have := hq.1
      omega
    · obtain ⟨cs', f1, f2, f3⟩ := h2 j y hy
      refine ⟨cs', by rw [List.getElem?_set_ne (fun q => e q.symm)]; exact f1, fun q => ?_, fun q => f3 (by omega)⟩
      obtain ⟨v3, rfl, hs3⟩ := f2 (by omega)
      refine ⟨v3, rfl, (hs3.keep fun b hq => (hne b fun q => hq.2.2 (by rw [q]; rfl)).trans (hb.block b hq.2.1)).mono fun b hq => ⟨hq.1, by rw [hz]; have := hq.2.1; omega, hq.2.2⟩⟩
  · rcases List.mem_or_eq_of_mem_set hr with q | q
    · exact h3 r q
    · rw [q]; rfl
  · rw [flatten_set1 (k := 5) (by omega) CS i _ h3 e1]
    exact own_set1 (h4.kept (row := none) ⟨hb.os, hb.tape, hb.output, hb.size, fun k hk _ => hb.block k hk⟩ (.inr (fun q => by cases q)))
  · exact (h.bel.trans (hb.mono h.bel.size)).trans ⟨rfl, rfl, rfl, by rw [hz]; exact Nat.le_refl _, fun k hk => hne k (by omega)⟩
end
end Go.Proofs.YtbbmgjcabmjjdaaGreatDoor
