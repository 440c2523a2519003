/- Rows that are copied: CopyInts, CopyFields. -/
import Derived.Test.YtdgndglinkcdbaaDoorMLGro
import Derived.Test.YtdgndglinkcdbaaDoorMY9
import Derived.Test.YtdgndglinkcdbaaDoorMGD2
namespace Go.Proofs.YtdgndglinkcdbaaDoor
open Go.RowKit

theorem run_app_zero (w : World) (t e : TypeId) (i : TypeInfo) (ht : Tryd.prog.underlying t = some (.slice e)) (hi : Tryd.prog.info? e = some i) (a : Option Addr) (c g : Nat) : (Builtin.append_ #[t, t] t #[.slice (some ⟨g, 0, none⟩) 0 0, .slice a 0 c]).run Tryd.prog w = .ok (.slice (some ⟨g, 0, none⟩) 0 0) w := by
  simp [Builtin.append_, run_underlying ht, sizeOf, typeInfo, hi, Builtin.lenOf, Builtin.firstCells]
  cases a <;> rfl
def appY (ats : Array TypeId) (ty : TypeId) (args : Array Value) := Builtin.append_ ats ty args
theorem app_Y (ats : Array TypeId) (ty : TypeId) (args : Array Value) : Builtin.append_ ats ty args = appY ats ty args := rfl
theorem flat_cells {α : Type} {K : Kd α} {cl : α → List Value} (hc : ∀ w S x cs, K.R w S x cs → cs = cl x) {w : World} {S : Nat → Prop} {ao : Option Addr} {l c : Nat} {xs : List α} (h : Sl K w S (.slice ao l c) xs) (hx : 0 < xs.length) :
    ∃ b o, ao = some ⟨b, o, none⟩ ∧ S b ∧ b < w.heap.size ∧ ((xs.map cl).flatten.length = xs.length * K.k) ∧ ∀ j u, (xs.map cl).flatten[j]? = some u → w.cell? ((⟨b, o, none⟩ : Addr).add j) = some u := by
  obtain ⟨ao2, cp, e, _, hh⟩ := h
  injection e with e _ _
  rcases hh with q | ⟨b, o, q1, q2, q3, q4⟩
  · rw [q] at hx; simp at hx
  have hl : ∀ r ∈ xs.map cl, r.length = K.k := fun r hr => by
    obtain ⟨x, hx, rfl⟩ := List.mem_map.1 hr
    obtain ⟨i, hi, rfl⟩ := List.getElem_of_mem hx
    obtain ⟨cs, r1, _⟩ := q4 i _ (List.getElem?_eq_getElem hi)
    rw [← hc _ _ _ _ r1]; exact K.len r1
  have hlen : (xs.map cl).flatten.length = xs.length * K.k := by
    rw [List.length_flatten, List.map_map]
    have : ∀ ys : List (List Value), (∀ r ∈ ys, r.length = K.k) → (ys.map List.length).sum = ys.length * K.k := by
      intro ys
      induction ys with
      | nil => intro _; simp
      | cons y ys ih =>
        intro hy
        rw [List.map_cons, List.sum_cons, ih (fun r hr => hy r (by simp [hr])), hy y (by simp), List.length_cons, Nat.add_mul]; omega
    have := this (xs.map cl) hl
    rw [List.map_map, List.length_map] at this; exact this
  refine ⟨b, o, e.trans q1, q2, q3.1, hlen, fun j u hu => ?_⟩
  have hj : j < xs.length * K.k := by rw [← hlen]; exact (List.getElem?_eq_some_iff.1 hu).1
  have hi : j / K.k < xs.length := (Nat.div_lt_iff_lt_mul K.pos).2 hj
  obtain ⟨cs, r1, r2⟩ := q4 (j / K.k) _ (List.getElem?_eq_getElem hi)
  have hm := Nat.mod_lt j K.pos
  have hjj : j / K.k * K.k + j % K.k = j := by rw [Nat.mul_comm]; exact Nat.div_add_mod j K.k
  have hf := flat_at (xs.map cl) hl (j / K.k) (cl xs[j / K.k]) (by rw [List.getElem?_map, List.getElem?_eq_getElem hi]; rfl) (j % K.k) hm
  rw [hjj] at hf
  rw [hf] at hu
  have hadd : (⟨b, o, none⟩ : Addr).add j = ⟨b, o + j, none⟩ := by unfold Addr.add; split <;> simp_all
  rw [hadd, ← hjj]
  exact r2 _ u (by rw [hc _ _ _ _ r1]; exact hu)
/-- A copy that was made since. -/
def Cpd {α : Type} (K : Kd α) (w : World) (xs : List α) (v : Value) (w' : World) : Prop := Below w.heap.size w w' ∧ Sl K w' (fun k => w.heap.size ≤ k ∧ k < w'.heap.size) v xs
theorem cpd_of {α : Type} {K : Kd α} {T : TypeId} {cl : α → List Value} (hc : ∀ w S x, K.R w S x (cl x)) {w w2 : World} {o : Obj} {xs : List α} {v : Value} (hown : w2.ownsRow w.heap.size T K.k v xs.length ([] ++ (xs.map cl).flatten)) (hg : (w.alloc o).grownBy w2 (some w.heap.size)) : Cpd K w xs v w2 := by
  have hsz : (w.alloc o).heap.size = w.heap.size + 1 := by simp
  have hgs := hg.size
  refine ⟨⟨hg.os, hg.tape, hg.output, by omega, fun k hk => by rw [hg.block k (by omega) (fun e => by cases e; omega), Below.heap_alloc _ _ _ hk]⟩, Gro.sl (T := T) ⟨xs.map cl, by simp, fun i x hx => ⟨cl x, by rw [List.getElem?_map, hx]; rfl, hc _ _ _⟩, hown⟩⟩
theorem cpd_nil {α : Type} (K : Kd α) (w : World) (T : TypeId) : Cpd K w [] (.slice (some ⟨w.heap.size, 0, none⟩) 0 0) (w.alloc (.cells #[] T)) :=
  ⟨(Below.refl _ _).alloc (Nat.le_refl _) _, ⟨_, 0, rfl, Nat.zero_le _, .inl rfl⟩⟩
theorem own_empty (w : World) (T : TypeId) (k : Nat) : (w.alloc (.cells #[] T)).ownsRow w.heap.size T k (.slice (some ⟨w.heap.size, 0, none⟩) 0 0) 0 [] :=
  ⟨by simp, .inr ⟨w.heap.size, 0, #[], rfl, Nat.le_refl _, heap_alloc_new _ _, Nat.le_refl _, Nat.zero_le _, by simp, by simp⟩⟩
def clI (x : Int) : List Value := [.int .i64 x]
def clFd (x : Fd) : List Value := [.string x.nm, .int .i64 x.ty]
def clIs (x : Is) : List Value := [.int .i64 x.op, .int .i64 x.a, .int .i64 x.b]
def clHd (x : Hd) : List Value := [.int .i64 x.fr, .int .i64 x.to, .int .i64 x.at_, .int .i64 x.cl]
theorem one_flat {α : Type} {cl : α → List Value} (h : ∀ x, ∀ u ∈ cl x, u.oneCell' = true) (xs : List α) : ∀ u ∈ (xs.map cl).flatten, u.oneCell' = true := fun u hu => by
  obtain ⟨l, hl, hu⟩ := List.mem_flatten.1 hu
  obtain ⟨x, -, rfl⟩ := List.mem_map.1 hl
  exact h x u hu
attribute [local go_sem ↓] app_Y
set_option maxHeartbeats 1000000 in
set_option maxRecDepth 20000 in
theorem copyI_ok {w : World} {S : Nat → Prop} {v : Value} {xs : List Int} (hv : Sl kI w S v xs) (hl : xs.length ≤ 1073741824) : Calls Tryd.prog 29 #[v] w fun e w' => ∃ ao cap, e = .returned (.slice ao xs.length cap) ∧ Cpd kIU w xs (.slice ao xs.length cap) w' := by
  obtain ⟨i0, hi, hz0, hz1, hz2⟩ := info_parts infoLI
  have hv2 := hv
  obtain ⟨a, c, rfl, -⟩ := hv2
  rcases Nat.eq_zero_or_pos xs.length with h0 | h0
  · have hx : xs = [] := List.eq_nil_of_length_eq_zero h0
    subst hx
    have hr : (appY _ _ _).run _ _ = _ := run_app_zero (w.alloc (.cells #[] 3)) 25 3 i0 Tryd.underlying25 hi a c w.heap.size
    clear hv hi hz0 hz1 hz2
    go_enter Tryd.func29, Tryd.ntmps29
    go_wp2_with (fail)
    go_ret
    exact ⟨_, _, rfl, cpd_nil _ _ _⟩
  · obtain ⟨b, o, rfl, -, hb, hlen, hcell⟩ := flat_cells (cl := clI) (fun _ _ _ _ h => h) hv h0
    have HC : Hid (∀ j u, (xs.map clI).flatten[j]? = some u → (w.alloc (.cells #[] 3)).cell? ((⟨b, o, none⟩ : Addr).add j) = some u) := fun j u hu => by
      have hadd : (⟨b, o, none⟩ : Addr).add j = ⟨b, o + j, none⟩ := by unfold Addr.add; split <;> simp_all
      have := hcell j u hu
      rw [hadd] at this ⊢
      rw [cell_same (Below.heap_alloc _ _ _ hb)]; exact this
    have HL : Hid ((xs.map clI).flatten.length = xs.length * 1) := hlen
    clear hv hcell hlen
    go_enter Tryd.func29, Tryd.ntmps29
    go_wp2_with (at_builtin; refine wpList_append_lies _ rfl _ _ 25 rfl w.heap.size 3 i0 (.int .i64 0) 1 8 Tryd.underlying25 hi hz0 hz1 hz2 rfl (by decide) _ 0 [] rfl (own_empty w 3 1) ⟨b, o, none⟩ xs.length _ _ rfl HL.out HC.out (one_flat (by intro x u hu; simp [clI] at hu; rcases hu with rfl <;> rfl) xs) h0 (by unfold maxLen; omega) (by omega) (by simp) _ rfl ?_; intro g cap w2 hown hgrow hat hlt3; have HO : Hid (Cpd kIU w xs (.slice (some ⟨g, 0, none⟩) xs.length cap) w2) := cpd_of (K := kIU) (cl := clI) (fun _ _ _ => rfl) (by rw [Nat.zero_add] at hown; exact hown) hgrow; clear hown hgrow hat)
    go_ret
    exact ⟨some ⟨g, 0, none⟩, cap, rfl, HO.out⟩
end Go.Proofs.YtdgndglinkcdbaaDoor
/- A row that is gathered in a cell of a box, each element made since. -/
namespace Go.Proofs.YtdgndglinkcdbaaDoor
open Go.RowKit

def GIm {α : Type} (K : Kd α) (T : TypeId) (tb : TypeId) (row : Value → Array Value) (mb : Nat) (u : World) (xs : List α) (v : Value) (wr : World) : Prop :=
  Gro K T u.heap.size wr v xs ∧ Bs (fun k => k = mb) u wr ∧ wr.heap[mb]? = some (.cells (row v) tb (0, 0))
section
variable {α : Type} {K : Kd α} {T tb : TypeId} {row : Value → Array Value} {mb : Nat} {u : World} {xs : List α} {v : Value} {wr : World}
theorem GIm.start (h : u.heap[mb]? = some (.cells (row (.slice none 0 0)) tb (0, 0))) : GIm K T tb row mb u [] (.slice none 0 0) u := ⟨Gro.nil _ _ _ _, Bs.refl _ _, h⟩
theorem GIm.fin (h : GIm K T tb row mb u xs v wr) : Sl K wr (fun b => u.heap.size ≤ b ∧ b < wr.heap.size) v xs := h.1.sl
theorem GIm.app (h : GIm K T tb row mb u xs v wr) (hmb : mb < u.heap.size) {j : Nat} (hrow : ∀ z, (row v).setIfInBounds j z = row z) {Ts : TypeId} {i : TypeInfo} {z : Value} {bytes : Nat} (ht : Tryd.prog.underlying Ts = some (.slice T)) (hi : Tryd.prog.info? T = some i) (hz : i.zero = some z) (hsize : i.size = K.k) (hby : i.bytes = bytes) (hzs : z.cells.size = K.k) (hbb : bytes ≤ 1000)
    {w1 : World} (hb : Below wr.heap.size wr w1) {x : α} {cs : List Value} (hR : K.R w1 (fun b => wr.heap.size ≤ b ∧ b < w1.heap.size) x cs) (hn : xs.length ≤ 1073741824) :
    w1.heap[mb]? = some (.cells (row v) tb (0, 0)) ∧ ∃ g cap w2, (appY #[Ts, Ts] Ts #[v, .slice (some ⟨w1.heap.size, 0, none⟩) 1 1]).run Tryd.prog (w1.alloc (.cells cs.toArray T)) = .ok (.slice (some ⟨g, 0, none⟩) (xs.length + 1) cap) w2 ∧ w2.heap[mb]? = some (.cells (row v) tb (0, 0)) ∧ GIm K T tb row mb u (xs ++ [x]) (.slice (some ⟨g, 0, none⟩) (xs.length + 1) cap) (w2.setCell ⟨mb, j, none⟩ (.slice (some ⟨g, 0, none⟩) (xs.length + 1) cap)) := by
  obtain ⟨h5, h4, h7⟩ := h
  have hws := h4.size
  have hbz := hb.size
  have hml : mb < wr.heap.size := by omega
  have hG : Gro K T u.heap.size w1 v xs := h5.kept (row := none) ⟨hb.os, hb.tape, hb.output, hb.size, fun k hk _ => hb.block k hk⟩ (fun b e => by cases e)
  obtain ⟨fs, hf⟩ := hG.own
  have hm1 : w1.heap[mb]? = some (.cells (row v) tb (0, 0)) := (hb.block mb hml).trans h7
  refine ⟨hm1, ?_⟩
  have hsz : (w1.alloc (.cells cs.toArray T)).heap.size = w1.heap.size + 1 := by simp
  have hbyt : (xs.length + 1) * bytes ≤ 140737488355328 := by
    have : (xs.length + 1) * bytes ≤ 1073741825 * 1000 := Nat.mul_le_mul (by omega) hbb
    omega
  obtain ⟨g, cap, w2, hr, hown, hg, hat, -⟩ := run_append_lies (P := Tryd.prog) (w1.alloc (.cells cs.toArray T)) Ts Ts u.heap.size T i z K.k bytes ht hi hz hsize hby hzs K.pos v xs.length fs (hf.alloc _) ⟨w1.heap.size, 0, none⟩ 1 1 cs (by rw [K.len hR]; omega) (fun j u hu => news_at w1 cs.toArray T j u (by simpa using hu)) (K.one hR) (by decide) (by unfold maxLen; omega) hbyt (by omega) _ rfl
  have hv : ∀ g, v.ownBlock = some g → g < wr.heap.size ∧ u.heap.size ≤ g := fun g hg => by
    rcases h5.shape with e | ⟨g', cap, e, hge, hlt⟩
    · rw [e] at hg; cases hg
    · rw [e] at hg
      have : g' = g := by simpa [Value.ownBlock] using hg
      omega
  have hA := hG.app hR (by omega) (fun g hg => (hv g hg).1) hf hown hg hat
  have hlow : ∀ k, k < u.heap.size → w2.heap[k]? = w1.heap[k]? := fun k hk => by
    rw [hg.block k (by omega) (fun e => by have := (hv k e.symm).2; omega), Below.heap_alloc _ _ _ (by omega)]
  have hm2 := (hlow mb hmb).trans hm1
  have hgs := hg.size
  refine ⟨g, cap, w2, hr, hm2, hA.kept (row := some mb) ⟨rfl, rfl, rfl, by simp [World.setCell], fun k _ e => Below.heap_setCell _ _ _ _ (fun e2 => e (by rw [e2]))⟩ (fun b e => by cases e; exact hmb), ?_, ?_⟩
  · refine ⟨hg.os.trans (hb.os.trans h4.os), hg.tape.trans (hb.tape.trans h4.tape), hg.output.trans (hb.output.trans h4.output), ?_, fun k hk hx => ?_⟩
    · simp only [World.setCell, Array.size_modify]; omega
    · rw [Below.heap_setCell _ _ _ _ hx, hlow k hk, hb.block k (by omega)]
      exact h4.block k hk hx
  · have := hset (k := j) hm2 (.slice (some ⟨g, 0, none⟩) (xs.length + 1) cap)
    rw [hrow] at this; exact this
end
/-- A copy of a row of plain structs, in the walk: the run of 'append([]T{}, a...)'. -/
theorem cpy_run {α : Type} {K KU : Kd α} {cl : α → List Value} {T Ts : TypeId} {i : TypeInfo} {z : Value} {bytes : Nat} (ht : Tryd.prog.underlying Ts = some (.slice T)) (hi : Tryd.prog.info? T = some i) (hz : i.zero = some z) (hsize : i.size = K.k) (hby : i.bytes = bytes) (hzs : z.cells.size = K.k) (hbb : bytes ≤ 1000) (hk : KU.k = K.k)
    (hc : ∀ w S x cs, K.R w S x cs → cs = cl x) (hcU : ∀ w S x, KU.R w S x (cl x)) (h1 : ∀ x, ∀ u ∈ cl x, u.oneCell' = true) {w : World} {S : Nat → Prop} {a : Option Addr} {c : Nat} {xs : List α} (hv : Sl K w S (.slice a xs.length c) xs) (hl : xs.length ≤ 1073741824) {H : Nat} (hH : w.heap.size = H) :
    ∃ ao cap w2, (appY #[Ts, Ts] Ts #[.slice (some ⟨H, 0, none⟩) 0 0, .slice a xs.length c]).run Tryd.prog (w.alloc (.cells #[] T)) = .ok (.slice ao xs.length cap) w2 ∧ Cpd KU w xs (.slice ao xs.length cap) w2 := by
  subst hH
  rcases Nat.eq_zero_or_pos xs.length with h0 | h0
  · have hx : xs = [] := List.eq_nil_of_length_eq_zero h0
    subst hx
    exact ⟨_, _, _, run_app_zero (w.alloc (.cells #[] T)) Ts T i ht hi a c w.heap.size, cpd_nil _ _ _⟩
  · obtain ⟨b, o, rfl, -, hb, hlen, hcell⟩ := flat_cells hc hv h0
    have hbyt : (0 + xs.length) * bytes ≤ 140737488355328 := by
      have : (0 + xs.length) * bytes ≤ 1073741824 * 1000 := Nat.mul_le_mul (by omega) hbb
      omega
    obtain ⟨g, cap, w2, hr, hown, hg, hat, -⟩ := run_append_lies (P := Tryd.prog) (w.alloc (.cells #[] T)) Ts Ts w.heap.size T i z K.k bytes ht hi hz hsize hby hzs K.pos _ 0 [] (own_empty w T K.k) ⟨b, o, none⟩ xs.length c (xs.map cl).flatten hlen (fun j u hu => by
      have hadd : (⟨b, o, none⟩ : Addr).add j = ⟨b, o + j, none⟩ := by unfold Addr.add; split <;> simp_all
      have := hcell j u hu
      rw [hadd] at this ⊢
      rw [cell_same (Below.heap_alloc _ _ _ hb)]; exact this) (one_flat h1 xs) h0 (by unfold maxLen; omega) hbyt (by simp) _ rfl
    rw [Nat.zero_add] at hr hown
    exact ⟨_, _, _, hr, cpd_of (K := KU) (T := T) hcU (by rw [hk]; exact hown) hg⟩
end Go.Proofs.YtdgndglinkcdbaaDoor
