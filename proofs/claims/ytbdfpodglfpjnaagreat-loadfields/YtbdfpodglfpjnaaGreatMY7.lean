/- Layouts as plain data; what the document's own Load answers: plain functions. -/
import Derived.Test.YtbdfpodglfpjnaaGreatMY4
import Derived.Test.YtbdfpodglfpjnaaGreatMY6
import Derived.Test.YtbdfpodglfpjnaaGreatMGL0
import Derived.Test.YtbdfpodglfpjnaaGreatMY5
import Derived.Deep.RegionHeld3
namespace Go.Proofs.YtbdfpodglfpjnaaGreat
open Go.RowKit

theorem run_app_zero (w : World) (t e : TypeId) (i : TypeInfo) (ht : Tryz.prog.underlying t = some (.slice e)) (hi : Tryz.prog.info? e = some i) (a : Option Addr) (c g : Nat) : (Builtin.append_ #[t, t] t #[.slice (some ⟨g, 0, none⟩) 0 0, .slice a 0 c]).run Tryz.prog w = .ok (.slice (some ⟨g, 0, none⟩) 0 0) w := by
  simp [Builtin.append_, run_underlying ht, sizeOf, typeInfo, hi, Builtin.lenOf, Builtin.firstCells]
  cases a <;> rfl
def appY (ats : Array TypeId) (ty : TypeId) (args : Array Value) := Builtin.append_ ats ty args
theorem app_Y (ats : Array TypeId) (ty : TypeId) (args : Array Value) : Builtin.append_ ats ty args = appY ats ty args := rfl
theorem flat_cells {α : Type} {K : Kd α} {cl : α → List Value} (hc : ∀ w S x cs, K.R w S x cs → cs = cl x) {w : World} {S : Nat → Prop} {ao : Option Addr} {l c : Nat} {xs : List α} (h : Sl K w S (.slice ao l c) xs) (hx : 0 < xs.length) :
    ∃ b o, ao = some ⟨b, o, none⟩ ∧ S b ∧ b < w.heap.size ∧ ((xs.map cl).flatten.length = xs.length * K.k) ∧ ∀ j u, (xs.map cl).flatten[j]? = some u → w.cell? ((⟨b, o, none⟩ : Addr).add j) = some u := by
  obtain ⟨ao2, cp, e, _, hh⟩ := h
  injection e with e _ _
  rcases hh with q | ⟨b, o, q1, q2, q3, q4⟩
  · rw [q] at hx; simp at hx
  have hl : ∀ r ∈ xs.map cl, r.length = K.k := fun r hr => by
    obtain ⟨x, hx, rfl⟩ := List.mem_map.1 hr
    obtain ⟨i, hi, rfl⟩ := List.getElem_of_mem hx
    obtain ⟨cs, r1, _⟩ := q4 i _ (List.getElem?_eq_getElem hi)
    rw [← hc _ _ _ _ r1]; exact K.len r1
  have hlen : (xs.map cl).flatten.length = xs.length * K.k := by
    rw [List.length_flatten, List.map_map]
    have : ∀ ys : List (List Value), (∀ r ∈ ys, r.length = K.k) → (ys.map List.length).sum = ys.length * K.k := by
      intro ys
      induction ys with
      | nil => intro _; simp
      | cons y ys ih =>
        intro hy
        rw [List.map_cons, List.sum_cons, ih (fun r hr => hy r (by simp [hr])), hy y (by simp), List.length_cons, Nat.add_mul]; omega
    have := this (xs.map cl) hl
    rw [List.map_map, List.length_map] at this; exact this
  refine ⟨b, o, e.trans q1, q2, q3.1, hlen, fun j u hu => ?_⟩
  have hj : j < xs.length * K.k := by rw [← hlen]; exact (List.getElem?_eq_some_iff.1 hu).1
  have hi : j / K.k < xs.length := (Nat.div_lt_iff_lt_mul K.pos).2 hj
  obtain ⟨cs, r1, r2⟩ := q4 (j / K.k) _ (List.getElem?_eq_getElem hi)
  have hm := Nat.mod_lt j K.pos
  have hjj : j / K.k * K.k + j % K.k = j := by rw [Nat.mul_comm]; exact Nat.div_add_mod j K.k
  have hf := flat_at (xs.map cl) hl (j / K.k) (cl xs[j / K.k]) (by rw [List.getElem?_map, List.getElem?_eq_getElem hi]; rfl) (j % K.k) hm
  rw [hjj] at hf
  rw [hf] at hu
  have hadd : (⟨b, o, none⟩ : Addr).add j = ⟨b, o + j, none⟩ := by unfold Addr.add; split <;> simp_all
  rw [hadd, ← hjj]
  exact r2 _ u (by rw [hc _ _ _ _ r1]; exact hu)
/-- A copy that was made since. -/
def Cpd {α : Type} (K : Kd α) (w : World) (xs : List α) (v : Value) (w' : World) : Prop := Below w.heap.size w w' ∧ Sl K w' (fun k => w.heap.size ≤ k ∧ k < w'.heap.size) v xs
theorem cpd_of {α : Type} {K : Kd α} {T : TypeId} {cl : α → List Value} (hc : ∀ w S x, K.R w S x (cl x)) {w w2 : World} {o : Obj} {xs : List α} {v : Value} (hown : w2.ownsRow w.heap.size T K.k v xs.length ([] ++ (xs.map cl).flatten)) (hg : (w.alloc o).grownBy w2 (some w.heap.size)) : Cpd K w xs v w2 := by
  have hsz : (w.alloc o).heap.size = w.heap.size + 1 := by simp
  have hgs := hg.size
  refine ⟨⟨hg.os, hg.tape, hg.output, by omega, fun k hk => by rw [hg.block k (by omega) (fun e => by cases e; omega), Below.heap_alloc _ _ _ hk]⟩, Gro.sl (T := T) ⟨xs.map cl, by simp, fun i x hx => ⟨cl x, by rw [List.getElem?_map, hx]; rfl, hc _ _ _⟩, hown⟩⟩
theorem cpd_nil {α : Type} (K : Kd α) (w : World) (T : TypeId) : Cpd K w [] (.slice (some ⟨w.heap.size, 0, none⟩) 0 0) (w.alloc (.cells #[] T)) :=
  ⟨(Below.refl _ _).alloc (Nat.le_refl _) _, ⟨_, 0, rfl, Nat.zero_le _, .inl rfl⟩⟩
theorem own_empty (w : World) (T : TypeId) (k : Nat) : (w.alloc (.cells #[] T)).ownsRow w.heap.size T k (.slice (some ⟨w.heap.size, 0, none⟩) 0 0) 0 [] :=
  ⟨by simp, .inr ⟨w.heap.size, 0, #[], rfl, Nat.le_refl _, heap_alloc_new _ _, Nat.le_refl _, Nat.zero_le _, by simp, by simp⟩⟩
def clI (x : Int) : List Value := [.int .i64 x]
def clFd (x : Fd) : List Value := [.string x.nm, .int .i64 x.ty]
def clIs (x : Is) : List Value := [.int .i64 x.op, .int .i64 x.a, .int .i64 x.b]
def clHd (x : Hd) : List Value := [.int .i64 x.fr, .int .i64 x.to, .int .i64 x.at_, .int .i64 x.cl]
theorem one_flat {α : Type} {cl : α → List Value} (h : ∀ x, ∀ u ∈ cl x, u.oneCell' = true) (xs : List α) : ∀ u ∈ (xs.map cl).flatten, u.oneCell' = true := fun u hu => by
  obtain ⟨l, hl, hu⟩ := List.mem_flatten.1 hu
  obtain ⟨x, -, rfl⟩ := List.mem_map.1 hl
  exact h x u hu
attribute [local go_sem ↓] app_Y
end Go.Proofs.YtbdfpodglfpjnaaGreat
/- A row that is gathered in a cell of a box, each element made since. -/
namespace Go.Proofs.YtbdfpodglfpjnaaGreat
open Go.RowKit

def GIm {α : Type} (K : Kd α) (T : TypeId) (tb : TypeId) (row : Value → Array Value) (mb : Nat) (u : World) (xs : List α) (v : Value) (wr : World) : Prop :=
  Gro K T u.heap.size wr v xs ∧ Bs (fun k => k = mb) u wr ∧ wr.heap[mb]? = some (.cells (row v) tb (0, 0))
section
variable {α : Type} {K : Kd α} {T tb : TypeId} {row : Value → Array Value} {mb : Nat} {u : World} {xs : List α} {v : Value} {wr : World}
theorem GIm.start (h : u.heap[mb]? = some (.cells (row (.slice none 0 0)) tb (0, 0))) : GIm K T tb row mb u [] (.slice none 0 0) u := ⟨Gro.nil _ _ _ _, Bs.refl _ _, h⟩
theorem GIm.fin (h : GIm K T tb row mb u xs v wr) : Sl K wr (fun b => u.heap.size ≤ b ∧ b < wr.heap.size) v xs := h.1.sl
theorem GIm.app (h : GIm K T tb row mb u xs v wr) (hmb : mb < u.heap.size) {j : Nat} (hrow : ∀ z, (row v).setIfInBounds j z = row z) {Ts : TypeId} {i : TypeInfo} {z : Value} {bytes : Nat} (ht : Tryz.prog.underlying Ts = some (.slice T)) (hi : Tryz.prog.info? T = some i) (hz : i.zero = some z) (hsize : i.size = K.k) (hby : i.bytes = bytes) (hzs : z.cells.size = K.k) (hbb : bytes ≤ 1000)
    {w1 : World} (hb : Below wr.heap.size wr w1) {x : α} {cs : List Value} (hR : K.R w1 (fun b => wr.heap.size ≤ b ∧ b < w1.heap.size) x cs) (hn : xs.length ≤ 1073741824) :
    w1.heap[mb]? = some (.cells (row v) tb (0, 0)) ∧ ∃ g cap w2, (appY #[Ts, Ts] Ts #[v, .slice (some ⟨w1.heap.size, 0, none⟩) 1 1]).run Tryz.prog (w1.alloc (.cells cs.toArray T)) = .ok (.slice (some ⟨g, 0, none⟩) (xs.length + 1) cap) w2 ∧ w2.heap[mb]? = some (.cells (row v) tb (0, 0)) ∧ GIm K T tb row mb u (xs ++ [x]) (.slice (some ⟨g, 0, none⟩) (xs.length + 1) cap) (w2.setCell ⟨mb, j, none⟩ (.slice (some ⟨g, 0, none⟩) (xs.length + 1) cap)) := by
  obtain ⟨h5, h4, h7⟩ := h
  have hws := h4.size
  have hbz := hb.size
  have hml : mb < wr.heap.size := by omega
  have hG : Gro K T u.heap.size w1 v xs := h5.kept (row := none) ⟨hb.os, hb.tape, hb.output, hb.size, fun k hk _ => hb.block k hk⟩ (fun b e => by cases e)
  obtain ⟨fs, hf⟩ := hG.own
  have hm1 : w1.heap[mb]? = some (.cells (row v) tb (0, 0)) := (hb.block mb hml).trans h7
  refine ⟨hm1, ?_⟩
  have hsz : (w1.alloc (.cells cs.toArray T)).heap.size = w1.heap.size + 1 := by simp
  have hbyt : (xs.length + 1) * bytes ≤ 140737488355328 := by
    have : (xs.length + 1) * bytes ≤ 1073741825 * 1000 := Nat.mul_le_mul (by omega) hbb
    omega
  obtain ⟨g, cap, w2, hr, hown, hg, hat, -⟩ := run_append_lies (P := Tryz.prog) (w1.alloc (.cells cs.toArray T)) Ts Ts u.heap.size T i z K.k bytes ht hi hz hsize hby hzs K.pos v xs.length fs (hf.alloc _) ⟨w1.heap.size, 0, none⟩ 1 1 cs (by rw [K.len hR]; omega) (fun j u hu => news_at w1 cs.toArray T j u (by simpa using hu)) (K.one hR) (by decide) (by unfold maxLen; omega) hbyt (by omega) _ rfl
  have hv : ∀ g, v.ownBlock = some g → g < wr.heap.size ∧ u.heap.size ≤ g := fun g hg => by
    rcases h5.shape with e | ⟨g', cap, e, hge, hlt⟩
    · rw [e] at hg; cases hg
    · rw [e] at hg
      have : g' = g := by simpa [Value.ownBlock] using hg
      omega
  have hA := hG.app hR (by omega) (fun g hg => (hv g hg).1) hf hown hg hat
  have hlow : ∀ k, k < u.heap.size → w2.heap[k]? = w1.heap[k]? := fun k hk => by
    rw [hg.block k (by omega) (fun e => by have := (hv k e.symm).2; omega), Below.heap_alloc _ _ _ (by omega)]
  have hm2 := (hlow mb hmb).trans hm1
  have hgs := hg.size
  refine ⟨g, cap, w2, hr, hm2, hA.kept (row := some mb) ⟨rfl, rfl, rfl, by simp [World.setCell], fun k _ e => Below.heap_setCell _ _ _ _ (fun e2 => e (by rw [e2]))⟩ (fun b e => by cases e; exact hmb), ?_, ?_⟩
  · refine ⟨hg.os.trans (hb.os.trans h4.os), hg.tape.trans (hb.tape.trans h4.tape), hg.output.trans (hb.output.trans h4.output), ?_, fun k hk hx => ?_⟩
    · simp only [World.setCell, Array.size_modify]; omega
    · rw [Below.heap_setCell _ _ _ _ hx, hlow k hk, hb.block k (by omega)]
      exact h4.block k hk hx
  · have := hset (k := j) hm2 (.slice (some ⟨g, 0, none⟩) (xs.length + 1) cap)
    rw [hrow] at this; exact this
end
/-- A copy of a row of plain structs, in the walk: the run of 'append([]T{}, a...)'. -/
theorem cpy_run {α : Type} {K KU : Kd α} {cl : α → List Value} {T Ts : TypeId} {i : TypeInfo} {z : Value} {bytes : Nat} (ht : Tryz.prog.underlying Ts = some (.slice T)) (hi : Tryz.prog.info? T = some i) (hz : i.zero = some z) (hsize : i.size = K.k) (hby : i.bytes = bytes) (hzs : z.cells.size = K.k) (hbb : bytes ≤ 1000) (hk : KU.k = K.k)
    (hc : ∀ w S x cs, K.R w S x cs → cs = cl x) (hcU : ∀ w S x, KU.R w S x (cl x)) (h1 : ∀ x, ∀ u ∈ cl x, u.oneCell' = true) {w : World} {S : Nat → Prop} {a : Option Addr} {c : Nat} {xs : List α} (hv : Sl K w S (.slice a xs.length c) xs) (hl : xs.length ≤ 1073741824) {H : Nat} (hH : w.heap.size = H) :
    ∃ ao cap w2, (appY #[Ts, Ts] Ts #[.slice (some ⟨H, 0, none⟩) 0 0, .slice a xs.length c]).run Tryz.prog (w.alloc (.cells #[] T)) = .ok (.slice ao xs.length cap) w2 ∧ Cpd KU w xs (.slice ao xs.length cap) w2 := by
  subst hH
  rcases Nat.eq_zero_or_pos xs.length with h0 | h0
  · have hx : xs = [] := List.eq_nil_of_length_eq_zero h0
    subst hx
    exact ⟨_, _, _, run_app_zero (w.alloc (.cells #[] T)) Ts T i ht hi a c w.heap.size, cpd_nil _ _ _⟩
  · obtain ⟨b, o, rfl, -, hb, hlen, hcell⟩ := flat_cells hc hv h0
    have hbyt : (0 + xs.length) * bytes ≤ 140737488355328 := by
      have : (0 + xs.length) * bytes ≤ 1073741824 * 1000 := Nat.mul_le_mul (by omega) hbb
      omega
    obtain ⟨g, cap, w2, hr, hown, hg, hat, -⟩ := run_append_lies (P := Tryz.prog) (w.alloc (.cells #[] T)) Ts Ts w.heap.size T i z K.k bytes ht hi hz hsize hby hzs K.pos _ 0 [] (own_empty w T K.k) ⟨b, o, none⟩ xs.length c (xs.map cl).flatten hlen (fun j u hu => by
      have hadd : (⟨b, o, none⟩ : Addr).add j = ⟨b, o + j, none⟩ := by unfold Addr.add; split <;> simp_all
      have := hcell j u hu
      rw [hadd] at this ⊢
      rw [cell_same (Below.heap_alloc _ _ _ hb)]; exact this) (one_flat h1 xs) h0 (by unfold maxLen; omega) hbyt (by simp) _ rfl
    rw [Nat.zero_add] at hr hown
    exact ⟨_, _, _, hr, cpd_of (K := KU) (T := T) hcU (by rw [hk]; exact hown) hg⟩
end Go.Proofs.YtbdfpodglfpjnaaGreat
namespace Go.Proofs.YtbdfpodglfpjnaaGreat
open Go.RowKit

/-- An entry of a layout's virtual methods; a layout. -/
structure En where
  nm : ByteArray
  args : List Int
  ret : Int
  cl : Int
  me : Int
structure Ly where
  flds : List Fd
  off : Int
  vir : List En
  abv : List Int
def cs0 : Cs := ⟨⟨#[]⟩, false, false, 0, [], [], [], []⟩
def ly0 : Ly := ⟨[], 0, [], []⟩

/-- Numbers and counts that keep to a bound of our own. -/
def rg (x : Int) : Prop := -9223372036854775808 ≤ x ∧ x ≤ 9223372036854775807
structure OkM (m : Md) : Prop where
  nargs : m.args.length ≤ 1048576
  args : ∀ x ∈ m.args, rg x
  ret : rg m.ret
  lo : rg m.lo
structure OkC (c : Cs) : Prop where
  sup : rg c.sup
  nfaces : c.faces.length ≤ 1048576
  faces : ∀ x ∈ c.faces, rg x
  nflds : c.flds.length ≤ 1000
  flds : ∀ f ∈ c.flds, rg f.ty
  nstcs : c.stcs.length ≤ 1048576
  stcs : ∀ f ∈ c.stcs, rg f.ty
  nmds : c.mds.length ≤ 1000
  mds : ∀ m ∈ c.mds, OkM m
structure Okz (p : Pg) : Prop where
  main : rg p.main
  n : p.cls.length ≤ 1000
  cls : ∀ c ∈ p.cls, OkC c

/-- How many classes there are. -/
def nJ (p : Pg) : Nat := 11 + p.cls.length
def isJ (p : Pg) (k : Int) : Bool := decide (0 ≤ k) && decide (k < (11 + p.cls.length : Nat))
def userJ (p : Pg) (k : Int) : Bool := decide (11 ≤ k) && isJ p k
def ofJ (p : Pg) (k : Int) : Cs := p.cls.getD (k - 11).toNat cs0
def faceJ (p : Pg) (k : Int) : Bool := userJ p k && (ofJ p k).face
def bltJ (c : Int) : Int := if c = 0 then -1 else if 1 < c ∧ c < 9 then 1 else 0
def supJ (p : Pg) (k : Int) : Int := if k < 11 then bltJ k else (ofJ p k).sup
def typJ (p : Pg) (t : Int) : Bool := t == 1 || t == 3 || t == 4 || (decide (16 ≤ t) && isJ p (t - 16))
def eqB (a b : ByteArray) : Bool := a.data.toList == b.data.toList
theorem eqB_list (a b : ByteArray) : (a.toList == b.toList) = eqB a b := by unfold eqB; rw [ByteArray.toList_eq, ByteArray.toList_eq]
def likeJ (a : ByteArray) (xs : List Int) (ar : Int) (b : ByteArray) (ys : List Int) (br : Int) : Bool := eqB a b && ar == br && xs == ys
def OfJ (es : List En) (nm : ByteArray) (args : List Int) (ret : Int) : Option Nat := es.findIdx? fun e => likeJ e.nm e.args e.ret nm args ret

/-- A fault's code and class; the first one stays. -/
abbrev Fs := Int × Int
def ftJ (s : Fs) (b : Bool) (code at_ : Int) : Fs := if b && s.1 == 0 then (code, at_) else s
def runJ (bad : Nat → Bool) (code : Int) (s : Fs) : Nat → Fs
  | 0 => s
  | i + 1 => ftJ (runJ bad code s i) (bad i) code (11 + i)
theorem ftJ_or (s : Fs) (a b : Bool) (code at_ : Int) : ftJ (ftJ s a code at_) b code at_ = ftJ s (a || b) code at_ := by
  unfold ftJ
  cases a <;> cases b <;> simp
  intro h1 h2
  rw [if_neg h2] at h1
  exact absurd h1 h2
theorem ftJ_false (s : Fs) (code at_ : Int) : ftJ s false code at_ = s := by simp [ftJ]
theorem ftJ_on {s : Fs} (h : s.1 ≠ 0) (b : Bool) (code at_ : Int) : ftJ s b code at_ = s := by
  unfold ftJ; rw [if_neg]; simp [h]
theorem runJ_on {bad : Nat → Bool} {code : Int} {s : Fs} (h : s.1 ≠ 0) : ∀ i, runJ bad code s i = s
  | 0 => rfl
  | i + 1 => by unfold runJ; rw [runJ_on h i, ftJ_on h]
theorem ftJ_ok {s : Fs} {b : Bool} {code at_ : Int} (hc : code ≠ 0) (h : (ftJ s b code at_).1 = 0) : s.1 = 0 ∧ b = false ∧ ftJ s b code at_ = s := by
  unfold ftJ at h ⊢
  cases b
  · simp at h ⊢; exact h
  · by_cases hs : s.1 = 0
    · simp [hs] at h; exact absurd h hc
    · simp [hs] at h
theorem runJ_ok {bad : Nat → Bool} {code : Int} (hc : code ≠ 0) {s : Fs} : ∀ {n : Nat}, (runJ bad code s n).1 = 0 → s.1 = 0 ∧ runJ bad code s n = s ∧ ∀ i, i < n → bad i = false
  | 0, h => ⟨h, rfl, fun i hi => by omega⟩
  | n + 1, h => by
    unfold runJ at h ⊢
    obtain ⟨h1, h2, h3⟩ := ftJ_ok hc h
    obtain ⟨q1, q2, q3⟩ := runJ_ok hc h1
    refine ⟨q1, h3.trans q2, fun i hi => ?_⟩
    by_cases e : i = n
    · subst e; exact h2
    · exact q3 i (by omega)
/-- Once there is a fault it stays: what a loop that stops there leaves is what one that goes on would. -/
theorem runJ_stop {bad : Nat → Bool} {code : Int} {s : Fs} {i n : Nat} (h : (runJ bad code s i).1 ≠ 0) (hi : i ≤ n) : runJ bad code s n = runJ bad code s i := by
  induction n with
  | zero => rw [show i = 0 by omega]
  | succ n ih =>
    by_cases e : i = n + 1
    · rw [e]
    · show ftJ (runJ bad code s n) _ _ _ = _
      rw [ih (by omega), ftJ_on h]

def bad1 (p : Pg) (i : Nat) : Bool := let k := ofJ p (11 + i); !isJ p k.sup || faceJ p k.sup || k.sup == 10 || (k.face && k.sup != 0)
/-- Going up from s, at most so often: does one come to at_? -/
def backJ (p : Pg) (at_ : Int) : Nat → Int → Bool
  | 0, _ => false
  | f + 1, s => decide (0 ≤ s) && (s == at_ || backJ p at_ f (supJ p s))
def bad2 (p : Pg) (i : Nat) : Bool := backJ p (11 + i) (p.cls.length + 1) (supJ p (11 + i))
def bad3 (p : Pg) (i : Nat) : Bool := let k := ofJ p (11 + i); k.faces.any (fun f => !faceJ p f) || (k.face && ((k.fin || decide (0 < k.flds.length) || decide (0 < k.stcs.length)) || k.mds.any fun m => m.stc || decide (0 < m.code.length) || decide (0 < m.tab.length) || decide (0 < m.maps.length)))
def needJ (m : Md) : Int := if m.stc then (m.args.length : Int) else m.args.length + 1
def badM (p : Pg) (face : Bool) (m : Md) : Bool := m.args.any (fun t => !typJ p t) || ((m.ret != 0 && !typJ p m.ret) || (!face && decide (m.lo < needJ m)))
def bad4 (p : Pg) (i : Nat) : Bool := let k := ofJ p (11 + i); k.flds.any (fun f => !typJ p f.ty) || (k.stcs.any (fun f => !typJ p f.ty) || k.mds.any (badM p k.face))
/-- Is there a j below i, and an i, that are alike? -/
def atJ {α : Type} (eq : α → α → Bool) (xs : List α) (i j : Nat) : Bool := match xs[i]?, xs[j]? with
  | some x, some y => eq x y
  | _, _ => false
def rowJ {α : Type} (eq : α → α → Bool) (xs : List α) (i : Nat) (n : Nat) : Bool := (List.range n).any (atJ eq xs i)
def pairJ {α : Type} (eq : α → α → Bool) (xs : List α) (n : Nat) : Bool := (List.range n).any fun i => rowJ eq xs i i
theorem rowJ_succ {α : Type} (eq : α → α → Bool) (xs : List α) (i n : Nat) : rowJ eq xs i (n + 1) = (rowJ eq xs i n || atJ eq xs i n) := by unfold rowJ; rw [List.range_succ]; simp
theorem pairJ_succ {α : Type} (eq : α → α → Bool) (xs : List α) (n : Nat) : pairJ eq xs (n + 1) = (pairJ eq xs n || rowJ eq xs n n) := by unfold pairJ; rw [List.range_succ]; simp
theorem rowJ_hit {α : Type} {eq : α → α → Bool} {xs : List α} {i j n : Nat} (h : atJ eq xs i j = true) (hj : j < n) : rowJ eq xs i n = true := by unfold rowJ; rw [List.any_eq_true]; exact ⟨j, by simpa using hj, h⟩
theorem pairJ_hit {α : Type} {eq : α → α → Bool} {xs : List α} {i n : Nat} (h : rowJ eq xs i i = true) (hi : i < n) : pairJ eq xs n = true := by unfold pairJ; rw [List.any_eq_true]; exact ⟨i, by simpa using hi, h⟩
theorem atJ_eq {α : Type} {eq : α → α → Bool} {xs : List α} {i j : Nat} {x y : α} (hx : xs[i]? = some x) (hy : xs[j]? = some y) : atJ eq xs i j = eq x y := by unfold atJ; rw [hx, hy]
def likeM (x y : Md) : Bool := likeJ x.nm x.args x.ret y.nm y.args y.ret
def namedJ (fs : List Fd) : Bool := pairJ (fun x y => eqB x.nm y.nm) fs fs.length
def bad5 (p : Pg) (i : Nat) : Bool := let k := ofJ p (11 + i); (namedJ k.flds || namedJ k.stcs) || pairJ likeM k.mds k.mds.length

/-- All that a class is, in the row in which it is come to. -/
def aboveJ (p : Pg) : Nat → Int → List Int → List Int
  | 0, _, out => out
  | f + 1, k, out => if out.contains k then out else
    let o1 := out ++ [k]
    let o2 := if userJ p k then (ofJ p k).faces.foldl (fun o x => aboveJ p f x o) o1 else o1
    if 0 ≤ supJ p k then aboveJ p f (supJ p k) o2 else o2
def insJ (x : Int) : List Int → List Int
  | [] => [x]
  | a :: l => if x < a then x :: a :: l else a :: insJ x l
def sortJ (xs : List Int) : List Int := xs.foldl (fun o x => insJ x o) []
def ownJ (m : Md) (k : Int) (i : Nat) : En := ⟨m.nm, m.args, m.ret, k, i⟩
def putJ (vir : List En) (e : En) : List En := match OfJ vir e.nm e.args e.ret with
  | some a => vir.set a e
  | none => vir ++ [e]
/-- A class's own methods among its super's, the first i of them. -/
def virJ (vir : List En) (k : Int) (ms : List Md) : Nat → List En
  | 0 => vir
  | i + 1 => match ms[i]? with
    | some m => if m.stc then virJ vir k ms i else putJ (virJ vir k ms i) (ownJ m k i)
    | none => virJ vir k ms i
def runE : En := ⟨⟨#[114, 117, 110]⟩, [], 0, 9, 0⟩
def abvJ (p : Pg) (k : Int) : List Int := sortJ (aboveJ p (nJ p + 1) k [])
def layJ (p : Pg) : Nat → Int → Ly
  | 0, _ => ly0
  | f + 1, k => if faceJ p k then ⟨[], -1, (ofJ p k).mds.mapIdx (fun i m => ownJ m k i), abvJ p k⟩ else
    let up := if 0 ≤ supJ p k then layJ p f (supJ p k) else ly0
    let vir := if k = 9 then up.vir ++ [runE] else up.vir
    if userJ p k then ⟨up.flds ++ (ofJ p k).flds, up.flds.length, virJ vir k (ofJ p k).mds (ofJ p k).mds.length, abvJ p k⟩ else ⟨up.flds, up.flds.length, vir, abvJ p k⟩
def lyJ (p : Pg) (k : Int) : Ly := layJ p (nJ p + 1) k
def bad6 (p : Pg) (i : Nat) : Bool := !faceJ p (11 + i) && (lyJ p (11 + i)).abv.any fun x => faceJ p x && (ofJ p x).mds.any fun m => (OfJ (lyJ p (11 + i)).vir m.nm m.args m.ret).isNone
def finN : ByteArray := ⟨#[102, 105, 110, 97, 108, 105, 122, 101]⟩
def bad7 (p : Pg) (i : Nat) : Bool := (ofJ p (11 + i)).fin && (OfJ (lyJ p (11 + i)).vir finN [] 0).isNone
def bad8 (p : Pg) : Bool := !userJ p p.main || faceJ p p.main || match (ofJ p p.main).mds with
  | [] => true
  | m :: _ => !m.stc || decide (0 < m.args.length) || m.ret != 0
/-- The first fault, or none. -/
def st2 (p : Pg) : Fs := runJ (bad2 p) 1501 (runJ (bad1 p) 1500 (0, 0) p.cls.length) p.cls.length
def st5 (p : Pg) : Fs := if (st2 p).1 = 0 then runJ (bad5 p) 1503 (runJ (bad4 p) 1504 (runJ (bad3 p) 1502 (st2 p) p.cls.length) p.cls.length) p.cls.length else st2 p
def st7 (p : Pg) : Fs := runJ (bad7 p) 1506 (runJ (bad6 p) 1507 (st5 p) p.cls.length) p.cls.length
def st8 (p : Pg) : Fs := if (st7 p).1 = 0 then ftJ (st7 p) (bad8 p) 1505 p.main else st7 p
def allJ (p : Pg) : List Ly := (List.range (nJ p)).map fun i => lyJ p (i : Nat)
def loadJ (p : Pg) : Except Fs (List Ly) := if (st8 p).1 = 0 then .ok (allJ p) else .error (st8 p)
end Go.Proofs.YtbdfpodglfpjnaaGreat
/- The document's own Load: its struct as it lies in memory; is, user, of, face, super, typed, fault; lists of ints, signatures. -/
namespace Go.Proofs.YtbdfpodglfpjnaaGreat
open Go.RowKit

section
variable {w : World} {cb : Nat} {p : Pg} {S : Nat → Prop} {v : Value} {s : Fs}
end
end Go.Proofs.YtbdfpodglfpjnaaGreat
/- The document's own Load: of, face, super, typed. -/
namespace Go.Proofs.YtbdfpodglfpjnaaGreat
open Go.RowKit

theorem Sl.atJ {α : Type} {w : World} {S : Nat → Prop} {K : Kd α} {ao : Option Addr} {l cap : Nat} {xs : List α} (h : Sl K w S (.slice ao l cap) xs) {i : Nat} {c : α} (hc : xs[i]? = some c) :
    ∃ b o, ao = some ⟨b, o, none⟩ ∧ S b ∧ ∃ cs, K.R w S c cs ∧ ∀ j u, cs[j]? = some u → w.cell? ⟨b, o + (i * K.k + j), none⟩ = some u := by
  obtain ⟨ao2, cp, e, _, hh⟩ := h
  injection e with e _ _
  rcases hh with q | ⟨b, o, q1, q2, q3, q4⟩
  · rw [q] at hc; simp at hc
  · obtain ⟨cs, r1, r2⟩ := q4 i c hc
    exact ⟨b, o, e.trans q1, q2, cs, r1, r2⟩
theorem user_at {p : Pg} {k : Int} (h : userJ p k = true) : ∃ i : Nat, k = 11 + (i : Int) ∧ i < p.cls.length ∧ p.cls[i]? = some (ofJ p k) := by
  simp [userJ, isJ] at h
  obtain ⟨h1, h2, h3⟩ := h
  refine ⟨(k - 11).toNat, by omega, by omega, ?_⟩
  unfold ofJ
  rw [List.getD_eq_getElem?_getD, List.getElem?_eq_getElem (by omega)]; rfl
theorem user_of {p : Pg} {i : Nat} (h : i < p.cls.length) : userJ p (11 + i) = true ∧ p.cls[i]? = some (ofJ p (11 + i)) ∧ isJ p (11 + i) = true := by
  have h1 : userJ p (11 + i) = true := by simp [userJ, isJ]; omega
  refine ⟨h1, ?_, by simp [userJ] at h1; exact h1.2⟩
  unfold ofJ
  rw [show ((11 : Int) + (i : Int) - 11).toNat = i by omega, List.getD_eq_getElem?_getD, List.getElem?_eq_getElem h]; rfl
/-- A class that is handed over by value. -/
def OfP (S : Nat → Prop) (c : Cs) (w : World) (e : Ending) (w' : World) : Prop :=
  ∃ a1 c1 a2 c2 a3 c3 a4 c4, e = .returned (.agg #[.string c.nm, .bool c.face, .bool c.fin, .int .i64 c.sup, .slice a1 c.faces.length c1, .slice a2 c.flds.length c2, .slice a3 c.stcs.length c3, .slice a4 c.mds.length c4]) ∧ (Sl kI w' S (.slice a1 c.faces.length c1) c.faces ∧ Sl kFd w' S (.slice a2 c.flds.length c2) c.flds ∧ Sl kFd w' S (.slice a3 c.stcs.length c3) c.stcs ∧ Sl kMd w' S (.slice a4 c.mds.length c4) c.mds) ∧ Below w.heap.size w w'

set_option maxRecDepth 20000 in
theorem fld1 (a : ByteArray) (b c : Bool) (d : Int) (e f g h : Value) (w : World) : (Instr.field 31 (.agg #[.string a, .bool b, .bool c, .int .i64 d, e, f, g, h]) 1).run Tryz.prog w = .ok (.bool b) w := by kernel_rfl
set_option maxRecDepth 20000 in
theorem fld3 (a : ByteArray) (b c : Bool) (d : Int) (e f g h : Value) (w : World) : (Instr.field 31 (.agg #[.string a, .bool b, .bool c, .int .i64 d, e, f, g, h]) 3).run Tryz.prog w = .ok (.int .i64 d) w := by kernel_rfl

end Go.Proofs.YtbdfpodglfpjnaaGreat
/- The document's own Load: lists of ints held against each other, signatures, what is among a list. -/
namespace Go.Proofs.YtbdfpodglfpjnaaGreat
open Go.RowKit

theorem Sl.int {w : World} {S : Nat → Prop} {ao : Option Addr} {l cap : Nat} {xs : List Int} (h : Sl kI w S (.slice ao l cap) xs) {i : Nat} {x : Int} (hx : xs[i]? = some x) : ∃ b o, ao = some ⟨b, o, none⟩ ∧ w.cell? ⟨b, o + i, none⟩ = some (.int .i64 x) := by
  obtain ⟨b, o, e, -, cs, rfl, hc⟩ := h.atJ hx
  refine ⟨b, o, e, ?_⟩
  have := hc 0 _ rfl
  rw [show kI.k = 1 from rfl, show o + (i * 1 + 0) = o + i by omega] at this; exact this
theorem drewN_two (w : World) (m n : Nat) : (w.drewN m).drewN n = w.drewN (m + n) := by simp [World.drewN, Nat.add_assoc]
theorem beq_take {xs ys : List Int} {i : Nat} (ht : xs.take i = ys.take i) {x y : Int} (hx : xs[i]? = some x) (hy : ys[i]? = some y) : (x = y → xs.take (i + 1) = ys.take (i + 1)) ∧ (x ≠ y → xs ≠ ys) := by
  refine ⟨fun e => ?_, fun e e2 => ?_⟩
  · rw [List.take_add_one, List.take_add_one, ht, hx, hy, e]
  · subst e2; rw [hx] at hy; exact e (Option.some.inj hy)

theorem cont_take {xs : List Int} {k x : Int} {i : Nat} (ht : (xs.take i).contains k = false) (hx : xs[i]? = some x) : (x ≠ k → (xs.take (i + 1)).contains k = false) ∧ (x = k → xs.contains k = true) := by
  refine ⟨fun e => ?_, fun e => ?_⟩
  · rw [List.take_add_one, hx]
    simp at ht ⊢
    exact ⟨ht, fun e2 => e e2.symm⟩
  · subst e
    simp
    exact List.mem_of_getElem? hx

end Go.Proofs.YtbdfpodglfpjnaaGreat
