/- A row of ints of a call's own that is appended to and stored into. -/
import Derived.Test.YtbdfpodglfpjnaaGreatMY7
import Derived.Maps.AppendAt
namespace Go.Proofs.YtbdfpodglfpjnaaGreat
open Go.RowKit

/-- A class's cells; the zero class's. -/
abbrev rowC (c : Cs) (f1 f2 f3 f4 : Option Addr) (g1 g2 g3 g4 : Nat) : Array Value := #[.string c.nm, .bool c.face, .bool c.fin, .int .i64 c.sup, .slice f1 c.faces.length g1, .slice f2 c.flds.length g2, .slice f3 c.stcs.length g3, .slice f4 c.mds.length g4]
structure BoxC (w : World) (S : Nat → Prop) (kb : Nat) (c : Cs) (f1 f2 f3 f4 : Option Addr) (g1 g2 g3 g4 : Nat) : Prop where
  box : w.heap[kb]? = some (.cells #[.string c.nm, .bool c.face, .bool c.fin, .int .i64 c.sup, .slice f1 c.faces.length g1, .slice f2 c.flds.length g2, .slice f3 c.stcs.length g3, .slice f4 c.mds.length g4] 31 (0, 0))
  s1 : Sl kI w S (.slice f1 c.faces.length g1) c.faces
  s2 : Sl kFd w S (.slice f2 c.flds.length g2) c.flds
  s3 : Sl kFd w S (.slice f3 c.stcs.length g3) c.stcs
  s4 : Sl kMd w S (.slice f4 c.mds.length g4) c.mds
section
variable {w : World} {cb : Nat} {p : Pg} {S : Nat → Prop} {v : Value} {s : Fs} {kb : Nat} {c : Cs} {f1 f2 f3 f4 : Option Addr} {g1 g2 g3 g4 : Nat}
end
theorem Bx.low {rh : Nat} {a b c : World} (h : Bx rh a b) (k : Below b.heap.size b c) : Bx rh a c := h.trans (Bx.of_below k)
theorem badOk {p : Pg} {cs : Cs} {i : Nat} (h : Okz p) (hc : p.cls[i]? = some cs) : OkC cs := h.cls cs (List.mem_of_getElem? hc)

end Go.Proofs.YtbdfpodglfpjnaaGreat
/- The document's own Load: cycles. -/
namespace Go.Proofs.YtbdfpodglfpjnaaGreat
open Go.RowKit

/-- What is above a class that is there is one, or nothing. -/
def SupOk (p : Pg) : Prop := ∀ k, isJ p k = true → supJ p k < 0 ∨ isJ p (supJ p k) = true
theorem sup_ok {p : Pg} (h : ∀ i, i < p.cls.length → bad1 p i = false) : SupOk p := fun k hk => by
  have hk2 : 0 ≤ k ∧ k < (11 + p.cls.length : Nat) := by simpa [isJ] using hk
  by_cases h1 : k < 11
  · rw [show supJ p k = bltJ k by simp [supJ, h1]]
    unfold bltJ
    split
    · left; omega
    · right
      split <;> simp [isJ] <;> omega
  · right
    rw [show supJ p k = (ofJ p k).sup by simp [supJ, h1]]
    have hb := h (k - 11).toNat (by omega)
    rw [bad1, show (11 : Int) + ((k - 11).toNat : Int) = k by omega] at hb
    simp at hb
    exact hb.1.1.1
theorem back_neg (p : Pg) (at_ x : Int) (h : x < 0) : ∀ f, backJ p at_ f x = false
  | 0 => rfl
  | f + 1 => by unfold backJ; simp; intro h2; omega
theorem back_on (p : Pg) (at_ x : Int) (h : 0 ≤ x) (f : Nat) : backJ p at_ (f + 1) x = (x == at_ || backJ p at_ f (supJ p x)) := by
  rw [backJ]; simp [h]

end Go.Proofs.YtbdfpodglfpjnaaGreat
/- The document's own Load: faces. -/
namespace Go.Proofs.YtbdfpodglfpjnaaGreat
open Go.RowKit

theorem any_take {α : Type} {xs : List α} {f : α → Bool} {i : Nat} {x : α} (hx : xs[i]? = some x) : (xs.take (i + 1)).any f = ((xs.take i).any f || f x) := by
  rw [List.take_add_one, hx]; simp
theorem any_full {α : Type} {xs : List α} {f : α → Bool} : (xs.take xs.length).any f = xs.any f := by rw [List.take_length]
/-- A method copied into a box of its own. -/
structure BoxM (w : World) (S : Nat → Prop) (mb : Nat) (m : Md) (f1 f2 f3 f4 : Option Addr) (g1 g2 g3 g4 : Nat) : Prop where
  box : w.heap[mb]? = some (.cells #[.string m.nm, .bool m.stc, .slice f1 m.args.length g1, .int .i64 m.ret, .int .i64 m.lo, .int .i64 m.st, .slice f2 m.code.length g2, .slice f3 m.tab.length g3, .slice f4 m.maps.length g4] 39 (0, 0))
  s1 : Sl kI w S (.slice f1 m.args.length g1) m.args
section
variable {w : World} {S : Nat → Prop} {mb : Nat} {m : Md} {f1 f2 f3 f4 : Option Addr} {g1 g2 g3 g4 : Nat}
theorem BoxM.lt (h : BoxM w S mb m f1 f2 f3 f4 g1 g2 g3 g4) : mb < w.heap.size := (Array.getElem?_eq_some_iff.1 h.box).1
theorem BoxM.keep (h : BoxM w S mb m f1 f2 f3 f4 g1 g2 g3 g4) {w' : World} (e1 : w'.heap[mb]? = w.heap[mb]?) (e : ∀ b, S b → w'.heap[b]? = w.heap[b]?) : BoxM w' S mb m f1 f2 f3 f4 g1 g2 g3 g4 := ⟨e1.trans h.box, h.s1.keep e⟩
theorem BoxM.cells (h : BoxM w S mb m f1 f2 f3 f4 g1 g2 g3 g4) : w.cell? ⟨mb, 0, none⟩ = some (.string m.nm) ∧ w.cell? ⟨mb, 1, none⟩ = some (.bool m.stc) ∧ w.cell? ⟨mb, 2, none⟩ = some (.slice f1 m.args.length g1) ∧ w.cell? ⟨mb, 3, none⟩ = some (.int .i64 m.ret) ∧ w.cell? ⟨mb, 4, none⟩ = some (.int .i64 m.lo) ∧ w.cell? ⟨mb, 6, none⟩ = some (.slice f2 m.code.length g2) ∧ w.cell? ⟨mb, 7, none⟩ = some (.slice f3 m.tab.length g3) ∧ w.cell? ⟨mb, 8, none⟩ = some (.slice f4 m.maps.length g4) := by
  have := h.box
  refine ⟨?_, ?_, ?_, ?_, ?_, ?_, ?_, ?_⟩ <;> simp [World.cell?, this]
/-- Method number j of a slice is copied into a new box. -/
theorem mth_at {a : Option Addr} {n cap : Nat} {ms : List Md} (h : Sl kMd w S (.slice a n cap) ms) (low : ∀ k, S k → k < w.heap.size) {j : Nat} {m : Md} (hm : ms[j]? = some m) : ∃ sb so f1 f2 f3 f4 g1 g2 g3 g4, a = some ⟨sb, so, none⟩ ∧
    (w.cell? ⟨sb, so + j * 9, none⟩ = some (.string m.nm) ∧ w.cell? ⟨sb, so + j * 9 + 1, none⟩ = some (.bool m.stc) ∧ w.cell? ⟨sb, so + j * 9 + 2, none⟩ = some (.slice f1 m.args.length g1) ∧ w.cell? ⟨sb, so + j * 9 + 3, none⟩ = some (.int .i64 m.ret) ∧ w.cell? ⟨sb, so + j * 9 + 4, none⟩ = some (.int .i64 m.lo) ∧ w.cell? ⟨sb, so + j * 9 + 5, none⟩ = some (.int .i64 m.st) ∧
    w.cell? ⟨sb, so + j * 9 + 6, none⟩ = some (.slice f2 m.code.length g2) ∧ w.cell? ⟨sb, so + j * 9 + 7, none⟩ = some (.slice f3 m.tab.length g3) ∧ w.cell? ⟨sb, so + j * 9 + 8, none⟩ = some (.slice f4 m.maps.length g4)) ∧ Sl kI w S (.slice f1 m.args.length g1) m.args ∧
    Hid (BoxM (w.alloc (.cells #[.string m.nm, .bool m.stc, .slice f1 m.args.length g1, .int .i64 m.ret, .int .i64 m.lo, .int .i64 m.st, .slice f2 m.code.length g2, .slice f3 m.tab.length g3, .slice f4 m.maps.length g4] 39)) S w.heap.size m f1 f2 f3 f4 g1 g2 g3 g4 ∧ Below w.heap.size w (w.alloc (.cells #[.string m.nm, .bool m.stc, .slice f1 m.args.length g1, .int .i64 m.ret, .int .i64 m.lo, .int .i64 m.st, .slice f2 m.code.length g2, .slice f3 m.tab.length g3, .slice f4 m.maps.length g4] 39))) := by
  obtain ⟨sb, so, rfl, hsb, ss, r1, hsd⟩ := h.atJ hm
  obtain ⟨o1, o2, o3, o4, rfl, j1, j2, j3, j4⟩ := r1
  have j1' := j1
  obtain ⟨f1, g1, rfl, -⟩ := j1'
  obtain ⟨f2, g2, rfl, -⟩ := j2
  obtain ⟨f3, g3, rfl, -⟩ := j3
  obtain ⟨f4, g4, rfl, -⟩ := j4
  have hr : ∀ k u, [Value.string m.nm, .bool m.stc, .slice f1 m.args.length g1, .int .i64 m.ret, .int .i64 m.lo, .int .i64 m.st, .slice f2 m.code.length g2, .slice f3 m.tab.length g3, .slice f4 m.maps.length g4][k]? = some u → w.cell? ⟨sb, so + j * 9 + k, none⟩ = some u := fun k u hu => by
    have := hsd k u hu; rw [show kMd.k = 9 from rfl, show so + (j * 9 + k) = so + j * 9 + k by omega] at this; exact this
  have t0 := hr 0 _ rfl
  rw [Nat.add_zero] at t0
  refine ⟨sb, so, f1, f2, f3, f4, g1, g2, g3, g4, rfl, ⟨t0, hr 1 _ rfl, hr 2 _ rfl, hr 3 _ rfl, hr 4 _ rfl, hr 5 _ rfl, hr 6 _ rfl, hr 7 _ rfl, hr 8 _ rfl⟩, j1, ?_⟩
  have hb : Below w.heap.size w (w.alloc (.cells #[.string m.nm, .bool m.stc, .slice f1 m.args.length g1, .int .i64 m.ret, .int .i64 m.lo, .int .i64 m.st, .slice f2 m.code.length g2, .slice f3 m.tab.length g3, .slice f4 m.maps.length g4] 39)) := (Below.refl _ _).alloc (Nat.le_refl _) _
  exact ⟨⟨heap_alloc_new _ _, j1.keep fun b hS => hb.block b (low b hS)⟩, hb⟩
end

end Go.Proofs.YtbdfpodglfpjnaaGreat
namespace Go.Proofs.YtbdfpodglfpjnaaGreat
open Go.RowKit

theorem BoxM.bx {w : World} {S : Nat → Prop} {mb cb : Nat} {m : Md} {f1 f2 f3 f4 : Option Addr} {g1 g2 g3 g4 : Nat} (h : BoxM w S mb m f1 f2 f3 f4 g1 g2 g3 g4) {w' : World} (hb : Bx cb w w') (low : ∀ k, S k → k < w.heap.size) (far : ¬ S cb) (hne : cb ≠ mb) : BoxM w' S mb m f1 f2 f3 f4 g1 g2 g3 g4 :=
  h.keep (hb.block mb h.lt (fun e => hne e.symm)) (fun b hS => hb.block b (low b hS) (fun e => far (e ▸ hS)))
theorem Sl.fty {w : World} {S : Nat → Prop} {ao : Option Addr} {l cap : Nat} {xs : List Fd} (h : Sl kFd w S (.slice ao l cap) xs) {i : Nat} {x : Fd} (hx : xs[i]? = some x) : ∃ b o, ao = some ⟨b, o, none⟩ ∧ w.cell? ⟨b, o + i * 2 + 1, none⟩ = some (.int .i64 x.ty) := by
  obtain ⟨b, o, e, -, cs, rfl, hc⟩ := h.atJ hx
  refine ⟨b, o, e, ?_⟩
  have := hc 1 _ rfl
  rw [show kFd.k = 2 from rfl, show o + (i * 2 + 1) = o + i * 2 + 1 by omega] at this; exact this
theorem Sl.fnm {w : World} {S : Nat → Prop} {ao : Option Addr} {l cap : Nat} {xs : List Fd} (h : Sl kFd w S (.slice ao l cap) xs) {i : Nat} {x : Fd} (hx : xs[i]? = some x) : ∃ b o, ao = some ⟨b, o, none⟩ ∧ w.cell? ⟨b, o + i * 2, none⟩ = some (.string x.nm) := by
  obtain ⟨b, o, e, -, cs, rfl, hc⟩ := h.atJ hx
  refine ⟨b, o, e, ?_⟩
  have := hc 0 _ rfl
  rw [show kFd.k = 2 from rfl, show o + (i * 2 + 0) = o + i * 2 by omega] at this; exact this

end Go.Proofs.YtbdfpodglfpjnaaGreat
namespace Go.Proofs.YtbdfpodglfpjnaaGreat
open Go.RowKit

/-- Entries and layouts as they lie in memory. -/
def kEnb (u : Bool) : Kd En where
  uf := u
  k := 5
  pos := by decide
  R := fun w S x cs => ∃ v1, cs = [.string x.nm, v1, .int .i64 x.ret, .int .i64 x.cl, .int .i64 x.me] ∧ Sl (kIb u) w S v1 x.args
  len := by rintro _ _ _ _ ⟨_, rfl, _⟩; rfl
  one := by
    rintro _ _ _ _ ⟨_, rfl, h1⟩ u hu
    simp at hu
    rcases hu with rfl | rfl | rfl | rfl | rfl
    · rfl
    · exact h1.one
    · rfl
    · rfl
    · rfl
  keep := by rintro _ _ _ _ _ e ⟨_, rfl, h1⟩; exact ⟨_, rfl, h1.keep e⟩
  mono := by rintro _ _ _ _ _ e ⟨_, rfl, h1⟩; exact ⟨_, rfl, h1.mono e⟩
abbrev kEn := kEnb false
abbrev kEnU := kEnb true
theorem soft_En {w : World} {S : Nat → Prop} {v : Value} {xs : List En} (h : Sl kEnU w S v xs) : Sl kEn w S v xs := Sl.soft (K := kEnU) (fun _ _ ⟨_, e, h1⟩ => ⟨_, e, soft_I h1⟩) rfl rfl h
def kLyb (u : Bool) : Kd Ly where
  uf := u
  k := 4
  pos := by decide
  R := fun w S x cs => ∃ v1 v2 v3, cs = [v1, .int .i64 x.off, v2, v3] ∧ Sl (kFdb u) w S v1 x.flds ∧ Sl (kEnb u) w S v2 x.vir ∧ Sl (kIb u) w S v3 x.abv
  len := by rintro _ _ _ _ ⟨_, _, _, rfl, _⟩; rfl
  one := by
    rintro _ _ _ _ ⟨_, _, _, rfl, h1, h2, h3⟩ u hu
    simp at hu
    rcases hu with rfl | rfl | rfl | rfl
    · exact h1.one
    · rfl
    · exact h2.one
    · exact h3.one
  keep := by rintro _ _ _ _ _ e ⟨_, _, _, rfl, h1, h2, h3⟩; exact ⟨_, _, _, rfl, h1.keep e, h2.keep e, h3.keep e⟩
  mono := by rintro _ _ _ _ _ e ⟨_, _, _, rfl, h1, h2, h3⟩; exact ⟨_, _, _, rfl, h1.mono e, h2.mono e, h3.mono e⟩
abbrev kLy := kLyb false
abbrev kLyU := kLyb true
def ofI (r : Option Nat) : Int := match r with
  | some i => (i : Int)
  | none => -1
theorem idx_none {es : List En} {f : En → Bool} (h : (es.take es.length).findIdx? f = none) : es.findIdx? f = none := by rw [List.take_length] at h; exact h
theorem idx_on {es : List En} {f : En → Bool} {i : Nat} {e : En} (h : (es.take i).findIdx? f = none) (he : es[i]? = some e) : (f e = false → (es.take (i + 1)).findIdx? f = none) ∧ (f e = true → es.findIdx? f = some i) := by
  refine ⟨fun hf => ?_, fun hf => ?_⟩
  · rw [List.take_add_one, he]
    simp [List.findIdx?_append, h, hf]
  · have hi : i < es.length := (List.getElem?_eq_some_iff.1 he).1
    have e2 : es = es.take i ++ e :: es.drop (i + 1) := by
      rw [← (List.getElem?_eq_some_iff.1 he).2, List.getElem_cons_drop hi, List.take_append_drop]
    rw [e2, List.findIdx?_append, h]
    simp [List.findIdx?_cons, hf]; omega

end Go.Proofs.YtbdfpodglfpjnaaGreat
/- The document's own Load: twice. -/
namespace Go.Proofs.YtbdfpodglfpjnaaGreat
open Go.RowKit

theorem cell_of_box2 {u : World} {b j : Nat} {row : Array Value} {T : TypeId} {fr : Nat × Nat} {v : Value} (h : u.heap[b]? = some (.cells row T fr)) (hr : row[j]? = some v) : u.cell? ⟨b, j, none⟩ = some v := by simp [World.cell?, h, hr]
end Go.Proofs.YtbdfpodglfpjnaaGreat
/- The document's own Load: own. -/
namespace Go.Proofs.YtbdfpodglfpjnaaGreat
open Go.RowKit

theorem infoEn : (Tryz.prog.info? 72).map (·.size) = some 5 := by kernel_rfl
/-- An entry that was made since. -/
def OwP (m : Md) (k i : Int) (w : World) (e : Ending) (w' : World) : Prop := ∃ ao cap, e = .returned (.agg #[.string m.nm, .slice ao m.args.length cap, .int .i64 m.ret, .int .i64 k, .int .i64 i]) ∧ Sl kIU w' (fun b => w.heap.size ≤ b ∧ b < w'.heap.size) (.slice ao m.args.length cap) m.args ∧ Below w.heap.size w w'
attribute [local go_sem ↓] app_Y
end Go.Proofs.YtbdfpodglfpjnaaGreat
namespace Go.Proofs.YtbdfpodglfpjnaaGreat
open Go.RowKit

def Rj (w : World) (B : Nat) (v : Value) (U : List Int) : Prop := w.ownsRow B 3 1 v U.length (U.map fun u => .int .i64 u)
section
variable {w w' : World} {B : Nat} {v : Value} {U : List Int}
theorem Rj.nil (w : World) (B : Nat) : Rj w B (.slice none 0 0) [] := World.ownsRow_nil w B 3 1
theorem Rj.of_block (h : Rj w B v U) (q : ∀ j, v.ownBlock = some j → w'.heap[j]? = w.heap[j]?) : Rj w' B v U := by
  refine ⟨h.1, ?_⟩
  rcases h.2 with r | ⟨g, cap, cur, rfl, h1, h2, h3⟩
  · exact .inl r
  · exact .inr ⟨g, cap, cur, rfl, h1, (q g rfl).trans h2, h3⟩
theorem Rj.lt (h : Rj w B v U) {j : Nat} (hj : v.ownBlock = some j) : B ≤ j ∧ j < w.heap.size := World.ownsRow.lt h j hj
theorem Rj.below (h : Rj w B v U) (b : Below w.heap.size w w') : Rj w' B v U := h.of_block fun j hj => b.block j (h.lt hj).2
theorem Rj.form (h : Rj w B v U) : ∃ ao cap, v = .slice ao U.length cap := by
  rcases h.2 with ⟨rfl, h0⟩ | ⟨g, cap, cur, rfl, _⟩
  · exact ⟨none, 0, by rw [h0]⟩
  · exact ⟨_, _, rfl⟩
theorem Rj.cells {ao : Option Addr} {m cap : Nat} (h : Rj w B (.slice ao m cap) U) (hn : 0 < U.length) : ∃ p, ao = some ⟨p, 0, none⟩ ∧ (B ≤ p ∧ p < w.heap.size) ∧ (∀ j, w.frozen? ⟨p, j, none⟩ = false) ∧ ∀ i u, U[i]? = some u → w.cell? ⟨p, i, none⟩ = some (.int .i64 u) := by
  rcases h.2 with ⟨_, h0⟩ | ⟨g, cap', cur, q, h1, h2, h3, h4, h5, h6⟩
  · omega
  · simp only [Value.slice.injEq] at q
    obtain ⟨rfl, rfl, rfl⟩ := q
    refine ⟨g, rfl, ⟨h1, (Array.getElem?_eq_some_iff.1 h2).1⟩, fun j => by simp [World.frozen?, h2], fun i u hu => ?_⟩
    have hi : i < U.length := (List.getElem?_eq_some_iff.1 hu).1
    have hf : (U.map fun u => Value.int .i64 u)[i]? = some (.int .i64 u) := by rw [List.getElem?_map, hu]; rfl
    rw [← h6, List.getElem?_take, if_pos (by omega)] at hf
    simp only [World.cell?, h2]
    simpa using hf
theorem Rj.set {p m cap i : Nat} (h : Rj w B (.slice (some ⟨p, 0, none⟩) m cap) U) (x : Int) : Rj (w.setCell ⟨p, i, none⟩ (.int .i64 x)) B (.slice (some ⟨p, 0, none⟩) m cap) (U.set i x) := by
  rcases h.2 with ⟨q, _⟩ | ⟨g, cap', cur, q, h1, h2, h3, h4, h5, h6⟩
  · simp at q
  · simp only [Value.slice.injEq, Option.some.injEq, Addr.mk.injEq, and_true] at q
    obtain ⟨rfl, rfl, rfl⟩ := q
    refine ⟨by simp, .inr ⟨p, cap, cur.setIfInBounds i (.int .i64 x), by rw [List.length_set], h1, hset h2 _, by rw [List.length_set]; exact h3, h4, by rw [Array.size_setIfInBounds]; exact h5, ?_⟩⟩
    rw [List.length_set, Array.toList_setIfInBounds, List.take_set, h6, List.map_set]
theorem Rj.sl (h : Rj w B v U) : Sl kIU w (fun b => B ≤ b ∧ b < w.heap.size) v U := by
  rcases h.2 with ⟨e1, e2⟩ | ⟨g, cap, cur, e1, e2, e3, e4, e5, _⟩
  · exact ⟨none, 0, by rw [e1, e2], by rw [e2]; exact Nat.zero_le _, .inl (List.length_eq_zero_iff.1 e2)⟩
  · subst e1
    refine ⟨_, cap, rfl, Nat.le_trans e4 e5, ?_⟩
    rcases Nat.eq_zero_or_pos U.length with h0 | h0
    · exact .inl (List.length_eq_zero_iff.1 h0)
    · obtain ⟨p, q1, q2, q3, q4⟩ := h.cells h0
      refine .inr ⟨p, 0, q1, q2, ⟨q2.2, fun _ => q3⟩, fun i x hx => ⟨_, rfl, fun j u hu => ?_⟩⟩
      rcases j with _ | j
      · obtain rfl := Option.some.inj hu
        rw [show 0 + (i * kIU.k + 0) = i by show 0 + (i * 1 + 0) = i; omega]; exact q4 i x hx
      · simp at hu
theorem Rj.app {P : Program} (h : Rj w B v U) {t ty : TypeId} {i : TypeInfo} {z : Value} {bytes : Nat} (ht : P.underlying t = some (.slice 3)) (hi : P.info? 3 = some i) (hz : i.zero = some z) (hs : i.size = 1) (hby : i.bytes = bytes) (hzs : z.cells.size = 1) (x : Int)
    (hB : B ≤ w.heap.size) (hn : U.length + 1 ≤ maxLen) (hb : (U.length + 1) * bytes ≤ 140737488355328) {W : World} {a : Nat} (hW : W.heap[a]? = some (.cells #[.int .i64 x] 3 (0, 0))) (hbW : Below w.heap.size w W) :
    ∃ g cap w', (appY #[t, t] ty #[v, .slice (some ⟨a, 0, none⟩) 1 1]).run P W = .ok (.slice (some ⟨g, 0, none⟩) (U.length + 1) cap) w' ∧ Rj w' B (.slice (some ⟨g, 0, none⟩) (U.length + 1) cap) (U ++ [x]) ∧ Below B w w' := by
  have hnew : ∀ j u, ([.int .i64 x] : List Value)[j]? = some u → W.cell? ((⟨a, 0, none⟩ : Addr).add j) = some u := by
    intro j u hu
    have hadd : (⟨a, 0, none⟩ : Addr).add j = ⟨a, 0 + j, none⟩ := by unfold Addr.add; split <;> simp_all
    rw [hadd, Nat.zero_add]
    simp only [World.cell?, hW]
    simpa using hu
  obtain ⟨v', w', hrun, hown, hg, _, hat⟩ := run_append_own_at (P := P) W B t ty 3 i z 1 bytes ht hi hz hs hby hzs (by decide) v U.length _ (h.below hbW) ⟨a, 0, none⟩ 1 1 [.int .i64 x] rfl hnew (by simp [Value.oneCell']) hn hb (Nat.le_trans hB hbW.size)
  have hR : Rj w' B v' (U ++ [x]) := by unfold Rj; rw [List.map_append, List.length_append]; exact hown
  obtain ⟨ao, cap, e⟩ := hR.form
  rw [List.length_append, List.length_singleton] at e
  subst e
  obtain ⟨g, rfl, -⟩ := hR.cells (by simp)
  refine ⟨g, cap, w', hrun, hR, ⟨hg.os.trans hbW.os, hg.tape.trans hbW.tape, hg.output.trans hbW.output, Nat.le_trans hbW.size hg.size, fun j hj => ?_⟩⟩
  have hj2 : j < w.heap.size := Nat.lt_of_lt_of_le hj hB
  rw [hg.block j (Nat.lt_of_lt_of_le hj2 hbW.size) (fun q => by have := (h.lt q.symm).1; omega), hbW.block j hj2]
end
end Go.Proofs.YtbdfpodglfpjnaaGreat
/- The document's own Load: sorted. -/
namespace Go.Proofs.YtbdfpodglfpjnaaGreat
open Go.RowKit

theorem ins_at {x : Int} : ∀ {l : List Int} {k : Nat}, (∀ y ∈ l.take k, y ≤ x) → (∀ y ∈ l.drop k, x < y) → insJ x l = l.take k ++ x :: l.drop k
  | [], k, _, _ => by simp [insJ]
  | a :: l, 0, _, h2 => by
    unfold insJ; rw [if_pos (h2 a (by simp))]; simp
  | a :: l, k + 1, h1, h2 => by
    unfold insJ
    have ha : a ≤ x := h1 a (by simp)
    rw [if_neg (by omega), ins_at (l := l) (k := k) (fun y hy => h1 y (by simp [hy])) (fun y hy => h2 y (by simpa using hy))]
    simp
def Sorted (l : List Int) : Prop := l.Pairwise (· ≤ ·)
theorem mem_insJ {x y : Int} : ∀ {l : List Int}, y ∈ insJ x l ↔ y = x ∨ y ∈ l
  | [] => by simp [insJ]
  | a :: l => by
    unfold insJ
    split
    · simp
    · rw [List.mem_cons, mem_insJ (l := l), List.mem_cons]
      constructor
      · rintro (h | h | h)
        · exact .inr (.inl h)
        · exact .inl h
        · exact .inr (.inr h)
      · rintro (h | h | h)
        · exact .inr (.inl h)
        · exact .inl h
        · exact .inr (.inr h)
theorem sorted_ins {x : Int} : ∀ {l : List Int}, Sorted l → Sorted (insJ x l)
  | [], _ => by simp [insJ, Sorted]
  | a :: l, h => by
    unfold Sorted at h ⊢
    rw [List.pairwise_cons] at h
    unfold insJ
    split
    · rename_i hx
      rw [List.pairwise_cons, List.pairwise_cons]
      refine ⟨fun y hy => ?_, h⟩
      rcases List.mem_cons.1 hy with rfl | hy
      · omega
      · have := h.1 y hy; omega
    · rename_i hx
      rw [List.pairwise_cons]
      refine ⟨fun y hy => ?_, sorted_ins (l := l) h.2⟩
      rcases mem_insJ.1 hy with rfl | hy
      · omega
      · exact h.1 y hy
theorem len_insJ (x : Int) : ∀ l : List Int, (insJ x l).length = l.length + 1
  | [] => rfl
  | a :: l => by
    unfold insJ
    split
    · rfl
    · rw [List.length_cons, len_insJ x l]; rfl
theorem sortJ_snoc (xs : List Int) (x : Int) : sortJ (xs ++ [x]) = insJ x (sortJ xs) := by unfold sortJ; rw [List.foldl_append]; rfl
theorem sort_take {xs : List Int} {i : Nat} {x : Int} (h : xs[i]? = some x) : sortJ (xs.take (i + 1)) = insJ x (sortJ (xs.take i)) := by
  rw [List.take_add_one, h]; exact sortJ_snoc _ _
theorem sorted_sort : ∀ n (xs : List Int), xs.length = n → Sorted (sortJ xs) ∧ (sortJ xs).length = n
  | 0, xs, h => by
    have : xs = [] := List.eq_nil_of_length_eq_zero h
    subst this; exact ⟨by simp [sortJ, Sorted], rfl⟩
  | n + 1, xs, h => by
    obtain ⟨ys, y, rfl⟩ : ∃ ys y, xs = ys ++ [y] := ⟨xs.dropLast, xs.getLast (by intro e; rw [e] at h; simp at h), (List.dropLast_concat_getLast _).symm⟩
    rw [List.length_append, List.length_singleton] at h
    have := sorted_sort n ys (by omega)
    rw [sortJ_snoc]
    exact ⟨sorted_ins this.1, by rw [len_insJ, this.2]⟩
/-- The hole moves one place down. -/
theorem hole_down {l : List Int} {k : Nat} {y z : Int} (hk : k < l.length) (hz : l[k]? = some z) : (l.take (k + 1) ++ y :: l.drop (k + 1)).set (k + 1) z = l.take k ++ z :: l.drop k := by
  have h1 : (l.take (k + 1)).length = k + 1 := by rw [List.length_take]; omega
  have h2 : z :: l.drop (k + 1) = l.drop k := by
    rw [← (List.getElem?_eq_some_iff.1 hz).2]; exact List.getElem_cons_drop hk
  rw [List.set_append_right _ _ (by omega), h1, Nat.sub_self, List.set_cons_zero, List.take_add_one, hz, h2]
  simp
theorem hole_set {l : List Int} {k : Nat} {y z : Int} (hk : k ≤ l.length) : (l.take k ++ y :: l.drop k).set k z = l.take k ++ z :: l.drop k := by
  have h1 : (l.take k).length = k := by rw [List.length_take]; omega
  rw [List.set_append_right _ _ (by omega), h1, Nat.sub_self, List.set_cons_zero]
theorem hole_left {l : List Int} {k : Nat} {y z : Int} (hk : k < l.length) (hz : l[k]? = some z) : (l.take (k + 1) ++ y :: l.drop (k + 1))[k]? = some z := by
  rw [List.getElem?_append_left (by rw [List.length_take]; omega), List.getElem?_take, if_pos (by omega)]; exact hz
theorem sorted_take {l : List Int} (h : Sorted l) {k : Nat} {z x : Int} (hz : l[k]? = some z) (hx : z ≤ x) : ∀ y ∈ l.take (k + 1), y ≤ x := fun y hy => by
  rw [List.take_add_one, hz] at hy
  simp at hy
  rcases hy with hy | rfl
  · obtain ⟨j, hj, rfl⟩ := List.getElem_of_mem hy
    rw [List.length_take] at hj
    have hk : k < l.length := (List.getElem?_eq_some_iff.1 hz).1
    rw [List.getElem_take]
    have := List.pairwise_iff_getElem.1 h j k (by omega) hk (by omega)
    rw [(List.getElem?_eq_some_iff.1 hz).2] at this
    omega
  · exact hx
theorem drop_more {l : List Int} {k : Nat} {z x : Int} (hk : k < l.length) (hz : l[k]? = some z) (hx : x < z) (h : ∀ y ∈ l.drop (k + 1), x < y) : ∀ y ∈ l.drop k, x < y := fun y hy => by
  rw [← List.getElem_cons_drop hk, (List.getElem?_eq_some_iff.1 hz).2] at hy
  rcases List.mem_cons.1 hy with rfl | hy
  · exact hx
  · exact h y hy

attribute [local go_sem ↓] app_Y
end Go.Proofs.YtbdfpodglfpjnaaGreat
/- The document's own Load: above (it calls itself). -/
namespace Go.Proofs.YtbdfpodglfpjnaaGreat
open Go.RowKit

theorem nodup_len : ∀ (N : Nat) (l : List Int), l.Nodup → (∀ x ∈ l, 0 ≤ x ∧ x < (N : Int)) → l.length ≤ N
  | 0, l, _, h => by
    cases l with
    | nil => simp
    | cons a l => have := h a (by simp); omega
  | N + 1, l, hn, h => by
    by_cases hm : (N : Int) ∈ l
    · have h1 := nodup_len N (l.erase N) (hn.erase _) (fun x hx => by
        have h2 := h x (List.mem_of_mem_erase hx)
        have h3 : x ≠ (N : Int) := fun e => by subst e; exact (List.Nodup.not_mem_erase hn) hx
        omega)
      rw [List.length_erase_of_mem hm] at h1
      omega
    · have := nodup_len N l hn (fun x hx => by
        have h2 := h x hx
        have h3 : x ≠ (N : Int) := fun e => by subst e; exact hm hx
        omega)
      omega
/-- A list of classes that are there, none twice. -/
def Gd (p : Pg) (out : List Int) : Prop := out.Nodup ∧ ∀ x ∈ out, isJ p x = true
theorem Gd.le {p : Pg} {out : List Int} (h : Gd p out) : out.length ≤ nJ p := nodup_len _ _ h.1 fun x hx => by
  have := h.2 x hx
  simp [isJ] at this
  unfold nJ
  omega
theorem Gd.add {p : Pg} {out : List Int} (h : Gd p out) {k : Int} (hk : isJ p k = true) (hc : out.contains k = false) : Gd p (out ++ [k]) := by
  have hc2 : k ∉ out := by simpa using hc
  refine ⟨?_, fun x hx => ?_⟩
  · rw [List.nodup_append]
    refine ⟨h.1, by simp, fun a ha b hb => ?_⟩
    simp at hb
    subst hb
    exact fun e => hc2 (e ▸ ha)
  · rcases List.mem_append.1 hx with hx | hx
    · exact h.2 x hx
    · simp at hx; subst hx; exact hk
/-- What a program's Faces name are classes. -/
def FaceOk (p : Pg) : Prop := ∀ k, userJ p k = true → ∀ x ∈ (ofJ p k).faces, isJ p x = true
theorem above_gd {p : Pg} (hS : SupOk p) (hF : FaceOk p) : ∀ (f : Nat) (k : Int) (out : List Int), isJ p k = true → Gd p out → Gd p (aboveJ p f k out) ∧ out.length ≤ (aboveJ p f k out).length
  | 0, _, out, _, hg => ⟨hg, Nat.le_refl _⟩
  | f + 1, k, out, hk, hg => by
    rw [aboveJ]
    by_cases hc : out.contains k = true
    · rw [if_pos hc]; exact ⟨hg, Nat.le_refl _⟩
    · rw [if_neg hc]
      rw [Bool.not_eq_true] at hc
      have h1 := hg.add hk hc
      have hfold : ∀ (xs : List Int) (o : List Int), (∀ x ∈ xs, isJ p x = true) → Gd p o → Gd p (xs.foldl (fun o x => aboveJ p f x o) o) ∧ o.length ≤ (xs.foldl (fun o x => aboveJ p f x o) o).length := by
        intro xs
        induction xs with
        | nil => intro o _ ho; exact ⟨ho, Nat.le_refl _⟩
        | cons x xs ih =>
          intro o hx ho
          have q := above_gd hS hF f x o (hx x (by simp)) ho
          have r := ih (aboveJ p f x o) (fun y hy => hx y (by simp [hy])) q.1
          exact ⟨r.1, Nat.le_trans q.2 r.2⟩
      have h2 : Gd p (if userJ p k then (ofJ p k).faces.foldl (fun o x => aboveJ p f x o) (out ++ [k]) else out ++ [k]) ∧ out.length ≤ (if userJ p k then (ofJ p k).faces.foldl (fun o x => aboveJ p f x o) (out ++ [k]) else out ++ [k]).length := by
        by_cases hu : userJ p k = true
        · rw [if_pos hu]
          have q := hfold _ (out ++ [k]) (hF k hu) h1
          exact ⟨q.1, by have := q.2; simp at this; omega⟩
        · rw [if_neg hu]; exact ⟨h1, by simp⟩
      simp only
      generalize (if userJ p k then (ofJ p k).faces.foldl (fun o x => aboveJ p f x o) (out ++ [k]) else out ++ [k]) = o2 at h2 ⊢
      by_cases hs : 0 ≤ supJ p k
      · rw [if_pos hs]
        have q := above_gd hS hF f (supJ p k) o2 ((hS k hk).resolve_left (by omega)) h2.1
        exact ⟨q.1, Nat.le_trans h2.2 q.2⟩
      · rw [if_neg hs]; exact h2
theorem fold_take {p : Pg} {f : Nat} {xs : List Int} {j : Nat} {x : Int} (o : List Int) (hx : xs[j]? = some x) : (xs.take (j + 1)).foldl (fun o x => aboveJ p f x o) o = aboveJ p f x ((xs.take j).foldl (fun o x => aboveJ p f x o) o) := by
  rw [List.take_add_one, hx, List.foldl_append]; rfl
set_option maxRecDepth 20000 in
theorem fld4 (a : ByteArray) (b c : Bool) (d : Int) (f g h : Value) (q : Option Addr) (n m : Nat) (w : World) : (Instr.field 31 (.agg #[.string a, .bool b, .bool c, .int .i64 d, .slice q n m, f, g, h]) 4).run Tryz.prog w = .ok (.slice q n m) w := by kernel_rfl
attribute [local go_sem ↓] app_Y
end Go.Proofs.YtbdfpodglfpjnaaGreat
