/- The document's own Load: named; Of. -/
import Derived.Test.YtllpjjglnopgaabGreatMY7
namespace Go.Proofs.YtllpjjglnopgaabGreat
open Go.RowKit

/-- A class's cells; the zero class's. -/
abbrev rowC (c : Cs) (f1 f2 f3 f4 : Option Addr) (g1 g2 g3 g4 : Nat) : Array Value := #[.string c.nm, .bool c.face, .bool c.fin, .int .i64 c.sup, .slice f1 c.faces.length g1, .slice f2 c.flds.length g2, .slice f3 c.stcs.length g3, .slice f4 c.mds.length g4]
structure BoxC (w : World) (S : Nat → Prop) (kb : Nat) (c : Cs) (f1 f2 f3 f4 : Option Addr) (g1 g2 g3 g4 : Nat) : Prop where
  box : w.heap[kb]? = some (.cells #[.string c.nm, .bool c.face, .bool c.fin, .int .i64 c.sup, .slice f1 c.faces.length g1, .slice f2 c.flds.length g2, .slice f3 c.stcs.length g3, .slice f4 c.mds.length g4] 27 (0, 0))
  s1 : Sl kI w S (.slice f1 c.faces.length g1) c.faces
  s2 : Sl kFd w S (.slice f2 c.flds.length g2) c.flds
  s3 : Sl kFd w S (.slice f3 c.stcs.length g3) c.stcs
  s4 : Sl kMd w S (.slice f4 c.mds.length g4) c.mds
section
variable {w : World} {cb : Nat} {p : Pg} {S : Nat → Prop} {v : Value} {s : Fs} {kb : Nat} {c : Cs} {f1 f2 f3 f4 : Option Addr} {g1 g2 g3 g4 : Nat}
end
theorem Bx.low {rh : Nat} {a b c : World} (h : Bx rh a b) (k : Below b.heap.size b c) : Bx rh a c := h.trans (Bx.of_below k)
theorem badOk {p : Pg} {cs : Cs} {i : Nat} (h : Okz p) (hc : p.cls[i]? = some cs) : OkC cs := h.cls cs (List.mem_of_getElem? hc)

end Go.Proofs.YtllpjjglnopgaabGreat
/- The document's own Load: cycles. -/
namespace Go.Proofs.YtllpjjglnopgaabGreat
open Go.RowKit

/-- What is above a class that is there is one, or nothing. -/
def SupOk (p : Pg) : Prop := ∀ k, isJ p k = true → supJ p k < 0 ∨ isJ p (supJ p k) = true
theorem sup_ok {p : Pg} (h : ∀ i, i < p.cls.length → bad1 p i = false) : SupOk p := fun k hk => by
  have hk2 : 0 ≤ k ∧ k < (11 + p.cls.length : Nat) := by simpa [isJ] using hk
  by_cases h1 : k < 11
  · rw [show supJ p k = bltJ k by simp [supJ, h1]]
    unfold bltJ
    split
    · left; omega
    · right
      split <;> simp [isJ] <;> omega
  · right
    rw [show supJ p k = (ofJ p k).sup by simp [supJ, h1]]
    have hb := h (k - 11).toNat (by omega)
    rw [bad1, show (11 : Int) + ((k - 11).toNat : Int) = k by omega] at hb
    simp at hb
    exact hb.1.1.1
theorem back_neg (p : Pg) (at_ x : Int) (h : x < 0) : ∀ f, backJ p at_ f x = false
  | 0 => rfl
  | f + 1 => by unfold backJ; simp; intro h2; omega
theorem back_on (p : Pg) (at_ x : Int) (h : 0 ≤ x) (f : Nat) : backJ p at_ (f + 1) x = (x == at_ || backJ p at_ f (supJ p x)) := by
  rw [backJ]; simp [h]

end Go.Proofs.YtllpjjglnopgaabGreat
/- The document's own Load: faces. -/
namespace Go.Proofs.YtllpjjglnopgaabGreat
open Go.RowKit

theorem any_take {α : Type} {xs : List α} {f : α → Bool} {i : Nat} {x : α} (hx : xs[i]? = some x) : (xs.take (i + 1)).any f = ((xs.take i).any f || f x) := by
  rw [List.take_add_one, hx]; simp
theorem any_full {α : Type} {xs : List α} {f : α → Bool} : (xs.take xs.length).any f = xs.any f := by rw [List.take_length]
/-- A method copied into a box of its own. -/
structure BoxM (w : World) (S : Nat → Prop) (mb : Nat) (m : Md) (f1 f2 f3 f4 : Option Addr) (g1 g2 g3 g4 : Nat) : Prop where
  box : w.heap[mb]? = some (.cells #[.string m.nm, .bool m.stc, .slice f1 m.args.length g1, .int .i64 m.ret, .int .i64 m.lo, .int .i64 m.st, .slice f2 m.code.length g2, .slice f3 m.tab.length g3, .slice f4 m.maps.length g4] 34 (0, 0))
  s1 : Sl kI w S (.slice f1 m.args.length g1) m.args
section
variable {w : World} {S : Nat → Prop} {mb : Nat} {m : Md} {f1 f2 f3 f4 : Option Addr} {g1 g2 g3 g4 : Nat}
theorem BoxM.lt (h : BoxM w S mb m f1 f2 f3 f4 g1 g2 g3 g4) : mb < w.heap.size := (Array.getElem?_eq_some_iff.1 h.box).1
theorem BoxM.keep (h : BoxM w S mb m f1 f2 f3 f4 g1 g2 g3 g4) {w' : World} (e1 : w'.heap[mb]? = w.heap[mb]?) (e : ∀ b, S b → w'.heap[b]? = w.heap[b]?) : BoxM w' S mb m f1 f2 f3 f4 g1 g2 g3 g4 := ⟨e1.trans h.box, h.s1.keep e⟩
theorem BoxM.cells (h : BoxM w S mb m f1 f2 f3 f4 g1 g2 g3 g4) : w.cell? ⟨mb, 0, none⟩ = some (.string m.nm) ∧ w.cell? ⟨mb, 1, none⟩ = some (.bool m.stc) ∧ w.cell? ⟨mb, 2, none⟩ = some (.slice f1 m.args.length g1) ∧ w.cell? ⟨mb, 3, none⟩ = some (.int .i64 m.ret) ∧ w.cell? ⟨mb, 4, none⟩ = some (.int .i64 m.lo) ∧ w.cell? ⟨mb, 6, none⟩ = some (.slice f2 m.code.length g2) ∧ w.cell? ⟨mb, 7, none⟩ = some (.slice f3 m.tab.length g3) ∧ w.cell? ⟨mb, 8, none⟩ = some (.slice f4 m.maps.length g4) := by
  have := h.box
  refine ⟨?_, ?_, ?_, ?_, ?_, ?_, ?_, ?_⟩ <;> simp [World.cell?, this]
/-- Method number j of a slice is copied into a new box. -/
theorem mth_at {a : Option Addr} {n cap : Nat} {ms : List Md} (h : Sl kMd w S (.slice a n cap) ms) (low : ∀ k, S k → k < w.heap.size) {j : Nat} {m : Md} (hm : ms[j]? = some m) : ∃ sb so f1 f2 f3 f4 g1 g2 g3 g4, a = some ⟨sb, so, none⟩ ∧
    (w.cell? ⟨sb, so + j * 9, none⟩ = some (.string m.nm) ∧ w.cell? ⟨sb, so + j * 9 + 1, none⟩ = some (.bool m.stc) ∧ w.cell? ⟨sb, so + j * 9 + 2, none⟩ = some (.slice f1 m.args.length g1) ∧ w.cell? ⟨sb, so + j * 9 + 3, none⟩ = some (.int .i64 m.ret) ∧ w.cell? ⟨sb, so + j * 9 + 4, none⟩ = some (.int .i64 m.lo) ∧ w.cell? ⟨sb, so + j * 9 + 5, none⟩ = some (.int .i64 m.st) ∧
    w.cell? ⟨sb, so + j * 9 + 6, none⟩ = some (.slice f2 m.code.length g2) ∧ w.cell? ⟨sb, so + j * 9 + 7, none⟩ = some (.slice f3 m.tab.length g3) ∧ w.cell? ⟨sb, so + j * 9 + 8, none⟩ = some (.slice f4 m.maps.length g4)) ∧ Sl kI w S (.slice f1 m.args.length g1) m.args ∧
    Hid (BoxM (w.alloc (.cells #[.string m.nm, .bool m.stc, .slice f1 m.args.length g1, .int .i64 m.ret, .int .i64 m.lo, .int .i64 m.st, .slice f2 m.code.length g2, .slice f3 m.tab.length g3, .slice f4 m.maps.length g4] 34)) S w.heap.size m f1 f2 f3 f4 g1 g2 g3 g4 ∧ Below w.heap.size w (w.alloc (.cells #[.string m.nm, .bool m.stc, .slice f1 m.args.length g1, .int .i64 m.ret, .int .i64 m.lo, .int .i64 m.st, .slice f2 m.code.length g2, .slice f3 m.tab.length g3, .slice f4 m.maps.length g4] 34))) := by
  obtain ⟨sb, so, rfl, hsb, ss, r1, hsd⟩ := h.atJ hm
  obtain ⟨o1, o2, o3, o4, rfl, j1, j2, j3, j4⟩ := r1
  have j1' := j1
  obtain ⟨f1, g1, rfl, -⟩ := j1'
  obtain ⟨f2, g2, rfl, -⟩ := j2
  obtain ⟨f3, g3, rfl, -⟩ := j3
  obtain ⟨f4, g4, rfl, -⟩ := j4
  have hr : ∀ k u, [Value.string m.nm, .bool m.stc, .slice f1 m.args.length g1, .int .i64 m.ret, .int .i64 m.lo, .int .i64 m.st, .slice f2 m.code.length g2, .slice f3 m.tab.length g3, .slice f4 m.maps.length g4][k]? = some u → w.cell? ⟨sb, so + j * 9 + k, none⟩ = some u := fun k u hu => by
    have := hsd k u hu; rw [show kMd.k = 9 from rfl, show so + (j * 9 + k) = so + j * 9 + k by omega] at this; exact this
  have t0 := hr 0 _ rfl
  rw [Nat.add_zero] at t0
  refine ⟨sb, so, f1, f2, f3, f4, g1, g2, g3, g4, rfl, ⟨t0, hr 1 _ rfl, hr 2 _ rfl, hr 3 _ rfl, hr 4 _ rfl, hr 5 _ rfl, hr 6 _ rfl, hr 7 _ rfl, hr 8 _ rfl⟩, j1, ?_⟩
  have hb : Below w.heap.size w (w.alloc (.cells #[.string m.nm, .bool m.stc, .slice f1 m.args.length g1, .int .i64 m.ret, .int .i64 m.lo, .int .i64 m.st, .slice f2 m.code.length g2, .slice f3 m.tab.length g3, .slice f4 m.maps.length g4] 34)) := (Below.refl _ _).alloc (Nat.le_refl _) _
  exact ⟨⟨heap_alloc_new _ _, j1.keep fun b hS => hb.block b (low b hS)⟩, hb⟩
end

end Go.Proofs.YtllpjjglnopgaabGreat
namespace Go.Proofs.YtllpjjglnopgaabGreat
open Go.RowKit

theorem BoxM.bx {w : World} {S : Nat → Prop} {mb cb : Nat} {m : Md} {f1 f2 f3 f4 : Option Addr} {g1 g2 g3 g4 : Nat} (h : BoxM w S mb m f1 f2 f3 f4 g1 g2 g3 g4) {w' : World} (hb : Bx cb w w') (low : ∀ k, S k → k < w.heap.size) (far : ¬ S cb) (hne : cb ≠ mb) : BoxM w' S mb m f1 f2 f3 f4 g1 g2 g3 g4 :=
  h.keep (hb.block mb h.lt (fun e => hne e.symm)) (fun b hS => hb.block b (low b hS) (fun e => far (e ▸ hS)))
theorem Sl.fty {w : World} {S : Nat → Prop} {ao : Option Addr} {l cap : Nat} {xs : List Fd} (h : Sl kFd w S (.slice ao l cap) xs) {i : Nat} {x : Fd} (hx : xs[i]? = some x) : ∃ b o, ao = some ⟨b, o, none⟩ ∧ w.cell? ⟨b, o + i * 2 + 1, none⟩ = some (.int .i64 x.ty) := by
  obtain ⟨b, o, e, -, cs, rfl, hc⟩ := h.atJ hx
  refine ⟨b, o, e, ?_⟩
  have := hc 1 _ rfl
  rw [show kFd.k = 2 from rfl, show o + (i * 2 + 1) = o + i * 2 + 1 by omega] at this; exact this
theorem Sl.fnm {w : World} {S : Nat → Prop} {ao : Option Addr} {l cap : Nat} {xs : List Fd} (h : Sl kFd w S (.slice ao l cap) xs) {i : Nat} {x : Fd} (hx : xs[i]? = some x) : ∃ b o, ao = some ⟨b, o, none⟩ ∧ w.cell? ⟨b, o + i * 2, none⟩ = some (.string x.nm) := by
  obtain ⟨b, o, e, -, cs, rfl, hc⟩ := h.atJ hx
  refine ⟨b, o, e, ?_⟩
  have := hc 0 _ rfl
  rw [show kFd.k = 2 from rfl, show o + (i * 2 + 0) = o + i * 2 by omega] at this; exact this

end Go.Proofs.YtllpjjglnopgaabGreat
namespace Go.Proofs.YtllpjjglnopgaabGreat
open Go.RowKit

/-- Entries and layouts as they lie in memory. -/
def kEnb (u : Bool) : Kd En where
  uf := u
  k := 5
  pos := by decide
  R := fun w S x cs => ∃ v1, cs = [.string x.nm, v1, .int .i64 x.ret, .int .i64 x.cl, .int .i64 x.me] ∧ Sl (kIb u) w S v1 x.args
  len := by rintro _ _ _ _ ⟨_, rfl, _⟩; rfl
  one := by
    rintro _ _ _ _ ⟨_, rfl, h1⟩ u hu
    simp at hu
    rcases hu with rfl | rfl | rfl | rfl | rfl
    · rfl
    · exact h1.one
    · rfl
    · rfl
    · rfl
  keep := by rintro _ _ _ _ _ e ⟨_, rfl, h1⟩; exact ⟨_, rfl, h1.keep e⟩
  mono := by rintro _ _ _ _ _ e ⟨_, rfl, h1⟩; exact ⟨_, rfl, h1.mono e⟩
abbrev kEn := kEnb false
abbrev kEnU := kEnb true
theorem soft_En {w : World} {S : Nat → Prop} {v : Value} {xs : List En} (h : Sl kEnU w S v xs) : Sl kEn w S v xs := Sl.soft (K := kEnU) (fun _ _ ⟨_, e, h1⟩ => ⟨_, e, soft_I h1⟩) rfl rfl h
def kLyb (u : Bool) : Kd Ly where
  uf := u
  k := 4
  pos := by decide
  R := fun w S x cs => ∃ v1 v2 v3, cs = [v1, .int .i64 x.off, v2, v3] ∧ Sl (kFdb u) w S v1 x.flds ∧ Sl (kEnb u) w S v2 x.vir ∧ Sl (kIb u) w S v3 x.abv
  len := by rintro _ _ _ _ ⟨_, _, _, rfl, _⟩; rfl
  one := by
    rintro _ _ _ _ ⟨_, _, _, rfl, h1, h2, h3⟩ u hu
    simp at hu
    rcases hu with rfl | rfl | rfl | rfl
    · exact h1.one
    · rfl
    · exact h2.one
    · exact h3.one
  keep := by rintro _ _ _ _ _ e ⟨_, _, _, rfl, h1, h2, h3⟩; exact ⟨_, _, _, rfl, h1.keep e, h2.keep e, h3.keep e⟩
  mono := by rintro _ _ _ _ _ e ⟨_, _, _, rfl, h1, h2, h3⟩; exact ⟨_, _, _, rfl, h1.mono e, h2.mono e, h3.mono e⟩
abbrev kLy := kLyb false
abbrev kLyU := kLyb true
def ofI (r : Option Nat) : Int := match r with
  | some i => (i : Int)
  | none => -1
theorem idx_none {es : List En} {f : En → Bool} (h : (es.take es.length).findIdx? f = none) : es.findIdx? f = none := by rw [List.take_length] at h; exact h
theorem idx_on {es : List En} {f : En → Bool} {i : Nat} {e : En} (h : (es.take i).findIdx? f = none) (he : es[i]? = some e) : (f e = false → (es.take (i + 1)).findIdx? f = none) ∧ (f e = true → es.findIdx? f = some i) := by
  refine ⟨fun hf => ?_, fun hf => ?_⟩
  · rw [List.take_add_one, he]
    simp [List.findIdx?_append, h, hf]
  · have hi : i < es.length := (List.getElem?_eq_some_iff.1 he).1
    have e2 : es = es.take i ++ e :: es.drop (i + 1) := by
      rw [← (List.getElem?_eq_some_iff.1 he).2, List.getElem_cons_drop hi, List.take_append_drop]
    rw [e2, List.findIdx?_append, h]
    simp [List.findIdx?_cons, hf]; omega

end Go.Proofs.YtllpjjglnopgaabGreat
/- The document's own Load: twice. -/
namespace Go.Proofs.YtllpjjglnopgaabGreat
open Go.RowKit

theorem cell_of_box2 {u : World} {b j : Nat} {row : Array Value} {T : TypeId} {fr : Nat × Nat} {v : Value} (h : u.heap[b]? = some (.cells row T fr)) (hr : row[j]? = some v) : u.cell? ⟨b, j, none⟩ = some v := by simp [World.cell?, h, hr]
end Go.Proofs.YtllpjjglnopgaabGreat
/- The document's own Load: own. -/
namespace Go.Proofs.YtllpjjglnopgaabGreat
open Go.RowKit

theorem infoEn : (Tryz.prog.info? 68).map (·.size) = some 5 := by kernel_rfl
/-- An entry that was made since. -/
def OwP (m : Md) (k i : Int) (w : World) (e : Ending) (w' : World) : Prop := ∃ ao cap, e = .returned (.agg #[.string m.nm, .slice ao m.args.length cap, .int .i64 m.ret, .int .i64 k, .int .i64 i]) ∧ Sl kIU w' (fun b => w.heap.size ≤ b ∧ b < w'.heap.size) (.slice ao m.args.length cap) m.args ∧ Below w.heap.size w w'
attribute [local go_sem ↓] app_Y
end Go.Proofs.YtllpjjglnopgaabGreat
