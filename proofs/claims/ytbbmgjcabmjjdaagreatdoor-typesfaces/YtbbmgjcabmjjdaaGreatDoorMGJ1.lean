/- Layouts as plain data; what the document's own Load answers: plain functions. -/
import Derived.Test.YtbbmgjcabmjjdaaGreatDoorMGL0
import Derived.Test.YtbbmgjcabmjjdaaGreatDoorMY5
import Derived.Test.YtbbmgjcabmjjdaaGreatDoorMY4
import Derived.Deep.RegionHeld3
namespace Go.Proofs.YtbbmgjcabmjjdaaGreatDoor
open Go.RowKit

/-- An entry of a layout's virtual methods; a layout. -/
structure En where
  nm : ByteArray
  args : List Int
  ret : Int
  cl : Int
  me : Int
structure Ly where
  flds : List Fd
  off : Int
  vir : List En
  abv : List Int
def cs0 : Cs := ⟨⟨#[]⟩, false, false, 0, [], [], [], []⟩
def ly0 : Ly := ⟨[], 0, [], []⟩

/-- Numbers and counts that keep to a bound of our own. -/
def rg (x : Int) : Prop := -9223372036854775808 ≤ x ∧ x ≤ 9223372036854775807
structure OkM (m : Md) : Prop where
  nargs : m.args.length ≤ 1048576
  args : ∀ x ∈ m.args, rg x
  ret : rg m.ret
  lo : rg m.lo
structure OkC (c : Cs) : Prop where
  sup : rg c.sup
  nfaces : c.faces.length ≤ 1048576
  faces : ∀ x ∈ c.faces, rg x
  nflds : c.flds.length ≤ 1000
  flds : ∀ f ∈ c.flds, rg f.ty
  nstcs : c.stcs.length ≤ 1048576
  stcs : ∀ f ∈ c.stcs, rg f.ty
  nmds : c.mds.length ≤ 1000
  mds : ∀ m ∈ c.mds, OkM m
structure Okz (p : Pg) : Prop where
  main : rg p.main
  n : p.cls.length ≤ 1000
  cls : ∀ c ∈ p.cls, OkC c

/-- How many classes there are. -/
def nJ (p : Pg) : Nat := 11 + p.cls.length
def isJ (p : Pg) (k : Int) : Bool := decide (0 ≤ k) && decide (k < (11 + p.cls.length : Nat))
def userJ (p : Pg) (k : Int) : Bool := decide (11 ≤ k) && isJ p k
def ofJ (p : Pg) (k : Int) : Cs := p.cls.getD (k - 11).toNat cs0
def faceJ (p : Pg) (k : Int) : Bool := userJ p k && (ofJ p k).face
def bltJ (c : Int) : Int := if c = 0 then -1 else if 1 < c ∧ c < 9 then 1 else 0
def supJ (p : Pg) (k : Int) : Int := if k < 11 then bltJ k else (ofJ p k).sup
def typJ (p : Pg) (t : Int) : Bool := t == 1 || t == 3 || t == 4 || (decide (16 ≤ t) && isJ p (t - 16))
def eqB (a b : ByteArray) : Bool := a.data.toList == b.data.toList
theorem eqB_list (a b : ByteArray) : (a.toList == b.toList) = eqB a b := by unfold eqB; rw [ByteArray.toList_eq, ByteArray.toList_eq]
def likeJ (a : ByteArray) (xs : List Int) (ar : Int) (b : ByteArray) (ys : List Int) (br : Int) : Bool := eqB a b && ar == br && xs == ys
def OfJ (es : List En) (nm : ByteArray) (args : List Int) (ret : Int) : Option Nat := es.findIdx? fun e => likeJ e.nm e.args e.ret nm args ret

/-- A fault's code and class; the first one stays. -/
abbrev Fs := Int × Int
def ftJ (s : Fs) (b : Bool) (code at_ : Int) : Fs := if b && s.1 == 0 then (code, at_) else s
def runJ (bad : Nat → Bool) (code : Int) (s : Fs) : Nat → Fs
  | 0 => s
  | i + 1 => ftJ (runJ bad code s i) (bad i) code (11 + i)
theorem ftJ_or (s : Fs) (a b : Bool) (code at_ : Int) : ftJ (ftJ s a code at_) b code at_ = ftJ s (a || b) code at_ := by
  unfold ftJ
  cases a <;> cases b <;> simp
  intro h1 h2
  rw [if_neg h2] at h1
  exact absurd h1 h2
theorem ftJ_false (s : Fs) (code at_ : Int) : ftJ s false code at_ = s := by simp [ftJ]
theorem ftJ_on {s : Fs} (h : s.1 ≠ 0) (b : Bool) (code at_ : Int) : ftJ s b code at_ = s := by
  unfold ftJ; rw [if_neg]; simp [h]
theorem runJ_on {bad : Nat → Bool} {code : Int} {s : Fs} (h : s.1 ≠ 0) : ∀ i, runJ bad code s i = s
  | 0 => rfl
  | i + 1 => by unfold runJ; rw [runJ_on h i, ftJ_on h]
theorem ftJ_ok {s : Fs} {b : Bool} {code at_ : Int} (hc : code ≠ 0) (h : (ftJ s b code at_).1 = 0) : s.1 = 0 ∧ b = false ∧ ftJ s b code at_ = s := by
  unfold ftJ at h ⊢
  cases b
  · simp at h ⊢; exact h
  · by_cases hs : s.1 = 0
    · simp [hs] at h; exact absurd h hc
    · simp [hs] at h
theorem runJ_ok {bad : Nat → Bool} {code : Int} (hc : code ≠ 0) {s : Fs} : ∀ {n : Nat}, (runJ bad code s n).1 = 0 → s.1 = 0 ∧ runJ bad code s n = s ∧ ∀ i, i < n → bad i = false
  | 0, h => ⟨h, rfl, fun i hi => by omega⟩
  | n + 1, h => by
    unfold runJ at h ⊢
    obtain ⟨h1, h2, h3⟩ := ftJ_ok hc h
    obtain ⟨q1, q2, q3⟩ := runJ_ok hc h1
    refine ⟨q1, h3.trans q2, fun i hi => ?_⟩
    by_cases e : i = n
    · subst e; exact h2
    · exact q3 i (by omega)
/-- Once there is a fault it stays: what a loop that stops there leaves is what one that goes on would. -/
theorem runJ_stop {bad : Nat → Bool} {code : Int} {s : Fs} {i n : Nat} (h : (runJ bad code s i).1 ≠ 0) (hi : i ≤ n) : runJ bad code s n = runJ bad code s i := by
  induction n with
  | zero => rw [show i = 0 by omega]
  | succ n ih =>
    by_cases e : i = n + 1
    · rw [e]
    · show ftJ (runJ bad code s n) _ _ _ = _
      rw [ih (by omega), ftJ_on h]

def bad1 (p : Pg) (i : Nat) : Bool := let k := ofJ p (11 + i); !isJ p k.sup || faceJ p k.sup || k.sup == 10 || (k.face && k.sup != 0)
/-- Going up from s, at most so often: does one come to at_? -/
def backJ (p : Pg) (at_ : Int) : Nat → Int → Bool
  | 0, _ => false
  | f + 1, s => decide (0 ≤ s) && (s == at_ || backJ p at_ f (supJ p s))
def bad2 (p : Pg) (i : Nat) : Bool := backJ p (11 + i) (p.cls.length + 1) (supJ p (11 + i))
def bad3 (p : Pg) (i : Nat) : Bool := let k := ofJ p (11 + i); k.faces.any (fun f => !faceJ p f) || (k.face && ((k.fin || decide (0 < k.flds.length) || decide (0 < k.stcs.length)) || k.mds.any fun m => m.stc || decide (0 < m.code.length) || decide (0 < m.tab.length) || decide (0 < m.maps.length)))
def needJ (m : Md) : Int := if m.stc then (m.args.length : Int) else m.args.length + 1
def badM (p : Pg) (face : Bool) (m : Md) : Bool := m.args.any (fun t => !typJ p t) || ((m.ret != 0 && !typJ p m.ret) || (!face && decide (m.lo < needJ m)))
def bad4 (p : Pg) (i : Nat) : Bool := let k := ofJ p (11 + i); k.flds.any (fun f => !typJ p f.ty) || (k.stcs.any (fun f => !typJ p f.ty) || k.mds.any (badM p k.face))
/-- Is there a j below i, and an i, that are alike? -/
def atJ {α : Type} (eq : α → α → Bool) (xs : List α) (i j : Nat) : Bool := match xs[i]?, xs[j]? with
  | some x, some y => eq x y
  | _, _ => false
def rowJ {α : Type} (eq : α → α → Bool) (xs : List α) (i : Nat) (n : Nat) : Bool := (List.range n).any (atJ eq xs i)
def pairJ {α : Type} (eq : α → α → Bool) (xs : List α) (n : Nat) : Bool := (List.range n).any fun i => rowJ eq xs i i
theorem rowJ_succ {α : Type} (eq : α → α → Bool) (xs : List α) (i n : Nat) : rowJ eq xs i (n + 1) = (rowJ eq xs i n || atJ eq xs i n) := by unfold rowJ; rw [List.range_succ]; simp
theorem pairJ_succ {α : Type} (eq : α → α → Bool) (xs : List α) (n : Nat) : pairJ eq xs (n + 1) = (pairJ eq xs n || rowJ eq xs n n) := by unfold pairJ; rw [List.range_succ]; simp
theorem rowJ_hit {α : Type} {eq : α → α → Bool} {xs : List α} {i j n : Nat} (h : atJ eq xs i j = true) (hj : j < n) : rowJ eq xs i n = true := by unfold rowJ; rw [List.any_eq_true]; exact ⟨j, by simpa using hj, h⟩
theorem pairJ_hit {α : Type} {eq : α → α → Bool} {xs : List α} {i n : Nat} (h : rowJ eq xs i i = true) (hi : i < n) : pairJ eq xs n = true := by unfold pairJ; rw [List.any_eq_true]; exact ⟨i, by simpa using hi, h⟩
theorem atJ_eq {α : Type} {eq : α → α → Bool} {xs : List α} {i j : Nat} {x y : α} (hx : xs[i]? = some x) (hy : xs[j]? = some y) : atJ eq xs i j = eq x y := by unfold atJ; rw [hx, hy]
def likeM (x y : Md) : Bool := likeJ x.nm x.args x.ret y.nm y.args y.ret
def namedJ (fs : List Fd) : Bool := pairJ (fun x y => eqB x.nm y.nm) fs fs.length
def bad5 (p : Pg) (i : Nat) : Bool := let k := ofJ p (11 + i); (namedJ k.flds || namedJ k.stcs) || pairJ likeM k.mds k.mds.length

/-- All that a class is, in the row in which it is come to. -/
def aboveJ (p : Pg) : Nat → Int → List Int → List Int
  | 0, _, out => out
  | f + 1, k, out => if out.contains k then out else
    let o1 := out ++ [k]
    let o2 := if userJ p k then (ofJ p k).faces.foldl (fun o x => aboveJ p f x o) o1 else o1
    if 0 ≤ supJ p k then aboveJ p f (supJ p k) o2 else o2
def insJ (x : Int) : List Int → List Int
  | [] => [x]
  | a :: l => if x < a then x :: a :: l else a :: insJ x l
def sortJ (xs : List Int) : List Int := xs.foldl (fun o x => insJ x o) []
def ownJ (m : Md) (k : Int) (i : Nat) : En := ⟨m.nm, m.args, m.ret, k, i⟩
def putJ (vir : List En) (e : En) : List En := match OfJ vir e.nm e.args e.ret with
  | some a => vir.set a e
  | none => vir ++ [e]
/-- A class's own methods among its super's, the first i of them. -/
def virJ (vir : List En) (k : Int) (ms : List Md) : Nat → List En
  | 0 => vir
  | i + 1 => match ms[i]? with
    | some m => if m.stc then virJ vir k ms i else putJ (virJ vir k ms i) (ownJ m k i)
    | none => virJ vir k ms i
def runE : En := ⟨⟨#[114, 117, 110]⟩, [], 0, 9, 0⟩
def abvJ (p : Pg) (k : Int) : List Int := sortJ (aboveJ p (nJ p + 1) k [])
def layJ (p : Pg) : Nat → Int → Ly
  | 0, _ => ly0
  | f + 1, k => if faceJ p k then ⟨[], -1, (ofJ p k).mds.mapIdx (fun i m => ownJ m k i), abvJ p k⟩ else
    let up := if 0 ≤ supJ p k then layJ p f (supJ p k) else ly0
    let vir := if k = 9 then up.vir ++ [runE] else up.vir
    if userJ p k then ⟨up.flds ++ (ofJ p k).flds, up.flds.length, virJ vir k (ofJ p k).mds (ofJ p k).mds.length, abvJ p k⟩ else ⟨up.flds, up.flds.length, vir, abvJ p k⟩
def lyJ (p : Pg) (k : Int) : Ly := layJ p (nJ p + 1) k
def bad6 (p : Pg) (i : Nat) : Bool := !faceJ p (11 + i) && (lyJ p (11 + i)).abv.any fun x => faceJ p x && (ofJ p x).mds.any fun m => (OfJ (lyJ p (11 + i)).vir m.nm m.args m.ret).isNone
def finN : ByteArray := ⟨#[102, 105, 110, 97, 108, 105, 122, 101]⟩
def bad7 (p : Pg) (i : Nat) : Bool := (ofJ p (11 + i)).fin && (OfJ (lyJ p (11 + i)).vir finN [] 0).isNone
def bad8 (p : Pg) : Bool := !userJ p p.main || faceJ p p.main || match (ofJ p p.main).mds with
  | [] => true
  | m :: _ => !m.stc || decide (0 < m.args.length) || m.ret != 0
/-- The first fault, or none. -/
def st2 (p : Pg) : Fs := runJ (bad2 p) 1501 (runJ (bad1 p) 1500 (0, 0) p.cls.length) p.cls.length
def st5 (p : Pg) : Fs := if (st2 p).1 = 0 then runJ (bad5 p) 1503 (runJ (bad4 p) 1504 (runJ (bad3 p) 1502 (st2 p) p.cls.length) p.cls.length) p.cls.length else st2 p
def st7 (p : Pg) : Fs := runJ (bad7 p) 1506 (runJ (bad6 p) 1507 (st5 p) p.cls.length) p.cls.length
def st8 (p : Pg) : Fs := if (st7 p).1 = 0 then ftJ (st7 p) (bad8 p) 1505 p.main else st7 p
def allJ (p : Pg) : List Ly := (List.range (nJ p)).map fun i => lyJ p (i : Nat)
def loadJ (p : Pg) : Except Fs (List Ly) := if (st8 p).1 = 0 then .ok (allJ p) else .error (st8 p)
end Go.Proofs.YtbbmgjcabmjjdaaGreatDoor
/- The document's own Load: its struct as it lies in memory; is, user, of, face, super, typed, fault; lists of ints, signatures. -/
namespace Go.Proofs.YtbbmgjcabmjjdaaGreatDoor
open Go.RowKit

structure Jc (w : World) (cb : Nat) (p : Pg) (S : Nat → Prop) (v : Value) (s : Fs) : Prop where
  box : w.heap[cb]? = some (.cells #[.int .i64 p.main, v, .int .i64 s.1, .int .i64 s.2] 55 (0, 0))
  dat : Sl kCs w S v p.cls
  far : ¬ S cb
  low : ∀ k, S k → k < w.heap.size
  ok : Okz p
section
variable {w : World} {cb : Nat} {p : Pg} {S : Nat → Prop} {v : Value} {s : Fs}
theorem Jc.lt (h : Jc w cb p S v s) : cb < w.heap.size := (Array.getElem?_eq_some_iff.1 h.box).1
theorem Jc.c0 (h : Jc w cb p S v s) : w.cell? ⟨cb, 0, none⟩ = some (.int .i64 p.main) := by have := h.box; simp [World.cell?, this]
theorem Jc.c1 (h : Jc w cb p S v s) : w.cell? ⟨cb, 1, none⟩ = some v := by have := h.box; simp [World.cell?, this]
theorem Jc.c2 (h : Jc w cb p S v s) : w.cell? ⟨cb, 2, none⟩ = some (.int .i64 s.1) := by have := h.box; simp [World.cell?, this]
theorem Jc.c3 (h : Jc w cb p S v s) : w.cell? ⟨cb, 3, none⟩ = some (.int .i64 s.2) := by have := h.box; simp [World.cell?, this]
theorem Jc.fr (h : Jc w cb p S v s) (j : Nat) : w.frozen? ⟨cb, j, none⟩ = false := by have := h.box; simp [World.frozen?, this]
theorem Jc.below {w' : World} (h : Jc w cb p S v s) (k : Below w.heap.size w w') : Jc w' cb p S v s :=
  ⟨(k.block cb h.lt).trans h.box, h.dat.keep (fun b hb => k.block b (h.low b hb)), h.far, fun b hb => Nat.lt_of_lt_of_le (h.low b hb) k.size, h.ok⟩
theorem Jc.set (h : Jc w cb p S v s) (c a : Int) : Jc ((w.setCell ⟨cb, 2, none⟩ (.int .i64 c)).setCell ⟨cb, 3, none⟩ (.int .i64 a)) cb p S v (c, a) := by
  have e : ∀ b, S b → ((w.setCell ⟨cb, 2, none⟩ (.int .i64 c)).setCell ⟨cb, 3, none⟩ (.int .i64 a)).heap[b]? = w.heap[b]? := fun b hb => by
    have hn : b ≠ cb := fun e => h.far (e ▸ hb)
    rw [Below.heap_setCell _ _ _ _ hn, Below.heap_setCell _ _ _ _ hn]
  exact ⟨hset (hset h.box _) _, h.dat.keep e, h.far, fun b hb => by simp [World.setCell]; exact h.low b hb, h.ok⟩
theorem Jc.bx (h : Jc w cb p S v s) {w' : World} (hb : Bx cb w w') {s' : Fs} (e : w'.heap[cb]? = some (.cells #[.int .i64 p.main, v, .int .i64 s'.1, .int .i64 s'.2] 55 (0, 0))) : Jc w' cb p S v s' :=
  ⟨e, h.dat.keep (fun b hS => hb.block b (h.low b hS) (fun e => h.far (e ▸ hS))), h.far, fun b hS => Nat.lt_of_lt_of_le (h.low b hS) hb.size, h.ok⟩
end
theorem Jc.slice {w : World} {cb : Nat} {p : Pg} {S : Nat → Prop} {v : Value} {s : Fs} (h : Jc w cb p S v s) : ∃ a c, v = .slice a p.cls.length c ∧ p.cls.length ≤ 1000 := by
  obtain ⟨a, c, e, -⟩ := h.dat
  exact ⟨a, c, e, h.ok.n⟩

set_option maxHeartbeats 1000000 in
theorem jfault_ok {w : World} {cb : Nat} {p : Pg} {S : Nat → Prop} {v : Value} {s : Fs} (h : Jc w cb p S v s) (b : Bool) (code at_ : Int) : Calls Tryz.prog 42 #[.pointer (some ⟨cb, 0, none⟩), .bool b, .int .i64 code, .int .i64 at_] w fun e w' => e = .returned (.tuple #[]) ∧ Jc w' cb p S v (ftJ s b code at_) ∧ Bx cb w w' := by
  have H : Hid (Jc w cb p S v s) := h
  have c2 := h.c2
  have f2 := h.fr 2
  have f3 := h.fr 3
  have l3 := h.lt
  have d3 := h.c3
  clear h
  cases b with
  | false =>
    go_enter Tryz.func42, Tryz.ntmps42
    go_wp2
    go_end0
    exact ⟨rfl, by rw [ftJ_false]; exact H.out, Bx.refl _ _⟩
  | true =>
    by_cases h0 : s.1 = 0
    · have e0 : (s.1 == 0) = true := by simp [h0]
      have HF : Hid (ftJ s true code at_ = (code, at_)) := by show _ = _; simp [ftJ, h0]
      clear h0
      go_enter Tryz.func42, Tryz.ntmps42
      go_wp2
      go_end0
      exact ⟨rfl, by rw [HF.out]; exact H.out.set _ _, ((Bx.refl _ _).set _ _).set _ _⟩
    · have e0 : (s.1 == 0) = false := by simp [h0]
      have HF : Hid (ftJ s true code at_ = s) := by show _ = _; simp [ftJ, h0]
      clear h0
      go_enter Tryz.func42, Tryz.ntmps42
      go_wp2
      go_end0
      exact ⟨rfl, by rw [HF.out]; exact H.out, Bx.refl _ _⟩

theorem jis_ok {w : World} {cb : Nat} {p : Pg} {S : Nat → Prop} {v : Value} {s : Fs} (h : Jc w cb p S v s) (k : Int) : Calls Tryz.prog 43 #[.pointer (some ⟨cb, 0, none⟩), .int .i64 k] w fun e w' => e = .returned (.bool (isJ p k)) ∧ w' = w := by
  have c1 := h.c1
  obtain ⟨a, c, rfl, hmx⟩ := h.slice
  clear h
  obtain ⟨n, hn⟩ : ∃ n : Int, n = (p.cls.length : Int) := ⟨_, rfl⟩
  by_cases h0 : 0 ≤ k
  · by_cases h1 : k < 11 + (p.cls.length : Int)
    · have h2 : isJ p k = true := by simp [isJ]; omega
      rw [h2]
      clear h2 hn
      go_enter Tryz.func43, Tryz.ntmps43
      go_wp2
      go_ret
      exact ⟨rfl, rfl⟩
    · have h2 : isJ p k = false := by simp [isJ]; omega
      rw [h2]
      have h3 : decide (k < 11 + (p.cls.length : Int)) = false := by simp; omega
      clear h2 hn h1
      go_enter Tryz.func43, Tryz.ntmps43
      go_wp2
      go_ret
      exact ⟨rfl, rfl⟩
  · have h2 : isJ p k = false := by simp [isJ]; omega
    rw [h2]
    have h3 : decide (0 ≤ k) = false := by simp; omega
    clear h2 hn h0
    go_enter Tryz.func43, Tryz.ntmps43
    go_wp2
    go_ret
    exact ⟨rfl, rfl⟩

theorem juser_ok {w : World} {cb : Nat} {p : Pg} {S : Nat → Prop} {v : Value} {s : Fs} (h : Jc w cb p S v s) (k : Int) : Calls Tryz.prog 51 #[.pointer (some ⟨cb, 0, none⟩), .int .i64 k] w fun e w' => e = .returned (.bool (userJ p k)) ∧ w' = w := by
  have hI := jis_ok h k
  clear h
  by_cases h0 : 11 ≤ k
  · have h2 : userJ p k = isJ p k := by simp [userJ, h0]
    rw [h2]
    clear h2
    go_enter Tryz.func51, Tryz.ntmps51
    go_wp2_with (go_at_call 43; refine hI.mono ?_; rintro e w9 ⟨rfl, hw9⟩; replace hw9 := hw9.symm; subst hw9)
    go_ret
    exact ⟨rfl, rfl⟩
  · have h2 : userJ p k = false := by simp [userJ]; omega
    rw [h2]
    have h3 : decide (11 ≤ k) = false := by simp; omega
    clear h2 h0
    go_enter Tryz.func51, Tryz.ntmps51
    go_wp2_with (fail)
    go_ret
    exact ⟨rfl, rfl⟩

theorem bltin_ok (c : Int) (w : World) : Calls Tryz.prog 86 #[.int .i64 c] w fun e w' => e = .returned (.int .i64 (bltJ c)) ∧ w' = w := by
  by_cases h0 : c = 0
  · subst h0
    go_enter Tryz.func86, Tryz.ntmps86
    go_wp2
    go_ret
    exact ⟨rfl, rfl⟩
  · have h1 : (c == 0) = false := by simp [h0]
    by_cases h2 : 1 < c
    · by_cases h3 : c < 9
      · have h4 : bltJ c = 1 := by simp [bltJ, h0, h2, h3]
        rw [h4]
        clear h4 h0
        go_enter Tryz.func86, Tryz.ntmps86
        go_wp2
        go_ret
        exact ⟨rfl, rfl⟩
      · have h4 : bltJ c = 0 := by simp [bltJ, h0]; omega
        rw [h4]
        have h5 : decide (c < 9) = false := by simp; omega
        clear h4 h0 h3
        go_enter Tryz.func86, Tryz.ntmps86
        go_wp2
        go_ret
        exact ⟨rfl, rfl⟩
    · have h4 : bltJ c = 0 := by simp [bltJ, h0]; omega
      rw [h4]
      have h5 : decide (1 < c) = false := by simp; omega
      clear h4 h0 h2
      go_enter Tryz.func86, Tryz.ntmps86
      go_wp2
      go_ret
      exact ⟨rfl, rfl⟩
end Go.Proofs.YtbbmgjcabmjjdaaGreatDoor
/- The document's own Load: of, face, super, typed. -/
namespace Go.Proofs.YtbbmgjcabmjjdaaGreatDoor
open Go.RowKit

theorem Sl.atJ {α : Type} {w : World} {S : Nat → Prop} {K : Kd α} {ao : Option Addr} {l cap : Nat} {xs : List α} (h : Sl K w S (.slice ao l cap) xs) {i : Nat} {c : α} (hc : xs[i]? = some c) :
    ∃ b o, ao = some ⟨b, o, none⟩ ∧ S b ∧ ∃ cs, K.R w S c cs ∧ ∀ j u, cs[j]? = some u → w.cell? ⟨b, o + (i * K.k + j), none⟩ = some u := by
  obtain ⟨ao2, cp, e, _, hh⟩ := h
  injection e with e _ _
  rcases hh with q | ⟨b, o, q1, q2, q3, q4⟩
  · rw [q] at hc; simp at hc
  · obtain ⟨cs, r1, r2⟩ := q4 i c hc
    exact ⟨b, o, e.trans q1, q2, cs, r1, r2⟩
theorem user_at {p : Pg} {k : Int} (h : userJ p k = true) : ∃ i : Nat, k = 11 + (i : Int) ∧ i < p.cls.length ∧ p.cls[i]? = some (ofJ p k) := by
  simp [userJ, isJ] at h
  obtain ⟨h1, h2, h3⟩ := h
  refine ⟨(k - 11).toNat, by omega, by omega, ?_⟩
  unfold ofJ
  rw [List.getD_eq_getElem?_getD, List.getElem?_eq_getElem (by omega)]; rfl
theorem user_of {p : Pg} {i : Nat} (h : i < p.cls.length) : userJ p (11 + i) = true ∧ p.cls[i]? = some (ofJ p (11 + i)) ∧ isJ p (11 + i) = true := by
  have h1 : userJ p (11 + i) = true := by simp [userJ, isJ]; omega
  refine ⟨h1, ?_, by simp [userJ] at h1; exact h1.2⟩
  unfold ofJ
  rw [show ((11 : Int) + (i : Int) - 11).toNat = i by omega, List.getD_eq_getElem?_getD, List.getElem?_eq_getElem h]; rfl
/-- A class that is handed over by value. -/
def OfP (S : Nat → Prop) (c : Cs) (w : World) (e : Ending) (w' : World) : Prop :=
  ∃ a1 c1 a2 c2 a3 c3 a4 c4, e = .returned (.agg #[.string c.nm, .bool c.face, .bool c.fin, .int .i64 c.sup, .slice a1 c.faces.length c1, .slice a2 c.flds.length c2, .slice a3 c.stcs.length c3, .slice a4 c.mds.length c4]) ∧ (Sl kI w' S (.slice a1 c.faces.length c1) c.faces ∧ Sl kFd w' S (.slice a2 c.flds.length c2) c.flds ∧ Sl kFd w' S (.slice a3 c.stcs.length c3) c.stcs ∧ Sl kMd w' S (.slice a4 c.mds.length c4) c.mds) ∧ Below w.heap.size w w'

set_option maxHeartbeats 2000000 in
set_option maxRecDepth 20000 in
theorem jof_ok {w : World} {cb : Nat} {p : Pg} {S : Nat → Prop} {v : Value} {s : Fs} (h : Jc w cb p S v s) {k : Int} (hk : userJ p k = true) : Calls Tryz.prog 49 #[.pointer (some ⟨cb, 0, none⟩), .int .i64 k] w (OfP S (ofJ p k) w) := by
  obtain ⟨i, rfl, hi, hc⟩ := user_at hk
  generalize ofJ p (11 + (i : Int)) = c at hc ⊢
  have HB : Hid (Below w.heap.size w (w.alloc (.cells #[.string ⟨#[]⟩, .bool false, .bool false, .int .i64 0, .slice none 0 0, .slice none 0 0, .slice none 0 0, .slice none 0 0] 34))) := (Below.refl _ _).alloc (Nat.le_refl _) _
  have c1 := h.c1
  have hn := h.ok.n
  have HL : Hid (∀ b, S b → b < w.heap.size) := h.low
  obtain ⟨a, cap, rfl, -⟩ := h.slice
  obtain ⟨sb, so, rfl, hsb, ss, r1, hsd⟩ := h.dat.atJ hc
  obtain ⟨o1, o2, o3, o4, rfl, j1, j2, j3, j4⟩ := r1
  have HJ : Hid (Sl kI w S o1 c.faces ∧ Sl kFd w S o2 c.flds ∧ Sl kFd w S o3 c.stcs ∧ Sl kMd w S o4 c.mds) := ⟨j1, j2, j3, j4⟩
  obtain ⟨f1, g1, rfl, -⟩ := j1
  obtain ⟨f2, g2, rfl, -⟩ := j2
  obtain ⟨f3, g3, rfl, -⟩ := j3
  obtain ⟨f4, g4, rfl, -⟩ := j4
  have hw : ∀ j u, w.cell? ⟨sb, so + i * 8 + j, none⟩ = some u → (w.alloc (.cells #[.string ⟨#[]⟩, .bool false, .bool false, .int .i64 0, .slice none 0 0, .slice none 0 0, .slice none 0 0, .slice none 0 0] 34)).cell? ⟨sb, so + i * 8 + j, none⟩ = some u := fun j u hu => by
    rw [cell_same (Below.heap_alloc _ _ _ (h.low sb hsb))]; exact hu
  have hr : ∀ j u, [Value.string c.nm, .bool c.face, .bool c.fin, .int .i64 c.sup, .slice f1 c.faces.length g1, .slice f2 c.flds.length g2, .slice f3 c.stcs.length g3, .slice f4 c.mds.length g4][j]? = some u → w.cell? ⟨sb, so + i * 8 + j, none⟩ = some u := fun j u hu => by
    have := hsd j u hu; rw [show kCs.k = 8 from rfl, show so + (i * 8 + j) = so + i * 8 + j by omega] at this; exact this
  have t0 := hw 0 _ (hr 0 _ rfl)
  have t1 := hw 1 _ (hr 1 _ rfl)
  have t2 := hw 2 _ (hr 2 _ rfl)
  have t3 := hw 3 _ (hr 3 _ rfl)
  have t4 := hw 4 _ (hr 4 _ rfl)
  have t5 := hw 5 _ (hr 5 _ rfl)
  have t6 := hw 6 _ (hr 6 _ rfl)
  have t7 := hw 7 _ (hr 7 _ rfl)
  rw [Nat.add_zero] at t0
  have d1 : (w.alloc (.cells #[.string ⟨#[]⟩, .bool false, .bool false, .int .i64 0, .slice none 0 0, .slice none 0 0, .slice none 0 0, .slice none 0 0] 34)).cell? ⟨cb, 1, none⟩ = some (.slice (some ⟨sb, so, none⟩) p.cls.length cap) := by rw [cell_same (Below.heap_alloc _ _ _ h.lt)]; exact c1
  have HN : Hid ((w.alloc (.cells #[.string ⟨#[]⟩, .bool false, .bool false, .int .i64 0, .slice none 0 0, .slice none 0 0, .slice none 0 0, .slice none 0 0] 34)).heap[w.heap.size]? = some (.cells #[.string ⟨#[]⟩, .bool false, .bool false, .int .i64 0, .slice none 0 0, .slice none 0 0, .slice none 0 0, .slice none 0 0] 34 (0, 0))) := heap_alloc_new _ _
  have hx : (i : Int) < (p.cls.length : Int) := by omega
  have hz : (w.alloc (.cells #[.string ⟨#[]⟩, .bool false, .bool false, .int .i64 0, .slice none 0 0, .slice none 0 0, .slice none 0 0, .slice none 0 0] 34)).heap.size = w.heap.size + 1 := by simp
  clear h hsd hw hr hc c1 hsb hk
  have hi2 : wrap64 (11 + (i : Int) - 11) = (i : Int) := by unfold wrap64; omega
  go_enter Tryz.func49, Tryz.ntmps49
  go_wp2_with (first
    | (refine wpList_store_row rfl 34 _ _ rfl w.heap.size _ rfl rfl 34 _ HN.out infoRCs rfl (by simp [Value.oneCell']) ?_))
  refine bodyPost_ret (results_cell_row rfl _ _ w.heap.size 34 #[.string c.nm, .bool c.face, .bool c.fin, .int .i64 c.sup, .slice f1 c.faces.length g1, .slice f2 c.flds.length g2, .slice f3 c.stcs.length g3, .slice f4 c.mds.length g4] (0, 0) _ rfl (setRow_heap _ _ _ _ _ _ HN.out) Tryz.underlying34 rfl infoRCs) rfl ?_
  have hb : Below w.heap.size w ((w.alloc (.cells #[.string ⟨#[]⟩, .bool false, .bool false, .int .i64 0, .slice none 0 0, .slice none 0 0, .slice none 0 0, .slice none 0 0] 34)).setRow w.heap.size #[.string c.nm, .bool c.face, .bool c.fin, .int .i64 c.sup, .slice f1 c.faces.length g1, .slice f2 c.flds.length g2, .slice f3 c.stcs.length g3, .slice f4 c.mds.length g4]) :=
    ⟨rfl, rfl, rfl, by rw [size_setRow, hz]; omega, fun b hb => by rw [setRow_other _ _ _ _ (show b ≠ w.heap.size by omega)]; exact Below.heap_alloc _ _ _ hb⟩
  have hq := HJ.out
  have hkp : ∀ b, S b → _ := fun b hs => hb.block b (HL.out b hs)
  exact ⟨_, _, _, _, _, _, _, _, rfl, ⟨hq.1.keep hkp, hq.2.1.keep hkp, hq.2.2.1.keep hkp, hq.2.2.2.keep hkp⟩, hb⟩

set_option maxRecDepth 20000 in
theorem fld1 (a : ByteArray) (b c : Bool) (d : Int) (e f g h : Value) (w : World) : (Instr.field 34 (.agg #[.string a, .bool b, .bool c, .int .i64 d, e, f, g, h]) 1).run Tryz.prog w = .ok (.bool b) w := by kernel_rfl
set_option maxRecDepth 20000 in
theorem fld3 (a : ByteArray) (b c : Bool) (d : Int) (e f g h : Value) (w : World) : (Instr.field 34 (.agg #[.string a, .bool b, .bool c, .int .i64 d, e, f, g, h]) 3).run Tryz.prog w = .ok (.int .i64 d) w := by kernel_rfl

set_option maxHeartbeats 1000000 in
set_option maxRecDepth 20000 in
theorem jface_ok {w : World} {cb : Nat} {p : Pg} {S : Nat → Prop} {v : Value} {s : Fs} (h : Jc w cb p S v s) (k : Int) : Calls Tryz.prog 44 #[.pointer (some ⟨cb, 0, none⟩), .int .i64 k] w fun e w' => e = .returned (.bool (faceJ p k)) ∧ Below w.heap.size w w' := by
  have hU := juser_ok h k
  by_cases hu : userJ p k = true
  · have hO := jof_ok h hu
    have h2 : faceJ p k = (ofJ p k).face := by simp [faceJ, hu]
    rw [h2]
    rw [hu] at hU
    clear h2 hu h
    go_enter Tryz.func44, Tryz.ntmps44
    go_wp2_with (first
      | (go_at_call 51; refine hU.mono ?_; rintro e w9 ⟨rfl, hw9⟩; replace hw9 := hw9.symm; subst hw9)
      | (go_at_call 49; refine hO.mono ?_; rintro e w1 ⟨a1, d1, a2, d2, a3, d3, a4, d4, rfl, -, hb⟩; have hfl := fld1 (ofJ p k).nm (ofJ p k).face (ofJ p k).fin (ofJ p k).sup (.slice a1 (ofJ p k).faces.length d1) (.slice a2 (ofJ p k).flds.length d2) (.slice a3 (ofJ p k).stcs.length d3) (.slice a4 (ofJ p k).mds.length d4) w1))
    go_ret
    exact ⟨rfl, hb⟩
  · have h2 : faceJ p k = false := by simp [faceJ, hu]
    rw [h2]
    rw [Bool.not_eq_true] at hu
    rw [hu] at hU
    clear h2 hu h
    go_enter Tryz.func44, Tryz.ntmps44
    go_wp2_with (first
      | (go_at_call 51; refine hU.mono ?_; rintro e w9 ⟨rfl, hw9⟩; replace hw9 := hw9.symm; subst hw9))
    go_ret
    exact ⟨rfl, Below.refl _ _⟩
set_option maxHeartbeats 1000000 in
set_option maxRecDepth 20000 in
theorem jsup_ok {w : World} {cb : Nat} {p : Pg} {S : Nat → Prop} {v : Value} {s : Fs} (h : Jc w cb p S v s) {k : Int} (hk : isJ p k = true) : Calls Tryz.prog 45 #[.pointer (some ⟨cb, 0, none⟩), .int .i64 k] w fun e w' => e = .returned (.int .i64 (supJ p k)) ∧ Below w.heap.size w w' := by
  by_cases h1 : k < 11
  · have h2 : supJ p k = bltJ k := by simp [supJ, h1]
    rw [h2]
    clear h2 h hk
    go_enter Tryz.func45, Tryz.ntmps45
    go_wp2_with (go_at_call 86; refine (bltin_ok k w).mono ?_; rintro e w9 ⟨rfl, hw9⟩; replace hw9 := hw9.symm; subst hw9)
    go_ret
    exact ⟨rfl, Below.refl _ _⟩
  · have h2 : supJ p k = (ofJ p k).sup := by simp [supJ, h1]
    rw [h2]
    have hO := jof_ok h (k := k) (by simp [userJ, hk]; omega)
    have h3 : decide (k < 11) = false := by simp; omega
    clear h2 h hk h1
    go_enter Tryz.func45, Tryz.ntmps45
    go_wp2_with (go_at_call 49; refine hO.mono ?_; rintro e w1 ⟨a1, d1, a2, d2, a3, d3, a4, d4, rfl, -, hb⟩; have hfl := fld3 (ofJ p k).nm (ofJ p k).face (ofJ p k).fin (ofJ p k).sup (.slice a1 (ofJ p k).faces.length d1) (.slice a2 (ofJ p k).flds.length d2) (.slice a3 (ofJ p k).stcs.length d3) (.slice a4 (ofJ p k).mds.length d4) w1)
    go_ret
    exact ⟨rfl, hb⟩
set_option maxHeartbeats 1000000 in
set_option maxRecDepth 20000 in
theorem jtyp_ok {w : World} {cb : Nat} {p : Pg} {S : Nat → Prop} {v : Value} {s : Fs} (h : Jc w cb p S v s) {t : Int} (ht : rg t) : Calls Tryz.prog 46 #[.pointer (some ⟨cb, 0, none⟩), .int .i64 t] w fun e w' => e = .returned (.bool (typJ p t)) ∧ w' = w := by
  have hI := jis_ok h (t - 16)
  unfold rg at ht
  clear h
  by_cases h1 : t = 1
  · subst h1
    go_enter Tryz.func46, Tryz.ntmps46
    go_wp2_with (fail)
    go_ret
    exact ⟨rfl, rfl⟩
  have e1 : (t == 1) = false := by simp [h1]
  by_cases h3 : t = 3
  · subst h3
    go_enter Tryz.func46, Tryz.ntmps46
    go_wp2_with (fail)
    go_ret
    exact ⟨rfl, rfl⟩
  have e3 : (t == 3) = false := by simp [h3]
  by_cases h4 : t = 4
  · subst h4
    go_enter Tryz.func46, Tryz.ntmps46
    go_wp2_with (fail)
    go_ret
    exact ⟨rfl, rfl⟩
  have e4 : (t == 4) = false := by simp [h4]
  by_cases h16 : 16 ≤ t
  · have h2 : typJ p t = isJ p (t - 16) := by simp [typJ, h1, h3, h4, h16]
    rw [h2]
    have hw : wrap64 (t - 16) = t - 16 := by unfold wrap64; omega
    clear h2 h1 h3 h4
    go_enter Tryz.func46, Tryz.ntmps46
    go_wp2_with (go_at_call 43; refine hI.mono ?_; rintro e w9 ⟨rfl, hw9⟩; replace hw9 := hw9.symm; subst hw9)
    go_ret
    exact ⟨rfl, rfl⟩
  · have h2 : typJ p t = false := by simp [typJ, h1, h3, h4]; omega
    rw [h2]
    have h5 : decide (16 ≤ t) = false := by simp; omega
    clear h2 h1 h3 h4 h16
    go_enter Tryz.func46, Tryz.ntmps46
    go_wp2_with (fail)
    go_ret
    exact ⟨rfl, rfl⟩
end Go.Proofs.YtbbmgjcabmjjdaaGreatDoor
/- The document's own Load: lists of ints held against each other, signatures, what is among a list. -/
namespace Go.Proofs.YtbbmgjcabmjjdaaGreatDoor
open Go.RowKit

theorem Sl.int {w : World} {S : Nat → Prop} {ao : Option Addr} {l cap : Nat} {xs : List Int} (h : Sl kI w S (.slice ao l cap) xs) {i : Nat} {x : Int} (hx : xs[i]? = some x) : ∃ b o, ao = some ⟨b, o, none⟩ ∧ w.cell? ⟨b, o + i, none⟩ = some (.int .i64 x) := by
  obtain ⟨b, o, e, -, cs, rfl, hc⟩ := h.atJ hx
  refine ⟨b, o, e, ?_⟩
  have := hc 0 _ rfl
  rw [show kI.k = 1 from rfl, show o + (i * 1 + 0) = o + i by omega] at this; exact this
theorem drewN_two (w : World) (m n : Nat) : (w.drewN m).drewN n = w.drewN (m + n) := by simp [World.drewN, Nat.add_assoc]
theorem beq_take {xs ys : List Int} {i : Nat} (ht : xs.take i = ys.take i) {x y : Int} (hx : xs[i]? = some x) (hy : ys[i]? = some y) : (x = y → xs.take (i + 1) = ys.take (i + 1)) ∧ (x ≠ y → xs ≠ ys) := by
  refine ⟨fun e => ?_, fun e e2 => ?_⟩
  · rw [List.take_add_one, List.take_add_one, ht, hx, hy, e]
  · subst e2; rw [hx] at hy; exact e (Option.some.inj hy)

set_option maxHeartbeats 2000000 in
set_option maxRecDepth 20000 in
theorem jsame_ok {Sa Sb : Nat → Prop} {va vb : Value} {xs ys : List Int} {w : World} (hA : Sl kI w Sa va xs) (hB : Sl kI w Sb vb ys) :
    Calls Tryz.prog 87 #[va, vb] w fun e w' => e = .returned (.bool (xs == ys)) ∧ ∃ m, w' = w.drewN m := by
  have hA2 := hA
  have hB2 := hB
  obtain ⟨aa, ca, rfl, hmx, -⟩ := hA2
  obtain ⟨ab, cb, rfl, -, -⟩ := hB2
  by_cases hl : xs.length = ys.length
  · have hle : ((xs.length : Int) != (ys.length : Int)) = false := by simp [hl]
    have HC : Hid (∀ i x y, xs[i]? = some x → ys[i]? = some y → (∃ b o, aa = some ⟨b, o, none⟩ ∧ w.cell? ⟨b, o + i, none⟩ = some (.int .i64 x)) ∧ (∃ b o, ab = some ⟨b, o, none⟩ ∧ w.cell? ⟨b, o + i, none⟩ = some (.int .i64 y))) := fun i x y hx hy => ⟨hA.int hx, hB.int hy⟩
    have HLE : Hid (xs.length = ys.length) := hl
    clear hA hB hl
    unfold maxLen at hmx
    go_enter Tryz.func87, Tryz.ntmps87
    go_wp2
    go_loopg [5] (xs.length + 1) (fun kx s5 wr => ∃ i : Nat, s5 = .int .i64 i ∧ i ≤ xs.length ∧ xs.length - i ≤ kx ∧ Hid (∃ m, wr = w.drewN m) ∧ Hid (xs.take i = ys.take i))
    case atStart => exact ⟨0, rfl, by omega, by omega, ⟨0, rfl⟩, rfl⟩
    case round =>
      obtain ⟨i, rfl, hi, hk, HL, HT⟩ := hrel
      by_cases hlt : i < xs.length
      · obtain ⟨x, hx⟩ : ∃ c, xs[i]? = some c := ⟨_, List.getElem?_eq_getElem hlt⟩
        obtain ⟨y, hy⟩ : ∃ c, ys[i]? = some c := ⟨_, List.getElem?_eq_getElem (by rw [← HLE.out]; exact hlt)⟩
        obtain ⟨⟨ap, ao, rfl, a0⟩, ⟨bp, bo, rfl, b0⟩⟩ := HC.out i x y hx hy
        obtain ⟨m, rfl⟩ := HL.out
        clear HL
        have HQ : Hid _ := beq_take HT.out hx hy
        have hl2 : (i : Int) < (xs.length : Int) := by omega
        have hl3 : (i : Int) < (ys.length : Int) := by have := HLE.out; omega
        clear HC hx hy
        by_cases hxy : x = y
        · have e1 : (x != y) = false := by simp [hxy]
          have HE : Hid (x = y) := hxy
          clear hxy
          go_wp2_with (fail)
          go_quiet (fail)
          go_wp2
          go_roundg (xs.length - (i + 1))
          case measure => omega
          case rel => exact ⟨i + 1, by go_num, by omega, by omega, ⟨_, rfl⟩, HQ.out.1 HE.out⟩
        · have e1 : (x != y) = true := by simp [hxy]
          have HE : Hid ((xs == ys) = false) := by show _ = _; rw [beq_eq_false_iff_ne]; exact HQ.out.2 hxy
          clear hxy
          go_wp2_with (fail)
          go_quiet (fail)
          go_wp2
          go_ret
          exact ⟨by rw [HE.out]; rfl, _, drewN_two _ _ _⟩
      · have hn : i = xs.length := by omega
        subst hn
        have hl : ¬ ((xs.length : Nat) : Int) < ((xs.length : Nat) : Int) := by omega
        have HE : Hid ((xs == ys) = true) := by
          show _ = _
          have := HT.out
          rw [List.take_length, HLE.out, List.take_length] at this
          simp [this]
        clear HC
        go_wp2
        go_ret
        exact ⟨by rw [HE.out]; rfl, HL.out⟩
  · have hle : ((xs.length : Int) != (ys.length : Int)) = true := by simp; omega
    have HE : Hid ((xs == ys) = false) := by show _ = _; rw [beq_eq_false_iff_ne]; intro e; exact hl (by rw [e])
    clear hA hB hl
    go_enter Tryz.func87, Tryz.ntmps87
    go_wp2
    go_ret
    exact ⟨by rw [HE.out]; rfl, 0, rfl⟩

set_option maxHeartbeats 2000000 in
set_option maxRecDepth 20000 in
theorem jlike_ok {Sa Sb : Nat → Prop} {va vb : Value} {xs ys : List Int} {w : World} (a b : ByteArray) (ar br : Int) (hA : Sl kI w Sa va xs) (hB : Sl kI w Sb vb ys) :
    Calls Tryz.prog 48 #[.string a, va, .int .i64 ar, .string b, vb, .int .i64 br] w fun e w' => e = .returned (.bool (likeJ a xs ar b ys br)) ∧ ∃ m, w' = w.drewN m := by
  have hS := jsame_ok hA hB
  clear hA hB
  rcases h1 : eqB a b with _ | _
  · have h3 : likeJ a xs ar b ys br = false := by simp [likeJ, h1]
    rw [h3]
    have e1 : (a.toList == b.toList) = false := by rw [eqB_list]; exact h1
    clear h1 h3
    go_enter Tryz.func48, Tryz.ntmps48
    go_wp2_with (fail)
    go_ret
    exact ⟨rfl, 0, rfl⟩
  · have e1 : (a.toList == b.toList) = true := by rw [eqB_list]; exact h1
    by_cases h2 : ar = br
    · have h3 : likeJ a xs ar b ys br = (xs == ys) := by simp [likeJ, h1, h2]
      rw [h3]
      have e2 : (ar == br) = true := by simp [h2]
      clear h1 h2 h3
      go_enter Tryz.func48, Tryz.ntmps48
      go_wp2_with (go_at_call 87; refine hS.mono ?_; rintro e w1 ⟨rfl, hm⟩)
      go_ret
      exact ⟨rfl, hm⟩
    · have h3 : likeJ a xs ar b ys br = false := by simp [likeJ, h2]
      rw [h3]
      have e2 : (ar == br) = false := by simp [h2]
      clear h1 h2 h3
      go_enter Tryz.func48, Tryz.ntmps48
      go_wp2_with (fail)
      go_ret
      exact ⟨rfl, 0, rfl⟩

theorem cont_take {xs : List Int} {k x : Int} {i : Nat} (ht : (xs.take i).contains k = false) (hx : xs[i]? = some x) : (x ≠ k → (xs.take (i + 1)).contains k = false) ∧ (x = k → xs.contains k = true) := by
  refine ⟨fun e => ?_, fun e => ?_⟩
  · rw [List.take_add_one, hx]
    simp at ht ⊢
    exact ⟨ht, fun e2 => e e2.symm⟩
  · subst e
    simp
    exact List.mem_of_getElem? hx

set_option maxHeartbeats 2000000 in
set_option maxRecDepth 20000 in
theorem jhas_ok {S : Nat → Prop} {v : Value} {xs : List Int} {w : World} (k : Int) (hA : Sl kI w S v xs) :
    Calls Tryz.prog 88 #[v, .int .i64 k] w fun e w' => e = .returned (.bool (xs.contains k)) ∧ w' = w := by
  obtain ⟨R, hR⟩ : ∃ R, xs.contains k = R := ⟨_, rfl⟩
  have HR : Hid (xs.contains k = R) := hR
  rw [hR]
  clear hR
  have hA2 := hA
  obtain ⟨aa, ca, rfl, hmx, -⟩ := hA2
  have HC : Hid (∀ i x, xs[i]? = some x → (∃ b o, aa = some ⟨b, o, none⟩ ∧ w.cell? ⟨b, o + i, none⟩ = some (.int .i64 x))) := fun i x hx => hA.int hx
  clear hA
  unfold maxLen at hmx
  go_enter Tryz.func88, Tryz.ntmps88
  go_wp2
  go_loopg [5] (xs.length + 1) (fun kx s5 wr => ∃ i : Nat, s5 = .int .i64 i ∧ i ≤ xs.length ∧ xs.length - i ≤ kx ∧ Hid (wr = w) ∧ Hid ((xs.take i).contains k = false))
  case atStart => exact ⟨0, rfl, by omega, by omega, rfl, by show _ = _; simp⟩
  case round =>
    obtain ⟨i, rfl, hi, hk, HL, HT⟩ := hrel
    obtain rfl := HL.out
    clear HL
    by_cases hlt : i < xs.length
    · obtain ⟨x, hx⟩ : ∃ c, xs[i]? = some c := ⟨_, List.getElem?_eq_getElem hlt⟩
      obtain ⟨ap, ao, rfl, a0⟩ := HC.out i x hx
      have HQ : Hid _ := cont_take HT.out hx
      have hl2 : (i : Int) < (xs.length : Int) := by omega
      clear HC hx
      by_cases hxy : x = k
      · have e1 : (x == k) = true := by simp [hxy]
        have HE : Hid (xs.contains k = true) := HQ.out.2 hxy
        clear hxy
        go_wp2
        go_ret
        exact ⟨by rw [← HR.out, HE.out]; rfl, rfl⟩
      · have e1 : (x == k) = false := by simp [hxy]
        have HE : Hid ((xs.take (i + 1)).contains k = false) := HQ.out.1 hxy
        clear hxy
        go_wp2
        go_roundg (xs.length - (i + 1))
        case measure => omega
        case rel => exact ⟨i + 1, by go_num, by omega, by omega, rfl, HE.out⟩
    · have hn : i = xs.length := by omega
      subst hn
      have hl : ¬ ((xs.length : Nat) : Int) < ((xs.length : Nat) : Int) := by omega
      have HE : Hid (xs.contains k = false) := by have := HT.out; rw [List.take_length] at this; exact this
      clear HC
      go_wp2
      go_ret
      exact ⟨by rw [← HR.out, HE.out]; rfl, rfl⟩
end Go.Proofs.YtbbmgjcabmjjdaaGreatDoor
