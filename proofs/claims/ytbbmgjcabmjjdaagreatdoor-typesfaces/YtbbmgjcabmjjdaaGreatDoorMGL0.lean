/- Programs as plain data; how they are read off bytes and written: plain functions. No function of the program is named here. -/
import Derived.Test.YtbbmgjcabmjjdaaGreatDoorMY1
namespace Go.Proofs.YtbbmgjcabmjjdaaGreatDoor
open Go.RowKit

structure Fd where
  nm : ByteArray
  ty : Int
structure Is where
  op : Int
  a : Int
  b : Int
structure Hd where
  fr : Int
  to : Int
  at_ : Int
  cl : Int
structure Mp where
  at_ : Int
  lo : List Int
  st : List Int
structure Md where
  nm : ByteArray
  stc : Bool
  args : List Int
  ret : Int
  lo : Int
  st : Int
  code : List Is
  tab : List Hd
  maps : List Mp
structure Cs where
  nm : ByteArray
  face : Bool
  fin : Bool
  sup : Int
  faces : List Int
  flds : List Fd
  stcs : List Fd
  mds : List Md
structure Pg where
  main : Int
  cls : List Cs

/-- A part of a program: what it is (0 a number, 1 a name, 2 a count, 3 a size), its number, the most that it may be, its name. -/
structure Pt where
  kd : Int
  nu : Int
  mo : Int
  nm : ByteArray
def ptN (x : Int) : Pt := ⟨0, x, 0, ⟨#[]⟩⟩
def ptT (s : ByteArray) : Pt := ⟨1, 0, 0, s⟩
def ptC (k : Nat) (most : Int) : Pt := ⟨2, k, most, ⟨#[]⟩⟩
def ptS (x most : Int) : Pt := ⟨3, x, most, ⟨#[]⟩⟩

def ptL {α : Type} (most : Int) (g : α → List Pt) (xs : List α) : List Pt := ptC xs.length most :: xs.flatMap g
def gN1 (x : Int) : List Pt := [ptN x]
def gFd (f : Fd) : List Pt := [ptT f.nm, ptN f.ty]
def gIs (i : Is) : List Pt := [ptN i.op, ptN i.a, ptN i.b]
def gHd (h : Hd) : List Pt := [ptN h.fr, ptN h.to, ptN h.at_, ptN h.cl]
def gMp (m : Mp) : List Pt := ptN m.at_ :: (ptL 24 gN1 m.lo ++ ptL 24 gN1 m.st)
def fl (b : Bool) (k : Int) : Int := if b then k else 0
def gMd (m : Md) : List Pt := ptT m.nm :: ptN (fl m.stc 1) :: (ptL 8 gN1 m.args ++ (ptN m.ret :: ptS m.lo 24 :: ptS m.st 24 :: (ptL 300 gIs m.code ++ (ptL 16 gHd m.tab ++ ptL 64 gMp m.maps))))
def gCs (c : Cs) : List Pt := ptT c.nm :: ptN (fl c.face 1 + fl c.fin 2) :: ptN c.sup :: (ptL 8 gN1 c.faces ++ (ptL 24 gFd c.flds ++ (ptL 24 gFd c.stcs ++ ptL 24 gMd c.mds)))
def gPg (p : Pg) : List Pt := ptN p.main :: ptL 40 gCs p.cls

/-- Is it a letter (or _)? a digit? -/
def isL (c : UInt8) : Bool := (97 ≤ c.toNat && c.toNat ≤ 122) || (65 ≤ c.toNat && c.toNat ≤ 90) || c.toNat == 95
def isD (c : UInt8) : Bool := 48 ≤ c.toNat && c.toNat ≤ 57
def isNm (s : ByteArray) : Bool := !(s.size == 0) && decide (s.size ≤ 16) && !((s.data[0]?).any isD) && s.data.toList.all (fun c => isL c || isD c)

/-- A part's bytes. -/
def bts (p : Pt) : List UInt8 := if p.kd = 1 then (txtB p.nm).data.toList else (putB p.nu).data.toList
def byts (l : List Pt) : List UInt8 := l.flatMap bts
theorem byts_nil : byts [] = [] := rfl
theorem byts_cons (p : Pt) (l : List Pt) : byts (p :: l) = bts p ++ byts l := by simp [byts]
theorem byts_append (l m : List Pt) : byts (l ++ m) = byts l ++ byts m := by simp [byts]

def okC (p : Pt) : Bool := !(p.kd == 2 && decide (p.mo < p.nu))
def okT (p : Pt) : Bool := !(p.kd == 1 && !isNm p.nm)
def okN (p : Pt) : Bool := !((p.kd == 3 && (decide (p.nu < 0) || decide (p.mo < p.nu))) || !inR p.nu)
def okP (p : Pt) : Bool := okC p && okT p && okN p
def vl (l : List Pt) : Prop := ∀ p ∈ l, okP p = true
theorem vl_cons {p : Pt} {l : List Pt} : vl (p :: l) ↔ okP p = true ∧ vl l := by simp [vl]
theorem vl_append {l m : List Pt} : vl (l ++ m) ↔ vl l ∧ vl m := by
  simp only [vl, List.mem_append]
  exact ⟨fun h => ⟨fun p hp => h p (.inl hp), fun p hp => h p (.inr hp)⟩, fun h p hp => hp.elim (h.1 p) (h.2 p)⟩

/-- What a reader of layer 14 makes of one of layer 2. -/
def ofW (c : Int) : Int := if c = 200 then 1401 else if c = 202 then 1403 else 1402

abbrev Rr (α : Type) := Except (Nat × Int) (α × Nat)
abbrev Prs (α : Type) := ByteArray → Nat → Rr α
def bnd {α β : Type} (r : Rr α) (f : α → Nat → Rr β) : Rr β := match r with
  | .ok (x, b) => f x b
  | .error e => .error e
theorem bnd_ok {α β : Type} (x : α) (b : Nat) (f : α → Nat → Rr β) : bnd (.ok (x, b)) f = f x b := rfl
theorem bnd_err {α β : Type} (e : Nat × Int) (f : α → Nat → Rr β) : bnd (.error e) f = .error e := rfl
def pSeq {α β : Type} (p : Prs α) (q : Prs β) : Prs (α × β) := fun s a => bnd (p s a) fun x b => bnd (q s b) fun y c => .ok ((x, y), c)
def pMap {α β : Type} (f : α → β) (p : Prs α) : Prs β := fun s a => bnd (p s a) fun x b => .ok (f x, b)
def pMany {α : Type} (p : Prs α) : Nat → Prs (List α)
  | 0 => fun _ a => .ok ([], a)
  | n + 1 => fun s a => bnd (p s a) fun x b => bnd (pMany p n s b) fun xs c => .ok (x :: xs, c)

theorem pMany_succ {α : Type} (p : Prs α) (n : Nat) (s : ByteArray) (a : Nat) : pMany p (n + 1) s a = bnd (p s a) fun x b => bnd (pMany p n s b) fun xs c => .ok (x :: xs, c) := rfl

def pNum : Prs Int := fun s a => if gC s a = 0 then .ok (gN s a, (gT s a).toNat) else .error (a, ofW (gC s a))
def pUp (most ab : Int) : Prs Int := fun s a => bnd (pNum s a) fun x b => if x < 0 then .error (a, 1402) else if most < x then .error (a, ab) else .ok (x, b)
def pName : Prs ByteArray := fun s a => if tC s a 16 = 0 then (if isNm (tS s a 16) = true then .ok (tS s a 16, (tT s a 16).toNat) else .error (a, 1403)) else .error (a, ofW (tC s a 16))
def pList {α : Type} (most : Int) (p : Prs α) : Prs (List α) := fun s a => bnd (pUp most 1404 s a) fun k b => pMany p k.toNat s b

def pFd : Prs Fd := pMap (fun x => ⟨x.1, x.2⟩) (pSeq pName pNum)
def pIs : Prs Is := pMap (fun x => ⟨x.1, x.2.1, x.2.2⟩) (pSeq pNum (pSeq pNum pNum))
def pHd : Prs Hd := pMap (fun x => ⟨x.1, x.2.1, x.2.2.1, x.2.2.2⟩) (pSeq pNum (pSeq pNum (pSeq pNum pNum)))
def pMp : Prs Mp := pMap (fun x => ⟨x.1, x.2.1, x.2.2⟩) (pSeq pNum (pSeq (pList 24 pNum) (pList 24 pNum)))
def pFl1 : Prs Bool := pMap (fun x => decide (x % 2 = 1)) (pUp 1 1402)
def pFl2 : Prs (Bool × Bool) := pMap (fun x => (decide (x % 2 = 1), decide (2 ≤ x))) (pUp 3 1402)
def pMd : Prs Md := pMap (fun x => ⟨x.1, x.2.1, x.2.2.1, x.2.2.2.1, x.2.2.2.2.1, x.2.2.2.2.2.1, x.2.2.2.2.2.2.1, x.2.2.2.2.2.2.2.1, x.2.2.2.2.2.2.2.2⟩)
  (pSeq pName (pSeq pFl1 (pSeq (pList 8 pNum) (pSeq pNum (pSeq (pUp 24 1402) (pSeq (pUp 24 1402) (pSeq (pList 300 pIs) (pSeq (pList 16 pHd) (pList 64 pMp)))))))))
def pCs : Prs Cs := pMap (fun x => ⟨x.1, x.2.1.1, x.2.1.2, x.2.2.1, x.2.2.2.1, x.2.2.2.2.1, x.2.2.2.2.2.1, x.2.2.2.2.2.2⟩)
  (pSeq pName (pSeq pFl2 (pSeq pNum (pSeq (pList 8 pNum) (pSeq (pList 24 pFd) (pSeq (pList 24 pFd) (pList 24 pMd)))))))
def pPg : Prs Pg := pMap (fun x => ⟨x.1, x.2⟩) (pSeq pNum (pList 40 pCs))

def mag : List UInt8 := [71, 78, 83, 83]
/-- What is read of s: the program, or where and what is wrong first. -/
def decP (s : ByteArray) : Except (Nat × Int) Pg :=
  if 32768 < s.size then .error (0, 1406)
  else if s.data.toList.take 4 = mag then
    match pPg s 4 with
    | .ok (p, b) => if b < s.size then .error (b, 1405) else .ok p
    | .error e => .error e
  else .error (0, 1400)
/-- What is written of p. -/
def encP (p : Pg) : Except Int ByteArray :=
  if (gPg p).all okC = true then
    if (gPg p).all okT = true then
      if (gPg p).all okN = true then
        if 32768 < (mag ++ byts (gPg p)).length then .error 1406 else .ok ⟨(mag ++ byts (gPg p)).toArray⟩
      else .error 1402
    else .error 1403
  else .error 1404

/-- A reader and a writer that fit. -/
structure Good {α : Type} (p : Prs α) (g : α → List Pt) : Prop where
  rt : ∀ s a x rest, a ≤ s.size → vl (g x) → from_ s a = byts (g x) ++ rest → p s a = .ok (x, a + (byts (g x)).length)
  back : ∀ s a x b, a ≤ s.size → p s a = .ok (x, b) → vl (g x) ∧ a ≤ b ∧ b ≤ s.size ∧ from_ s a = byts (g x) ++ from_ s b
  cut : ∀ s a x t, a ≤ s.size → vl (g x) → t ≠ [] → byts (g x) = from_ s a ++ t → ∃ q, p s a = .error (q, 1401) ∧ q ≤ s.size
  err : ∀ s a q c, a ≤ s.size → p s a = .error (q, c) → q ≤ s.size ∧ 1400 < c

theorem from_len (s : ByteArray) (a : Nat) : (from_ s a).length = s.size - a := by unfold from_; rw [List.length_drop]; rfl
theorem from_drop (s : ByteArray) (a n : Nat) : (from_ s a).drop n = from_ s (a + n) := by unfold from_; rw [List.drop_drop]
theorem from_step {s : ByteArray} {a : Nat} {x rest : List UInt8} (ha : a ≤ s.size) (h : from_ s a = x ++ rest) : from_ s (a + x.length) = rest ∧ a + x.length ≤ s.size := by
  refine ⟨?_, ?_⟩
  · rw [← from_drop, h]; simp
  · have := from_len s a; rw [h] at this; simp at this; omega

/-- How what is there stands to a longer row: it ends inside the first part, or behind it. -/
theorem cut_split {u x y t : List UInt8} (h : x ++ y = u ++ t) : (∃ t', t' ≠ [] ∧ x = u ++ t') ∨ (∃ u', u = x ++ u' ∧ y = u' ++ t) := by
  by_cases c : u.length < x.length
  · left
    refine ⟨x.drop u.length, ?_, ?_⟩
    · intro e; have := congrArg List.length e; simp at this; omega
    · have h1 : x.take u.length = u := by
        have := congrArg (List.take u.length) h
        rw [List.take_append_of_le_length (by omega), List.take_append_of_le_length (by omega)] at this
        simpa using this
      conv => lhs; rw [← List.take_append_drop u.length x, h1]
  · right
    have h1 : u.take x.length = x := by
      have := congrArg (List.take x.length) h
      rw [List.take_append_of_le_length (by omega), List.take_append_of_le_length (by omega)] at this
      simpa using this.symm
    refine ⟨u.drop x.length, by conv => lhs; rw [← List.take_append_drop x.length u, h1], ?_⟩
    have := congrArg (List.drop x.length) h
    rw [List.drop_append_of_le_length (by omega), List.drop_append_of_le_length (by omega)] at this
    simpa using this

theorem Good.seq {α β : Type} {p : Prs α} {q : Prs β} {g : α → List Pt} {h : β → List Pt} (P : Good p g) (Q : Good q h) : Good (pSeq p q) (fun x => g x.1 ++ h x.2) where
  rt := by
    rintro s a ⟨x, y⟩ rest ha hv hf
    obtain ⟨v1, v2⟩ := vl_append.1 hv
    rw [byts_append, List.append_assoc] at hf
    obtain ⟨e1, e2⟩ := from_step ha hf
    unfold pSeq
    rw [P.rt s a x _ ha v1 hf, bnd_ok, Q.rt s _ y rest e2 v2 e1, bnd_ok, byts_append, List.length_append, Nat.add_assoc]
  back := by
    rintro s a ⟨x, y⟩ b ha hp
    unfold pSeq at hp
    cases h1 : p s a with
    | error e => rw [h1, bnd_err] at hp; cases hp
    | ok xb =>
      obtain ⟨x1, b1⟩ := xb
      rw [h1, bnd_ok] at hp
      obtain ⟨v1, l1, l2, f1⟩ := P.back s a x1 b1 ha h1
      cases h2 : q s b1 with
      | error e => rw [h2, bnd_err] at hp; cases hp
      | ok yc =>
        obtain ⟨y1, c1⟩ := yc
        rw [h2, bnd_ok] at hp
        cases hp
        obtain ⟨v2, l3, l4, f2⟩ := Q.back s b1 y b l2 h2
        exact ⟨vl_append.2 ⟨v1, v2⟩, by omega, l4, by rw [byts_append, List.append_assoc, ← f2, f1]⟩
  cut := by
    rintro s a ⟨x, y⟩ t ha hv ht hb
    obtain ⟨v1, v2⟩ := vl_append.1 hv
    rw [byts_append] at hb
    rcases cut_split hb with ⟨t', n1, e1⟩ | ⟨u, e1, e2⟩
    · obtain ⟨z, h1, h2⟩ := P.cut s a x t' ha v1 n1 e1
      exact ⟨z, by unfold pSeq; rw [h1, bnd_err], h2⟩
    · obtain ⟨f1, f2⟩ := from_step ha e1
      obtain ⟨z, h1, h2⟩ := Q.cut s _ y t f2 v2 ht (by rw [f1]; exact e2)
      exact ⟨z, by unfold pSeq; rw [P.rt s a x _ ha v1 e1, bnd_ok, h1, bnd_err], h2⟩
  err := by
    intro s a z c ha hp
    unfold pSeq at hp
    cases h1 : p s a with
    | error e => rw [h1, bnd_err] at hp; cases hp; exact P.err s a z c ha h1
    | ok xb =>
      obtain ⟨x1, b1⟩ := xb
      rw [h1, bnd_ok] at hp
      obtain ⟨v1, l1, l2, f1⟩ := P.back s a x1 b1 ha h1
      cases h2 : q s b1 with
      | error e => rw [h2, bnd_err] at hp; cases hp; exact Q.err s b1 z c l2 h2
      | ok yc => obtain ⟨y1, c1⟩ := yc; rw [h2, bnd_ok] at hp; cases hp

theorem Good.map {α β : Type} {p : Prs α} {g : α → List Pt} {h : β → List Pt} (f : α → β) (k : β → α) (P : Good p g) (e1 : ∀ y, f (k y) = y) (e2 : ∀ y, h y = g (k y)) (e3 : ∀ s a x b, a ≤ s.size → p s a = .ok (x, b) → k (f x) = x) : Good (pMap f p) h where
  rt := by
    intro s a y rest ha hv hf
    rw [e2] at hv hf
    unfold pMap
    rw [P.rt s a _ rest ha hv hf, bnd_ok, e1, e2]
  back := by
    intro s a y b ha hp
    unfold pMap at hp
    cases h1 : p s a with
    | error e => rw [h1, bnd_err] at hp; cases hp
    | ok xb =>
      obtain ⟨x1, b1⟩ := xb
      rw [h1, bnd_ok] at hp
      cases hp
      rw [e2, e3 s a x1 b ha h1]
      exact P.back s a x1 b ha h1
  cut := by
    intro s a y t ha hv ht hb
    rw [e2] at hv hb
    obtain ⟨z, h1, h2⟩ := P.cut s a _ t ha hv ht hb
    exact ⟨z, by unfold pMap; rw [h1, bnd_err], h2⟩
  err := by
    intro s a z c ha hp
    unfold pMap at hp
    cases h1 : p s a with
    | error e => rw [h1, bnd_err] at hp; cases hp; exact P.err s a z c ha h1
    | ok xb => obtain ⟨x1, b1⟩ := xb; rw [h1, bnd_ok] at hp; cases hp

theorem Good.many {α : Type} {p : Prs α} {g : α → List Pt} (P : Good p g) : ∀ n,
    (∀ s a (xs : List α) rest, xs.length = n → a ≤ s.size → vl (xs.flatMap g) → from_ s a = byts (xs.flatMap g) ++ rest → pMany p n s a = .ok (xs, a + (byts (xs.flatMap g)).length)) ∧
    (∀ s a (xs : List α) b, a ≤ s.size → pMany p n s a = .ok (xs, b) → xs.length = n ∧ vl (xs.flatMap g) ∧ a ≤ b ∧ b ≤ s.size ∧ from_ s a = byts (xs.flatMap g) ++ from_ s b) ∧
    (∀ s a (xs : List α) t, xs.length = n → a ≤ s.size → vl (xs.flatMap g) → t ≠ [] → byts (xs.flatMap g) = from_ s a ++ t → ∃ q, pMany p n s a = .error (q, 1401) ∧ q ≤ s.size) ∧
    (∀ s a q c, a ≤ s.size → pMany p n s a = .error (q, c) → q ≤ s.size ∧ 1400 < c) := by
  intro n
  induction n with
  | zero =>
    refine ⟨?_, ?_, ?_, ?_⟩
    · intro s a xs rest hl ha hv hf
      rw [List.length_eq_zero_iff] at hl; subst hl; simp [pMany, byts]
    · intro s a xs b ha hp
      simp [pMany] at hp
      obtain ⟨rfl, rfl⟩ := hp
      exact ⟨rfl, by simp [vl], Nat.le_refl _, ha, by simp [byts]⟩
    · intro s a xs t hl ha hv ht hb
      rw [List.length_eq_zero_iff] at hl; subst hl
      simp [byts] at hb
      exact absurd hb.2 ht
    · intro s a q c ha hp; simp [pMany] at hp
  | succ n ih =>
    obtain ⟨i1, i2, i3, i4⟩ := ih
    refine ⟨?_, ?_, ?_, ?_⟩
    · intro s a xs rest hl ha hv hf
      cases xs with
      | nil => simp at hl
      | cons x xs =>
        simp only [List.flatMap_cons] at hv hf ⊢
        obtain ⟨v1, v2⟩ := vl_append.1 hv
        rw [byts_append, List.append_assoc] at hf
        obtain ⟨e1, e2⟩ := from_step ha hf
        rw [pMany_succ, P.rt s a x _ ha v1 hf, bnd_ok, i1 s _ xs rest (by simpa using hl) e2 v2 e1, bnd_ok, byts_append, List.length_append, Nat.add_assoc]
    · intro s a xs b ha hp
      rw [pMany_succ] at hp
      cases h1 : p s a with
      | error e => rw [h1, bnd_err] at hp; cases hp
      | ok xb =>
        obtain ⟨x1, b1⟩ := xb
        rw [h1, bnd_ok] at hp
        obtain ⟨v1, l1, l2, f1⟩ := P.back s a x1 b1 ha h1
        cases h2 : pMany p n s b1 with
        | error e => rw [h2, bnd_err] at hp; cases hp
        | ok yc =>
          obtain ⟨y1, c1⟩ := yc
          rw [h2, bnd_ok] at hp
          cases hp
          obtain ⟨ln, v2, l3, l4, f2⟩ := i2 s b1 y1 b l2 h2
          refine ⟨by simp [ln], ?_, by omega, l4, ?_⟩
          · rw [List.flatMap_cons]; exact vl_append.2 ⟨v1, v2⟩
          · rw [List.flatMap_cons, byts_append, List.append_assoc, ← f2, f1]
    · intro s a xs t hl ha hv ht hb
      cases xs with
      | nil => simp at hl
      | cons x xs =>
        simp only [List.flatMap_cons] at hv hb
        obtain ⟨v1, v2⟩ := vl_append.1 hv
        rw [byts_append] at hb
        rcases cut_split hb with ⟨t', n1, e1⟩ | ⟨u, e1, e2⟩
        · obtain ⟨z, h1, h2⟩ := P.cut s a x t' ha v1 n1 e1
          exact ⟨z, by rw [pMany_succ, h1, bnd_err], h2⟩
        · obtain ⟨f1, f2⟩ := from_step ha e1
          obtain ⟨z, h1, h2⟩ := i3 s _ xs t (by simpa using hl) f2 v2 ht (by rw [f1]; exact e2)
          exact ⟨z, by rw [pMany_succ, P.rt s a x _ ha v1 e1, bnd_ok, h1, bnd_err], h2⟩
    · intro s a z c ha hp
      rw [pMany_succ] at hp
      cases h1 : p s a with
      | error e => rw [h1, bnd_err] at hp; cases hp; exact P.err s a z c ha h1
      | ok xb =>
        obtain ⟨x1, b1⟩ := xb
        rw [h1, bnd_ok] at hp
        obtain ⟨v1, l1, l2, f1⟩ := P.back s a x1 b1 ha h1
        cases h2 : pMany p n s b1 with
        | error e => rw [h2, bnd_err] at hp; cases hp; exact i4 s b1 z c l2 h2
        | ok yc => obtain ⟨y1, c1⟩ := yc; rw [h2, bnd_ok] at hp; cases hp
end Go.Proofs.YtbbmgjcabmjjdaaGreatDoor
/- There and back, cut short, what stands behind: plain theorems on what is read and written. -/
namespace Go.Proofs.YtbbmgjcabmjjdaaGreatDoor
open Go.RowKit

theorem rd_short : ∀ (z : Nat) (u t : List UInt8) (i acc : Nat), t ≠ [] → parts z = u ++ t → i ≤ 4 → z * 128 ^ i < 4294967296 → rd u i acc = (0, 0, 200) := by
  intro z
  induction z using Nat.strongRecOn with
  | ind z ih =>
    intro u t i acc ht he hi hlt
    cases u with
    | nil => exact rd_nil _ _
    | cons c u =>
      by_cases h : z < 128
      · rw [parts_lt h] at he
        simp at he
        exact absurd he.2.2 ht
      · have hi3 : i ≤ 3 := by
          rcases pow_le_4 hi with e | e | e | e | e <;> subst e <;> simp at hlt <;> omega
        rw [parts_ge (by omega), List.cons_append] at he
        have hc := (List.cons.inj he).1
        have hr := (List.cons.inj he).2
        have hb : bad (prt z).toNat i = false := by
          rw [prt_nat]
          exact bad_eq_false (fun _ => by omega) (fun a => by omega)
        rw [← hc, rd_on hb (by rw [prt_nat]; omega)]
        have hp : 128 ^ (i + 1) = 128 * 128 ^ i := by rw [Nat.pow_succ]; omega
        have hz' : z / 128 * 128 ^ (i + 1) ≤ z * 128 ^ i := by
          rw [hp, ← Nat.mul_assoc]
          exact Nat.mul_le_mul_right _ (by omega)
        exact ih _ (by omega) u t (i + 1) _ ht hr (by omega) (by omega)

theorem bts_num (x mo : Int) (k : Int) (nm : ByteArray) (hk : k ≠ 1) (h : inR x = true) : bts ⟨k, x, mo, nm⟩ = parts (zig x) := by
  unfold bts
  rw [if_neg hk]
  show (putB x).data.toList = _
  rw [putB_yes h]

/-- What a number's reader finds where its bytes stand. -/
theorem num_rt {s : ByteArray} {a : Nat} {x : Int} {rest : List UInt8} (ha : a ≤ s.size) (h : inR x = true) (hf : from_ s a = parts (zig x) ++ rest) : gN s a = x ∧ gT s a = ((a + (parts (zig x)).length : Nat) : Int) ∧ gC s a = 0 := by
  obtain ⟨h1, h2⟩ := inR_iff.1 h
  obtain ⟨e1, e2, e3⟩ := g_yes (s := s) (a := a) ha
  have hr := rd_parts (zig x) rest 0 0 (by omega) (by omega) (by simpa using zig_lt h1 h2)
  simp at hr
  rw [e1, e2, e3, hf, hr]
  refine ⟨zag_zig x, ?_, rfl⟩
  show (if (0 : Int) = 0 then ((a : Int) + ((parts (zig x)).length : Int)) else 0) = _
  rw [if_pos rfl]; omega

theorem num_back {s : ByteArray} {a : Nat} (ha : a ≤ s.size) (h : gC s a = 0) : ∃ n, gT s a = ((a + n : Nat) : Int) ∧ a + n ≤ s.size ∧ inR (gN s a) = true ∧ n = (parts (zig (gN s a))).length ∧ from_ s a = parts (zig (gN s a)) ++ from_ s (a + n) := by
  obtain ⟨e1, e2, e3⟩ := g_yes (s := s) (a := a) ha
  rw [e3] at h
  rw [e1, e2]
  obtain ⟨⟨Z, m, cc⟩, hR⟩ : ∃ R, rd (from_ s a) 0 0 = R := ⟨_, rfl⟩
  rw [hR] at h ⊢
  have h0 : cc = 0 := h
  subst h0
  have hl := rd_len hR
  rw [from_len] at hl
  obtain ⟨y, z1, z2, z3, _, z5⟩ := rd_taken _ 0 0 Z m (by omega) hR
  simp at z1 z2 z5
  subst z1
  have hz := zag_range z5
  have hzz : zig (nmOf (Z, m, 0)) = Z := zig_zag Z
  refine ⟨m, ?_, by omega, inR_iff.2 hz, ?_, ?_⟩
  · show (if (0 : Int) = 0 then ((a : Int) + (m : Int)) else 0) = _
    rw [if_pos rfl]; omega
  · rw [hzz]; exact z2
  · rw [hzz, ← from_drop, z2]
    conv => lhs; rw [← List.take_append_drop (parts Z).length (from_ s a), z3]

theorem num_cut {s : ByteArray} {a : Nat} {x : Int} {t : List UInt8} (ha : a ≤ s.size) (h : inR x = true) (ht : t ≠ []) (hf : parts (zig x) = from_ s a ++ t) : gC s a = 200 := by
  obtain ⟨h1, h2⟩ := inR_iff.1 h
  obtain ⟨e1, e2, e3⟩ := g_yes (s := s) (a := a) ha
  rw [e3, rd_short (zig x) _ t 0 0 ht hf (by omega) (by simpa using zig_lt h1 h2)]
  rfl

theorem ofW_gt (c : Int) : 1400 < ofW c := by unfold ofW; split <;> (try split) <;> omega

theorem pNum_ok {s : ByteArray} {a : Nat} (h : gC s a = 0) : pNum s a = .ok (gN s a, (gT s a).toNat) := by unfold pNum; rw [if_pos h]
theorem pNum_no {s : ByteArray} {a : Nat} (h : gC s a ≠ 0) : pNum s a = .error (a, ofW (gC s a)) := by unfold pNum; rw [if_neg h]

/-- A reader of one number with a test of its own. -/
theorem Good.num1 (T : Int → Except Int Unit) (g : Int → Pt) (hk : ∀ x, (g x).kd ≠ 1) (hn : ∀ x, (g x).nu = x) (hv : ∀ x, okP (g x) = true ↔ inR x = true ∧ T x = .ok ()) (he : ∀ x c, T x = .error c → 1400 < c) :
    Good (fun s a => bnd (pNum s a) fun x b => match T x with | .ok _ => .ok (x, b) | .error c => .error (a, c)) (fun x => [g x]) where
  rt := by
    intro s a x rest ha v hf
    obtain ⟨v1, v2⟩ := (hv x).1 ((vl_cons.1 v).1)
    have hb : byts [g x] = parts (zig x) := by
      rw [byts_cons, byts_nil, List.append_nil]
      have := bts_num x (g x).mo (g x).kd (g x).nm (hk x) v1
      have hx : g x = ⟨(g x).kd, x, (g x).mo, (g x).nm⟩ := by
        have := hn x
        cases hg : g x; rw [hg] at this; simp at this; subst this; rfl
      rw [hx]; exact this
    rw [hb] at hf ⊢
    obtain ⟨e1, e2, e3⟩ := num_rt ha v1 hf
    show bnd (pNum s a) _ = _
    rw [pNum_ok e3, bnd_ok, e1, v2, e2]
    rfl
  back := by
    intro s a x b ha hp
    change bnd (pNum s a) _ = _ at hp
    by_cases h : gC s a = 0
    · rw [pNum_ok h, bnd_ok] at hp
      obtain ⟨n, b1, b2, b3, b4, b5⟩ := num_back ha h
      cases hT : T (gN s a) with
      | error c => rw [hT] at hp; cases hp
      | ok u =>
        rw [hT] at hp
        cases hp
        have hok := (hv (gN s a)).2 ⟨b3, hT⟩
        have hb : byts [g (gN s a)] = parts (zig (gN s a)) := by
          rw [byts_cons, byts_nil, List.append_nil]
          have := bts_num (gN s a) (g (gN s a)).mo (g (gN s a)).kd (g (gN s a)).nm (hk _) b3
          have hx : g (gN s a) = ⟨(g (gN s a)).kd, gN s a, (g (gN s a)).mo, (g (gN s a)).nm⟩ := by
            have := hn (gN s a)
            cases hg : g (gN s a); rw [hg] at this; simp at this; subst this; rfl
          rw [hx]; exact this
        rw [hb, b1]
        exact ⟨vl_cons.2 ⟨hok, by simp [vl]⟩, by omega, by omega, b5⟩
    · rw [pNum_no h, bnd_err] at hp; cases hp
  cut := by
    intro s a x t ha v ht hf
    obtain ⟨v1, v2⟩ := (hv x).1 ((vl_cons.1 v).1)
    have hb : byts [g x] = parts (zig x) := by
      rw [byts_cons, byts_nil, List.append_nil]
      have := bts_num x (g x).mo (g x).kd (g x).nm (hk x) v1
      have hx : g x = ⟨(g x).kd, x, (g x).mo, (g x).nm⟩ := by
        have := hn x
        cases hg : g x; rw [hg] at this; simp at this; subst this; rfl
      rw [hx]; exact this
    rw [hb] at hf
    have hc := num_cut ha v1 ht hf
    refine ⟨a, ?_, ha⟩
    show bnd (pNum s a) _ = _
    rw [pNum_no (by rw [hc]; decide), bnd_err, hc]
    rfl
  err := by
    intro s a q c ha hp
    change bnd (pNum s a) _ = _ at hp
    by_cases h : gC s a = 0
    · rw [pNum_ok h, bnd_ok] at hp
      cases hT : T (gN s a) with
      | error c' => rw [hT] at hp; cases hp; exact ⟨ha, he _ _ hT⟩
      | ok u => rw [hT] at hp; cases hp
    · rw [pNum_no h, bnd_err] at hp; cases hp; exact ⟨ha, ofW_gt _⟩

theorem okP_num (x : Int) : okP (ptN x) = inR x := by simp [okP, okC, okT, okN, ptN]
theorem okP_size (x most : Int) : okP (ptS x most) = true ↔ inR x = true ∧ 0 ≤ x ∧ x ≤ most := by
  simp only [okP, okC, okT, okN, ptS]
  by_cases h1 : x < 0 <;> by_cases h2 : most < x <;> cases inR x <;> simp [h1, h2] <;> omega
theorem okP_cnt (k : Nat) (most : Int) : okP (ptC k most) = true ↔ inR (k : Int) = true ∧ (k : Int) ≤ most := by
  simp only [okP, okC, okT, okN, ptC]
  by_cases h2 : most < (k : Int) <;> cases inR (k : Int) <;> simp [h2] <;> omega

theorem good_num : Good pNum gN1 := by
  have := Good.num1 (fun _ => .ok ()) ptN (fun x => by simp [ptN]) (fun x => rfl) (fun x => by rw [okP_num]; simp) (fun _ _ h => by cases h)
  have e : (fun s a => bnd (pNum s a) fun x b => match (Except.ok () : Except Int Unit) with | .ok _ => .ok (x, b) | .error c => .error (a, c)) = pNum := by
    funext s a
    cases pNum s a with
    | ok y => rfl
    | error y => rfl
  rw [← e]; exact this
def tUp (most ab : Int) (x : Int) : Except Int Unit := if x < 0 then .error 1402 else if most < x then .error ab else .ok ()
theorem pUp_eq (most ab : Int) : (fun s a => bnd (pNum s a) fun x b => match tUp most ab x with | .ok _ => .ok (x, b) | .error c => .error (a, c)) = pUp most ab := by
  funext s a
  unfold pUp
  congr 1
  funext x b
  unfold tUp
  by_cases h : x < 0
  · rw [if_pos h, if_pos h]
  · rw [if_neg h, if_neg h]
    by_cases h2 : most < x
    · rw [if_pos h2, if_pos h2]
    · rw [if_neg h2, if_neg h2]
theorem tUp_ok {most ab x : Int} : tUp most ab x = .ok () ↔ 0 ≤ x ∧ x ≤ most := by
  unfold tUp
  by_cases h : x < 0
  · rw [if_pos h]; simp; omega
  · rw [if_neg h]
    by_cases h2 : most < x
    · rw [if_pos h2]; simp; omega
    · rw [if_neg h2]; simp; omega
theorem tUp_err {most ab x c : Int} (hab : 1400 < ab) (h : tUp most ab x = .error c) : 1400 < c := by
  unfold tUp at h
  split at h
  · cases h; decide
  · split at h
    · cases h; exact hab
    · cases h
theorem good_size (most : Int) : Good (pUp most 1402) (fun x => [ptS x most]) := by
  rw [← pUp_eq]
  exact Good.num1 (tUp most 1402) (fun x => ptS x most) (fun x => by simp [ptS]) (fun x => rfl) (fun x => by rw [okP_size, tUp_ok]) (fun x c h => tUp_err (by decide) h)
/-- As many as a row has. -/
theorem good_flag (most : Int) : Good (fun s a => bnd (pUp most 1402 s a) fun x b => .ok (x, b)) (fun x => if 0 ≤ x ∧ x ≤ most then [ptN x] else [⟨3, -1, 0, ⟨#[]⟩⟩]) := by
  have e : (fun s a => bnd (pUp most 1402 s a) fun x b => (.ok (x, b) : Rr Int)) = pUp most 1402 := by
    funext s a
    cases pUp most 1402 s a with
    | ok y => rfl
    | error y => rfl
  rw [e]
  have G := good_size most
  have key : ∀ x, (vl (if 0 ≤ x ∧ x ≤ most then [ptN x] else [⟨3, -1, 0, ⟨#[]⟩⟩]) ↔ vl [ptS x most]) ∧ (0 ≤ x ∧ x ≤ most → byts (if 0 ≤ x ∧ x ≤ most then [ptN x] else [⟨3, -1, 0, ⟨#[]⟩⟩]) = byts [ptS x most]) := by
    intro x
    by_cases h : 0 ≤ x ∧ x ≤ most
    · rw [if_pos h]
      refine ⟨?_, fun _ => rfl⟩
      rw [vl_cons, vl_cons, okP_num, okP_size]
      exact ⟨fun q => ⟨⟨q.1, h.1, h.2⟩, q.2⟩, fun q => ⟨q.1.1, q.2⟩⟩
    · rw [if_neg h]
      refine ⟨?_, fun q => absurd q h⟩
      rw [vl_cons, vl_cons, okP_size]
      refine ⟨fun q => absurd q.1 (by decide), fun q => absurd q.1.2 h⟩
  have vin : ∀ x, vl [ptS x most] → 0 ≤ x ∧ x ≤ most := fun x v => ((okP_size x most).1 (vl_cons.1 v).1).2
  exact
    { rt := fun s a x rest ha v hf => by
        have v2 := (key x).1.1 v
        have h := (key x).2 (vin x v2)
        rw [h] at hf ⊢
        exact G.rt s a x rest ha v2 hf
      back := fun s a x b ha hp => by
        obtain ⟨v, r1, r2, r3⟩ := G.back s a x b ha hp
        rw [(key x).2 (vin x v)]
        exact ⟨(key x).1.2 v, r1, r2, r3⟩
      cut := fun s a x t ha v ht hf => by
        have v2 := (key x).1.1 v
        rw [(key x).2 (vin x v2)] at hf
        exact G.cut s a x t ha v2 ht hf
      err := G.err }

theorem pUp_mk {most ab : Int} {s : ByteArray} {a : Nat} (h : gC s a = 0) (h1 : 0 ≤ gN s a) (h2 : gN s a ≤ most) : pUp most ab s a = .ok (gN s a, (gT s a).toNat) := by
  unfold pUp; rw [pNum_ok h, bnd_ok, if_neg (by omega), if_neg (by omega)]
theorem pUp_ok {most ab : Int} {s : ByteArray} {a b : Nat} {x : Int} (h : pUp most ab s a = .ok (x, b)) : gC s a = 0 ∧ x = gN s a ∧ b = (gT s a).toNat ∧ 0 ≤ x ∧ x ≤ most := by
  unfold pUp at h
  by_cases c : gC s a = 0
  · rw [pNum_ok c, bnd_ok] at h
    split at h
    · cases h
    · split at h
      · cases h
      · cases h; exact ⟨c, rfl, rfl, by omega, by omega⟩
  · rw [pNum_no c, bnd_err] at h; cases h
theorem pUp_err {most ab : Int} {s : ByteArray} {a q : Nat} {c : Int} (hab : 1400 < ab) (h : pUp most ab s a = .error (q, c)) : q = a ∧ 1400 < c := by
  unfold pUp at h
  by_cases c : gC s a = 0
  · rw [pNum_ok c, bnd_ok] at h
    split at h
    · cases h; exact ⟨rfl, by decide⟩
    · split at h
      · cases h; exact ⟨rfl, hab⟩
      · cases h
  · rw [pNum_no c, bnd_err] at h; cases h; exact ⟨rfl, ofW_gt _⟩

theorem Good.list {α : Type} {p : Prs α} {g : α → List Pt} (most : Int) (P : Good p g) : Good (pList most p) (ptL most g) where
  rt := by
    intro s a xs rest ha v hf
    obtain ⟨v1, v2⟩ := vl_cons.1 v
    obtain ⟨w1, w2⟩ := (okP_cnt xs.length most).1 v1
    have hb : byts (ptL most g xs) = parts (zig (xs.length : Int)) ++ byts (xs.flatMap g) := by
      show byts (ptC xs.length most :: xs.flatMap g) = _
      rw [byts_cons]; congr 1; exact bts_num _ _ _ _ (by decide) w1
    rw [hb, List.append_assoc] at hf
    obtain ⟨e1, e2, e3⟩ := num_rt ha w1 hf
    obtain ⟨f1, f2⟩ := from_step ha hf
    unfold pList
    rw [pUp_mk e3 (by omega) (by omega), bnd_ok, e1, e2, Int.toNat_natCast, Int.toNat_natCast, (P.many xs.length).1 s _ xs rest rfl f2 v2 f1, hb, List.length_append, Nat.add_assoc]
  back := by
    intro s a xs b ha hp
    unfold pList at hp
    cases h1 : pUp most 1404 s a with
    | error e => rw [h1, bnd_err] at hp; cases hp
    | ok xb =>
      obtain ⟨x1, b1⟩ := xb
      rw [h1, bnd_ok] at hp
      obtain ⟨c1, c2, c3, c4, c5⟩ := pUp_ok h1
      obtain ⟨n, b1', b2, b3, b4, b5⟩ := num_back ha c1
      rw [b1', Int.toNat_natCast] at c3
      subst c2 c3
      obtain ⟨l1, l2, l3, l4, l5⟩ := (P.many _).2.1 s _ xs b b2 hp
      have hx : gN s a = (xs.length : Int) := by rw [l1]; omega
      rw [hx] at b3 b4 b5 c5
      have hb : byts (ptL most g xs) = parts (zig (xs.length : Int)) ++ byts (xs.flatMap g) := by
        show byts (ptC xs.length most :: xs.flatMap g) = _
        rw [byts_cons]; congr 1; exact bts_num _ _ _ _ (by decide) b3
      exact ⟨vl_cons.2 ⟨(okP_cnt _ _).2 ⟨b3, c5⟩, l2⟩, by omega, l4, by rw [hb, List.append_assoc, ← l5, b5]⟩
  cut := by
    intro s a xs t ha v ht hf
    obtain ⟨v1, v2⟩ := vl_cons.1 v
    obtain ⟨w1, w2⟩ := (okP_cnt xs.length most).1 v1
    have hb : byts (ptL most g xs) = parts (zig (xs.length : Int)) ++ byts (xs.flatMap g) := by
      show byts (ptC xs.length most :: xs.flatMap g) = _
      rw [byts_cons]; congr 1; exact bts_num _ _ _ _ (by decide) w1
    rw [hb] at hf
    rcases cut_split hf with ⟨t', n1, e1⟩ | ⟨u, e1, e2⟩
    · have hc := num_cut ha w1 n1 e1
      refine ⟨a, ?_, ha⟩
      unfold pList pUp
      rw [pNum_no (by rw [hc]; decide), bnd_err, bnd_err, hc]
      rfl
    · obtain ⟨g1, g2, g3⟩ := num_rt ha w1 e1
      obtain ⟨f1, f2⟩ := from_step ha e1
      obtain ⟨z, h1, h2⟩ := (P.many xs.length).2.2.1 s _ xs t rfl f2 v2 ht (by rw [f1]; exact e2)
      refine ⟨z, ?_, h2⟩
      unfold pList
      rw [pUp_mk g3 (by omega) (by omega), bnd_ok, g1, g2, Int.toNat_natCast, Int.toNat_natCast, h1]
  err := by
    intro s a q c ha hp
    unfold pList at hp
    cases h1 : pUp most 1404 s a with
    | error e =>
      obtain ⟨q1, c1⟩ := e
      rw [h1, bnd_err] at hp; cases hp
      obtain ⟨rfl, h⟩ := pUp_err (by decide) h1
      exact ⟨ha, h⟩
    | ok xb =>
      obtain ⟨x1, b1⟩ := xb
      rw [h1, bnd_ok] at hp
      obtain ⟨c1, c2, c3, c4, c5⟩ := pUp_ok h1
      obtain ⟨n, b1', b2, b3, b4, b5⟩ := num_back ha c1
      rw [b1', Int.toNat_natCast] at c3
      subst c3
      exact (P.many _).2.2.2 s _ q c b2 hp

theorem isNm_size {x : ByteArray} (h : isNm x = true) : 1 ≤ x.size ∧ x.size ≤ 16 := by
  simp only [isNm, Bool.and_eq_true, Bool.not_eq_true', decide_eq_true_eq, beq_eq_false_iff_ne] at h
  omega
theorem inR_small {n : Nat} (h : n ≤ 1000) : inR (n : Int) = true := inR_iff.2 (by omega)
theorem bts_txt (x : ByteArray) (h : x.size ≤ 1000) : byts [ptT x] = parts (zig (x.size : Int)) ++ x.data.toList := by
  rw [byts_cons, byts_nil, List.append_nil]
  show (txtB x).data.toList = _
  unfold txtB
  rw [putB_yes (inR_small h), ByteArray.data_append]
  simp
theorem okP_txt (x : ByteArray) : okP (ptT x) = isNm x := by simp [okP, okC, okT, okN, ptT]; intro _; decide
theorem ext_from (s : ByteArray) (i n : Nat) : (s.extract i (i + n)).data.toList = (from_ s i).take n := by
  unfold from_
  rw [ByteArray.data_extract, Array.toList_extract, List.extract_eq_take_drop]
  simp
theorem bytes_ext {x y : ByteArray} (h : x.data.toList = y.data.toList) : x = y := by
  apply ByteArray.ext; exact Array.toList_inj.1 h

theorem good_name : Good pName (fun x => [ptT x]) where
  rt := by
    intro s a x rest ha v hf
    have v1 := (vl_cons.1 v).1
    rw [okP_txt] at v1
    obtain ⟨z1, z2⟩ := isNm_size v1
    have hb := bts_txt x (by omega)
    rw [hb, List.append_assoc] at hf
    obtain ⟨e1, e2, e3⟩ := num_rt ha (inR_small (by omega)) hf
    obtain ⟨f1, f2⟩ := from_step ha hf
    have hl : (parts (zig (x.size : Int))).length + x.size + rest.length = s.size - a := by
      have := from_len s a; rw [hf] at this; simp at this; rw [← this]; omega
    obtain ⟨t1, t2, t3⟩ := t_ok (s := s) (a := (a : Int)) (most := 16) e3 (by rw [e1]; omega) (by rw [e1, e2]; omega)
    have hx : tS s a 16 = x := by
      rw [t2, e1, e2]
      apply bytes_ext
      rw [show ((((a + (parts (zig (x.size : Int))).length : Nat) : Int) + (x.size : Int)).toNat) = (a + (parts (zig (x.size : Int))).length) + x.size by omega, Int.toNat_natCast, ext_from, f1]
      have : x.data.toList.length = x.size := by simp
      rw [← this, List.take_left]
    unfold pName
    rw [if_pos t1, hx, if_pos v1, t3, e1, e2, hb, List.length_append]
    congr 2
    simp
    omega
  back := by
    intro s a x b ha hp
    unfold pName at hp
    by_cases c : tC s a 16 = 0
    · rw [if_pos c] at hp
      by_cases v1 : isNm (tS s a 16) = true
      · rw [if_pos v1] at hp
        cases hp
        have g0 : gC s a = 0 := by
          apply Classical.byContradiction; intro h
          rw [(t_err (most := 16) h).1] at c; exact h c
        have g1 : ¬ (gN s a < 0 ∨ (16 : Int) < gN s a) := by
          intro h; rw [(t_long g0 h).1] at c; cases c
        have g2 : ¬ (s.size : Int) - gT s a < gN s a := by
          intro h; rw [(t_cut g0 g1 h).1] at c; cases c
        obtain ⟨_, t2, t3⟩ := t_ok g0 g1 g2
        obtain ⟨n, b1, b2, b3, b4, b5⟩ := num_back ha g0
        rw [b1] at t2 t3 g2
        obtain ⟨m, hm⟩ : ∃ m : Nat, gN s a = m := ⟨(gN s a).toNat, by omega⟩
        rw [hm] at t2 t3 g1 g2 b4 b5
        rw [show ((((a + n : Nat) : Int) + (m : Int)).toNat) = (a + n) + m by omega, Int.toNat_natCast] at t2
        have hd : (tS s a 16).data.toList = (from_ s (a + n)).take m := by rw [t2, ext_from]
        have hsz : (tS s a 16).size = m := by
          have := congrArg List.length hd
          rw [List.length_take, from_len] at this
          simp at this
          omega
        have hb := bts_txt (tS s a 16) (by omega)
        rw [hb, hsz, t3]
        refine ⟨vl_cons.2 ⟨by rw [okP_txt]; exact v1, by simp [vl]⟩, by omega, by omega, ?_⟩
        rw [b5, hd, List.append_assoc, show (((a + n : Nat) : Int) + (m : Int)).toNat = (a + n) + m by omega, ← from_drop s (a + n) m, List.take_append_drop]
      · rw [if_neg v1] at hp; cases hp
    · rw [if_neg c] at hp; cases hp
  cut := by
    intro s a x t ha v ht hf
    have v1 := (vl_cons.1 v).1
    rw [okP_txt] at v1
    obtain ⟨z1, z2⟩ := isNm_size v1
    have hb := bts_txt x (by omega)
    rw [hb] at hf
    rcases cut_split hf with ⟨t', n1, e1⟩ | ⟨u, e1, e2⟩
    · have hc := num_cut ha (inR_small (by omega)) n1 e1
      refine ⟨a, ?_, ha⟩
      have := (t_err (s := s) (a := (a : Int)) (most := 16) (by rw [hc]; decide)).1
      unfold pName
      rw [if_neg (by rw [this, hc]; decide), this, hc]
      rfl
    · obtain ⟨g1, g2, g3⟩ := num_rt ha (inR_small (by omega)) e1
      have hl : (parts (zig (x.size : Int))).length + u.length = s.size - a := by
        have := from_len s a; rw [e1] at this; simp at this; exact this
      have hu : u.length < x.size := by
        have := congrArg List.length e2
        simp at this
        have h0 : t.length ≠ 0 := fun e => ht (List.length_eq_zero_iff.1 e)
        omega
      have hc := (t_cut (s := s) (a := (a : Int)) (most := 16) g3 (by rw [g1]; omega) (by rw [g1, g2]; omega)).1
      refine ⟨a, ?_, ha⟩
      unfold pName
      rw [if_neg (by rw [hc]; decide), hc]
      rfl
  err := by
    intro s a q c ha hp
    unfold pName at hp
    split at hp
    · split at hp
      · cases hp
      · cases hp; exact ⟨ha, by decide⟩
    · cases hp; exact ⟨ha, ofW_gt _⟩

theorem good_fd : Good pFd gFd := by unfold pFd; exact Good.map (h := gFd) _ (fun f => (f.nm, f.ty)) (good_name.seq good_num) (fun _ => rfl) (fun _ => rfl) (fun _ _ _ _ _ _ => rfl)
theorem good_is : Good pIs gIs := by unfold pIs; exact Good.map (h := gIs) _ (fun f => (f.op, f.a, f.b)) (good_num.seq (good_num.seq good_num)) (fun _ => rfl) (fun _ => rfl) (fun _ _ _ _ _ _ => rfl)
theorem good_hd : Good pHd gHd := by unfold pHd; exact Good.map (h := gHd) _ (fun f => (f.fr, f.to, f.at_, f.cl)) (good_num.seq (good_num.seq (good_num.seq good_num))) (fun _ => rfl) (fun _ => rfl) (fun _ _ _ _ _ _ => rfl)
theorem good_mp : Good pMp gMp := by unfold pMp; exact Good.map (h := gMp) _ (fun f => (f.at_, f.lo, f.st)) (good_num.seq ((good_num.list 24).seq (good_num.list 24))) (fun _ => rfl) (fun _ => rfl) (fun _ _ _ _ _ _ => rfl)

theorem pMap_id {α : Type} (p : Prs α) : (fun s a => bnd (p s a) fun x b => (.ok (x, b) : Rr α)) = p := by
  funext s a
  cases p s a with
  | ok y => rfl
  | error y => rfl
theorem good_fl1 : Good pFl1 (fun b => [ptN (fl b 1)]) := by
  have G := good_flag 1
  rw [pMap_id] at G
  refine Good.map (fun x => decide (x % 2 = 1)) (fun b => fl b 1) G (fun y => by cases y <;> rfl) (fun y => by cases y <;> rfl) (fun s a x b ha hp => ?_)
  obtain ⟨_, _, _, h1, h2⟩ := pUp_ok hp
  rcases (show x = 0 ∨ x = 1 by omega) with rfl | rfl <;> rfl
theorem good_fl2 : Good pFl2 (fun b => [ptN (fl b.1 1 + fl b.2 2)]) := by
  have G := good_flag 3
  rw [pMap_id] at G
  refine Good.map (fun x => (decide (x % 2 = 1), decide (2 ≤ x))) (fun b => fl b.1 1 + fl b.2 2) G (fun y => by obtain ⟨y1, y2⟩ := y; cases y1 <;> cases y2 <;> rfl) (fun y => by obtain ⟨y1, y2⟩ := y; cases y1 <;> cases y2 <;> rfl) (fun s a x b ha hp => ?_)
  obtain ⟨_, _, _, h1, h2⟩ := pUp_ok hp
  rcases (show x = 0 ∨ x = 1 ∨ x = 2 ∨ x = 3 by omega) with rfl | rfl | rfl | rfl <;> rfl
theorem good_md : Good pMd gMd := by unfold pMd; exact Good.map (h := gMd) _ (fun f => (f.nm, f.stc, f.args, f.ret, f.lo, f.st, f.code, f.tab, f.maps)) (good_name.seq (good_fl1.seq ((good_num.list 8).seq (good_num.seq ((good_size 24).seq ((good_size 24).seq ((good_is.list 300).seq ((good_hd.list 16).seq (good_mp.list 64))))))))) (fun _ => rfl) (fun _ => rfl) (fun _ _ _ _ _ _ => rfl)
theorem good_cs : Good pCs gCs := by unfold pCs; exact Good.map (h := gCs) _ (fun f => (f.nm, (f.face, f.fin), f.sup, f.faces, f.flds, f.stcs, f.mds)) (good_name.seq (good_fl2.seq (good_num.seq ((good_num.list 8).seq ((good_fd.list 24).seq ((good_fd.list 24).seq (good_md.list 24))))))) (fun _ => rfl) (fun _ => rfl) (fun _ _ _ _ _ _ => rfl)
theorem good_pg : Good pPg gPg := by unfold pPg; exact Good.map (h := gPg) _ (fun f => (f.main, f.cls)) (good_num.seq (good_cs.list 40)) (fun _ => rfl) (fun _ => rfl) (fun _ _ _ _ _ _ => rfl)
end Go.Proofs.YtbbmgjcabmjjdaaGreatDoor
/- What is written is read as it was, and what is read is written as it stood; bytes cut short, bytes with more behind: plain. -/
namespace Go.Proofs.YtbbmgjcabmjjdaaGreatDoor
open Go.RowKit

theorem all_vl {l : List Pt} : l.all okC = true → l.all okT = true → l.all okN = true → vl l := by
  intro h1 h2 h3 p hp
  rw [List.all_eq_true] at h1 h2 h3
  unfold okP
  rw [h1 p hp, h2 p hp, h3 p hp]; rfl
theorem vl_all {l : List Pt} (h : vl l) : l.all okC = true ∧ l.all okT = true ∧ l.all okN = true := by
  have key : ∀ p ∈ l, okC p = true ∧ okT p = true ∧ okN p = true := fun p hp => by
    have := h p hp
    unfold okP at this
    simp at this
    exact ⟨this.1.1, this.1.2, this.2⟩
  simp only [List.all_eq_true]
  exact ⟨fun p hp => (key p hp).1, fun p hp => (key p hp).2.1, fun p hp => (key p hp).2.2⟩
theorem enc_ok {p : Pg} {b : ByteArray} (h : encP p = .ok b) : vl (gPg p) ∧ b.data.toList = mag ++ byts (gPg p) ∧ b.size ≤ 32768 := by
  unfold encP at h
  split at h
  · split at h
    · split at h
      · split at h
        · cases h
        · rename_i h1 h2 h3 h4
          cases h
          refine ⟨all_vl h1 h2 h3, rfl, ?_⟩
          show ((mag ++ byts (gPg p)).toArray).size ≤ _
          simp at h4 ⊢; omega
      · cases h
    · cases h
  · cases h
theorem enc_of {p : Pg} {b : ByteArray} (h1 : vl (gPg p)) (h2 : b.data.toList = mag ++ byts (gPg p)) (h3 : b.size ≤ 32768) : encP p = .ok b := by
  obtain ⟨a1, a2, a3⟩ := vl_all h1
  have hl : b.size = (mag ++ byts (gPg p)).length := by rw [← h2]; simp
  unfold encP
  rw [if_pos a1, if_pos a2, if_pos a3, if_neg (by omega)]
  congr 1
  apply bytes_ext
  rw [h2]

theorem from4 {s : ByteArray} {l : List UInt8} (h : s.data.toList = mag ++ l) : from_ s 4 = l ∧ s.data.toList.take 4 = mag ∧ 4 ≤ s.size := by
  refine ⟨by unfold from_; rw [h]; rfl, by rw [h]; rfl, ?_⟩
  have := congrArg List.length h
  simp [mag] at this; omega

theorem back_tail {p : Pg} {b s : ByteArray} {t : List UInt8} (h : encP p = .ok b) (hs : s.data.toList = b.data.toList ++ t) (hl : s.size ≤ 32768) : decP s = if t = [] then .ok p else .error (b.size, 1405) := by
  obtain ⟨h1, h2, h3⟩ := enc_ok h
  rw [h2, List.append_assoc] at hs
  obtain ⟨f1, f2, f3⟩ := from4 hs
  have hr := good_pg.rt s 4 p t f3 h1 f1
  have hb : b.size = 4 + (byts (gPg p)).length := by
    have := congrArg List.length h2; simp [mag] at this; omega
  have hsz : s.size = b.size + t.length := by
    have := congrArg List.length hs; simp [mag] at this; omega
  unfold decP
  rw [if_neg (by omega), if_pos f2, hr]
  show (if 4 + (byts (gPg p)).length < s.size then _ else _) = _
  by_cases ht : t = []
  · rw [if_pos ht, if_neg (by rw [ht] at hsz; simp at hsz; omega)]
  · have : t.length ≠ 0 := fun e => ht (List.length_eq_zero_iff.1 e)
    rw [if_neg ht, if_pos (by omega), hb]
theorem back_1 {p : Pg} {b : ByteArray} (h : encP p = .ok b) : decP b = .ok p := by
  have := back_tail (t := []) h (by simp) (enc_ok h).2.2
  rw [if_pos rfl] at this; exact this
theorem back_2 {s : ByteArray} {p : Pg} (h : decP s = .ok p) : encP p = .ok s := by
  unfold decP at h
  split at h
  · cases h
  · rename_i h0
    split at h
    · rename_i hm
      split at h
      · rename_i q b hp
        split at h
        · cases h
        · rename_i hb
          cases h
          have h4 : 4 ≤ s.size := by
            have := congrArg List.length hm
            rw [List.length_take] at this
            simp [mag] at this; omega
          obtain ⟨r1, r2, r3, r4⟩ := good_pg.back s 4 p b h4 hp
          refine enc_of r1 ?_ (by omega)
          have hbs : from_ s b = [] := from_nil _ _ (by omega)
          rw [hbs, List.append_nil] at r4
          rw [← r4, ← hm]
          unfold from_
          exact (List.take_append_drop 4 _).symm
      · cases h
    · cases h
theorem dec_err {s : ByteArray} {q : Nat} {c : Int} (h : decP s = .error (q, c)) : q ≤ s.size ∧ 1400 ≤ c := by
  unfold decP at h
  split at h
  · cases h; exact ⟨by omega, by decide⟩
  · split at h
    · rename_i hm
      have h4 : 4 ≤ s.size := by
        have := congrArg List.length hm
        rw [List.length_take] at this
        simp [mag] at this; omega
      split at h
      · rename_i q b hp
        split at h
        · cases h; exact ⟨by omega, by decide⟩
        · cases h
      · rename_i e hp
        cases h
        have := good_pg.err s 4 q c h4 hp
        exact ⟨this.1, by omega⟩
    · cases h; exact ⟨by omega, by decide⟩
theorem dec_cut {p : Pg} {b s : ByteArray} {t : List UInt8} (h : encP p = .ok b) (ht : t ≠ []) (hs : b.data.toList = s.data.toList ++ t) : (s.size < 4 → decP s = .error (0, 1400)) ∧ (4 ≤ s.size → ∃ q, decP s = .error (q, 1401) ∧ q ≤ s.size) := by
  obtain ⟨h1, h2, h3⟩ := enc_ok h
  have hsz : b.size = s.size + t.length := by
    have := congrArg List.length hs; simp at this; omega
  rw [h2] at hs
  refine ⟨fun hk => ?_, fun hk => ?_⟩
  · unfold decP
    rw [if_neg (by omega), if_neg]
    intro e
    have := congrArg List.length e
    rw [List.length_take] at this
    simp [mag] at this; omega
  · rcases cut_split hs with ⟨t', n1, e1⟩ | ⟨u, e1, e2⟩
    · have := congrArg List.length e1
      simp [mag] at this
      have : t'.length ≠ 0 := fun e => n1 (List.length_eq_zero_iff.1 e)
      omega
    · obtain ⟨f1, f2, f3⟩ := from4 e1
      obtain ⟨q, r1, r2⟩ := good_pg.cut s 4 p t hk h1 ht (by rw [f1]; exact e2)
      refine ⟨q, ?_, r2⟩
      unfold decP
      rw [if_neg (by omega), if_pos f2, r1]
theorem dec_magic {s : ByteArray} (h : s.size ≤ 32768) (hm : s.data.toList.take 4 ≠ mag) : decP s = .error (0, 1400) := by
  unfold decP
  rw [if_neg (by omega), if_neg hm]
end Go.Proofs.YtbbmgjcabmjjdaaGreatDoor
