/- Reading a program. -/
import Derived.Test.YtbbmgjcabmjjdaaGreatDoorMY3
import Derived.Deep.DeepCutAuto
import Derived.Deep.LoopGhost
import Derived.Deep.AppendLies
namespace Go.Proofs.YtbbmgjcabmjjdaaGreatDoor
open Go.RowKit

/-- Alive at a place, or the first fault. -/
abbrev Stt := Except (Nat × Int) Nat
/-- What a reader makes of a state: the next one, and what was read if it was. -/
def stp {α : Type} (p : Prs α) (s : ByteArray) (t : Stt) : Stt × Option α := match t with
  | .error e => (.error e, none)
  | .ok a => match p s a with
    | .ok (x, b) => (.ok b, some x)
    | .error e => (.error e, none)
theorem stp_dead {α : Type} (p : Prs α) (s : ByteArray) (e : Nat × Int) : stp p s (.error e) = (.error e, none) := rfl
theorem stp_ok {α : Type} {p : Prs α} {s : ByteArray} {a : Nat} {x : α} {b : Nat} (h : p s a = .ok (x, b)) : stp p s (.ok a) = (.ok b, some x) := by simp only [stp, h]
theorem stp_err {α : Type} {p : Prs α} {s : ByteArray} {a : Nat} {e : Nat × Int} (h : p s a = .error e) : stp p s (.ok a) = (.error e, none) := by simp only [stp, h]
section
variable {w : World} {rh : Nat} {s : ByteArray} {a : Nat} {c q : Int}
end
theorem gC_codes (s : ByteArray) (a : Int) : gC s a = 0 ∨ gC s a = 200 ∨ gC s a = 201 := by
  unfold gC
  split
  · exact .inr (.inl rfl)
  · have key : ∀ (l : List UInt8) (i z : Nat), (rd l i z).2.2 = 0 ∨ (rd l i z).2.2 = 200 ∨ (rd l i z).2.2 = 201 := by
      intro l
      induction l with
      | nil => intro i z; exact .inr (.inl rfl)
      | cons c l ih =>
        intro i z
        rw [rd]
        split
        · exact .inr (.inr rfl)
        · split
          · exact .inl rfl
          · exact ih _ _
    exact key _ _ _
theorem ofW_200 : ofW 200 = 1401 := rfl
theorem ofW_201 : ofW 201 = 1402 := rfl
theorem ofW_202 : ofW 202 = 1403 := rfl

end Go.Proofs.YtbbmgjcabmjjdaaGreatDoor
/- The document's own reader: ranged, Name, name. -/
namespace Go.Proofs.YtbbmgjcabmjjdaaGreatDoor
open Go.RowKit

theorem L_not_D {c : UInt8} (h : isL c = true) : isD c = false := by
  unfold isL at h
  unfold isD
  simp at h ⊢
  omega
def okTo (s : ByteArray) (k : Nat) : Prop := ∀ j (h : j < s.size), j < k → (isL s[j] || (decide (0 < j) && isD s[j])) = true
theorem nm_yes {s : ByteArray} (h1 : 0 < s.size) (h2 : s.size ≤ 16) (h : okTo s s.size) : isNm s = true := by
  have h0 := h 0 h1 h1
  simp at h0
  rw [isNm_rest h1 h2 (L_not_D h0)]
  refine all_yes fun j hj hlt => ?_
  have := h j hj hlt
  cases hl : isL s[j]
  · rw [hl] at this; simp at this; rw [this.2]; rfl
  · rfl
theorem nm_no {s : ByteArray} {k : Nat} (h1 : 0 < s.size) (h2 : s.size ≤ 16) (hk : k < s.size) (hl : isL s[k] = false) (h : k = 0 ∨ isD s[k] = false) : isNm s = false := by
  by_cases h3 : isD s[0] = true
  · exact isNm_digit h1 h3
  · have h3' : isD s[0] = false := by simpa using h3
    rw [isNm_rest h1 h2 h3']
    refine all_no hk ?_
    rcases h with rfl | h
    · rw [hl, h3']; rfl
    · rw [hl, h]; rfl
end Go.Proofs.YtbbmgjcabmjjdaaGreatDoor
/- The document's own reader: ranged, with the bounds of what it answers. -/
namespace Go.Proofs.YtbbmgjcabmjjdaaGreatDoor
open Go.RowKit

def vB (most : Int) (x : Int) (v : Value) (_ : World) : Prop := v = .int .i64 x ∧ (0 ≤ most → 0 ≤ x ∧ x ≤ most)
end Go.Proofs.YtbbmgjcabmjjdaaGreatDoor
/- The document's own reader: name. -/
namespace Go.Proofs.YtbbmgjcabmjjdaaGreatDoor
open Go.RowKit

theorem tC_codes (s : ByteArray) (a : Int) : tC s a 16 = 0 ∨ tC s a 16 = 200 ∨ tC s a 16 = 201 ∨ tC s a 16 = 202 := by
  rcases gC_codes s a with g | g | g
  · by_cases h1 : gN s a < 0 ∨ (16 : Int) < gN s a
    · exact .inr (.inr (.inr (t_long g h1).1))
    · by_cases h2 : (s.size : Int) - gT s a < gN s a
      · exact .inr (.inl (t_cut g h1 h2).1)
      · exact .inl (t_ok g h1 h2).1
  · have h : gC s a ≠ 0 := by rw [g]; decide
    exact .inr (.inl ((t_err h).1.trans g))
  · have h : gC s a ≠ 0 := by rw [g]; decide
    exact .inr (.inr (.inl ((t_err h).1.trans g)))
theorem tT_le {s : ByteArray} {a : Nat} (ha : a ≤ s.size) (h : tC s a 16 = 0) : (tT s a 16).toNat ≤ s.size := by
  have g0 : gC s a = 0 := by
    apply Classical.byContradiction; intro h'
    rw [(t_err (most := 16) h').1] at h; exact h' h
  have g1 : ¬ (gN s a < 0 ∨ (16 : Int) < gN s a) := by
    intro h'; rw [(t_long g0 h').1] at h; cases h
  have g2 : ¬ (s.size : Int) - gT s a < gN s a := by
    intro h'; rw [(t_cut g0 g1 h').1] at h; cases h
  obtain ⟨_, _, t3⟩ := t_ok g0 g1 g2
  rw [t3]; omega
end Go.Proofs.YtbbmgjcabmjjdaaGreatDoor
namespace Go.Proofs.YtbbmgjcabmjjdaaGreatDoor
open Go.RowKit

theorem infoLS : (Tryz.prog.info? 24).map (fun i => (i.zero, i.size, i.bytes)) = some (some (.agg #[.int .i64 0, .int .i64 0, .int .i64 0]), 3, 24) := by kernel_rfl

end Go.Proofs.YtbbmgjcabmjjdaaGreatDoor
namespace Go.Proofs.YtbbmgjcabmjjdaaGreatDoor
open Go.RowKit

theorem stp_seq {α β : Type} (p : Prs α) (q : Prs β) (s : ByteArray) (t : Stt) : (stp (pSeq p q) s t).1 = (stp q s (stp p s t).1).1 ∧ ∀ z, (stp (pSeq p q) s t).2 = some z → (stp p s t).2 = some z.1 ∧ (stp q s (stp p s t).1).2 = some z.2 := by
  cases t with
  | error e => exact ⟨rfl, fun z h => by cases h⟩
  | ok a =>
    rcases hp : p s a with e | ⟨x, b⟩
    · have h : pSeq p q s a = .error e := by unfold pSeq; rw [hp, bnd_err]
      rw [stp_err h, stp_err hp]; exact ⟨rfl, fun z h => by cases h⟩
    · rcases hq : q s b with e | ⟨y, c⟩
      · have h : pSeq p q s a = .error e := by unfold pSeq; rw [hp, bnd_ok, hq, bnd_err]
        rw [stp_err h, stp_ok hp]
        show _ = (stp q s (.ok b)).1 ∧ _
        rw [stp_err hq]; exact ⟨rfl, fun z h => by cases h⟩
      · have h : pSeq p q s a = .ok ((x, y), c) := by unfold pSeq; rw [hp, bnd_ok, hq, bnd_ok]
        rw [stp_ok h, stp_ok hp]
        show _ = (stp q s (.ok b)).1 ∧ ∀ z, _ → _ ∧ (stp q s (.ok b)).2 = _
        rw [stp_ok hq]
        exact ⟨rfl, fun z h => by cases h; exact ⟨rfl, rfl⟩⟩
theorem stp_map {α β : Type} (f : α → β) (p : Prs α) (s : ByteArray) (t : Stt) : (stp (pMap f p) s t).1 = (stp p s t).1 ∧ (stp (pMap f p) s t).2 = (stp p s t).2.map f := by
  cases t with
  | error e => exact ⟨rfl, rfl⟩
  | ok a =>
    rcases hp : p s a with e | ⟨x, b⟩
    · have h : pMap f p s a = .error e := by unfold pMap; rw [hp]; rfl
      rw [stp_err h, stp_err hp]; exact ⟨rfl, rfl⟩
    · have h : pMap f p s a = .ok (f x, b) := by unfold pMap; rw [hp]; rfl
      rw [stp_ok h, stp_ok hp]; exact ⟨rfl, rfl⟩

/-- What is still to be read makes T in the end. -/
def Rem {α : Type} (T : Stt × Option (List α)) (p : Prs α) (s : ByteArray) (rem : Nat) (xs : List α) (t : Stt) : Prop := match t with
  | .error e => T = (.error e, none)
  | .ok b => T = match pMany p rem s b with
    | .ok (ys, c) => (.ok c, some (xs ++ ys))
    | .error e => (.error e, none)
section
variable {α : Type} {p : Prs α} {s : ByteArray}
theorem Rem.start {most : Int} {t : Stt} {x : Int} (hx : ∀ y, (stp (pUp most 1404) s t).2 = some y → x = y) : Rem (stp (pList most p) s t) p s x.toNat [] (stp (pUp most 1404) s t).1 := by
  cases t with
  | error e => rfl
  | ok a =>
    rcases hu : pUp most 1404 s a with e | ⟨k, b⟩
    · rw [stp_err hu]
      show stp (pList most p) s (.ok a) = _
      exact stp_err (by unfold pList; rw [hu, bnd_err])
    · rw [stp_ok hu] at hx ⊢
      obtain rfl := hx k rfl
      show stp (pList most p) s (.ok a) = _
      rcases hm : pMany p x.toNat s b with e | ⟨ys, c⟩
      · exact stp_err (by unfold pList; rw [hu, bnd_ok, hm])
      · exact stp_ok (by unfold pList; rw [hu, bnd_ok, hm]; rfl)
theorem Rem.step {T : Stt × Option (List α)} {rem : Nat} {xs : List α} {b : Nat} (h : Rem T p s (rem + 1) xs (.ok b)) {x : α} (hx : ∀ y, (stp p s (.ok b)).2 = some y → x = y) : Rem T p s rem (xs ++ [x]) (stp p s (.ok b)).1 := by
  have h' : T = match pMany p (rem + 1) s b with
    | .ok (ys, c) => (.ok c, some (xs ++ ys))
    | .error e => (.error e, none) := h
  rw [pMany_succ] at h'
  rcases hp : p s b with e | ⟨y, c⟩
  · rw [hp, bnd_err] at h'
    rw [stp_err hp]; exact h'
  · rw [hp, bnd_ok] at h'
    rw [stp_ok hp] at hx ⊢
    obtain rfl := hx y rfl
    rcases hm : pMany p rem s c with e | ⟨ys, d⟩
    · rw [hm, bnd_err] at h'
      show T = match pMany p rem s c with
        | .ok (ys, c) => (.ok c, some (xs ++ [x] ++ ys))
        | .error e => (.error e, none)
      rw [hm]; exact h'
    · rw [hm, bnd_ok] at h'
      show T = match pMany p rem s c with
        | .ok (ys, c) => (.ok c, some (xs ++ [x] ++ ys))
        | .error e => (.error e, none)
      rw [hm]
      simpa using h'
theorem Rem.fin {T : Stt × Option (List α)} {xs : List α} {t : Stt} (h : Rem T p s 0 xs t) : T.1 = t ∧ ∀ ys, T.2 = some ys → xs = ys := by
  cases t with
  | error e =>
    have h' : T = (.error e, none) := h
    rw [h']; exact ⟨rfl, fun ys hy => by cases hy⟩
  | ok b =>
    have h' : T = (.ok b, some (xs ++ [])) := h
    rw [h', List.append_nil]; exact ⟨rfl, fun ys hy => Option.some.inj hy⟩
theorem Rem.dead {T : Stt × Option (List α)} {n : Nat} {xs : List α} {e : Nat × Int} (h : Rem T p s n xs (.error e)) : T.1 = .error e ∧ ∀ ys, T.2 = some ys → xs = ys := by
  have h' : T = (.error e, none) := h
  rw [h']; exact ⟨rfl, fun ys hy => by cases hy⟩
end

section
variable {α : Type} {K : Kd α} {T : TypeId} {Z : Stt × Option (List α)} {p : Prs α} {s : ByteArray} {rh : Nat} {w : World} {N i : Nat} {v : Value} {wr : World}
end
theorem up_bound {most ab : Int} {s : ByteArray} {t : Stt} {b : Nat} {x : Int} (h1 : (stp (pUp most ab) s t).1 = .ok b) (h2 : ∀ y, (stp (pUp most ab) s t).2 = some y → x = y) : 0 ≤ x ∧ x ≤ most := by
  cases t with
  | error e => cases h1
  | ok a =>
    rcases hu : pUp most ab s a with e | ⟨k, c⟩
    · rw [stp_err hu] at h1; cases h1
    · rw [stp_ok hu] at h2
      obtain rfl := h2 k rfl
      unfold pUp at hu
      rcases hp : pNum s a with e | ⟨y, d⟩
      · rw [hp, bnd_err] at hu; cases hu
      · rw [hp, bnd_ok] at hu
        split at hu
        · cases hu
        · split at hu
          · cases hu
          · cases hu; omega
end Go.Proofs.YtbbmgjcabmjjdaaGreatDoor
/- The document's own reader: list. -/
namespace Go.Proofs.YtbbmgjcabmjjdaaGreatDoor
open Go.RowKit

end Go.Proofs.YtbbmgjcabmjjdaaGreatDoor
/- The document's own reader: code_. -/
namespace Go.Proofs.YtbbmgjcabmjjdaaGreatDoor
open Go.RowKit

end Go.Proofs.YtbbmgjcabmjjdaaGreatDoor
/- The document's own reader: fields. -/
namespace Go.Proofs.YtbbmgjcabmjjdaaGreatDoor
open Go.RowKit

end Go.Proofs.YtbbmgjcabmjjdaaGreatDoor
namespace Go.Proofs.YtbbmgjcabmjjdaaGreatDoor
open Go.RowKit

theorem infoLH : (Tryz.prog.info? 216).map (fun i => (i.zero, i.size, i.bytes)) = some (some (.agg #[.int .i64 0, .int .i64 0, .int .i64 0, .int .i64 0]), 4, 32) := by kernel_rfl

end Go.Proofs.YtbbmgjcabmjjdaaGreatDoor
namespace Go.Proofs.YtbbmgjcabmjjdaaGreatDoor
open Go.RowKit

theorem infoRMp : (Tryz.prog.info? 218).map (·.size) = some 3 := by kernel_rfl
theorem pMp_eq (s : ByteArray) (a : Nat) : pMp s a = bnd (pNum s a) fun x1 b1 => bnd (pList 24 pNum s b1) fun x2 b2 => bnd (pList 24 pNum s b2) fun x3 b3 => .ok (⟨x1, x2, x3⟩, b3) := by
  unfold pMp
  simp only [pMap, pSeq, bnd_assoc, bnd_ok]

end Go.Proofs.YtbbmgjcabmjjdaaGreatDoor
namespace Go.Proofs.YtbbmgjcabmjjdaaGreatDoor
open Go.RowKit

theorem infoLP : (Tryz.prog.info? 218).map (fun i => (i.zero, i.size, i.bytes)) = some (some (.agg #[.int .i64 0, .slice none 0 0, .slice none 0 0]), 3, 56) := by kernel_rfl

end Go.Proofs.YtbbmgjcabmjjdaaGreatDoor
namespace Go.Proofs.YtbbmgjcabmjjdaaGreatDoor
open Go.RowKit

theorem infoRMd : (Tryz.prog.info? 30).map (·.size) = some 9 := by kernel_rfl
theorem pMd_eq (s : ByteArray) (a : Nat) : pMd s a = bnd (pName s a) fun x1 b1 => bnd (pUp 1 1402 s b1) fun y2 b2 => bnd (pList 8 pNum s b2) fun x3 b3 => bnd (pNum s b3) fun x4 b4 => bnd (pUp 24 1402 s b4) fun x5 b5 => bnd (pUp 24 1402 s b5) fun x6 b6 => bnd (pList 300 pIs s b6) fun x7 b7 => bnd (pList 16 pHd s b7) fun x8 b8 => bnd (pList 64 pMp s b8) fun x9 b9 => .ok (⟨x1, decide (y2 % 2 = 1), x3, x4, x5, x6, x7, x8, x9⟩, b9) := by
  unfold pMd pFl1
  simp only [pMap, pSeq, bnd_assoc, bnd_ok]

end Go.Proofs.YtbbmgjcabmjjdaaGreatDoor
namespace Go.Proofs.YtbbmgjcabmjjdaaGreatDoor
open Go.RowKit

theorem infoLM : (Tryz.prog.info? 30).map (fun i => (i.zero, i.size, i.bytes)) = some (some (.agg #[.string ⟨#[]⟩, .bool false, .slice none 0 0, .int .i64 0, .int .i64 0, .int .i64 0, .slice none 0 0, .slice none 0 0, .slice none 0 0]), 9, 144) := by kernel_rfl

end Go.Proofs.YtbbmgjcabmjjdaaGreatDoor
namespace Go.Proofs.YtbbmgjcabmjjdaaGreatDoor
open Go.RowKit

theorem infoRCs : (Tryz.prog.info? 34).map (·.size) = some 8 := by kernel_rfl
theorem pCs_eq (s : ByteArray) (a : Nat) : pCs s a = bnd (pName s a) fun x1 b1 => bnd (pUp 3 1402 s b1) fun y2 b2 => bnd (pNum s b2) fun x3 b3 => bnd (pList 8 pNum s b3) fun x4 b4 => bnd (pList 24 pFd s b4) fun x5 b5 => bnd (pList 24 pFd s b5) fun x6 b6 => bnd (pList 24 pMd s b6) fun x7 b7 => .ok (⟨x1, decide (y2 % 2 = 1), decide (2 ≤ y2), x3, x4, x5, x6, x7⟩, b7) := by
  unfold pCs pFl2
  simp only [pMap, pSeq, bnd_assoc, bnd_ok]

end Go.Proofs.YtbbmgjcabmjjdaaGreatDoor
namespace Go.Proofs.YtbbmgjcabmjjdaaGreatDoor
open Go.RowKit

theorem infoLC : (Tryz.prog.info? 34).map (fun i => (i.zero, i.size, i.bytes)) = some (some (.agg #[.string ⟨#[]⟩, .bool false, .bool false, .int .i64 0, .slice none 0 0, .slice none 0 0, .slice none 0 0, .slice none 0 0]), 8, 128) := by kernel_rfl

end Go.Proofs.YtbbmgjcabmjjdaaGreatDoor
namespace Go.Proofs.YtbbmgjcabmjjdaaGreatDoor
open Go.RowKit

theorem infoRPg : (Tryz.prog.info? 37).map (·.size) = some 2 := by kernel_rfl
theorem pPg_eq (s : ByteArray) (a : Nat) : pPg s a = bnd (pNum s a) fun x1 b1 => bnd (pList 40 pCs s b1) fun x2 b2 => .ok (⟨x1, x2⟩, b2) := by
  unfold pPg
  simp only [pMap, pSeq, bnd_assoc, bnd_ok]

end Go.Proofs.YtbbmgjcabmjjdaaGreatDoor
