/- The document's own reader: rows that are read one by one, whatever is read; list. -/
import Derived.Test.YtdgndglinkcdbaaDoorMGD0
import Derived.Test.YtdgndglinkcdbaaDoorMLGro
import Derived.Test.YtdgndglinkcdbaaDoorMY9
import Derived.Deep.AppendLies
import Derived.Test.YtdgndglinkcdbaaDoorMLLS
namespace Go.Proofs.YtdgndglinkcdbaaDoor
open Go.RowKit

theorem stp_seq {α β : Type} (p : Prs α) (q : Prs β) (s : ByteArray) (t : Stt) : (stp (pSeq p q) s t).1 = (stp q s (stp p s t).1).1 ∧ ∀ z, (stp (pSeq p q) s t).2 = some z → (stp p s t).2 = some z.1 ∧ (stp q s (stp p s t).1).2 = some z.2 := by
  cases t with
  | error e => exact ⟨rfl, fun z h => by cases h⟩
  | ok a =>
    rcases hp : p s a with e | ⟨x, b⟩
    · have h : pSeq p q s a = .error e := by unfold pSeq; rw [hp, bnd_err]
      rw [stp_err h, stp_err hp]; exact ⟨rfl, fun z h => by cases h⟩
    · rcases hq : q s b with e | ⟨y, c⟩
      · have h : pSeq p q s a = .error e := by unfold pSeq; rw [hp, bnd_ok, hq, bnd_err]
        rw [stp_err h, stp_ok hp]
        show _ = (stp q s (.ok b)).1 ∧ _
        rw [stp_err hq]; exact ⟨rfl, fun z h => by cases h⟩
      · have h : pSeq p q s a = .ok ((x, y), c) := by unfold pSeq; rw [hp, bnd_ok, hq, bnd_ok]
        rw [stp_ok h, stp_ok hp]
        show _ = (stp q s (.ok b)).1 ∧ ∀ z, _ → _ ∧ (stp q s (.ok b)).2 = _
        rw [stp_ok hq]
        exact ⟨rfl, fun z h => by cases h; exact ⟨rfl, rfl⟩⟩
theorem stp_map {α β : Type} (f : α → β) (p : Prs α) (s : ByteArray) (t : Stt) : (stp (pMap f p) s t).1 = (stp p s t).1 ∧ (stp (pMap f p) s t).2 = (stp p s t).2.map f := by
  cases t with
  | error e => exact ⟨rfl, rfl⟩
  | ok a =>
    rcases hp : p s a with e | ⟨x, b⟩
    · have h : pMap f p s a = .error e := by unfold pMap; rw [hp]; rfl
      rw [stp_err h, stp_err hp]; exact ⟨rfl, rfl⟩
    · have h : pMap f p s a = .ok (f x, b) := by unfold pMap; rw [hp]; rfl
      rw [stp_ok h, stp_ok hp]; exact ⟨rfl, rfl⟩

/-- What is still to be read makes T in the end. -/
def Rem {α : Type} (T : Stt × Option (List α)) (p : Prs α) (s : ByteArray) (rem : Nat) (xs : List α) (t : Stt) : Prop := match t with
  | .error e => T = (.error e, none)
  | .ok b => T = match pMany p rem s b with
    | .ok (ys, c) => (.ok c, some (xs ++ ys))
    | .error e => (.error e, none)
section
variable {α : Type} {p : Prs α} {s : ByteArray}
theorem Rem.start {most : Int} {t : Stt} {x : Int} (hx : ∀ y, (stp (pUp most 1404) s t).2 = some y → x = y) : Rem (stp (pList most p) s t) p s x.toNat [] (stp (pUp most 1404) s t).1 := by
  cases t with
  | error e => rfl
  | ok a =>
    rcases hu : pUp most 1404 s a with e | ⟨k, b⟩
    · rw [stp_err hu]
      show stp (pList most p) s (.ok a) = _
      exact stp_err (by unfold pList; rw [hu, bnd_err])
    · rw [stp_ok hu] at hx ⊢
      obtain rfl := hx k rfl
      show stp (pList most p) s (.ok a) = _
      rcases hm : pMany p x.toNat s b with e | ⟨ys, c⟩
      · exact stp_err (by unfold pList; rw [hu, bnd_ok, hm])
      · exact stp_ok (by unfold pList; rw [hu, bnd_ok, hm]; rfl)
theorem Rem.step {T : Stt × Option (List α)} {rem : Nat} {xs : List α} {b : Nat} (h : Rem T p s (rem + 1) xs (.ok b)) {x : α} (hx : ∀ y, (stp p s (.ok b)).2 = some y → x = y) : Rem T p s rem (xs ++ [x]) (stp p s (.ok b)).1 := by
  have h' : T = match pMany p (rem + 1) s b with
    | .ok (ys, c) => (.ok c, some (xs ++ ys))
    | .error e => (.error e, none) := h
  rw [pMany_succ] at h'
  rcases hp : p s b with e | ⟨y, c⟩
  · rw [hp, bnd_err] at h'
    rw [stp_err hp]; exact h'
  · rw [hp, bnd_ok] at h'
    rw [stp_ok hp] at hx ⊢
    obtain rfl := hx y rfl
    rcases hm : pMany p rem s c with e | ⟨ys, d⟩
    · rw [hm, bnd_err] at h'
      show T = match pMany p rem s c with
        | .ok (ys, c) => (.ok c, some (xs ++ [x] ++ ys))
        | .error e => (.error e, none)
      rw [hm]; exact h'
    · rw [hm, bnd_ok] at h'
      show T = match pMany p rem s c with
        | .ok (ys, c) => (.ok c, some (xs ++ [x] ++ ys))
        | .error e => (.error e, none)
      rw [hm]
      simpa using h'
theorem Rem.fin {T : Stt × Option (List α)} {xs : List α} {t : Stt} (h : Rem T p s 0 xs t) : T.1 = t ∧ ∀ ys, T.2 = some ys → xs = ys := by
  cases t with
  | error e =>
    have h' : T = (.error e, none) := h
    rw [h']; exact ⟨rfl, fun ys hy => by cases hy⟩
  | ok b =>
    have h' : T = (.ok b, some (xs ++ [])) := h
    rw [h', List.append_nil]; exact ⟨rfl, fun ys hy => Option.some.inj hy⟩
theorem Rem.dead {T : Stt × Option (List α)} {n : Nat} {xs : List α} {e : Nat × Int} (h : Rem T p s n xs (.error e)) : T.1 = .error e ∧ ∀ ys, T.2 = some ys → xs = ys := by
  have h' : T = (.error e, none) := h
  rw [h']; exact ⟨rfl, fun ys hy => by cases hy⟩
end

section
variable {α : Type} {K : Kd α} {T : TypeId} {Z : Stt × Option (List α)} {p : Prs α} {s : ByteArray} {rh : Nat} {w : World} {N i : Nat} {v : Value} {wr : World}
end
theorem up_bound {most ab : Int} {s : ByteArray} {t : Stt} {b : Nat} {x : Int} (h1 : (stp (pUp most ab) s t).1 = .ok b) (h2 : ∀ y, (stp (pUp most ab) s t).2 = some y → x = y) : 0 ≤ x ∧ x ≤ most := by
  cases t with
  | error e => cases h1
  | ok a =>
    rcases hu : pUp most ab s a with e | ⟨k, c⟩
    · rw [stp_err hu] at h1; cases h1
    · rw [stp_ok hu] at h2
      obtain rfl := h2 k rfl
      unfold pUp at hu
      rcases hp : pNum s a with e | ⟨y, d⟩
      · rw [hp, bnd_err] at hu; cases hu
      · rw [hp, bnd_ok] at hu
        split at hu
        · cases hu
        · split at hu
          · cases hu
          · cases hu; omega
end Go.Proofs.YtdgndglinkcdbaaDoor
/- The document's own reader: list. -/
namespace Go.Proofs.YtdgndglinkcdbaaDoor
open Go.RowKit

end Go.Proofs.YtdgndglinkcdbaaDoor
/- The document's own reader: code_. -/
namespace Go.Proofs.YtdgndglinkcdbaaDoor
open Go.RowKit

end Go.Proofs.YtdgndglinkcdbaaDoor
/- The document's own reader: fields. -/
namespace Go.Proofs.YtdgndglinkcdbaaDoor
open Go.RowKit

end Go.Proofs.YtdgndglinkcdbaaDoor
