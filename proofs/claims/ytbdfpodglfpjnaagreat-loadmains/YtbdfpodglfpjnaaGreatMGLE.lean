/- encode: a program's bytes, or the fault that is thrown. -/
import Derived.Test.YtbdfpodglfpjnaaGreatMLBld
import Derived.Test.YtbdfpodglfpjnaaGreatMGL0
namespace Go.Proofs.YtbdfpodglfpjnaaGreat
open Go.RowKit

theorem app_nil (p : Pt) : (#[ptV p] ++ #[] : Array Value) = #[ptV p] := by simp
theorem feed_chk (ok : Pt → Bool) (c : Int) (st : Unit → Pt → Except Int Unit) (hst : ∀ x p, st x p = if ok p = true then .ok () else .error c) : ∀ (l : List Pt), feed st l () = if l.all ok = true then .ok () else .error c
  | [] => rfl
  | p :: l => by
    show fbnd (st () p) (feed st l) = _
    rw [hst, List.all_cons]
    cases h : ok p
    · rfl
    · show feed st l () = _
      rw [feed_chk ok c st hst l]; simp

/-- The bytes so far, and one part more. -/
def stB (l : List UInt8) (p : Pt) : Except Int (List UInt8) := if 32768 < (l ++ bts p).length then .error 1406 else .ok (l ++ bts p)
theorem feed_B : ∀ (ps : List Pt) (l : List UInt8), l.length ≤ 32768 → feed stB ps l = if 32768 < (l ++ byts ps).length then .error 1406 else .ok (l ++ byts ps)
  | [], l, h => by
    rw [byts_nil, List.append_nil, if_neg (by omega)]; rfl
  | p :: ps, l, h => by
    show fbnd (stB l p) (feed stB ps) = _
    rw [byts_cons, ← List.append_assoc]
    unfold stB
    by_cases c : 32768 < (l ++ bts p).length
    · rw [if_pos c, if_pos (by simp at c ⊢; omega)]; rfl
    · rw [if_neg c]
      exact feed_B ps (l ++ bts p) (by omega)
theorem bts_eq1 {p : Pt} (h : p.kd = 1) : (⟨(bts p).toArray⟩ : ByteArray) = txtB p.nm := by
  unfold bts; rw [if_pos h]
theorem bts_eq0 {p : Pt} (h : p.kd ≠ 1) : (⟨(bts p).toArray⟩ : ByteArray) = putB p.nu := by
  unfold bts; rw [if_neg h]
end Go.Proofs.YtbdfpodglfpjnaaGreat
/- The visit that gathers the bytes; encode. -/
namespace Go.Proofs.YtbdfpodglfpjnaaGreat
open Go.RowKit

theorem bts_len {p : Pt} (hG : okP p = true) : p.nm.size ≤ 16 ∨ p.kd ≠ 1 := by
  by_cases h : p.kd = 1
  · left
    unfold okP okT at hG
    simp [h] at hG
    exact (isNm_size hG.1.2).2
  · exact .inr h
theorem bts_short {p : Pt} (hG : okP p = true) : (bts p).length ≤ 21 := by
  unfold bts
  split
  · rename_i h
    rcases bts_len hG with q | q
    · have := putB_size (p.nm.size : Int)
      show (txtB p.nm).data.toList.length ≤ 21
      unfold txtB
      rw [ByteArray.data_append]
      simp
      have e1 : (putB (p.nm.size : Int)).data.size = (putB (p.nm.size : Int)).size := rfl
      have e2 : p.nm.data.size = p.nm.size := rfl
      omega
    · exact absurd h q
  · have := putB_size p.nu
    show (putB p.nu).data.toList.length ≤ 21
    have e1 : (putB p.nu).data.size = (putB p.nu).size := rfl
    simp; omega
theorem strCells_bts (l : List UInt8) : Lib.strCells ⟨l.toArray⟩ = Lib.byteCells l := by
  simp [Lib.strCells, Lib.byteCells]

/-- What encode answers. -/
def EcP (p : Pg) (w : World) (e : Ending) (w' : World) : Prop := Below w.heap.size w w' ∧ match encP p with
  | .ok b => e = .returned (.string b)
  | .error c => e = Flt 0 c
theorem EcP.err {p : Pg} {w w' : World} {c : Int} (h : encP p = .error c) (hb : Below w.heap.size w w') : EcP p w (Flt 0 c) w' := by
  unfold EcP; rw [h]; exact ⟨hb, rfl⟩
end Go.Proofs.YtbdfpodglfpjnaaGreat
