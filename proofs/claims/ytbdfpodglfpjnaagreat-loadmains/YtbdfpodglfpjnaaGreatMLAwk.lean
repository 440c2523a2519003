/- awake: what every program answers that is one; back, refuses. -/
import Derived.Test.YtbdfpodglfpjnaaGreatMY6
import Derived.Test.YtbdfpodglfpjnaaGreatMLEnc4
import Derived.Laws.Strings
import Derived.Deep.RegionHeld3
import Derived.Deep.DeepCutAuto
namespace Go.Proofs.YtbdfpodglfpjnaaGreat
open Go.RowKit

def tinyB : ByteArray := match encP tinyP with | .ok b => b | .error _ => ⟨#[]⟩
theorem tiny_ok : encP tinyP = .ok tinyB := by kernel_rfl
theorem tiny_len : tinyB.size = 30 := by kernel_rfl
theorem take4 {s : ByteArray} (h : s.data.toList.take 4 = mag) : ((s.extract 0 4).toList == [71, 78, 83, 83]) = true := by
  have e : (s.extract 0 4).toList = s.data.toList.take 4 := by
    rw [ByteArray.toList_eq]
    have := ext_from s 0 4
    rw [Nat.zero_add] at this
    rw [this]; rfl
  rw [e, h]; rfl
theorem app_data (s t : ByteArray) : (s ++ t).data.toList = s.data.toList ++ t.data.toList := by
  show (ByteArray.append s t).data.toList = _
  rw [ByteArray.append_eq, ByteArray.data_append]; simp
theorem app_size (s t : ByteArray) : (s ++ t).size = s.size + t.size := by
  have h := congrArg List.length (app_data s t)
  rw [List.length_append, Array.length_toList, Array.length_toList, Array.length_toList] at h
  exact h
theorem tiny_tail : decP (tinyB ++ ⟨#[120]⟩) = .error (30, 1405) := by
  have := back_tail tiny_ok (s := tinyB ++ ⟨#[120]⟩) (t := [120]) (by rw [app_data]) (by rw [app_size, tiny_len]; decide)
  rw [this, tiny_len]; rfl
theorem tiny_gns : decP ⟨#[71, 78, 83]⟩ = .error (0, 1400) := dec_magic (by decide) (by decide)
/-- The program that was read lies in its box, and what stood before stands. -/
structure Aw (w : World) (b : Nat) (S : Nat → Prop) (p : Pg) (cs : Array Value) (u : World) : Prop where
  bel : Below w.heap.size w u
  prg : Bp u b S p cs
theorem Aw.next {w u u' : World} {b : Nat} {S : Nat → Prop} {p : Pg} {cs : Array Value} (h : Aw w b S p cs u) (hb : Below u.heap.size u u') : Aw w b S p cs u' := ⟨h.bel.trans (hb.mono h.bel.size), h.prg.below hb⟩
theorem Bp.c0 {u : World} {b : Nat} {S : Nat → Prop} {p : Pg} {a c : Value} (h : Bp u b S p #[a, c]) : u.cell? ⟨b, 0, none⟩ = some a ∧ u.cell? ⟨b, 1, none⟩ = some c := by
  have := h.box
  constructor <;> simp [World.cell?, this]
theorem tiny_at (w : World) : Calls Tryz.prog 20 #[] w fun e w' => ∃ ao cap S, e = .returned (.agg #[.int .i64 11, .slice ao 1 cap]) ∧ Below w.heap.size w w' ∧ kPg.R w' S tinyP [.int .i64 11, .slice ao 1 cap] ∧ (∀ k, S k → w.heap.size ≤ k ∧ k < w'.heap.size) := by
  refine (Tiny_any w).mono ?_
  rintro e w' ⟨hb, v, rfl, cs, hR, rfl⟩
  have hR2 := hR
  obtain ⟨v1, rfl, ao, cap, rfl, -⟩ := hR2
  exact ⟨ao, cap, _, rfl, hb, hR, fun k hk => hk⟩

end Go.Proofs.YtbdfpodglfpjnaaGreat
