/- LoadTypes. -/
import Derived.Test.YtbdfpodglfpjnaaGreatMQTyw0
import Derived.Test.YtbdfpodglfpjnaaGreatMQTyw1
import Derived.Test.YtbdfpodglfpjnaaGreatMQTyw2
import Derived.Test.YtbdfpodglfpjnaaGreatMQTyw3
namespace Go.Proofs.YtbdfpodglfpjnaaGreat
open Go.RowKit

theorem types_walk (n t : Int) (w : World) : Calls Tryz.prog 6 #[.int .i64 n, .int .i64 t] w fun e w' => e = .returned (.bool true) ∧ Below w.heap.size w w' := by
  obtain ⟨k, hk⟩ : ∃ k, t.tmod 40 = k := ⟨_, rfl⟩
  have hb := tmod_bd t 40 (by decide)
  rw [hk] at hb
  have hT : ∀ v, v < 4 → Okl (typP v k) ∧ loadJ (typP v k) = if (typF v k).1 = 0 then .ok (allJ (typP v k)) else .error (typF v k) := fun v hv => ⟨(typ_at v hv k hb.1 hb.2).1, load_of (typ_at v hv k hb.1 hb.2).2⟩
  have e1 : ∀ x : Int, (k == x) = decide (k = x) := fun x => by by_cases h : k = x <;> simp [h]
  rcases masked3 n with h | h | h | h
  · have q := hT 0 (by decide)
    by_cases f : fineT 0 k = true
    · refine types_0y n t k h hk (by rw [q.2]; simp [typF, f]) q.1 ?_ w
      simp [fineT] at f
      simp only [beq_iff_eq, beq_eq_false_iff_ne, decide_eq_true_eq, ne_eq]
      omega
    · refine types_0n n t k h hk (by rw [q.2]; simp [typF, f]) q.1 ?_ w
      simp [fineT] at f
      simp only [beq_eq_false_iff_ne, decide_eq_true_eq, decide_eq_false_iff_not, ne_eq]
      omega
  · have q := hT 1 (by decide)
    by_cases f : fineT 1 k = true
    · refine types_1y n t k h hk (by rw [q.2]; simp [typF, f]) q.1 ?_ w
      simp [fineT] at f
      simp only [beq_iff_eq, beq_eq_false_iff_ne, decide_eq_true_eq, ne_eq]
      omega
    · refine types_1n n t k h hk (by rw [q.2]; simp [typF, f]) q.1 ?_ w
      simp [fineT] at f
      simp only [beq_eq_false_iff_ne, decide_eq_true_eq, decide_eq_false_iff_not, ne_eq]
      omega
  · have q := hT 2 (by decide)
    by_cases f : fineT 2 k = true
    · refine types_2y n t k h hk (by rw [q.2]; simp [typF, f]) q.1 ?_ w
      simp [fineT] at f
      simp only [beq_iff_eq, beq_eq_false_iff_ne, decide_eq_true_eq, ne_eq]
      omega
    · refine types_2n n t k h hk (by rw [q.2]; simp [typF, f]) q.1 ?_ w
      simp [fineT] at f
      simp only [beq_eq_false_iff_ne, decide_eq_true_eq, decide_eq_false_iff_not, ne_eq]
      omega
  · have q := hT 3 (by decide)
    by_cases f : fineT 3 k = true
    · refine types_3y n t k h hk (by rw [q.2]; simp [typF, f]) q.1 ?_ w
      simp [fineT] at f
      simp only [beq_iff_eq, beq_eq_false_iff_ne, decide_eq_true_eq, decide_eq_false_iff_not, ne_eq]
      omega
    · refine types_3n n t k h hk (by rw [q.2]; simp [typF, f]) q.1 ?_ w
      simp [fineT] at f
      simp only [beq_eq_false_iff_ne, decide_eq_true_eq, decide_eq_false_iff_not, ne_eq]
      omega
end Go.Proofs.YtbdfpodglfpjnaaGreat
