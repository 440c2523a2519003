/- Waiters: a row of visits; one less. -/
import Derived.Test.YtdkbdmlodngneaaMNKey
import Derived.Test.YtdkbdmlodngneaaMHKey
namespace Go.Proofs.Ytdkbdmlodngneaa
open Go.RowKit
theorem infoVz : (Try.prog.info? 53).map (fun i => (i.zero, i.size, i.bytes)) = some (some (.agg #[.int .i64 0, .int .i64 0]), 2, 16) := by kernel_rfl
theorem zeroV (w : World) (t ty : TypeId) (ht : Try.prog.underlying t = some (.slice 53)) (b o c : Nat)
    (hc : ∀ j, j < 2 → (w.cell? ⟨b, o + j, none⟩).isSome = true) (hf : ∀ j, j < 2 → w.frozen? ⟨b, o + j, none⟩ = false) :
    (Builtin.clear_ #[t] ty #[.slice (some ⟨b, o, none⟩) 1 c]).run Try.prog w = .ok (.tuple #[]) (w.setCells b o [.int .i64 0, .int .i64 0]) := by
  have hz : ∀ w, (zeroValue 53).run Try.prog w = .ok (.agg #[.int .i64 0, .int .i64 0]) w := fun w => by kernel_rfl
  have hst := run_storeCells_cells (P := Try.prog) b o [.int .i64 0, .int .i64 0] 0 w (by simpa using hc) (by simpa using hf) (by simp [Value.oneCell'])
  simp only [Nat.add_zero] at hst
  have hzc : (Builtin.zeroCells (Value.agg #[.int .i64 0, .int .i64 0]).cells 1).toList = [.int .i64 0, .int .i64 0] := by kernel_rfl
  simp [Builtin.clear_, run_underlying ht, hz, hzc, hst]
set_option maxRecDepth 20000 in
set_option maxHeartbeats 2000000 in
theorem deleteV_ok {w : World} {B p cap n : Nat} {R : List (List Value)} (h : Rs w B 53 2 (.slice (some ⟨p, 0, none⟩) n cap) R) (h1 : ∀ r ∈ R, ∀ u ∈ r, u.oneCell' = true) (i : Nat) (J : Int) (hi : i < n) (hJ : J = (i : Int) + 1) :
    Calls Try.prog 24 #[.slice (some ⟨p, 0, none⟩) n cap, .int .i64 i, .int .i64 J] w fun e w' => e = .returned (.slice (some ⟨p, 0, none⟩) (n - 1) cap) ∧ Rs w' B 53 2 (.slice (some ⟨p, 0, none⟩) (n - 1) cap) (R.eraseIdx i) ∧ w.grownBy w' (some p) := by
  obtain ⟨hn, hcap, hm, hBp, F, hR, hF⟩ := h.row
  have hlen2 := h.len
  obtain ⟨j, hj⟩ : ∃ j : Nat, j = i + 1 := ⟨_, rfl⟩
  have hJ' : J = (j : Int) := by omega
  subst hJ'
  have hjn : j ≤ n := by omega
  clear hJ
  obtain ⟨i0, hi0, hzz⟩ := Option.map_eq_some_iff.1 infoVz
  simp only [Prod.mk.injEq] at hzz
  obtain ⟨_, hz1, _⟩ := hzz
  obtain ⟨news, hnews⟩ : ∃ news, news = (R.drop j).flatten := ⟨_, rfl⟩
  have hlen : news.length = (n - j) * 2 := by rw [hnews, flat_len _ (fun r hr => hlen2 r (List.mem_of_mem_drop hr)), List.length_drop, hn]
  have hget : ∀ t, t < (n - j) * 2 → news[t]? = some (F (j * 2 + t)) := by
    intro t ht
    rw [hnews, drop_flat hlen2 j t (by omega)]
    exact hF _ (by omega)
  obtain ⟨A, hA, hsrc⟩ : ∃ A : Addr, (if cap = j then some (⟨p, 0, none⟩ : Addr) else some ⟨p, j * 2, none⟩) = some A ∧ Hid (∀ t u, news[t]? = some u → w.drew.cell? (A.add t) = some u) := by
    by_cases hcj : cap = j
    · refine ⟨⟨p, 0, none⟩, by simp [hcj], fun t u hu => ?_⟩
      have h0 : news.length = 0 := by rw [hlen]; omega
      rw [List.length_eq_zero_iff.1 h0] at hu
      simp at hu
    · refine ⟨⟨p, j * 2, none⟩, by simp [hcj], fun t u hu => ?_⟩
      have ht : t < (n - j) * 2 := by
        have := (List.getElem?_eq_some_iff.1 hu).1
        rwa [hlen] at this
      rw [hget t ht] at hu
      rw [add_lit]
      exact (hR.cell (by omega)).trans hu
  have s1 : Hid (news.length = (n - j) * 2) := hlen
  have s2 : Hid (∀ u ∈ news, u.oneCell' = true) := fun u hu => by
    rw [hnews] at hu
    obtain ⟨r, hr, hur⟩ := List.mem_flatten.1 hu
    exact h1 r (List.mem_of_mem_drop hr) u hur
  have s3 : Hid (∀ t, t < news.length → (w.drew.cell? ⟨p, 0 + i * 2 + t, none⟩).isSome = true ∧ w.drew.frozen? ⟨p, 0 + i * 2 + t, none⟩ = false) := by
    intro t ht
    rw [hlen] at ht
    rw [Nat.zero_add]
    exact ⟨by show (w.cell? _).isSome = true; rw [hR.cell (by omega)]; rfl, hR.frozen _⟩
  obtain ⟨W1, hW1⟩ : ∃ W1, W1 = w.drew.setCells p (0 + i * 2) news := ⟨_, rfl⟩
  have hR1 := Go.rowIs_setCells news (0 + i * 2) w.drew F hR.drew
  rw [← hW1] at hR1
  have hcl : ∀ ty, (Builtin.clear_ #[42] ty #[.slice (some ⟨p, (i + (n - j)) * 2, none⟩) (n - (i + (n - j))) (cap - (i + (n - j)))]).run Try.prog W1 = .ok (.tuple #[]) (W1.setCells p ((i + (n - j)) * 2) [.int .i64 0, .int .i64 0]) := by
    intro ty
    rw [show n - (i + (n - j)) = 1 by omega]
    exact zeroV W1 _ ty Try.underlying42 p _ _ (fun t ht => by rw [hR1.cell (by omega)]; rfl) (fun t _ => hR1.frozen _)
  have hfin : Hid (Rs (W1.setCells p ((i + (n - j)) * 2) [.int .i64 0, .int .i64 0]) B 53 2 (.slice (some ⟨p, 0, none⟩) (n - 1) cap) (R.eraseIdx i) ∧ w.grownBy (W1.setCells p ((i + (n - j)) * 2) [.int .i64 0, .int .i64 0]) (some p)) := by
    constructor
    · have hR2 := Go.rowIs_setCells [.int .i64 0, .int .i64 0] ((i + (n - j)) * 2) W1 _ hR1
      have hel : (R.eraseIdx i).length = n - 1 := by rw [List.length_eraseIdx, if_pos (by omega), hn]
      have := Rs.of_row (B := B) (R := R.eraseIdx i) hR2 (by omega) (by omega) hm (fun r hr => hlen2 r (List.mem_of_mem_eraseIdx hr)) (fun t ht => by
        rw [hel] at ht
        rw [if_neg (by omega), erase_flat hlen2 i (by omega) F hF t (by omega), hnews, hj]
        simp only [Nat.zero_add])
      rw [hel] at this
      exact this
    · have g1 : w.grownBy W1 (some p) := by
        have := setCells_grown w.drew p (0 + i * 2) news
        rw [← hW1] at this
        exact ⟨this.os, this.tape, this.output, this.size, this.block⟩
      have g2 := setCells_grown W1 p ((i + (n - j)) * 2) [.int .i64 0, .int .i64 0]
      exact ⟨g2.os.trans g1.os, g2.tape.trans g1.tape, g2.output.trans g1.output, Nat.le_trans g1.size g2.size, fun k hk e => (g2.block k (Nat.lt_of_lt_of_le hk g1.size) e).trans (g1.block k hk e)⟩
  have hW : Hid (W1 = w.drew.setCells p (0 + i * 2) news) := hW1
  have hic : i ≤ cap := by omega
  have hjc : j ≤ cap := by omega
  have hne : ((i : Int) == (j : Int)) = false := by simp; omega
  have hend : Hid (n - 1 = i + (n - j)) := (by omega : n - 1 = i + (n - j))
  have hij : i ≤ j := by omega
  have hni : ¬ n = i := by omega
  have hnc : ¬ cap = i + (n - j) := by omega
  clear hW1 hR1 hR hF hget hnews hlen h hn hj hi h1 hlen2
  go_enter Try.func24, Try.ntmps24
  go_wp2_with fail
  go_region_law (refine step_append_room rfl (.tmp 22) (.tmp 25) 42 rfl 53 i0 2 Try.underlying42 hi0 hz1 p 0 i cap (by simp [Act.eval, Act.put]) A (n - j) (cap - j) news (by simp [Act.eval, Act.put]) s1.out hsrc.out s2.out (by omega) s3.out ?_; rw [← hW.out])
  go_wp2
  go_ret
  refine ⟨?_, hfin.out⟩
  rw [hend.out]
  rfl
end Go.Proofs.Ytdkbdmlodngneaa
