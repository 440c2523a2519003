/- SpineActs: make, where there is room. -/
import Derived.Test.YtjfjgfkfbbigbaaPMk
namespace Go.Proofs.Ytjfjgfkfbbigbaa
open Go.RowKit
/-- An append, by a name that the walk does not open. -/
def appR (ats : Array TypeId) (ty : TypeId) (args : Array Value) : Sem Value := Builtin.append_ ats ty args
theorem app_R (ats : Array TypeId) (ty : TypeId) (args : Array Value) : Builtin.append_ ats ty args = appR ats ty args := rfl
attribute [local go_sem ↓] app_R
section
variable {B : Nat} {w0 w : World} {P : Nat → Prop} {s b W y : Nat} {half : Int} {v : Value} {bg : Int} {un : Bool} {L : List Rec} {q : St} {V : Int → Int → Int} {c : Int → Int}
theorem Here.frozen {w : World} {y s b : Nat} {half : Int} {v : Value} {bg : Int} {un : Bool} (h : Here w y s b half v bg un) (k : Nat) : w.frozen? ⟨y, k, none⟩ = false := by
  have h1 : w.heap[y]? = _ := h
  simp [World.frozen?, h1]
set_option maxRecDepth 20000 in
set_option maxHeartbeats 2000000 in
theorem pmake_ok (h : Play B w0 w P s b W y half v bg un L q V c) (hA : Agr7 q V half bg un L) (K A p I : Int) (N : Nat) (ha : 0 ≤ A ∧ A < 3) (hn : N ≤ 1000) (hr : (N : Int) + 4 ≤ q.half - q.taken) (hgi : q.given < 1000000000) :
    Calls Try.prog 23 #[.pointer (some ⟨y, 0, none⟩), .agg #[.int .i64 K, .int .i64 A, .int .i64 p, .int .i64 I, .int .i64 N]] w fun e w' => e = .returned (.bool true) ∧ ∃ P' v' blk c', Ticked c c' A (N + 2) ∧
      Play B w0 w' P' s b W y half v' bg un (L ++ [⟨q.given + 1, N, false, 0, blk, fun _ => 0⟩]) (made q N) (fun id i => if id = q.given + 1 then 0 else V id i) c' := by
  obtain ⟨W1, hW1⟩ : ∃ W1, W1 = w.alloc (.cells #[.int .i64 K, .int .i64 A, .int .i64 p, .int .i64 I, .int .i64 N] 34) := ⟨_, rfl⟩
  have h1 : Play B w0 W1 P s b W y half v bg un L q V c := by rw [hW1]; exact h.below ((Below.refl _ _).alloc (Nat.le_refl _) _)
  obtain ⟨hW, bw, bs, vv, f, hS, hI⟩ := h.gd
  obtain ⟨b1, b2, b3, b4, b5, b6, b7, b8, b9, b10, b11, b12⟩ := hI.bounds hW
  have hsum := hA.sum hI
  have hhf := hA.half_
  have hRm := proom_ok h1.here h1.row (by omega) (by omega)
  rw [hsum, hhf] at hRm
  have hLen : L.length ≤ 100000 := by have := sumR_len L; omega
  have HId : Hid (∀ (i : Nat) (x : Rec), L[i]? = some x → x.id ≤ q.given) := fun i x hx => (hA.rng x (List.mem_of_getElem? hx)).2
  have hbx : W1.heap[w.heap.size]? = some (.cells #[.int .i64 K, .int .i64 A, .int .i64 p, .int .i64 I, .int .i64 N] 34 (0, 0)) := by rw [hW1]; exact heap_alloc_new w _
  have hPx : ¬ P w.heap.size := fun r => by have := h.lt _ r; omega
  have hd : Play B w0 (W1.drewN 1) P s b W y half v bg un L q V c := h1.below (below_drewN W1 1 _)
  have hMk := make_ok hd.gd A N (by omega) (by omega) hr hgi
  have hX : ∀ u, Bt P W1 u → u.cell? ⟨w.heap.size, 0, none⟩ = some (.int .i64 K) ∧ u.cell? ⟨w.heap.size, 1, none⟩ = some (.int .i64 A) ∧ u.cell? ⟨w.heap.size, 4, none⟩ = some (.int .i64 N) := by
    intro u hb
    have e := (hb.block w.heap.size (Array.getElem?_eq_some_iff.1 hbx).1 hPx).trans hbx
    simp [World.cell?, e]
  have x1 := hX W1 (Bt.refl _ _)
  have c1 := h1.here.cells
  have HX : Hid (W1 = w.alloc (.cells #[.int .i64 K, .int .i64 A, .int .i64 p, .int .i64 I, .int .i64 N] 34)) := hW1
  have a0 : decide (A < 0) = false := by simp; omega
  have a1 : decide (3 ≤ A) = false := by simp; omega
  have n0 : decide ((N : Int) < 0) = false := by simp
  have n1 : decide (1000 < (N : Int)) = false := by simp; omega
  have n2 : decide (q.half - q.taken < (N : Int) + 4) = false := by simp; omega
  have n3 : decide (q.given + 1 < 1) = false := by simp; omega
  have hmk := run_make_row' (P := Try.prog) 36 3 (.int .i64 0) 8 Try.underlying36 info3 rfl .i64 .i64 N (by omega) (by omega)
  clear hW1 hbx hsum hhf hS hI h b2 b4 b7 b8 b9 b10 b11 hPx
  go_enter Try.func23, Try.ntmps23
  go_wp2_with (go_at_call 10; rw [← HX.out]; refine hRm.mono ?_; rintro e w9 ⟨rfl, hw9⟩; replace hw9 := hw9.symm; subst hw9)
  go_region_held3 (fun w' => w'.cell? ⟨y, 0, none⟩ = some (.pointer (some ⟨s, 0, none⟩)) ∧ w'.cell? ⟨w.heap.size, 1, none⟩ = some (.int .i64 A) ∧ w'.cell? ⟨w.heap.size, 4, none⟩ = some (.int .i64 N)) (go_keep) ((go_at_call 15; refine hMk.mono ?_; rintro e w4 ⟨rfl, c', htk, hT⟩; have x4 := hX w4 ((bt_drewN W1 1).trans hT.choose_spec.2.1); obtain ⟨P4, h4⟩ := hd.turn hT; have c4 := h4.here.cells; clear hT))
  go_wp2_with (go_at_call 12; refine (num_any _ _).mono ?_; rintro e w9 ⟨rfl, hw9⟩; replace hw9 := hw9.symm; subst hw9)
  obtain ⟨ao, cap, rfl⟩ := h4.row.form
  have HIx : Hid (∀ i, i < L.length → ∃ x, L[i]? = some x) := fun i hi => ⟨_, List.getElem?_eq_getElem hi⟩
  have H4 : Hid (Play B w0 w4 P4 s b W y half (.slice ao L.length cap) bg un L (made q N) (fun id i => if id = q.given + 1 then 0 else V id i) c') := h4
  have HTk : Hid (Ticked c c' A (N + 2)) := htk
  clear h4 htk h1 hd c1 x1 hX hRm hMk
  generalize hNl : L.length = M at *
  have HN : Hid (L.length = M) := hNl
  clear hNl
  go_loopg [8] (M + 1) (fun kx s8 wr => ∃ i : Nat, s8 = .int .i64 i ∧ i ≤ M ∧ M - i ≤ kx ∧ wr = w4)
  case atStart => exact ⟨0, rfl, by omega, by omega, rfl⟩
  case round =>
    obtain ⟨i, rfl, hi, hk, rfl⟩ := hrel
    by_cases hlt : i < M
    · obtain ⟨x, hx⟩ := HIx.out i hlt
      obtain ⟨p3, rfl, _, _, hc⟩ := H4.out.row.cells (by rw [HN.out]; omega)
      have c0 := (hc i x hx).1
      clear hc
      have hne : (x.id == q.given + 1) = false := by have := HId.out i x hx; simp; omega
      clear hx
      have hl : (i : Int) < (M : Int) := by omega
      go_wp2
      go_roundg (M - (i + 1))
      case measure => omega
      case rel => exact ⟨i + 1, by go_num, by omega, by omega, rfl⟩
    · obtain rfl : i = M := by omega
      have hl : ¬ (i : Int) < (i : Int) := by omega
      obtain ⟨v', w', hrun, hR, hg, hat⟩ := Recs.appD (H4.out.row.below ((Below.refl _ _).alloc (Nat.le_refl _) (.cells (madeCells #[.int .i64 0] N) 3))) ⟨q.given + 1, N, false, 0, wr.heap.size, fun _ => 0⟩ (by have := H4.out.size; rw [Go.Deep.nblk_alloc]; omega) (by rw [HN.out]; omega)
      rw [Go.Deep.nblk_alloc, app_R] at hrun
      simp only at hrun
      have hy := hg.block y (by have := H4.out.here.lt; rw [Go.Deep.nblk_alloc]; omega) (fun r => H4.out.y_v r.symm rfl)
      rw [Below.heap_alloc _ _ y H4.out.here.lt] at hy
      have k3 : w'.cell? ⟨y, 3, none⟩ = some (.slice ao i cap) := (World.cell?_of_block (a := ⟨y, 3, none⟩) hy).trans H4.out.here.cells.2.2.2.1
      have f3 : w'.frozen? ⟨y, 3, none⟩ = false := (World.frozen?_of_block (a := ⟨y, 3, none⟩) hy).trans (H4.out.here.frozen 3)
      have hP := H4.out.push N (q.given + 1) hR hg hat
      obtain ⟨ao2, cap2, hv2⟩ := hR.form
      have hv3 : v' = .slice ao2 (L.length + 1) cap2 := by rw [hv2, List.length_append]; rfl
      clear hv2
      subst hv3
      have HP : Hid _ := hP
      have y3 : ∀ o, (wr.alloc o).cell? ⟨y, 3, none⟩ = some (.slice ao i cap) := fun o => Lib.cell?_alloc_some o H4.out.here.cells.2.2.2.1
      have y4 : ∀ o o', ((wr.alloc o).alloc o').cell? ⟨y, 3, none⟩ = some (.slice ao i cap) := fun o o' => Lib.cell?_alloc_some o' (y3 o)
      clear hP hR hg hat hy
      go_wp2
      go_region
      go_wp2
      go_ret
      exact ⟨rfl, P4, _, _, c', HTk.out, HP.out⟩
end
end Go.Proofs.Ytjfjgfkfbbigbaa
