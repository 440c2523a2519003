/- SpineActs: make. -/
import Derived.Test.YtjfjgfkfbbigbaaPAgr
namespace Go.Proofs.Ytjfjgfkfbbigbaa
open Go.RowKit
theorem Recs.appD {w : World} {B : Nat} {v : Value} {L : List Rec} (h : Recs w B v L) (x : Rec) (hB : B ≤ w.heap.size) (hn : L.length ≤ 100000) :
    ∃ v' w', (Builtin.append_ #[29, 29] 29 #[v, .slice (some ⟨w.heap.size, 0, none⟩) 1 1]).run Try.prog (w.alloc (.cells #[.int .i64 x.id, .slice (some ⟨x.blk, 0, none⟩) x.n x.n, .bool x.gone, .int .i64 x.by_] 38)).drew = .ok v' w' ∧
      Recs w' B v' (L ++ [x]) ∧ w.grownBy w' v.ownBlock ∧ (v'.ownBlock = v.ownBlock ∨ ∃ k, v'.ownBlock = some k ∧ w.heap.size ≤ k) := by
  obtain ⟨i0, hi0, hzz⟩ := Option.map_eq_some_iff.1 infoR
  simp only [Prod.mk.injEq] at hzz
  obtain ⟨hz0, hz1, hz2⟩ := hzz
  obtain ⟨W, hW⟩ : ∃ W, W = (w.alloc (.cells #[.int .i64 x.id, .slice (some ⟨x.blk, 0, none⟩) x.n x.n, .bool x.gone, .int .i64 x.by_] 38)).drew := ⟨_, rfl⟩
  have hbW : Below w.heap.size w W := by rw [hW]; exact ((Below.refl _ w).alloc (Nat.le_refl _) _).drew
  have hnew : ∀ j u, ([.int .i64 x.id, .slice (some ⟨x.blk, 0, none⟩) x.n x.n, .bool x.gone, .int .i64 x.by_] : List Value)[j]? = some u → W.cell? ((⟨w.heap.size, 0, none⟩ : Addr).add j) = some u := by
    intro j u hu
    rw [add_lit, Nat.zero_add]
    have e : W.heap[w.heap.size]? = some (.cells #[.int .i64 x.id, .slice (some ⟨x.blk, 0, none⟩) x.n x.n, .bool x.gone, .int .i64 x.by_] 38 (0, 0)) := by
      rw [hW]; exact heap_alloc_new w _
    simp only [World.cell?, e]
    simpa using hu
  obtain ⟨v', w', hrun, hown, hg, _, hat⟩ := run_append_own_at (P := Try.prog) W B 29 29 38 i0 _ 4 48 Try.underlying29 hi0 hz0 hz1 hz2 rfl (by decide) v L.length (cellsR L) (h.below hbW) ⟨w.heap.size, 0, none⟩ 1 1 [.int .i64 x.id, .slice (some ⟨x.blk, 0, none⟩) x.n x.n, .bool x.gone, .int .i64 x.by_] rfl hnew (by simp [Value.oneCell']) (by unfold maxLen; omega) (by omega) (Nat.le_trans hB hbW.size)
  refine ⟨v', w', by rw [← hW]; exact hrun, ?_, ⟨hg.os.trans hbW.os, hg.tape.trans hbW.tape, hg.output.trans hbW.output, Nat.le_trans hbW.size hg.size, fun j hj q => (hg.block j (Nat.lt_of_lt_of_le hj hbW.size) q).trans (hbW.block j hj)⟩, ?_⟩
  · unfold Recs
    rw [cellsR_append, List.length_append]
    exact hown
  · rcases hat with q | q
    · exact .inl q
    · exact .inr ⟨_, q, hbW.size⟩
section
variable {B : Nat} {w0 w : World} {P : Nat → Prop} {s b W y : Nat} {half : Int} {v : Value} {bg : Int} {un : Bool} {L : List Rec} {q : St} {V : Int → Int → Int} {c : Int → Int}
/-- An array more, its words behind all that there was. -/
theorem Play.push (h : Play B w0 w P s b W y half v bg un L q V c) (n : Nat) (id : Int) {v' : Value} {w' : World}
    (hr : Recs w' B v' (L ++ [⟨id, n, false, 0, w.heap.size, fun _ => 0⟩])) (hg : (w.alloc (.cells (madeCells #[.int .i64 0] n) 3)).grownBy w' v.ownBlock) (hat : v'.ownBlock = v.ownBlock ∨ ∃ k, v'.ownBlock = some k ∧ (w.alloc (.cells (madeCells #[.int .i64 0] n) 3)).heap.size ≤ k) :
    Play B w0 (w'.setCell ⟨y, 3, none⟩ v') P s b W y half v' bg un (L ++ [⟨id, n, false, 0, w.heap.size, fun _ => 0⟩]) q V c := by
  have h1 := h.below ((Below.refl _ _).alloc (Nat.le_refl _) (.cells (madeCells #[.int .i64 0] n) 3))
  have hrow := World.rowIs_made w (.int .i64 0) n 3
  have hsz : (w.alloc (.cells (madeCells #[.int .i64 0] n) 3)).heap.size = w.heap.size + 1 := Go.Deep.nblk_alloc _ _
  have hvy : ∀ k, v'.ownBlock = some k → k ≠ y := by
    intro k hk
    rcases hat with e | ⟨j, e, hj⟩
    · exact h.y_v (e ▸ hk)
    · rw [e] at hk; simp at hk; subst hk; have := h.here.lt; omega
  have keep : ∀ k, k < w.heap.size + 1 → v.ownBlock ≠ some k → k ≠ y → (w'.setCell ⟨y, 3, none⟩ v').heap[k]? = (w.alloc (.cells (madeCells #[.int .i64 0] n) 3)).heap[k]? := fun k hk e1 e2 => (Below.heap_setCell _ _ _ _ e2).trans (hg.block k (by omega) (fun r => e1 r.symm))
  refine h1.remake (r := fun k => k = y ∨ v.ownBlock = some k) (by have := hg.size; rw [hsz] at this; simp [World.setCell]; omega) ⟨hg.os, hg.tape, hg.output⟩ (fun k hk hn => keep k (by omega) (fun r => hn (.inr r)) (fun r => hn (.inl r))) (fun k hk => ?_) ?_ (hr.of_block fun k hk => Below.heap_setCell _ _ _ _ (hvy k hk)) (fun x hx => ?_) ?_ (fun k hk r => ?_)
  · rcases hk with rfl | hk
    · exact h.py
    · exact ⟨h.pv k hk, (h.row.lt hk).1⟩
  · show (w'.setCell ⟨y, 3, none⟩ v').heap[y]? = _
    have e : w'.heap[y]? = some (.cells #[.pointer (some ⟨s, 0, none⟩), .pointer (some ⟨b, 0, none⟩), .int .i64 half, v, .int .i64 bg, .bool un] 31 (0, 0)) := (hg.block y (by have := h.here.lt; omega) (fun r => h.y_v r.symm rfl)).trans h1.here
    rw [here_set e]; rfl
  · rcases List.mem_append.1 hx with hx | hx
    · obtain ⟨a, b, d⟩ := h1.words x hx
      exact ⟨a.of_block (keep _ (by have := a.lt; omega) (fun r => h.v_x hx r rfl) (h.y_x hx)), b, d⟩
    · rw [List.mem_singleton.1 hx]
      refine ⟨hrow.of_block (keep w.heap.size (by omega) (fun r => by have := h.row.lt r; omega) (fun r => by have r' : w.heap.size = y := r; have := h.here.lt; omega)), fun r => by have := h.lt w.heap.size r; omega, h.size⟩
  · refine List.pairwise_append.2 ⟨h.apart, List.pairwise_singleton _ _, fun x hx z hz => ?_⟩
    rw [List.mem_singleton.1 hz]
    have := (h.words x hx).1.lt
    show x.blk ≠ w.heap.size
    omega
  · rcases hat with e | ⟨j, e, hj⟩
    · exact h.pv k (e ▸ hk) r
    · rw [e] at hk; simp at hk; subst hk; have := h.lt _ r; omega
set_option maxRecDepth 20000 in
/-- make, where the space refuses. -/
theorem pmake_no (h : Play B w0 w P s b W y half v bg un L q V c) (hA : Agr7 q V half bg un L) (K A p I n : Int) (code : Int)
    (hc : (¬ (0 ≤ A ∧ A < 3) ∧ code = 704) ∨ ((0 ≤ A ∧ A < 3) ∧ ¬ (0 ≤ n ∧ n ≤ 1000) ∧ code = 700) ∨ ((0 ≤ A ∧ A < 3) ∧ (0 ≤ n ∧ n ≤ 1000) ∧ q.half - q.taken < n + 4 ∧ code = 702)) :
    Calls Try.prog 23 #[.pointer (some ⟨y, 0, none⟩), .agg #[.int .i64 K, .int .i64 A, .int .i64 p, .int .i64 I, .int .i64 n]] w fun e w' => e = .returned (.bool true) ∧ Play B w0 w' P s b W y half v bg un L q V c := by
  obtain ⟨W1, hW1⟩ : ∃ W1, W1 = w.alloc (.cells #[.int .i64 K, .int .i64 A, .int .i64 p, .int .i64 I, .int .i64 n] 34) := ⟨_, rfl⟩
  have h1 : Play B w0 W1 P s b W y half v bg un L q V c := by rw [hW1]; exact h.below ((Below.refl _ _).alloc (Nat.le_refl _) _)
  obtain ⟨hW, bw, bs, vv, f, hS, hI⟩ := h.gd
  obtain ⟨b1, b2, b3, b4, b5, b6, b7, b8, b9, b10, b11, b12⟩ := hI.bounds hW
  have hsum := hA.sum hI
  have hhf := hA.half_
  have hRm := proom_ok h1.here h1.row (by omega) (by omega)
  rw [hsum, hhf] at hRm
  have hbx : W1.heap[w.heap.size]? = some (.cells #[.int .i64 K, .int .i64 A, .int .i64 p, .int .i64 I, .int .i64 n] 34 (0, 0)) := by rw [hW1]; exact heap_alloc_new w _
  have hMk : ∀ u, Play B w0 u P s b W y half v bg un L q V c → Calls Try.prog 15 #[.pointer (some ⟨s, 0, none⟩), .int .i64 A, .int .i64 n] u fun e w' => e = .returned (.tuple #[.int .i64 0, .int .i64 code]) ∧ Below u.heap.size u w' := by
    intro u hu
    rcases hc with ⟨r1, rfl⟩ | ⟨r1, r2, rfl⟩ | ⟨r1, r2, r3, rfl⟩
    · exact make_agent hu.gd A n (by omega)
    · exact make_size hu.gd A n (by omega) r2
    · exact make_full hu.gd A n (by omega) r2 r3
  have hd : Play B w0 (W1.drewN 1) P s b W y half v bg un L q V c := h1.below (below_drewN W1 1 _)
  have hX : ∀ u, Below W1.heap.size W1 u → u.cell? ⟨w.heap.size, 0, none⟩ = some (.int .i64 K) ∧ u.cell? ⟨w.heap.size, 1, none⟩ = some (.int .i64 A) ∧ u.cell? ⟨w.heap.size, 4, none⟩ = some (.int .i64 n) := by
    intro u hb
    have e := (hb.block w.heap.size (Array.getElem?_eq_some_iff.1 hbx).1).trans hbx
    simp [World.cell?, e]
  have hX4 : ∀ u, Below (W1.drewN 1).heap.size (W1.drewN 1) u → u.cell? ⟨w.heap.size, 0, none⟩ = some (.int .i64 K) ∧ u.cell? ⟨w.heap.size, 1, none⟩ = some (.int .i64 A) ∧ u.cell? ⟨w.heap.size, 4, none⟩ = some (.int .i64 n) := fun u hb => hX u ((below_drewN W1 1 _).trans hb)
  have x1 := hX W1 (Below.refl _ _)
  have c1 := h1.here.cells
  have HX : Hid (W1 = w.alloc (.cells #[.int .i64 K, .int .i64 A, .int .i64 p, .int .i64 I, .int .i64 n] 34)) := hW1
  clear hW1 hbx hsum hhf hS hI h b2 b4 b7 b8 b9 b10 b11 b12
  rcases hc with ⟨r1, rfl⟩ | ⟨r1, r2, rfl⟩ | ⟨r1, r2, r3, rfl⟩
  · by_cases a0 : 0 ≤ A
    · have a1 : 3 ≤ A := by omega
      clear r1
      go_enter Try.func23, Try.ntmps23
      go_wp2_with (go_at_call 10; rw [← HX.out]; refine hRm.mono ?_; rintro e w9 ⟨rfl, hw9⟩; replace hw9 := hw9.symm; subst hw9)
      go_region_held3 (fun w' => w'.cell? ⟨y, 0, none⟩ = some (.pointer (some ⟨s, 0, none⟩)) ∧ w'.cell? ⟨w.heap.size, 1, none⟩ = some (.int .i64 A) ∧ w'.cell? ⟨w.heap.size, 4, none⟩ = some (.int .i64 n)) (go_keep) ((go_at_call 15; refine (hMk _ hd).mono ?_; rintro e w4 ⟨rfl, hb4⟩; have h4 := hd.below hb4; have c4 := h4.here.cells; have x4 := hX4 w4 hb4))
      go_wp2_with (go_at_call 12; refine (num_any _ _).mono ?_; rintro e w9 ⟨rfl, hw9⟩; replace hw9 := hw9.symm; subst hw9)
      go_ret
      exact ⟨rfl, h4⟩
    · have a1 : A < 0 := by omega
      clear r1 a0
      go_enter Try.func23, Try.ntmps23
      go_wp2_with (go_at_call 10; rw [← HX.out]; refine hRm.mono ?_; rintro e w9 ⟨rfl, hw9⟩; replace hw9 := hw9.symm; subst hw9)
      go_region_held3 (fun w' => w'.cell? ⟨y, 0, none⟩ = some (.pointer (some ⟨s, 0, none⟩)) ∧ w'.cell? ⟨w.heap.size, 1, none⟩ = some (.int .i64 A) ∧ w'.cell? ⟨w.heap.size, 4, none⟩ = some (.int .i64 n)) (go_keep) ((go_at_call 15; refine (hMk _ hd).mono ?_; rintro e w4 ⟨rfl, hb4⟩; have h4 := hd.below hb4; have c4 := h4.here.cells; have x4 := hX4 w4 hb4))
      go_wp2_with (go_at_call 12; refine (num_any _ _).mono ?_; rintro e w9 ⟨rfl, hw9⟩; replace hw9 := hw9.symm; subst hw9)
      go_ret
      exact ⟨rfl, h4⟩
  · have a0 : decide (A < 0) = false := by simp; omega
    have a1 : decide (3 ≤ A) = false := by simp; omega
    by_cases n0 : 0 ≤ n
    · have n1 : 1000 < n := by omega
      clear r1 r2
      go_enter Try.func23, Try.ntmps23
      go_wp2_with (go_at_call 10; rw [← HX.out]; refine hRm.mono ?_; rintro e w9 ⟨rfl, hw9⟩; replace hw9 := hw9.symm; subst hw9)
      go_region_held3 (fun w' => w'.cell? ⟨y, 0, none⟩ = some (.pointer (some ⟨s, 0, none⟩)) ∧ w'.cell? ⟨w.heap.size, 1, none⟩ = some (.int .i64 A) ∧ w'.cell? ⟨w.heap.size, 4, none⟩ = some (.int .i64 n)) (go_keep) ((go_at_call 15; refine (hMk _ hd).mono ?_; rintro e w4 ⟨rfl, hb4⟩; have h4 := hd.below hb4; have c4 := h4.here.cells; have x4 := hX4 w4 hb4))
      go_wp2_with (go_at_call 12; refine (num_any _ _).mono ?_; rintro e w9 ⟨rfl, hw9⟩; replace hw9 := hw9.symm; subst hw9)
      go_ret
      exact ⟨rfl, h4⟩
    · have n1 : n < 0 := by omega
      clear r1 r2 n0
      go_enter Try.func23, Try.ntmps23
      go_wp2_with (go_at_call 10; rw [← HX.out]; refine hRm.mono ?_; rintro e w9 ⟨rfl, hw9⟩; replace hw9 := hw9.symm; subst hw9)
      go_region_held3 (fun w' => w'.cell? ⟨y, 0, none⟩ = some (.pointer (some ⟨s, 0, none⟩)) ∧ w'.cell? ⟨w.heap.size, 1, none⟩ = some (.int .i64 A) ∧ w'.cell? ⟨w.heap.size, 4, none⟩ = some (.int .i64 n)) (go_keep) ((go_at_call 15; refine (hMk _ hd).mono ?_; rintro e w4 ⟨rfl, hb4⟩; have h4 := hd.below hb4; have c4 := h4.here.cells; have x4 := hX4 w4 hb4))
      go_wp2_with (go_at_call 12; refine (num_any _ _).mono ?_; rintro e w9 ⟨rfl, hw9⟩; replace hw9 := hw9.symm; subst hw9)
      go_ret
      exact ⟨rfl, h4⟩
  · have a0 : decide (A < 0) = false := by simp; omega
    have a1 : decide (3 ≤ A) = false := by simp; omega
    have n0 : decide (n < 0) = false := by simp; omega
    have n1 : decide (1000 < n) = false := by simp; omega
    have n2 : 0 ≤ n ∧ n ≤ 1000 := r2
    clear r1
    go_enter Try.func23, Try.ntmps23
    go_wp2_with (go_at_call 10; rw [← HX.out]; refine hRm.mono ?_; rintro e w9 ⟨rfl, hw9⟩; replace hw9 := hw9.symm; subst hw9)
    go_region_held3 (fun w' => w'.cell? ⟨y, 0, none⟩ = some (.pointer (some ⟨s, 0, none⟩)) ∧ w'.cell? ⟨w.heap.size, 1, none⟩ = some (.int .i64 A) ∧ w'.cell? ⟨w.heap.size, 4, none⟩ = some (.int .i64 n)) (go_keep) ((go_at_call 15; refine (hMk _ hd).mono ?_; rintro e w4 ⟨rfl, hb4⟩; have h4 := hd.below hb4; have c4 := h4.here.cells; have x4 := hX4 w4 hb4))
    go_wp2_with (go_at_call 12; refine (num_any _ _).mono ?_; rintro e w9 ⟨rfl, hw9⟩; replace hw9 := hw9.symm; subst hw9)
    go_ret
    exact ⟨rfl, h4⟩
end
end Go.Proofs.Ytjfjgfkfbbigbaa
