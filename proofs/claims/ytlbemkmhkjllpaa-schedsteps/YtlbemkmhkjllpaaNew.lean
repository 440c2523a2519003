/- New: what it makes of a count of agents, of a script and of inputs that can be read, wherever they lie. -/
import Derived.Test.YtlbemkmhkjllpaaLeaf
import Derived.Laws.EntriesVeiled
namespace Go.Proofs.Ytlbemkmhkjllpaa
open Go.RowKit Go.Conc

/-- v is a slice of n ints, its i-th being f i. -/
def Ints (w : World) (v : Value) (n : Nat) (f : Nat → Int) : Prop :=
  ∃ (ao : Option Addr) (cap : Nat), v = .slice ao n cap ∧ (n = 0 ∨ ∃ B o : Nat, ao = some ⟨B, o, none⟩ ∧ B < w.heap.size ∧ ∀ i, i < n → w.cell? ⟨B, o + i, none⟩ = some (.int .i64 (f i)))
theorem Ints.below {w w' : World} {v : Value} {n : Nat} {f : Nat → Int} (h : Ints w v n f) (hb : Below w.heap.size w w') : Ints w' v n f := by
  obtain ⟨ao, cap, rfl, h0 | ⟨B, o, rfl, hB, hc⟩⟩ := h
  · exact ⟨ao, cap, rfl, Or.inl h0⟩
  · exact ⟨_, cap, rfl, Or.inr ⟨B, o, rfl, Nat.lt_of_lt_of_le hB hb.size, fun i hi => (hb.cell hB).trans (hc i hi)⟩⟩

/-- The agent of a word. -/
def plc (G : Nat) (x : Int) : Nat := (x % (G : Int)).toNat
theorem plc_lt (G : Nat) (x : Int) (hG : 1 ≤ G) : plc G x < G := by
  have h1 := Int.emod_nonneg x (show (G : Int) ≠ 0 by omega)
  have h2 := Int.emod_lt_of_pos x (show (0 : Int) < G by omega)
  unfold plc; omega
theorem plc_int (G : Nat) (x : Int) (hG : 1 ≤ G) : (plc G x : Int) = x % (G : Int) := by
  have h1 := Int.emod_nonneg x (show (G : Int) ≠ 0 by omega)
  unfold plc; omega
theorem tmod_two (G : Nat) (x : Int) (hG : 1 ≤ G) : Int.tmod (Int.tmod x G + G) G = plc G x := by
  rw [plc_int G x hG]
  have h3 := Int.lt_tmod_of_pos x (show (0 : Int) < G by omega)
  rw [Int.tmod_eq_emod_of_nonneg (by omega)]
  rw [Int.add_emod_right]
  rw [Int.tmod_def, Int.sub_eq_add_neg, ← Int.mul_neg, Int.add_mul_emod_self_left]
theorem tmod_lt (G : Nat) (x : Int) (hG : 1 ≤ G) : -(G : Int) < Int.tmod x G ∧ Int.tmod x G < G := ⟨Int.lt_tmod_of_pos x (by omega), Int.tmod_lt_of_pos x (by omega)⟩

theorem info3 : (Try.prog.info? 3).map (fun i => (i.zero, i.size, i.bytes)) = some (some (.int .i64 0), 1, 8) := by kernel_rfl
theorem info53 : (Try.prog.info? 53).map (fun i => (i.zero, i.size, i.bytes)) = some (some (.int .u8 0), 1, 1) := by kernel_rfl
theorem makeAgents (G : Nat) (hG : G ≤ 12) (w : World) : (Instr.makeSlice 47 (.int .i64 G) (.int .i64 G)).run Try.prog w = .ok (.slice (some ⟨w.heap.size, 0, none⟩) G G) (w.alloc (.cells (madeCells #[.int .i64 0, .int .i64 0] (G * 2)) 65)) := by
  obtain ⟨i, hi, hzz⟩ := Option.map_eq_some_iff.1 info65
  simp only [Prod.mk.injEq] at hzz
  obtain ⟨hz, hs, hb⟩ := hzz
  have h := run_make (P := Try.prog) w 47 65 i _ Try.underlying47 hi hz .i64 .i64 G G (by omega) (by omega) (by rw [hb]; omega) (by omega)
  rw [hs] at h
  simpa [Value.cells] using h
theorem rowIs_agents (w : World) (G : Nat) : (w.alloc (.cells (madeCells #[.int .i64 0, .int .i64 0] (G * 2)) 65)).rowIs w.heap.size 65 (G * 2) (fun _ => .int .i64 0) :=
  ⟨_, Go.Deep.blk_alloc_new _ _, size_madeCells _ _, fun i hi => by
    have : i % 2 = 0 ∨ i % 2 = 1 := by omega
    rcases this with h | h <;> simp [madeCells, hi, h]⟩

theorem ready_any (G : Nat) (w : World) (hG : G ≤ 12) : Calls Try.prog 22 #[.int .i64 G] w fun e w' => ∃ p, e = .returned (.slice (some ⟨p, 0, none⟩) G G) ∧ w'.rowIs p 65 (G * 2) (fun _ => .int .i64 0) ∧ Below w.heap.size w w' ∧ w.heap.size ≤ p := by
  have hmk := makeAgents G hG
  go_enter Try.func22, Try.ntmps22
  go_wp2
  go_loopw [9] (fun k wr => ∃ n : Nat, n ≤ G ∧ k = .int .i64 n ∧ wr.rowIs w.heap.size 65 (G * 2) (fun _ => .int .i64 0) ∧ Below w.heap.size w wr) (fun k _ => G - (intOf k).toNat)
  case atStart => exact ⟨0, by omega, rfl, rowIs_agents w G, (Below.refl _ _).alloc (Nat.le_refl _) _⟩
  case round =>
    obtain ⟨n, hn, rfl, hR, hB⟩ := hrel
    by_cases hlt : n < G
    · have d0 := hR.cell (i := n * 2) (by omega)
      have f0 := hR.frozen (n * 2)
      go_wp2
      go_roundw
      case rel => exact ⟨n + 1, by omega, by go_num, (hR.set _ _).congr (fun j _ => by split <;> rfl), hB.setCell (Nat.le_refl _) _⟩
      case measure => simp [intOf]; omega
    · obtain rfl : n = G := by omega
      go_wp2
      go_ret
      exact ⟨_, rfl, hR, hB, Nat.le_refl _⟩

/-- The agent of a word, as the closure tells it. -/
theorem among_any (G : Nat) (x : Int) (k : Nat) (w : World) (hG : 1 ≤ G) (hG' : G ≤ 12) (hk : w.cell? ⟨k, 0, none⟩ = some (.int .i64 G)) :
    Calls Try.prog 32 #[.int .i64 x, .pointer (some ⟨k, 0, none⟩)] w fun e w' => e = .returned (.int .u8 (plc G x)) ∧ ∃ n, w' = w.drewN n := by
  have h1 : (wrap64 (x.tmod ↑G + ↑G)).tmod ↑G % 256 = plc G x := by
    have h2 := plc_lt G x hG
    have h3 := tmod_lt G x hG
    rw [IntWalk.wrap64_in _ (by omega), tmod_two G x hG]
    omega
  go_enter Try.func32, Try.ntmps32
  go_wp2
  go_quiet (fail)
  go_wp2
  go_ret
  refine ⟨?_, nq, rfl⟩
  rw [← h1]; rfl
theorem placeAmong_any (G : Nat) (w : World) : Calls Try.prog 24 #[.int .i64 G] w fun e w' => ∃ k, e = .returned (.func (.func 32) #[] #[.pointer (some ⟨k, 0, none⟩)]) ∧ w'.cell? ⟨k, 0, none⟩ = some (.int .i64 G) ∧ Below w.heap.size w w' ∧ k < w'.heap.size := by
  go_enter Try.func24, Try.ntmps24
  go_wp2
  go_ret
  exact ⟨_, rfl, by simp only [World.cell?, heap_alloc_new]; rfl, (Below.refl _ _).alloc (Nat.le_refl _) _, by simp⟩

theorem feed_start (w : World) (x y : Obj) : Below w.heap.size w ((w.alloc x).alloc y) := ((Below.refl _ _).alloc (Nat.le_refl _) _).alloc (by simp) _
/-- The first n are laid. -/
def part (n : Nat) (f g : Nat → Int) : Nat → Int := fun i => if i < n then f i else g i
theorem part_step (n : Nat) (f g : Nat → Int) (j : Nat) : (if j = n then f n else part n f g j) = part (n + 1) f g j := by
  unfold part
  by_cases h : j = n
  · subst h; simp
  · by_cases h1 : j < n
    · simp [h, h1, show j < n + 1 by omega]
    · simp [h, h1, show ¬ j < n + 1 by omega]

/-- The cell of a result of two words, and what a store into it leaves. -/
theorem res0 {w : World} {S : Nat} {e : TypeId} (h : w.heap[S]? = some (.cells #[.slice none 0 0, .int .i64 0] e (0, 0))) : w.cell? ⟨S, 0, none⟩ = some (.slice none 0 0) := by simp only [World.cell?, h]; rfl
theorem res0z {w : World} {S : Nat} {c : Array Value} {e : TypeId} (h : w.heap[S]? = some (.cells c e (0, 0))) (i : Nat) : w.frozen? ⟨S, i, none⟩ = false := by simp [World.frozen?, h]
theorem res1 {w : World} {S : Nat} {e : TypeId} (h : w.heap[S]? = some (.cells #[.slice none 0 0, .int .i64 0] e (0, 0))) (v : Value) : (w.setCell ⟨S, 0, none⟩ v).cell? ⟨S, 1, none⟩ = some (.int .i64 0) := by
  simp only [World.cell?, setCell_block h]; rfl
theorem res1z {w : World} {S : Nat} {c : Array Value} {e : TypeId} (h : w.heap[S]? = some (.cells c e (0, 0))) (v : Value) : (w.setCell ⟨S, 0, none⟩ v).frozen? ⟨S, 1, none⟩ = false := res0z (setCell_block h v) 1
theorem res2 {w : World} {S : Nat} {x y : Value} {e : TypeId} (h : w.heap[S]? = some (.cells #[x, y] e (0, 0))) (u v : Value) : ((w.setCell ⟨S, 0, none⟩ u).setCell ⟨S, 1, none⟩ v).heap[S]? = some (.cells #[u, v] e (0, 0)) := by
  rw [setCell_block (setCell_block h u)]; rfl
theorem info51 : (Try.prog.info? 51).map (·.size) = some 2 := by kernel_rfl
theorem info57 : (Try.prog.info? 57).map (·.size) = some 2 := by kernel_rfl

theorem feedPlaces_any (G N k : Nat) (v : Value) (f : Nat → Int) (w : World) (hG : 1 ≤ G) (hG' : G ≤ 12) (hN : N ≤ 35184372088832) (hv : Ints w v N f) (hk : w.cell? ⟨k, 0, none⟩ = some (.int .i64 G)) (hkl : k < w.heap.size) :
    Calls Try.prog 23 #[v, .func (.func 32) #[] #[.pointer (some ⟨k, 0, none⟩)]] w fun e w' => ∃ p, e = .returned (.agg #[.slice (some ⟨p, 0, none⟩) N N, .int .i64 0]) ∧ w'.rowIs p 53 N (fun i => .int .u8 (plc G (f i))) ∧ Below w.heap.size w w' ∧ w.heap.size ≤ p := by
  obtain ⟨ao, cap, rfl, hv⟩ := hv
  have hmk := run_make_row' (P := Try.prog) 49 53 (.int .u8 0) 1 Try.underlying49 info53 rfl .i64 .i64 N (by omega) (by omega)
  go_enter Try.func23, Try.ntmps23
  go_wp2
  go_loopw [13] (fun i wr => ∃ n : Nat, n ≤ N ∧ i = .int .i64 n ∧ wr.rowIs (w.heap.size + 1) 53 N (fun i => .int .u8 (part n (fun i => plc G (f i)) (fun _ => 0) i)) ∧ wr.heap[w.heap.size]? = some (.cells #[.slice none 0 0, .int .i64 0] 51 (0, 0)) ∧ Below w.heap.size w wr) (fun i _ => N - (intOf i).toNat)
  case atStart =>
    refine ⟨0, by omega, rfl, ?_, ?_, feed_start _ _ _⟩
    · have h := World.rowIs_made (w.alloc (Obj.cells #[Value.slice none 0 0, Value.int IntKind.i64 0] 51)) (.int .u8 0) N 53
      rw [Go.Deep.nblk_alloc] at h
      exact h.congr fun i _ => by simp [part]
    · rw [Below.heap_alloc _ _ _ (by simp)]; exact heap_alloc_new w _
  case round =>
    obtain ⟨n, hn, rfl, hR, hC, hB⟩ := hrel
    have hC0 := hC
    by_cases hlt : n < N
    · obtain h0 | ⟨B, o, rfl, hBl, hc⟩ := hv
      · omega
      have d0 := (hB.cell hBl).trans (hc n hlt)
      have kk := fun m => (show (wr.drewN m).cell? ⟨k, 0, none⟩ = _ from hB.cell hkl).trans hk
      have fz := hR.frozen n
      have cz := hR.cell hlt
      go_wp2_with (go_at_call 32; refine (among_any G _ k _ hG hG' (kk 0)).mono ?_; rintro e w1 ⟨rfl, m, rfl⟩)
      go_roundw
      case rel =>
        refine ⟨n + 1, by omega, by go_num, ?_, ?_, ?_⟩
        · exact (World.rowIs.set (show (wr.drewN m).rowIs _ _ _ _ from hR) n _).congr fun j _ => by rw [← part_step]; split <;> rfl
        · rw [Below.heap_setCell _ _ _ _ (by show w.heap.size ≠ w.heap.size + 1; omega)]; exact hC
        · exact (hB.trans (below_drewN _ _ _)).setCell (by show w.heap.size ≤ w.heap.size + 1; omega) _
      case measure => simp [intOf]; omega
    · obtain rfl : n = N := by omega
      have e0 := res0 hC
      have z0 := res0z hC 0
      have e1 := res1 hC
      have z1 := res1z hC
      clear hC
      go_wp2
      refine bodyPost_ret (results_cell_row rfl _ _ w.heap.size 51 _ (0, 0) _ rfl (res2 hC0 _ _) Try.underlying51 rfl info51) rfl ⟨_, rfl, ?_, ?_, by omega⟩
      · refine ((hR.setOther ?_ _).setOther ?_ _).congr fun i hi => by simp [part, hi]
        all_goals (show w.heap.size + 1 ≠ w.heap.size; omega)
      · exact (hB.setCell (Nat.le_refl _) _).setCell (Nat.le_refl _) _
theorem feedInts_any (N : Nat) (v : Value) (f : Nat → Int) (w : World) (hN : N ≤ 35184372088832) (hv : Ints w v N f) :
    Calls Try.prog 25 #[v, .func (.func 26) #[] #[]] w fun e w' => ∃ p, e = .returned (.agg #[.slice (some ⟨p, 0, none⟩) N N, .int .i64 0]) ∧ w'.rowIs p 3 N (fun i => .int .i64 (f i)) ∧ Below w.heap.size w w' ∧ w.heap.size ≤ p := by
  obtain ⟨ao, cap, rfl, hv⟩ := hv
  have hmk := run_make_row' (P := Try.prog) 22 3 (.int .i64 0) 8 Try.underlying22 info3 rfl .i64 .i64 N (by omega) (by omega)
  go_enter Try.func25, Try.ntmps25
  go_wp2
  go_loopw [13] (fun i wr => ∃ n : Nat, n ≤ N ∧ i = .int .i64 n ∧ wr.rowIs (w.heap.size + 1) 3 N (fun i => .int .i64 (part n f (fun _ => 0) i)) ∧ wr.heap[w.heap.size]? = some (.cells #[.slice none 0 0, .int .i64 0] 57 (0, 0)) ∧ Below w.heap.size w wr) (fun i _ => N - (intOf i).toNat)
  case atStart =>
    refine ⟨0, by omega, rfl, ?_, ?_, feed_start _ _ _⟩
    · have h := World.rowIs_made (w.alloc (Obj.cells #[Value.slice none 0 0, Value.int IntKind.i64 0] 57)) (.int .i64 0) N 3
      rw [Go.Deep.nblk_alloc] at h
      exact h.congr fun i _ => by simp [part]
    · rw [Below.heap_alloc _ _ _ (by simp)]; exact heap_alloc_new w _
  case round =>
    obtain ⟨n, hn, rfl, hR, hC, hB⟩ := hrel
    have hC0 := hC
    by_cases hlt : n < N
    · obtain h0 | ⟨B, o, rfl, hBl, hc⟩ := hv
      · omega
      have d0 := (hB.cell hBl).trans (hc n hlt)
      have fz := hR.frozen n
      have cz := hR.cell hlt
      go_wp2_with (go_at_call 26; refine (asItIs_any _ _).mono ?_; rintro e w1 ⟨rfl, rfl⟩)
      go_roundw
      case rel =>
        refine ⟨n + 1, by omega, by go_num, ?_, ?_, ?_⟩
        · exact (hR.set n _).congr fun j _ => by rw [← part_step]; split <;> rfl
        · rw [Below.heap_setCell _ _ _ _ (by show w.heap.size ≠ w.heap.size + 1; omega)]; exact hC
        · exact hB.setCell (by show w.heap.size ≤ w.heap.size + 1; omega) _
      case measure => simp [intOf]; omega
    · obtain rfl : n = N := by omega
      have e0 := res0 hC
      have z0 := res0z hC 0
      have e1 := res1 hC
      have z1 := res1z hC
      clear hC
      go_wp2
      refine bodyPost_ret (results_cell_row rfl _ _ w.heap.size 57 _ (0, 0) _ rfl (res2 hC0 _ _) Try.underlying57 rfl info57) rfl ⟨_, rfl, ?_, ?_, by omega⟩
      · refine ((hR.setOther ?_ _).setOther ?_ _).congr fun i hi => by simp [part, hi]
        all_goals (show w.heap.size + 1 ≠ w.heap.size; omega)
      · exact (hB.setCell (Nat.le_refl _) _).setCell (Nat.le_refl _) _
end Go.Proofs.Ytlbemkmhkjllpaa
