/- A table of monitors: Take. -/
import Derived.Test.YtdkbdmlodngneaaMNIdx
import Derived.Laws.ResultCell
namespace Go.Proofs.Ytdkbdmlodngneaa
open Go.RowKit

section
variable {B : Nat} {w w' : World} {s bs mo mb : Nat} {wv : Value} {M : Mt} {c : Nat}
/-- All but two blocks stand. -/
def Kp (w w' : World) (s : Nat) (v : Value) : Prop := w.heap.size ≤ w'.heap.size ∧ ∀ k, k < w.heap.size → k ≠ s → v.ownBlock ≠ some k → w'.heap[k]? = w.heap[k]?
/-- What Take leaves. -/
def TkP (B : Nat) (w : World) (s bs mo mb : Nat) (wv : Value) (M : Mt) (c : Nat) (obj : Int) (e : Ending) (w' : World) : Prop := Kp w w' s wv ∧ Below B w w' ∧ match plW M.wt obj with
  | none => e = .returned (.tuple #[.agg #[.int .i64 0, .int .i64 0], .bool false]) ∧ MnC B w' s bs mo mb wv M c
  | some i => ∃ x v, M.wt[i]? = some x ∧ e = .returned (.tuple #[.agg #[.int .i64 x.1, .int .i64 x.2], .bool true]) ∧ MnC B w' s bs mo mb v { M with wt := M.wt.eraseIdx i } c ∧ (v.ownBlock = wv.ownBlock)
theorem infoVs : (Try.prog.info? 53).map (·.size) = some 2 := by kernel_rfl
theorem nres {tmps : Array Value} {w : World} {H : Nat} {x y : Value} {b : Bool} (hp : tmps.getD 4 undef = .pointer (some ⟨H, 0, none⟩)) (hb : tmps.getD 5 undef = .bool b) (hg : w.heap[H]? = some (.cells #[x, y] 53 (0, 0))) :
    (results Try.f20 tmps).run Try.prog w = .ok (.tuple #[.agg #[x, y], .bool b]) w := by
  rw [results_cell_tmp rfl, hp, hb]
  simp [asAddr, run_loadVar_row w H _ 53 #[x, y] (0, 0) _ hg Try.underlying53 rfl infoVs]
/-- The box of a result: two cells that are written over. -/
theorem box2 {w : World} {H : Nat} {x y : Value} (h : w.heap[H]? = some (.cells #[x, y] 53 (0, 0))) (a b : Value) : ((w.setCell ⟨H, 0, none⟩ a).setCell ⟨H, 1, none⟩ b).heap[H]? = some (.cells #[a, b] 53 (0, 0)) := by
  rw [set_blk (set_blk h 0 a) 1 b]; rfl
theorem box2c {w : World} {H : Nat} {x y : Value} (h : w.heap[H]? = some (.cells #[x, y] 53 (0, 0))) : w.cell? ⟨H, 0, none⟩ = some x ∧ w.cell? ⟨H, 1, none⟩ = some y ∧ w.frozen? ⟨H, 0, none⟩ = false ∧ w.frozen? ⟨H, 1, none⟩ = false := ⟨by simp [World.cell?, h], by simp [World.cell?, h], frz h 0, frz h 1⟩
set_option maxHeartbeats 1000000 in
set_option maxRecDepth 20000 in
theorem nwho_no (h : MnC B w s bs mo mb wv M c) {bx : Nat} {obj : Int} (hb : w.cell? ⟨bx, 0, none⟩ = some (.int .i64 obj)) (hp : plW M.wt obj = none) :
    Calls Try.prog 20 #[.pointer (some ⟨s, 2, none⟩), .func (.func 19) #[] #[.pointer (some ⟨bx, 0, none⟩)]] w (TkP B w s bs mo mb wv M c obj) := by
  obtain ⟨U, hU⟩ : ∃ U, U = w.alloc (.cells #[.int .i64 0, .int .i64 0] 53) := ⟨_, rfl⟩
  have b0 : Below w.heap.size w U := by rw [hU]; exact (Below.refl _ w).alloc (Nat.le_refl _) _
  have h1 := h.below b0
  have hwl := h.wl
  have hcc := h.hc
  have hI := nidx_ok h1.hw (bx := bx) (obj := obj) ((cell_of1 (b0.block bx (cell_in1 hb))).trans hb) (by omega)
  have e1 : plZ M.wt obj = -1 := by unfold plZ; rw [hp]
  rw [e1] at hI
  have HI : Hid (∀ u, Below w.heap.size w u → MnC B u s bs mo mb wv M c) := fun u hu => h.below hu
  have hB := h.Bw
  have HP : Hid (∀ w', Below w.heap.size w w' → TkP B w s bs mo mb wv M c obj (.returned (.tuple #[.agg #[.int .i64 0, .int .i64 0], .bool false])) w') := fun w' hw => ⟨⟨hw.size, fun k hk _ _ => hw.block k hk⟩, hw.mono hB, by rw [hp]; exact ⟨rfl, h.below hw⟩⟩
  obtain ⟨-, -, k2, -⟩ := h1.cells
  have bU : U.heap[w.heap.size]? = some (.cells #[.int .i64 0, .int .i64 0] 53 (0, 0)) := by rw [hU]; exact Array.getElem?_push_size
  have hszU : U.heap.size = w.heap.size + 1 := by rw [hU]; exact Array.size_push _
  have HG : Hid (∀ u1, Below U.heap.size U u1 → ∃ u2, u2 = u1.alloc (.cells #[.int .i64 0, .int .i64 0] 53) ∧ (u2.cell? ⟨w.heap.size, 0, none⟩ = some (.int .i64 0) ∧ u2.cell? ⟨w.heap.size, 1, none⟩ = some (.int .i64 0) ∧ u2.frozen? ⟨w.heap.size, 0, none⟩ = false ∧ u2.frozen? ⟨w.heap.size, 1, none⟩ = false ∧ u2.cell? ⟨u1.heap.size, 0, none⟩ = some (.int .i64 0) ∧ u2.cell? ⟨u1.heap.size, 1, none⟩ = some (.int .i64 0)) ∧ Hid (u2.heap[w.heap.size]? = some (.cells #[.int .i64 0, .int .i64 0] 53 (0, 0))) ∧ Hid (Below w.heap.size w ((u2.setCell ⟨w.heap.size, 0, none⟩ (.int .i64 0)).setCell ⟨w.heap.size, 1, none⟩ (.int .i64 0)))) := fun u1 hb => by
    have hz := hb.size
    have hb2 : (u1.alloc (.cells #[.int .i64 0, .int .i64 0] 53)).heap[w.heap.size]? = some (.cells #[.int .i64 0, .int .i64 0] 53 (0, 0)) := (Below.heap_alloc _ _ _ (by omega)).trans ((hb.block _ (by omega)).trans bU)
    have hn2 : (u1.alloc (.cells #[.int .i64 0, .int .i64 0] 53)).heap[u1.heap.size]? = some (.cells #[.int .i64 0, .int .i64 0] 53 (0, 0)) := Array.getElem?_push_size
    exact ⟨_, rfl, ⟨(box2c hb2).1, (box2c hb2).2.1, (box2c hb2).2.2.1, (box2c hb2).2.2.2, (box2c hn2).1, (box2c hn2).2.1⟩, hb2, below_set (below_set (((b0.trans (hb.mono (by omega))).alloc (by omega) _)) (Nat.le_refl _)) (Nat.le_refl _)⟩
  clear h h1 e1 hb b0 hB bU
  go_enter Try.func20, Try.ntmps20
  go_upto_region 1 with fail
  rw [← hU]
  clear hU
  go_upto_region 4 with (go_at_call 23; refine hI.mono ?_; rintro e u1 ⟨rfl, hb⟩; obtain ⟨u2, hu2, ⟨q0, q1, q2, q3, q4, q5⟩, HB2, HF⟩ := HG.out u1 hb; clear hb hI)
  rw [← hu2]
  clear hu2
  go_wp2_with fail
  refine bodyPost_ret (nres rfl rfl (box2 HB2.out _ _)) rfl ?_
  exact HP.out _ HF.out
set_option maxHeartbeats 1000000 in
set_option maxRecDepth 20000 in
theorem nwho_yes (h : MnC B w s bs mo mb wv M c) {bx : Nat} {obj : Int} (hb : w.cell? ⟨bx, 0, none⟩ = some (.int .i64 obj)) {i : Nat} (hp : plW M.wt obj = some i) :
    Calls Try.prog 20 #[.pointer (some ⟨s, 2, none⟩), .func (.func 19) #[] #[.pointer (some ⟨bx, 0, none⟩)]] w (TkP B w s bs mo mb wv M c obj) := by
  have hi : i < M.wt.length := by
    unfold plW at hp
    exact (List.findIdx?_eq_some_iff_getElem.1 hp).1
  obtain ⟨x, hx⟩ : ∃ x, M.wt[i]? = some x := ⟨_, List.getElem?_eq_getElem hi⟩
  obtain ⟨ao, cap, rfl⟩ := h.hw.form
  rw [List.length_map] at h ⊢
  obtain ⟨p, rfl, hpl, -, -, -⟩ := h.hw.cells (by rw [List.length_map]; omega)
  obtain ⟨U, hU⟩ : ∃ U, U = w.alloc (.cells #[.int .i64 0, .int .i64 0] 53) := ⟨_, rfl⟩
  have b0 : Below w.heap.size w U := by rw [hU]; exact (Below.refl _ w).alloc (Nat.le_refl _) _
  have h1 := h.below b0
  have hwl := h.wl
  have hcc := h.hc
  have hI := nidx_ok h1.hw (bx := bx) (obj := obj) ((cell_of1 (b0.block bx (cell_in1 hb))).trans hb) (by omega)
  have e1 : plZ M.wt obj = (i : Int) := by unfold plZ; rw [hp]
  rw [e1] at hI
  have hB := h.Bw
  obtain ⟨-, -, k2, -⟩ := h1.cells
  have bU : U.heap[w.heap.size]? = some (.cells #[.int .i64 0, .int .i64 0] 53 (0, 0)) := by rw [hU]; exact Array.getElem?_push_size
  have hszU : U.heap.size = w.heap.size + 1 := by rw [hU]; exact Array.size_push _
  have hap := h.apart
  have hlt := h.lt
  have hps : p ≠ s := (hap.2.2 p rfl).1
  have hil : (i : Int) < (M.wt.length : Int) := by omega
  -- behind the search
  have HG : Hid (∀ u1, Below U.heap.size U u1 → (u1.cell? ⟨s, 2, none⟩ = some (.slice (some ⟨p, 0, none⟩) M.wt.length cap) ∧ u1.cell? ⟨p, i * 2, none⟩ = some (.int .i64 x.1) ∧ u1.cell? ⟨p, i * 2 + 1, none⟩ = some (.int .i64 x.2)) ∧ ∃ u2, u2 = u1.alloc (.cells #[.int .i64 x.1, .int .i64 x.2] 53) ∧ u2.cell? ⟨s, 2, none⟩ = some (.slice (some ⟨p, 0, none⟩) M.wt.length cap) ∧
      Hid (Calls Try.prog 24 #[.slice (some ⟨p, 0, none⟩) M.wt.length cap, .int .i64 i, .int .i64 ((i : Int) + 1)] u2 fun e u3 => e = .returned (.slice (some ⟨p, 0, none⟩) (M.wt.length - 1) cap) ∧ (u3.cell? ⟨s, 2, none⟩ = some (.slice (some ⟨p, 0, none⟩) M.wt.length cap) ∧ u3.frozen? ⟨s, 2, none⟩ = false) ∧ ∃ u4, u4 = u3.setCell ⟨s, 2, none⟩ (.slice (some ⟨p, 0, none⟩) (M.wt.length - 1) cap) ∧
        (u4.cell? ⟨w.heap.size, 0, none⟩ = some (.int .i64 0) ∧ u4.cell? ⟨w.heap.size, 1, none⟩ = some (.int .i64 0) ∧ u4.frozen? ⟨w.heap.size, 0, none⟩ = false ∧ u4.frozen? ⟨w.heap.size, 1, none⟩ = false ∧ u4.cell? ⟨u1.heap.size, 0, none⟩ = some (.int .i64 x.1) ∧ u4.cell? ⟨u1.heap.size, 1, none⟩ = some (.int .i64 x.2)) ∧ Hid (u4.heap[w.heap.size]? = some (.cells #[.int .i64 0, .int .i64 0] 53 (0, 0))) ∧
        Hid (TkP B w s bs mo mb (.slice (some ⟨p, 0, none⟩) M.wt.length cap) M c obj (.returned (.tuple #[.agg #[.int .i64 x.1, .int .i64 x.2], .bool true])) ((u4.setCell ⟨w.heap.size, 0, none⟩ (.int .i64 x.1)).setCell ⟨w.heap.size, 1, none⟩ (.int .i64 x.2))))) := fun u1 hb1 => by
    have hz := hb1.size
    have bw1 : Below w.heap.size w u1 := b0.trans (hb1.mono (by omega))
    have m1 := h.below bw1
    have bw2 : Below w.heap.size w (u1.alloc (.cells #[.int .i64 x.1, .int .i64 x.2] 53)) := bw1.alloc (by omega) _
    have m2 := h.below bw2
    have hx2 : (u1.alloc (.cells #[.int .i64 x.1, .int .i64 x.2] 53)).heap[u1.heap.size]? = some (.cells #[.int .i64 x.1, .int .i64 x.2] 53 (0, 0)) := Array.getElem?_push_size
    have hH2 : (u1.alloc (.cells #[.int .i64 x.1, .int .i64 x.2] 53)).heap[w.heap.size]? = some (.cells #[.int .i64 0, .int .i64 0] 53 (0, 0)) := (Below.heap_alloc _ _ _ (by omega)).trans ((hb1.block _ (by omega)).trans bU)
    have hsz2 : (u1.alloc (.cells #[.int .i64 x.1, .int .i64 x.2] 53)).heap.size = u1.heap.size + 1 := Array.size_push _
    obtain ⟨p', e', -, -, -, hc⟩ := m1.hw.cells (by rw [List.length_map]; omega)
    injection e' with e'
    injection e' with e' _ _
    subst e'
    have hr := hc i (encV x) (by rw [List.getElem?_map, hx]; rfl)
    have a0 := hr 0 _ rfl
    rw [Nat.add_zero] at a0
    refine ⟨⟨m1.cells.2.2.1, a0, hr 1 _ rfl⟩, _, rfl, m2.cells.2.2.1, ?_⟩
    refine (deleteV_ok m2.hw (fun r hr u hu => by obtain ⟨y, -, rfl⟩ := List.mem_map.1 hr; simp [encV] at hu; rcases hu with rfl | rfl <;> rfl) i ((i : Int) + 1) hi rfl).mono ?_
    rintro e u3 ⟨rfl, hR3, hg3⟩
    have hem : (M.wt.map encV).eraseIdx i = (M.wt.eraseIdx i).map encV := by rw [List.eraseIdx_eq_take_drop_succ, List.eraseIdx_eq_take_drop_succ, List.map_append, List.map_take, List.map_drop]
    rw [hem] at hR3
    obtain ⟨m4, b4⟩ := m2.items (c' := c) hg3 hR3 (.inl rfl) (by rw [List.length_eraseIdx]; split <;> omega) (Nat.le_refl c) h.hc
    have es : u3.heap[s]? = _ := hg3.block s (by omega) (fun e => hps (by injection e with e; exact e.symm))
    have hx4 : (u3.setCell ⟨s, 2, none⟩ (.slice (some ⟨p, 0, none⟩) (M.wt.length - 1) cap)).heap[u1.heap.size]? = some (.cells #[.int .i64 x.1, .int .i64 x.2] 53 (0, 0)) := (heap_put _ _ (show u1.heap.size ≠ s by omega)).trans ((hg3.block _ (by omega) (fun e => by injection e with e; omega)).trans hx2)
    have hH4 : (u3.setCell ⟨s, 2, none⟩ (.slice (some ⟨p, 0, none⟩) (M.wt.length - 1) cap)).heap[w.heap.size]? = some (.cells #[.int .i64 0, .int .i64 0] 53 (0, 0)) := (heap_put _ _ (show w.heap.size ≠ s by omega)).trans ((hg3.block _ (by omega) (fun e => by injection e with e; omega)).trans hH2)
    refine ⟨rfl, ⟨(cell_of1 es).trans m2.cells.2.2.1, frz (es.trans m2.hs) 2⟩, _, rfl, ⟨(box2c hH4).1, (box2c hH4).2.1, (box2c hH4).2.2.1, (box2c hH4).2.2.2, (box2c hx4).1, (box2c hx4).2.1⟩, hH4, ?_⟩
    have keep : ∀ k, k < w.heap.size → k ≠ s → k ≠ p → (((u3.setCell ⟨s, 2, none⟩ (.slice (some ⟨p, 0, none⟩) (M.wt.length - 1) cap)).setCell ⟨w.heap.size, 0, none⟩ (.int .i64 x.1)).setCell ⟨w.heap.size, 1, none⟩ (.int .i64 x.2)).heap[k]? = w.heap[k]? := fun k hk q1 q2 => by
      rw [heap_put _ _ (show k ≠ w.heap.size by omega), heap_put _ _ (show k ≠ w.heap.size by omega), heap_put _ _ (show k ≠ s from q1), hg3.block k (by omega) (fun e => q2 (by injection e))]
      exact bw2.block k hk
    have hsz4 : (((u3.setCell ⟨s, 2, none⟩ (.slice (some ⟨p, 0, none⟩) (M.wt.length - 1) cap)).setCell ⟨w.heap.size, 0, none⟩ (.int .i64 x.1)).setCell ⟨w.heap.size, 1, none⟩ (.int .i64 x.2)).heap.size = u3.heap.size := by simp [World.setCell]
    have hg3s := hg3.size
    refine ⟨⟨by omega, fun k hk q1 q2 => keep k hk q1 (fun e => q2 (by rw [e]; exact (rfl : some p = some p)))⟩, below_set (below_set ((bw2.mono hB).trans b4) hB) hB, ?_⟩
    rw [hp]
    refine ⟨x, .slice (some ⟨p, 0, none⟩) (M.wt.length - 1) cap, hx, rfl, ?_, rfl⟩
    have sk : ∀ k, k ≠ w.heap.size → (((u3.setCell ⟨s, 2, none⟩ (.slice (some ⟨p, 0, none⟩) (M.wt.length - 1) cap)).setCell ⟨w.heap.size, 0, none⟩ (.int .i64 x.1)).setCell ⟨w.heap.size, 1, none⟩ (.int .i64 x.2)).heap[k]? = (u3.setCell ⟨s, 2, none⟩ (.slice (some ⟨p, 0, none⟩) (M.wt.length - 1) cap)).heap[k]? := fun k hk => (heap_put _ _ hk).trans (heap_put _ _ hk)
    refine m4.of_blocks (sk s (by omega)) (sk bs (by omega)) (sk mo (by omega)) (sk mb (by omega)) fun j hj => sk j ?_
    have hj' : p = j := by simpa [Value.ownBlock] using hj
    have := hpl.2
    omega
  have hw64 : wrap64 ((i : Int) + 1) = (i : Int) + 1 := by unfold wrap64; omega
  clear h h1 e1 hb b0 hB bU hap hlt hps hx hpl hwl hcc hi hp
  generalize M.wt.length = L at *
  go_enter Try.func20, Try.ntmps20
  go_upto_region 1 with fail
  rw [← hU]
  clear hU
  go_upto_region 6 with (go_at_call 23; refine hI.mono ?_; rintro e u1 ⟨rfl, hb⟩; obtain ⟨⟨q0, q1, q2⟩, u2, hu2, q3, HD⟩ := HG.out u1 hb; clear hb hI)
  rw [← hu2]
  clear hu2 q0 q1 q2
  go_upto_region 7 with (go_at_call 24; refine HD.out.mono ?_; rintro e u3 ⟨rfl, ⟨r0, r1⟩, u4, hu4, ⟨s0, s1, s2, s3, s4, s5⟩, HH4, HT⟩; clear HD)
  rw [← hu4]
  clear hu4 r0 r1
  go_wp2_with fail
  refine bodyPost_ret (nres rfl rfl (box2 HH4.out _ _)) rfl ?_
  exact HT.out
end
end Go.Proofs.Ytdkbdmlodngneaa
