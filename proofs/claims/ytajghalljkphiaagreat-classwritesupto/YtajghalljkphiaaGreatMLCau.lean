/- Decode: whatever the bytes. -/
import Derived.Test.YtajghalljkphiaaGreatMLCat
import Derived.Test.YtajghalljkphiaaGreatMLDec
namespace Go.Proofs.YtajghalljkphiaaGreat
open Go.RowKit

set_option maxHeartbeats 1000000 in
set_option maxRecDepth 20000 in
theorem dec1_any {s : ByteArray} {sb : Nat} {w : World} (hs : s.size ≤ maxLen) (hb : w.heap[sb]? = some (.cells #[.string s] 9 (0, 0))) : Calls Tryz.prog 15 #[.pointer (some ⟨sb, 0, none⟩)] w (DcP s w) := by
  have hl : sb < w.heap.size := (Array.getElem?_eq_some_iff.1 hb).1
  have hz0 := heap_alloc_new w (.cells #[.int .i64 0, .slice none 0 0] 24)
  have hz1 : (w.alloc (.cells #[.int .i64 0, .slice none 0 0] 24)).heap.size = w.heap.size + 1 := by simp
  have hb0 : Below w.heap.size w (w.alloc (.cells #[.int .i64 0, .slice none 0 0] 24)) := (Below.refl _ _).alloc (Nat.le_refl _) _
  have c0 : w.cell? ⟨sb, 0, none⟩ = some (.string s) := by simp [World.cell?, hb]
  have hC := decode_any s (w.alloc (.cells #[.int .i64 0, .slice none 0 0] 24)) hs
  have HB : Hid (∀ w2, Below (w.alloc (.cells #[.int .i64 0, .slice none 0 0] 24)).heap.size (w.alloc (.cells #[.int .i64 0, .slice none 0 0] 24)) w2 → Below w.heap.size w w2 ∧ w2.heap[w.heap.size]? = some (.cells #[.int .i64 0, .slice none 0 0] 24 (0, 0)) ∧ w.heap.size + 1 ≤ w2.heap.size) := fun w2 h => ⟨hb0.trans (h.mono (by omega)), by rw [h.block _ (by omega)]; exact hz0, by have := h.size; omega⟩
  clear hb hz0
  rcases hq : decP s with ⟨q, c⟩ | p
  · unfold DcP at hC
    rw [hq] at hC
    have HE : Hid (decP s = .error (q, c)) := hq
    clear hq
    go_enter Tryz.func15, Tryz.ntmps15
    go_wp2_with (go_at_call 16; refine hC.mono ?_; rintro e w2 ⟨hb, rfl⟩)
    exact ⟨rfl, DcP.err HE.out (HB.out _ hb).1⟩
  · unfold DcP at hC
    rw [hq] at hC
    have HE : Hid (decP s = .ok p) := hq
    clear hq
    go_enter Tryz.func15, Tryz.ntmps15
    go_wp2_with (first
      | (go_at_call 16; refine hC.mono ?_; rintro e w2 ⟨hb, v, rfl, ⟨cs, ⟨v1, rfl, hSl⟩, rfl⟩⟩; have HV : Hid (Sl kCsU w2 (fun k => w.heap.size + 1 ≤ k ∧ k < w2.heap.size) v1 p.cls) := hSl.mono (fun k hk => ⟨by have := hk.1; rw [hz1] at this; exact this, hk.2⟩); obtain ⟨ao, cap, rfl, -⟩ := hSl; have HQ : Hid (Below w.heap.size w w2 ∧ w2.heap[w.heap.size]? = some (.cells #[.int .i64 0, .slice none 0 0] 24 (0, 0)) ∧ w.heap.size + 1 ≤ w2.heap.size) := HB.out w2 hb; clear hC hb HB)
      | (refine wpList_store_row rfl 24 _ _ rfl w.heap.size _ rfl rfl 24 _ HQ.out.2.1 infoRPg rfl (by simp [Value.oneCell']) ?_))
    have hsz := HQ.out.2.2
    refine bodyPost_ret (results_cell_row rfl _ _ w.heap.size 24 #[.int .i64 p.main, .slice ao p.cls.length cap] (0, 0) _ rfl (setRow_heap _ _ _ _ _ _ HQ.out.2.1) Tryz.underlying24 rfl infoRPg) rfl ?_
    have hsame : ∀ k, k ≠ w.heap.size → ((w2.setRow w.heap.size #[.int .i64 p.main, .slice ao p.cls.length cap]).heap[k]? = w2.heap[k]?) := fun k hn => setRow_other _ _ _ _ hn
    unfold DcP
    rw [HE.out]
    refine ⟨⟨HQ.out.1.os, HQ.out.1.tape, HQ.out.1.output, ?_, fun k hk => ?_⟩, _, rfl, _, ⟨_, rfl, (HV.out.keep fun k hk => hsame k (by have := hk.1; omega)).mono fun k hk => ⟨by have := hk.1; omega, ?_⟩⟩, rfl⟩
    · rw [size_setRow]; omega
    · rw [hsame k (by omega)]; exact HQ.out.1.block k hk
    · rw [size_setRow]; exact hk.2

/-- Three boxes made. -/
theorem box3 (w : World) (o1 o2 o3 : Obj) : (((w.alloc o1).alloc o2).alloc o3).heap[w.heap.size]? = some o1 ∧ (((w.alloc o1).alloc o2).alloc o3).heap[w.heap.size + 1]? = some o2 ∧ (((w.alloc o1).alloc o2).alloc o3).heap[w.heap.size + 2]? = some o3 ∧ (((w.alloc o1).alloc o2).alloc o3).heap.size = w.heap.size + 3 ∧ Below w.heap.size w (((w.alloc o1).alloc o2).alloc o3) := by
  have h1 := heap_alloc_new w o1
  have h2 := heap_alloc_new (w.alloc o1) o2
  have h3 := heap_alloc_new ((w.alloc o1).alloc o2) o3
  have s1 : (w.alloc o1).heap.size = w.heap.size + 1 := by simp
  have s2 : ((w.alloc o1).alloc o2).heap.size = w.heap.size + 2 := by simp
  rw [s1] at h2
  rw [s2] at h3
  refine ⟨?_, ?_, h3, by simp, (((Below.refl _ _).alloc (Nat.le_refl _) _).alloc (by omega) _).alloc (by omega) _⟩
  · rw [Below.heap_alloc _ _ _ (by omega), Below.heap_alloc _ _ _ (by omega)]; exact h1
  · rw [Below.heap_alloc _ _ _ (by omega)]; exact h2

/-- What Decode answers. -/
def DeP (s : ByteArray) (w : World) (e : Ending) (w' : World) : Prop := Below w.heap.size w w' ∧ match decP s with
  | .ok p => ∃ v, e = .returned (.tuple #[v, .int .i64 0, .int .i64 0]) ∧ Nw kPgU w p v w'
  | .error (q, c) => e = .returned (.tuple #[.agg #[.int .i64 0, .slice none 0 0], .int .i64 q, .int .i64 c])

set_option maxHeartbeats 1000000 in
set_option maxRecDepth 20000 in
theorem caughtP_any {s : ByteArray} {sb : Nat} {w : World} (hs : s.size ≤ maxLen) (hb : w.heap[sb]? = some (.cells #[.string s] 9 (0, 0))) :
    Calls Tryz.prog 14 #[.func (.func 15) #[] #[.pointer (some ⟨sb, 0, none⟩)]] w (DeP s w) := by
  have hmf : ∀ (fn : Fn) (first cap : Array Value) (w : World), (Instr.makeFunc fn first cap).run Tryz.prog w = .ok (.func fn first cap) w := fun _ _ _ _ => rfl
  have hl : sb < w.heap.size := (Array.getElem?_eq_some_iff.1 hb).1
  obtain ⟨x1, x2, x3, xz, xB⟩ := box3 w (.cells #[.int .i64 0, .slice none 0 0] 24) (.cells #[.int .i64 0] 3) (.cells #[.int .i64 0] 25)
  have hC := dec1_any (s := s) (sb := sb) (w := (((w.alloc (.cells #[.int .i64 0, .slice none 0 0] 24)).alloc (.cells #[.int .i64 0] 3)).alloc (.cells #[.int .i64 0] 25))) hs (by rw [xB.block _ hl]; exact hb)
  unfold DcP at hC
  have HB : Hid (∀ w2, Below (((w.alloc (.cells #[.int .i64 0, .slice none 0 0] 24)).alloc (.cells #[.int .i64 0] 3)).alloc (.cells #[.int .i64 0] 25)).heap.size (((w.alloc (.cells #[.int .i64 0, .slice none 0 0] 24)).alloc (.cells #[.int .i64 0] 3)).alloc (.cells #[.int .i64 0] 25)) w2 → Below w.heap.size w w2 ∧ w2.heap[w.heap.size]? = some (.cells #[.int .i64 0, .slice none 0 0] 24 (0, 0)) ∧ w2.heap[w.heap.size + 1]? = some (.cells #[.int .i64 0] 3 (0, 0)) ∧ w2.heap[w.heap.size + 2]? = some (.cells #[.int .i64 0] 25 (0, 0)) ∧ w.heap.size + 3 ≤ w2.heap.size) := fun w2 hb2 =>
    ⟨xB.trans (hb2.mono (by omega)), by rw [hb2.block _ (by omega)]; exact x1, by rw [hb2.block _ (by omega)]; exact x2, by rw [hb2.block _ (by omega)]; exact x3, by have := hb2.size; omega⟩
  have HZ : Hid ((((w.alloc (.cells #[.int .i64 0, .slice none 0 0] 24)).alloc (.cells #[.int .i64 0] 3)).alloc (.cells #[.int .i64 0] 25)).heap.size = w.heap.size + 3) := xz
  clear x1 x2 x3 xz xB hb
  rcases hq : decP s with ⟨q, c⟩ | p
  · rw [hq] at hC
    have HE : Hid (decP s = .error (q, c)) := hq
    clear hq
    go_enter_defers Tryz.func14, Tryz.ntmps14
    go_wp2_with (go_at_call 15; refine hC.mono ?_; rintro e w2 ⟨hb2, rfl⟩)
    refine leaves_cons (f := 35) (args := #[.pointer (some ⟨w.heap.size + 1, 0, none⟩), .pointer (some ⟨w.heap.size + 2, 0, none⟩)]) (by simp) (by simp [go_sem]) ?_
    obtain ⟨q1, q2, q3, q4, q5⟩ := HB.out w2 hb2
    refine (catchP_panicking (w.heap.size + 1) (w.heap.size + 2) q c w2 (by omega) q3 q4).mono ?_
    rintro e u' w3 ⟨rfl, rfl, hw3⟩
    have hB3 := (hw3.block w.heap.size (by omega) (by omega) (by omega)).trans q2
    have c1 : w3.cell? ⟨w.heap.size + 1, 0, none⟩ = some (.int .i64 q) := by simp [World.cell?, hw3.at_]
    have c2 : w3.cell? ⟨w.heap.size + 1 + 1, 0, none⟩ = some (.int .i64 c) := by simp [World.cell?, hw3.code]
    have ca : ∀ j, j < 2 → w3.cell? ⟨w.heap.size, j, none⟩ = #[.int .i64 0, .slice none 0 0][j]? := fun j hj => by simp [World.cell?, hB3]
    have ca0 := ca 0 (by omega)
    have ca1 := ca 1 (by omega)
    simp at ca0 ca1
    simp [Leaves, settle, results, Tryz.results14, ca0, ca1, Result.andThen, asAddr, go_sem, c1, c2]
    unfold DeP
    rw [HE.out]
    exact ⟨q1.trans ⟨hw3.os, hw3.tape, hw3.output, hw3.size, fun k hk => hw3.block k (by have := q1.size; omega) (by omega) (by omega)⟩, rfl⟩
  · rw [hq] at hC
    have HE : Hid (decP s = .ok p) := hq
    clear hq
    go_enter_defers Tryz.func14, Tryz.ntmps14
    go_wp2_with (first
      | (go_at_call 15; refine hC.mono ?_; rintro e w2 ⟨hb, v, rfl, ⟨cs, ⟨v1, rfl, hSl⟩, rfl⟩⟩; have HV : Hid (Sl kCsU w2 (fun k => w.heap.size + 3 ≤ k ∧ k < w2.heap.size) v1 p.cls) := hSl.mono (fun k hk => ⟨by have := hk.1; rw [HZ.out] at this; exact this, hk.2⟩); obtain ⟨ao, cap, rfl, -⟩ := hSl; obtain ⟨q1, q2, q3, q4, q5⟩ := HB.out w2 hb; have H2 : Hid (w2.heap[w.heap.size]? = some (.cells #[.int .i64 0, .slice none 0 0] 24 (0, 0))) := q2; have r3 : (w2.setRow w.heap.size #[.int .i64 p.main, .slice ao p.cls.length cap]).heap[w.heap.size + 1]? = some (.cells #[.int .i64 0] 3 (0, 0)) := (setRow_other _ _ _ _ (by omega)).trans q3; have r4 : (w2.setRow w.heap.size #[.int .i64 p.main, .slice ao p.cls.length cap]).heap[w.heap.size + 2]? = some (.cells #[.int .i64 0] 25 (0, 0)) := (setRow_other _ _ _ _ (by omega)).trans q4; have c3 : (w2.setRow w.heap.size #[.int .i64 p.main, .slice ao p.cls.length cap]).cell? ⟨w.heap.size + 1, 0, none⟩ = some (.int .i64 0) := (by simp [World.cell?, r3]); have c4 : (w2.setRow w.heap.size #[.int .i64 p.main, .slice ao p.cls.length cap]).cell? ⟨w.heap.size + 2, 0, none⟩ = some (.int .i64 0) := (by simp [World.cell?, r4]); have f3 : (w2.setRow w.heap.size #[.int .i64 p.main, .slice ao p.cls.length cap]).frozen? ⟨w.heap.size + 1, 0, none⟩ = false := (by simp [World.frozen?, r3]); have f4 : (w2.setRow w.heap.size #[.int .i64 p.main, .slice ao p.cls.length cap]).frozen? ⟨w.heap.size + 2, 0, none⟩ = false := (by simp [World.frozen?, r4]); have H3 : Hid ((w2.setRow w.heap.size #[.int .i64 p.main, .slice ao p.cls.length cap]).heap[w.heap.size + 1]? = some (.cells #[.int .i64 0] 3 (0, 0))) := r3; have H4 : Hid ((w2.setRow w.heap.size #[.int .i64 p.main, .slice ao p.cls.length cap]).heap[w.heap.size + 2]? = some (.cells #[.int .i64 0] 25 (0, 0))) := r4; have H1 : Hid (Below w.heap.size w w2) := q1; have hlz : w.heap.size + 2 < (w2.setRow w.heap.size #[.int .i64 p.main, .slice ao p.cls.length cap]).heap.size := (by rw [size_setRow]; omega); have hlz1 : w.heap.size + 1 < (w2.setRow w.heap.size #[.int .i64 p.main, .slice ao p.cls.length cap]).heap.size := (by omega); have hlz2 : (w2.setRow w.heap.size #[.int .i64 p.main, .slice ao p.cls.length cap]).heap.size = w2.heap.size := (by rw [size_setRow]); clear hC hb HB q1 q2 q3 q4 r3 r4)
      | (refine wpList_store_row rfl 24 _ _ rfl w.heap.size _ rfl rfl 24 _ H2.out infoRPg rfl (by simp [Value.oneCell']) ?_; have HS : Hid (∀ k, k ≠ w.heap.size → (w2.setRow w.heap.size #[.int .i64 p.main, .slice ao p.cls.length cap]).heap[k]? = w2.heap[k]?) := fun k hn => setRow_other _ _ _ _ hn; have HR : Hid ((w2.setRow w.heap.size #[.int .i64 p.main, .slice ao p.cls.length cap]).heap[w.heap.size]? = some (.cells #[.int .i64 p.main, .slice ao p.cls.length cap] 24 (0, 0))) := setRow_heap _ _ _ _ _ _ H2.out; have HO : Hid ((w2.setRow w.heap.size #[.int .i64 p.main, .slice ao p.cls.length cap]).os = w2.os ∧ (w2.setRow w.heap.size #[.int .i64 p.main, .slice ao p.cls.length cap]).tape = w2.tape ∧ (w2.setRow w.heap.size #[.int .i64 p.main, .slice ao p.cls.length cap]).output = w2.output) := ⟨rfl, rfl, rfl⟩; generalize hW : w2.setRow w.heap.size #[.int .i64 p.main, .slice ao p.cls.length cap] = W at *; clear hW H2))
    refine leaves_cons (f := 35) (args := #[.pointer (some ⟨w.heap.size + 1, 0, none⟩), .pointer (some ⟨w.heap.size + 2, 0, none⟩)]) (by simp) (by simp [go_sem]) ?_
    refine (catchP_idle (w.heap.size + 1) (w.heap.size + 2) _).mono ?_
    rintro e u' w3 ⟨rfl, rfl, hw3⟩
    have z1 : ((W.setCell ⟨w.heap.size + 1, 0, none⟩ (.int .i64 0)).setCell ⟨w.heap.size + 1 + 1, 0, none⟩ (.int .i64 0)).heap.size = W.heap.size := by simp [World.setCell]
    have hk : ∀ k, k < W.heap.size → k ≠ w.heap.size + 1 → k ≠ w.heap.size + 2 → w3.heap[k]? = W.heap[k]? := fun k hk h1 h2 => by
      rw [hw3, Below.heap_alloc _ _ _ (by omega), Below.heap_setCell _ _ _ _ (show k ≠ w.heap.size + 1 + 1 by omega), Below.heap_setCell _ _ _ _ h1]
    have hs3 : w3.heap.size = w2.heap.size + 1 := by rw [hw3]; simp [World.setCell]; omega
    have hB3 := (hk w.heap.size (by omega) (by omega) (by omega)).trans HR.out
    have d1 : w3.heap[w.heap.size + 1]? = some (.cells #[.int .i64 0] 3 (0, 0)) := by
      rw [hw3, Below.heap_alloc _ _ _ (by omega), Below.heap_setCell _ _ _ _ (show w.heap.size + 1 ≠ w.heap.size + 1 + 1 by omega)]; exact hset H3.out _
    have d2 : w3.heap[w.heap.size + 2]? = some (.cells #[.int .i64 0] 25 (0, 0)) := by
      rw [hw3, Below.heap_alloc _ _ _ (by omega)]
      exact hset ((Below.heap_setCell _ _ _ _ (show w.heap.size + 1 + 1 ≠ w.heap.size + 1 by omega)).trans H4.out) _
    have c1 : w3.cell? ⟨w.heap.size + 1, 0, none⟩ = some (.int .i64 0) := by simp [World.cell?, d1]
    have c2 : w3.cell? ⟨w.heap.size + 1 + 1, 0, none⟩ = some (.int .i64 0) := by simp [World.cell?, d2]
    have ca : ∀ j, j < 2 → w3.cell? ⟨w.heap.size, j, none⟩ = #[.int .i64 p.main, .slice ao p.cls.length cap][j]? := fun j hj => by simp [World.cell?, hB3]
    have ca0 := ca 0 (by omega)
    have ca1 := ca 1 (by omega)
    simp at ca0 ca1
    simp [Leaves, settle, results, Tryz.results14, ca0, ca1, Result.andThen, asAddr, go_sem, c1, c2]
    unfold DeP
    rw [HE.out]
    have h1 := H1.out
    have hS := h1.size
    have hsame : ∀ k, k < w2.heap.size → k ≠ w.heap.size → k ≠ w.heap.size + 1 → k ≠ w.heap.size + 2 → w3.heap[k]? = w2.heap[k]? := fun k hk0 e0 e1 e2 => (hk k (by omega) e1 e2).trans (HS.out k e0)
    refine ⟨⟨by rw [hw3]; exact HO.out.1.trans h1.os, by rw [hw3]; exact HO.out.2.1.trans h1.tape, by rw [hw3]; exact HO.out.2.2.trans h1.output, by omega, fun k hk => ?_⟩, _, rfl, _, ⟨_, rfl, (HV.out.keep fun k hk => hsame k hk.2 (by have := hk.1; omega) (by have := hk.1; omega) (by have := hk.1; omega)).mono fun k hk => ⟨by have := hk.1; omega, by have := hk.2; omega⟩⟩, rfl⟩
    rw [hsame k (by omega) (by omega) (by omega) (by omega)]; exact h1.block k hk

theorem results_ctt {P : Program} {fn : Func} {p u v : Tmp} {ty : TypeId} (h : fn.results = #[.cell p ty, .tmp u, .tmp v]) (tmps : Array Value) (w : World) (g : Nat) (t : TypeId) (cs : Array Value) (fr : Nat × Nat) (d : TypeDesc)
    (hp : tmps.getD p undef = .pointer (some ⟨g, 0, none⟩)) (hg : w.heap[g]? = some (.cells cs t fr))
    (hu : P.underlying ty = some d) (hd : (match d with | .struct _ | .array _ _ => true | _ => false) = true) (hi : (P.info? ty).map (·.size) = some cs.size) :
    (results fn tmps).run P w = .ok (.tuple #[.agg cs, tmps.getD u undef, tmps.getD v undef]) w := by
  have hp' : tmps[p]?.getD undef = .pointer (some ⟨g, 0, none⟩) := by simpa using hp
  simp [results, h, hp', asAddr, run_loadVar_row w g t ty cs fr d hg hu hd hi]

set_option maxHeartbeats 1000000 in
set_option maxRecDepth 20000 in
theorem Decode_any (s : ByteArray) (w : World) (hs : s.size ≤ maxLen) : Calls Tryz.prog 5 #[.string s] w (DeP s w) := by
  have hmf : ∀ (fn : Fn) (first cap : Array Value) (w : World), (Instr.makeFunc fn first cap).run Tryz.prog w = .ok (.func fn first cap) w := fun _ _ _ _ => rfl
  have hC := caughtP_any (s := s) (sb := w.heap.size) (w := (w.alloc (.cells #[.string s] 9)).alloc (.cells #[.int .i64 0, .slice none 0 0] 24)) hs (by rw [Below.heap_alloc _ _ _ (by simp)]; exact heap_alloc_new w _)
  unfold DeP at hC
  have hz1 : (w.alloc (.cells #[.string s] 9)).heap.size = w.heap.size + 1 := by simp
  have hz2 : ((w.alloc (.cells #[.string s] 9)).alloc (.cells #[.int .i64 0, .slice none 0 0] 24)).heap.size = w.heap.size + 2 := by simp
  have HB : Hid (∀ w2, Below ((w.alloc (.cells #[.string s] 9)).alloc (.cells #[.int .i64 0, .slice none 0 0] 24)).heap.size ((w.alloc (.cells #[.string s] 9)).alloc (.cells #[.int .i64 0, .slice none 0 0] 24)) w2 → Below w.heap.size w w2 ∧ w2.heap[w.heap.size + 1]? = some (.cells #[.int .i64 0, .slice none 0 0] 24 (0, 0)) ∧ w.heap.size + 2 ≤ w2.heap.size) := fun w2 hb2 => by
    have h0 : Below w.heap.size w ((w.alloc (.cells #[.string s] 9)).alloc (.cells #[.int .i64 0, .slice none 0 0] 24)) := ((Below.refl _ _).alloc (Nat.le_refl _) _).alloc (by omega) _
    refine ⟨h0.trans (hb2.mono (by omega)), ?_, by have := hb2.size; omega⟩
    rw [hb2.block _ (by omega)]
    have := heap_alloc_new (w.alloc (.cells #[.string s] 9)) (.cells #[.int .i64 0, .slice none 0 0] 24)
    rw [hz1] at this; exact this
  rcases hq : decP s with ⟨q, c⟩ | p
  · rw [hq] at hC
    have HE : Hid (decP s = .error (q, c)) := hq
    clear hq
    go_enter Tryz.func5, Tryz.ntmps5
    go_wp2_with (first
      | (go_at_call 14; refine hC.mono ?_; rintro e w2 ⟨hb2, rfl⟩; obtain ⟨q1, q2, q3⟩ := HB.out w2 hb2; have H1 : Hid (Below w.heap.size w w2) := q1; have H2 : Hid (w2.heap[w.heap.size + 1]? = some (.cells #[.int .i64 0, .slice none 0 0] 24 (0, 0))) := q2; clear hC HB hb2 q1 q2)
      | (refine wpList_store_row rfl 24 _ _ rfl (w.heap.size + 1) _ rfl rfl 24 _ H2.out infoRPg rfl (by simp [Value.oneCell']) ?_))
    refine bodyPost_ret (results_ctt rfl _ _ (w.heap.size + 1) 24 #[.int .i64 0, .slice none 0 0] (0, 0) _ rfl (setRow_heap _ _ _ _ _ _ H2.out) Tryz.underlying24 rfl infoRPg) rfl ?_
    unfold DeP
    rw [HE.out]
    have h1 := H1.out
    exact ⟨⟨h1.os, h1.tape, h1.output, by rw [size_setRow]; exact h1.size, fun k hk => by rw [setRow_other _ _ _ _ (by omega)]; exact h1.block k hk⟩, rfl⟩
  · rw [hq] at hC
    have HE : Hid (decP s = .ok p) := hq
    clear hq
    go_enter Tryz.func5, Tryz.ntmps5
    go_wp2_with (first
      | (go_at_call 14; refine hC.mono ?_; rintro e w2 ⟨hb2, v, rfl, ⟨cs, ⟨v1, rfl, hSl⟩, rfl⟩⟩; have HV : Hid (Sl kCsU w2 (fun k => w.heap.size + 2 ≤ k ∧ k < w2.heap.size) v1 p.cls) := hSl.mono (fun k hk => ⟨by have := hk.1; rw [hz2] at this; exact this, hk.2⟩); obtain ⟨ao, cap, rfl, -⟩ := hSl; obtain ⟨q1, q2, q3⟩ := HB.out w2 hb2; have H1 : Hid (Below w.heap.size w w2) := q1; have H2 : Hid (w2.heap[w.heap.size + 1]? = some (.cells #[.int .i64 0, .slice none 0 0] 24 (0, 0))) := q2; clear hC HB hb2 q1 q2)
      | (refine wpList_store_row rfl 24 _ _ rfl (w.heap.size + 1) _ rfl rfl 24 _ H2.out infoRPg rfl (by simp [Value.oneCell']) ?_))
    refine bodyPost_ret (results_ctt rfl _ _ (w.heap.size + 1) 24 #[.int .i64 p.main, .slice ao p.cls.length cap] (0, 0) _ rfl (setRow_heap _ _ _ _ _ _ H2.out) Tryz.underlying24 rfl infoRPg) rfl ?_
    unfold DeP
    rw [HE.out]
    have h1 := H1.out
    have hS := h1.size
    refine ⟨⟨h1.os, h1.tape, h1.output, by rw [size_setRow]; exact hS, fun k hk => by rw [setRow_other _ _ _ _ (by omega)]; exact h1.block k hk⟩, _, rfl, _, ⟨_, rfl, (HV.out.keep fun k hk => setRow_other _ _ _ _ (by have := hk.1; omega)).mono fun k hk => ⟨by have := hk.1; omega, by rw [size_setRow]; exact hk.2⟩⟩, rfl⟩
end Go.Proofs.YtajghalljkphiaaGreat
