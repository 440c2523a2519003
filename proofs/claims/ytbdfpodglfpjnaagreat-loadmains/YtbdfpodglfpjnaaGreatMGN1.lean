/- A program of one class with one method, as the law makes it and turns it. -/
import Derived.Test.YtbdfpodglfpjnaaGreatMLAwk
namespace Go.Proofs.YtbdfpodglfpjnaaGreat
open Go.RowKit

/-- A program of one class with one method lies in memory: its box at bp, the class at bc, the method at bm. -/
theorem one_R {u : World} {S : Nat → Prop} {bc bm : Nat} {M sup ret lo st : Int} {nm mn : ByteArray} {face fin stc : Bool} {v1 v2 v3 v4 v5 v6 v7 : Value} {faces args : List Int} {flds stcs : List Fd} {code : List Is} {tab : List Hd} {maps : List Mp} {k1 k2 : Nat}
    (hC : u.heap[bc]? = some (.cells #[.string nm, .bool face, .bool fin, .int .i64 sup, v1, v2, v3, .slice (some ⟨bm, 0, none⟩) 1 k1] 31 (0, 0)))
    (hM : u.heap[bm]? = some (.cells #[.string mn, .bool stc, v4, .int .i64 ret, .int .i64 lo, .int .i64 st, v5, v6, v7] 39 (0, 0)))
    (sC : S bc) (sM : S bm) (h1 : Sl kI u S v1 faces) (h2 : Sl kFd u S v2 flds) (h3 : Sl kFd u S v3 stcs) (h4 : Sl kI u S v4 args) (h5 : Sl kIs u S v5 code) (h6 : Sl kHd u S v6 tab) (h7 : Sl kMp u S v7 maps) :
    kPg.R u S ⟨M, [⟨nm, face, fin, sup, faces, flds, stcs, [⟨mn, stc, args, ret, lo, st, code, tab, maps⟩]⟩]⟩ [.int .i64 M, .slice (some ⟨bc, 0, none⟩) 1 k2] :=
  ⟨_, rfl, Sl.one1 hC sC ⟨v1, v2, v3, _, rfl, h1, h2, h3, Sl.one1 hM sM ⟨v4, v5, v6, v7, rfl, h4, h5, h6, h7⟩⟩⟩

theorem byts_le : ∀ l : List Pt, vl l → (byts l).length ≤ 21 * l.length
  | [], _ => by simp [byts]
  | p :: l, h => by
    rw [byts_cons, List.length_append, List.length_cons]
    have h1 := bts_short (vl_cons.1 h).1
    have h2 := byts_le l (vl_cons.1 h).2
    omega
theorem enc_fine {p : Pg} (h1 : (gPg p).all okC = true) (h2 : (gPg p).all okT = true) (h3 : (gPg p).all okN = true) (hl : (gPg p).length ≤ 1500) : ∃ b, encP p = .ok b := by
  have := byts_le _ (all_vl h1 h2 h3)
  refine ⟨⟨(mag ++ byts (gPg p)).toArray⟩, ?_⟩
  unfold encP
  rw [if_pos h1, if_pos h2, if_pos h3, if_neg (by rw [List.length_append]; simp [mag]; omega)]
theorem enc_many {p : Pg} (h1 : (gPg p).all okC = false) : encP p = .error 1404 := by unfold encP; rw [if_neg (by rw [h1]; decide)]
theorem enc_name {p : Pg} (h1 : (gPg p).all okC = true) (h2 : (gPg p).all okT = false) : encP p = .error 1403 := by unfold encP; rw [if_pos h1, if_neg (by rw [h2]; decide)]
theorem enc_form {p : Pg} (h1 : (gPg p).all okC = true) (h2 : (gPg p).all okT = true) (h3 : (gPg p).all okN = false) : encP p = .error 1402 := by unfold encP; rw [if_pos h1, if_pos h2, if_neg (by rw [h3]; decide)]

/-- Where Tiny's parts lie. -/
structure Tn (u : World) (N : Nat) : Prop where
  cls : u.heap[N + 1 + 1 + 1 + 1]? = some (.cells #[.string ⟨#[77]⟩, .bool false, .bool false, .int .i64 0, .slice none 0 0, .slice none 0 0, .slice none 0 0, .slice (some ⟨N + 1 + 1 + 1, 0, none⟩) 1 1] 31 (0, 0))
  met : u.heap[N + 1 + 1 + 1]? = some (.cells #[.string ⟨#[109, 97, 105, 110]⟩, .bool true, .slice none 0 0, .int .i64 0, .int .i64 0, .int .i64 0, .slice (some ⟨N + 1, 0, none⟩) 1 1, .slice none 0 0, .slice none 0 0] 39 (0, 0))
  ins : u.heap[N + 1]? = some (.cells #[.int .i64 29, .int .i64 0, .int .i64 0] 44 (0, 0))
  size : u.heap.size = N + 1 + 1 + 1 + 1 + 1
set_option maxHeartbeats 2000000 in
set_option maxRecDepth 20000 in
theorem TinyM (w : World) : Calls Tryz.prog 20 #[] w fun e w' => Below w.heap.size w w' ∧ e = .returned (.agg #[.int .i64 11, .slice (some ⟨w.heap.size + 1 + 1 + 1 + 1, 0, none⟩) 1 1]) ∧ Tn w' w.heap.size := by
  go_enter Tryz.func20, Tryz.ntmps20
  go_wp2
  have s1 : (w.alloc (.cells #[.int .i64 11, .slice (some ⟨w.heap.size + 1 + 1 + 1 + 1, 0, none⟩) 1 1] 25)).heap.size = w.heap.size + 1 := by simp
  have s2 : ((w.alloc (.cells #[.int .i64 11, .slice (some ⟨w.heap.size + 1 + 1 + 1 + 1, 0, none⟩) 1 1] 25)).alloc (.cells #[.int .i64 29, .int .i64 0, .int .i64 0] 44)).heap.size = w.heap.size + 1 + 1 := by simp
  have s3 : (((w.alloc (.cells #[.int .i64 11, .slice (some ⟨w.heap.size + 1 + 1 + 1 + 1, 0, none⟩) 1 1] 25)).alloc (.cells #[.int .i64 29, .int .i64 0, .int .i64 0] 44)).alloc (.cells #[.string ⟨#[109, 97, 105, 110]⟩, .bool true, .slice none 0 0, .int .i64 0, .int .i64 0, .int .i64 0, .slice (some ⟨w.heap.size + 1, 0, none⟩) 1 1, .slice none 0 0, .slice none 0 0] 39)).heap.size = w.heap.size + 1 + 1 + 1 := by simp
  have s4 : ((((w.alloc (.cells #[.int .i64 11, .slice (some ⟨w.heap.size + 1 + 1 + 1 + 1, 0, none⟩) 1 1] 25)).alloc (.cells #[.int .i64 29, .int .i64 0, .int .i64 0] 44)).alloc (.cells #[.string ⟨#[109, 97, 105, 110]⟩, .bool true, .slice none 0 0, .int .i64 0, .int .i64 0, .int .i64 0, .slice (some ⟨w.heap.size + 1, 0, none⟩) 1 1, .slice none 0 0, .slice none 0 0] 39)).alloc (.cells #[.string ⟨#[109, 97, 105, 110]⟩, .bool true, .slice none 0 0, .int .i64 0, .int .i64 0, .int .i64 0, .slice (some ⟨w.heap.size + 1, 0, none⟩) 1 1, .slice none 0 0, .slice none 0 0] 39)).heap.size = w.heap.size + 1 + 1 + 1 + 1 := by simp
  have b1 := heap_alloc_new w (.cells #[.int .i64 11, .slice (some ⟨w.heap.size + 1 + 1 + 1 + 1, 0, none⟩) 1 1] 25)
  have b2 := heap_alloc_new (w.alloc (.cells #[.int .i64 11, .slice (some ⟨w.heap.size + 1 + 1 + 1 + 1, 0, none⟩) 1 1] 25)) (.cells #[.int .i64 29, .int .i64 0, .int .i64 0] 44)
  have b4 := heap_alloc_new (((w.alloc (.cells #[.int .i64 11, .slice (some ⟨w.heap.size + 1 + 1 + 1 + 1, 0, none⟩) 1 1] 25)).alloc (.cells #[.int .i64 29, .int .i64 0, .int .i64 0] 44)).alloc (.cells #[.string ⟨#[109, 97, 105, 110]⟩, .bool true, .slice none 0 0, .int .i64 0, .int .i64 0, .int .i64 0, .slice (some ⟨w.heap.size + 1, 0, none⟩) 1 1, .slice none 0 0, .slice none 0 0] 39)) (.cells #[.string ⟨#[109, 97, 105, 110]⟩, .bool true, .slice none 0 0, .int .i64 0, .int .i64 0, .int .i64 0, .slice (some ⟨w.heap.size + 1, 0, none⟩) 1 1, .slice none 0 0, .slice none 0 0] 39)
  have b5 := heap_alloc_new ((((w.alloc (.cells #[.int .i64 11, .slice (some ⟨w.heap.size + 1 + 1 + 1 + 1, 0, none⟩) 1 1] 25)).alloc (.cells #[.int .i64 29, .int .i64 0, .int .i64 0] 44)).alloc (.cells #[.string ⟨#[109, 97, 105, 110]⟩, .bool true, .slice none 0 0, .int .i64 0, .int .i64 0, .int .i64 0, .slice (some ⟨w.heap.size + 1, 0, none⟩) 1 1, .slice none 0 0, .slice none 0 0] 39)).alloc (.cells #[.string ⟨#[109, 97, 105, 110]⟩, .bool true, .slice none 0 0, .int .i64 0, .int .i64 0, .int .i64 0, .slice (some ⟨w.heap.size + 1, 0, none⟩) 1 1, .slice none 0 0, .slice none 0 0] 39)) (.cells #[.string ⟨#[77]⟩, .bool false, .bool false, .int .i64 0, .slice none 0 0, .slice none 0 0, .slice none 0 0, .slice (some ⟨w.heap.size + 1 + 1 + 1, 0, none⟩) 1 1] 31)
  rw [s1] at b2
  rw [s3] at b4
  rw [s4] at b5
  have hB : Below w.heap.size w (((((w.alloc (.cells #[.int .i64 11, .slice (some ⟨w.heap.size + 1 + 1 + 1 + 1, 0, none⟩) 1 1] 25)).alloc (.cells #[.int .i64 29, .int .i64 0, .int .i64 0] 44)).alloc (.cells #[.string ⟨#[109, 97, 105, 110]⟩, .bool true, .slice none 0 0, .int .i64 0, .int .i64 0, .int .i64 0, .slice (some ⟨w.heap.size + 1, 0, none⟩) 1 1, .slice none 0 0, .slice none 0 0] 39)).alloc (.cells #[.string ⟨#[109, 97, 105, 110]⟩, .bool true, .slice none 0 0, .int .i64 0, .int .i64 0, .int .i64 0, .slice (some ⟨w.heap.size + 1, 0, none⟩) 1 1, .slice none 0 0, .slice none 0 0] 39)).alloc (.cells #[.string ⟨#[77]⟩, .bool false, .bool false, .int .i64 0, .slice none 0 0, .slice none 0 0, .slice none 0 0, .slice (some ⟨w.heap.size + 1 + 1 + 1, 0, none⟩) 1 1] 31)) := (((((Below.refl _ _).alloc (Nat.le_refl _) _).alloc (by omega) _).alloc (by omega) _).alloc (by omega) _).alloc (by omega) _
  have c1 : (((((w.alloc (.cells #[.int .i64 11, .slice (some ⟨w.heap.size + 1 + 1 + 1 + 1, 0, none⟩) 1 1] 25)).alloc (.cells #[.int .i64 29, .int .i64 0, .int .i64 0] 44)).alloc (.cells #[.string ⟨#[109, 97, 105, 110]⟩, .bool true, .slice none 0 0, .int .i64 0, .int .i64 0, .int .i64 0, .slice (some ⟨w.heap.size + 1, 0, none⟩) 1 1, .slice none 0 0, .slice none 0 0] 39)).alloc (.cells #[.string ⟨#[109, 97, 105, 110]⟩, .bool true, .slice none 0 0, .int .i64 0, .int .i64 0, .int .i64 0, .slice (some ⟨w.heap.size + 1, 0, none⟩) 1 1, .slice none 0 0, .slice none 0 0] 39)).alloc (.cells #[.string ⟨#[77]⟩, .bool false, .bool false, .int .i64 0, .slice none 0 0, .slice none 0 0, .slice none 0 0, .slice (some ⟨w.heap.size + 1 + 1 + 1, 0, none⟩) 1 1] 31)).heap[w.heap.size]? = some (.cells #[.int .i64 11, .slice (some ⟨w.heap.size + 1 + 1 + 1 + 1, 0, none⟩) 1 1] 25) := by
    rw [Below.heap_alloc _ _ _ (by omega), Below.heap_alloc _ _ _ (by omega), Below.heap_alloc _ _ _ (by omega), Below.heap_alloc _ _ _ (by omega)]; exact b1
  have c2 : (((((w.alloc (.cells #[.int .i64 11, .slice (some ⟨w.heap.size + 1 + 1 + 1 + 1, 0, none⟩) 1 1] 25)).alloc (.cells #[.int .i64 29, .int .i64 0, .int .i64 0] 44)).alloc (.cells #[.string ⟨#[109, 97, 105, 110]⟩, .bool true, .slice none 0 0, .int .i64 0, .int .i64 0, .int .i64 0, .slice (some ⟨w.heap.size + 1, 0, none⟩) 1 1, .slice none 0 0, .slice none 0 0] 39)).alloc (.cells #[.string ⟨#[109, 97, 105, 110]⟩, .bool true, .slice none 0 0, .int .i64 0, .int .i64 0, .int .i64 0, .slice (some ⟨w.heap.size + 1, 0, none⟩) 1 1, .slice none 0 0, .slice none 0 0] 39)).alloc (.cells #[.string ⟨#[77]⟩, .bool false, .bool false, .int .i64 0, .slice none 0 0, .slice none 0 0, .slice none 0 0, .slice (some ⟨w.heap.size + 1 + 1 + 1, 0, none⟩) 1 1] 31)).heap[w.heap.size + 1]? = some (.cells #[.int .i64 29, .int .i64 0, .int .i64 0] 44) := by
    rw [Below.heap_alloc _ _ _ (by omega), Below.heap_alloc _ _ _ (by omega), Below.heap_alloc _ _ _ (by omega)]; exact b2
  have c4 : (((((w.alloc (.cells #[.int .i64 11, .slice (some ⟨w.heap.size + 1 + 1 + 1 + 1, 0, none⟩) 1 1] 25)).alloc (.cells #[.int .i64 29, .int .i64 0, .int .i64 0] 44)).alloc (.cells #[.string ⟨#[109, 97, 105, 110]⟩, .bool true, .slice none 0 0, .int .i64 0, .int .i64 0, .int .i64 0, .slice (some ⟨w.heap.size + 1, 0, none⟩) 1 1, .slice none 0 0, .slice none 0 0] 39)).alloc (.cells #[.string ⟨#[109, 97, 105, 110]⟩, .bool true, .slice none 0 0, .int .i64 0, .int .i64 0, .int .i64 0, .slice (some ⟨w.heap.size + 1, 0, none⟩) 1 1, .slice none 0 0, .slice none 0 0] 39)).alloc (.cells #[.string ⟨#[77]⟩, .bool false, .bool false, .int .i64 0, .slice none 0 0, .slice none 0 0, .slice none 0 0, .slice (some ⟨w.heap.size + 1 + 1 + 1, 0, none⟩) 1 1] 31)).heap[w.heap.size + 1 + 1 + 1]? = some (.cells #[.string ⟨#[109, 97, 105, 110]⟩, .bool true, .slice none 0 0, .int .i64 0, .int .i64 0, .int .i64 0, .slice (some ⟨w.heap.size + 1, 0, none⟩) 1 1, .slice none 0 0, .slice none 0 0] 39) := by
    rw [Below.heap_alloc _ _ _ (by omega)]; exact b4
  have s5 : (((((w.alloc (.cells #[.int .i64 11, .slice (some ⟨w.heap.size + 1 + 1 + 1 + 1, 0, none⟩) 1 1] 25)).alloc (.cells #[.int .i64 29, .int .i64 0, .int .i64 0] 44)).alloc (.cells #[.string ⟨#[109, 97, 105, 110]⟩, .bool true, .slice none 0 0, .int .i64 0, .int .i64 0, .int .i64 0, .slice (some ⟨w.heap.size + 1, 0, none⟩) 1 1, .slice none 0 0, .slice none 0 0] 39)).alloc (.cells #[.string ⟨#[109, 97, 105, 110]⟩, .bool true, .slice none 0 0, .int .i64 0, .int .i64 0, .int .i64 0, .slice (some ⟨w.heap.size + 1, 0, none⟩) 1 1, .slice none 0 0, .slice none 0 0] 39)).alloc (.cells #[.string ⟨#[77]⟩, .bool false, .bool false, .int .i64 0, .slice none 0 0, .slice none 0 0, .slice none 0 0, .slice (some ⟨w.heap.size + 1 + 1 + 1, 0, none⟩) 1 1] 31)).heap.size = w.heap.size + 1 + 1 + 1 + 1 + 1 := by simp
  refine bodyPost_ret (results_cell_row rfl _ _ w.heap.size 25 _ (0, 0) _ rfl c1 Tryz.underlying25 rfl infoRPg) rfl ?_
  exact ⟨hB, rfl, b5, c4, c2, s5⟩
/-- Tiny in a box of its own, block by block. -/
structure One (w u : World) (bp bc bm bi : Nat) : Prop where
  bel : Below w.heap.size w u
  prg : u.heap[bp]? = some (.cells #[.int .i64 11, .slice (some ⟨bc, 0, none⟩) 1 1] 25 (0, 0))
  cls : u.heap[bc]? = some (.cells #[.string ⟨#[77]⟩, .bool false, .bool false, .int .i64 0, .slice none 0 0, .slice none 0 0, .slice none 0 0, .slice (some ⟨bm, 0, none⟩) 1 1] 31 (0, 0))
  met : u.heap[bm]? = some (.cells #[.string ⟨#[109, 97, 105, 110]⟩, .bool true, .slice none 0 0, .int .i64 0, .int .i64 0, .int .i64 0, .slice (some ⟨bi, 0, none⟩) 1 1, .slice none 0 0, .slice none 0 0] 39 (0, 0))
  ins : u.heap[bi]? = some (.cells #[.int .i64 29, .int .i64 0, .int .i64 0] 44 (0, 0))
  low : w.heap.size ≤ bp ∧ w.heap.size ≤ bc ∧ w.heap.size ≤ bm ∧ w.heap.size ≤ bi
  ne : bp ≠ bc ∧ bp ≠ bm ∧ bp ≠ bi ∧ bc ≠ bm ∧ bc ≠ bi ∧ bm ≠ bi
theorem one_of {w w1 w2 : World} (h1 : Below w.heap.size w w1) (h2 : Below w1.heap.size w1 w2) (hT : Tn w2 w1.heap.size) : One w (w2.alloc (.cells #[.int .i64 11, .slice (some ⟨w1.heap.size + 1 + 1 + 1 + 1, 0, none⟩) 1 1] 25)) w2.heap.size (w1.heap.size + 1 + 1 + 1 + 1) (w1.heap.size + 1 + 1 + 1) (w1.heap.size + 1) := by
  have hz := hT.size
  have hs := h1.size
  refine ⟨(h1.trans (h2.mono hs)).alloc (by omega) _, heap_alloc_new _ _, ?_, ?_, ?_, ⟨by omega, by omega, by omega, by omega⟩, ⟨by omega, by omega, by omega, by omega, by omega, by omega⟩⟩
  · rw [Below.heap_alloc _ _ _ (by omega)]; exact hT.cls
  · rw [Below.heap_alloc _ _ _ (by omega)]; exact hT.met
  · rw [Below.heap_alloc _ _ _ (by omega)]; exact hT.ins
theorem blk_lt {u : World} {b : Nat} {o : Obj} (h : u.heap[b]? = some o) : b < u.heap.size := (Array.getElem?_eq_some_iff.1 h).1
theorem blk_set {u : World} {b c k : Nat} {v : Value} (h : b ≠ c) : (u.setCell ⟨c, k, none⟩ v).heap[b]? = u.heap[b]? := Below.heap_setCell _ _ _ _ h
theorem size_alloc {u : World} {o : Obj} : (u.alloc o).heap.size = u.heap.size + 1 := by simp
theorem size_set {u : World} {c k : Nat} {v : Value} : (u.setCell ⟨c, k, none⟩ v).heap.size = u.heap.size := by simp [World.setCell]
end Go.Proofs.YtbdfpodglfpjnaaGreat
/- ClassNumbers: what may be written, plainly. -/
namespace Go.Proofs.YtbdfpodglfpjnaaGreat
open Go.RowKit

/-- Tiny with x in one place. -/
def numP (k : Nat) (x : Int) : Pg := match k with
  | 0 => ⟨x, [tinyC]⟩
  | 1 => ⟨11, [{ tinyC with sup := x }]⟩
  | 2 => ⟨11, [{ tinyC with mds := [{ tinyM with ret := x }] }]⟩
  | 3 => ⟨11, [{ tinyC with mds := [{ tinyM with code := [⟨x, 0, 0⟩] }] }]⟩
  | 4 => ⟨11, [{ tinyC with mds := [{ tinyM with maps := [⟨x, [], [x]⟩] }] }]⟩
  | 5 => ⟨11, [{ tinyC with mds := [{ tinyM with tab := [⟨x, 0, 0, x⟩] }] }]⟩
  | 6 => ⟨11, [{ tinyC with mds := [{ tinyM with lo := x }] }]⟩
  | _ => ⟨11, [{ tinyC with mds := [{ tinyM with st := x }] }]⟩
def numF (k : Nat) (x : Int) : Bool := if k < 6 then inR x else decide (0 ≤ x) && decide (x ≤ 24)
theorem num_C (k : Nat) (hk : k < 8) (x : Int) : (gPg (numP k x)).all okC = true ∧ (gPg (numP k x)).all okT = true ∧ (gPg (numP k x)).length ≤ 1500 := by
  have h : k = 0 ∨ k = 1 ∨ k = 2 ∨ k = 3 ∨ k = 4 ∨ k = 5 ∨ k = 6 ∨ k = 7 := by omega
  rcases h with rfl | rfl | rfl | rfl | rfl | rfl | rfl | rfl <;> exact ⟨rfl, rfl, Nat.le_of_ble_eq_true rfl⟩
theorem sizes_in {x : Int} : (!decide (x < 0) && !decide (24 < x) && inR x) = (decide (0 ≤ x) && decide (x ≤ 24)) := by
  have e1 : (!decide (x < 0)) = decide (0 ≤ x) := by
    by_cases h : x < 0
    · rw [decide_eq_true h, decide_eq_false (by omega)]; rfl
    · rw [decide_eq_false h, decide_eq_true (by omega)]; rfl
  have e2 : (!decide (24 < x)) = decide (x ≤ 24) := by
    by_cases h : 24 < x
    · rw [decide_eq_true h, decide_eq_false (by omega)]; rfl
    · rw [decide_eq_false h, decide_eq_true (by omega)]; rfl
  rw [e1, e2]
  by_cases h1 : 0 ≤ x
  · by_cases h2 : x ≤ 24
    · rw [inR_iff.2 ⟨by omega, by omega⟩, Bool.and_true]
    · rw [decide_eq_false h2, Bool.and_false, Bool.false_and]
  · rw [decide_eq_false h1, Bool.false_and, Bool.false_and]
theorem num_N (k : Nat) (hk : k < 8) (x : Int) : (gPg (numP k x)).all okN = numF k x := by
  have h : k = 0 ∨ k = 1 ∨ k = 2 ∨ k = 3 ∨ k = 4 ∨ k = 5 ∨ k = 6 ∨ k = 7 := by omega
  have i0 : inR 0 = true := by decide
  have i1 : inR 1 = true := by decide
  have i11 : inR 11 = true := by decide
  have i29 : inR 29 = true := by decide
  rcases h with rfl | rfl | rfl | rfl | rfl | rfl | rfl | rfl <;> simp [numP, numF, gPg, ptL, gCs, gMd, gN1, gIs, gHd, gMp, okN, ptN, ptT, ptC, ptS, tinyC, tinyM, fl, i0, i1, i11, i29]
  all_goals exact sizes_in
theorem num_yes {k : Nat} (hk : k < 8) {x : Int} (h : numF k x = true) : ∃ b, encP (numP k x) = .ok b := by
  obtain ⟨h1, h2, h3⟩ := num_C k hk x
  exact enc_fine h1 h2 (by rw [num_N k hk, h]) h3
theorem num_no {k : Nat} (hk : k < 8) {x : Int} (h : numF k x = false) : encP (numP k x) = .error 1402 := by
  obtain ⟨h1, h2, _⟩ := num_C k hk x
  exact enc_form h1 h2 (by rw [num_N k hk, h])
end Go.Proofs.YtbdfpodglfpjnaaGreat
