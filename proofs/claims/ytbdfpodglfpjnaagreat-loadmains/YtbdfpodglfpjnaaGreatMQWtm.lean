/- with, told with Tiny's own method: it may be written over. -/
import Derived.Test.YtbdfpodglfpjnaaGreatMQTyp
namespace Go.Proofs.YtbdfpodglfpjnaaGreat
open Go.RowKit

/-- Where Tiny's parts lie. -/
structure Tn (u : World) (N : Nat) : Prop where
  cls : u.heap[N + 1 + 1 + 1 + 1]? = some (.cells #[.string ⟨#[77]⟩, .bool false, .bool false, .int .i64 0, .slice none 0 0, .slice none 0 0, .slice none 0 0, .slice (some ⟨N + 1 + 1 + 1, 0, none⟩) 1 1] 31 (0, 0))
  met : u.heap[N + 1 + 1 + 1]? = some (.cells #[.string ⟨#[109, 97, 105, 110]⟩, .bool true, .slice none 0 0, .int .i64 0, .int .i64 0, .int .i64 0, .slice (some ⟨N + 1, 0, none⟩) 1 1, .slice none 0 0, .slice none 0 0] 39 (0, 0))
  ins : u.heap[N + 1]? = some (.cells #[.int .i64 29, .int .i64 0, .int .i64 0] 44 (0, 0))
  size : u.heap.size = N + 1 + 1 + 1 + 1 + 1
set_option maxHeartbeats 2000000 in
set_option maxRecDepth 20000 in
theorem TinyN (w : World) : Calls Tryz.prog 20 #[] w fun e w' => Below w.heap.size w w' ∧ e = .returned (.agg #[.int .i64 11, .slice (some ⟨w.heap.size + 1 + 1 + 1 + 1, 0, none⟩) 1 1]) ∧ Tn w' w.heap.size := by
  go_enter Tryz.func20, Tryz.ntmps20
  go_wp2
  have s1 : (w.alloc (.cells #[.int .i64 11, .slice (some ⟨w.heap.size + 1 + 1 + 1 + 1, 0, none⟩) 1 1] 25)).heap.size = w.heap.size + 1 := by simp
  have s2 : ((w.alloc (.cells #[.int .i64 11, .slice (some ⟨w.heap.size + 1 + 1 + 1 + 1, 0, none⟩) 1 1] 25)).alloc (.cells #[.int .i64 29, .int .i64 0, .int .i64 0] 44)).heap.size = w.heap.size + 1 + 1 := by simp
  have s3 : (((w.alloc (.cells #[.int .i64 11, .slice (some ⟨w.heap.size + 1 + 1 + 1 + 1, 0, none⟩) 1 1] 25)).alloc (.cells #[.int .i64 29, .int .i64 0, .int .i64 0] 44)).alloc (.cells #[.string ⟨#[109, 97, 105, 110]⟩, .bool true, .slice none 0 0, .int .i64 0, .int .i64 0, .int .i64 0, .slice (some ⟨w.heap.size + 1, 0, none⟩) 1 1, .slice none 0 0, .slice none 0 0] 39)).heap.size = w.heap.size + 1 + 1 + 1 := by simp
  have s4 : ((((w.alloc (.cells #[.int .i64 11, .slice (some ⟨w.heap.size + 1 + 1 + 1 + 1, 0, none⟩) 1 1] 25)).alloc (.cells #[.int .i64 29, .int .i64 0, .int .i64 0] 44)).alloc (.cells #[.string ⟨#[109, 97, 105, 110]⟩, .bool true, .slice none 0 0, .int .i64 0, .int .i64 0, .int .i64 0, .slice (some ⟨w.heap.size + 1, 0, none⟩) 1 1, .slice none 0 0, .slice none 0 0] 39)).alloc (.cells #[.string ⟨#[109, 97, 105, 110]⟩, .bool true, .slice none 0 0, .int .i64 0, .int .i64 0, .int .i64 0, .slice (some ⟨w.heap.size + 1, 0, none⟩) 1 1, .slice none 0 0, .slice none 0 0] 39)).heap.size = w.heap.size + 1 + 1 + 1 + 1 := by simp
  have b1 := heap_alloc_new w (.cells #[.int .i64 11, .slice (some ⟨w.heap.size + 1 + 1 + 1 + 1, 0, none⟩) 1 1] 25)
  have b2 := heap_alloc_new (w.alloc (.cells #[.int .i64 11, .slice (some ⟨w.heap.size + 1 + 1 + 1 + 1, 0, none⟩) 1 1] 25)) (.cells #[.int .i64 29, .int .i64 0, .int .i64 0] 44)
  have b4 := heap_alloc_new (((w.alloc (.cells #[.int .i64 11, .slice (some ⟨w.heap.size + 1 + 1 + 1 + 1, 0, none⟩) 1 1] 25)).alloc (.cells #[.int .i64 29, .int .i64 0, .int .i64 0] 44)).alloc (.cells #[.string ⟨#[109, 97, 105, 110]⟩, .bool true, .slice none 0 0, .int .i64 0, .int .i64 0, .int .i64 0, .slice (some ⟨w.heap.size + 1, 0, none⟩) 1 1, .slice none 0 0, .slice none 0 0] 39)) (.cells #[.string ⟨#[109, 97, 105, 110]⟩, .bool true, .slice none 0 0, .int .i64 0, .int .i64 0, .int .i64 0, .slice (some ⟨w.heap.size + 1, 0, none⟩) 1 1, .slice none 0 0, .slice none 0 0] 39)
  have b5 := heap_alloc_new ((((w.alloc (.cells #[.int .i64 11, .slice (some ⟨w.heap.size + 1 + 1 + 1 + 1, 0, none⟩) 1 1] 25)).alloc (.cells #[.int .i64 29, .int .i64 0, .int .i64 0] 44)).alloc (.cells #[.string ⟨#[109, 97, 105, 110]⟩, .bool true, .slice none 0 0, .int .i64 0, .int .i64 0, .int .i64 0, .slice (some ⟨w.heap.size + 1, 0, none⟩) 1 1, .slice none 0 0, .slice none 0 0] 39)).alloc (.cells #[.string ⟨#[109, 97, 105, 110]⟩, .bool true, .slice none 0 0, .int .i64 0, .int .i64 0, .int .i64 0, .slice (some ⟨w.heap.size + 1, 0, none⟩) 1 1, .slice none 0 0, .slice none 0 0] 39)) (.cells #[.string ⟨#[77]⟩, .bool false, .bool false, .int .i64 0, .slice none 0 0, .slice none 0 0, .slice none 0 0, .slice (some ⟨w.heap.size + 1 + 1 + 1, 0, none⟩) 1 1] 31)
  rw [s1] at b2
  rw [s3] at b4
  rw [s4] at b5
  have hB : Below w.heap.size w (((((w.alloc (.cells #[.int .i64 11, .slice (some ⟨w.heap.size + 1 + 1 + 1 + 1, 0, none⟩) 1 1] 25)).alloc (.cells #[.int .i64 29, .int .i64 0, .int .i64 0] 44)).alloc (.cells #[.string ⟨#[109, 97, 105, 110]⟩, .bool true, .slice none 0 0, .int .i64 0, .int .i64 0, .int .i64 0, .slice (some ⟨w.heap.size + 1, 0, none⟩) 1 1, .slice none 0 0, .slice none 0 0] 39)).alloc (.cells #[.string ⟨#[109, 97, 105, 110]⟩, .bool true, .slice none 0 0, .int .i64 0, .int .i64 0, .int .i64 0, .slice (some ⟨w.heap.size + 1, 0, none⟩) 1 1, .slice none 0 0, .slice none 0 0] 39)).alloc (.cells #[.string ⟨#[77]⟩, .bool false, .bool false, .int .i64 0, .slice none 0 0, .slice none 0 0, .slice none 0 0, .slice (some ⟨w.heap.size + 1 + 1 + 1, 0, none⟩) 1 1] 31)) := (((((Below.refl _ _).alloc (Nat.le_refl _) _).alloc (by omega) _).alloc (by omega) _).alloc (by omega) _).alloc (by omega) _
  have c1 : (((((w.alloc (.cells #[.int .i64 11, .slice (some ⟨w.heap.size + 1 + 1 + 1 + 1, 0, none⟩) 1 1] 25)).alloc (.cells #[.int .i64 29, .int .i64 0, .int .i64 0] 44)).alloc (.cells #[.string ⟨#[109, 97, 105, 110]⟩, .bool true, .slice none 0 0, .int .i64 0, .int .i64 0, .int .i64 0, .slice (some ⟨w.heap.size + 1, 0, none⟩) 1 1, .slice none 0 0, .slice none 0 0] 39)).alloc (.cells #[.string ⟨#[109, 97, 105, 110]⟩, .bool true, .slice none 0 0, .int .i64 0, .int .i64 0, .int .i64 0, .slice (some ⟨w.heap.size + 1, 0, none⟩) 1 1, .slice none 0 0, .slice none 0 0] 39)).alloc (.cells #[.string ⟨#[77]⟩, .bool false, .bool false, .int .i64 0, .slice none 0 0, .slice none 0 0, .slice none 0 0, .slice (some ⟨w.heap.size + 1 + 1 + 1, 0, none⟩) 1 1] 31)).heap[w.heap.size]? = some (.cells #[.int .i64 11, .slice (some ⟨w.heap.size + 1 + 1 + 1 + 1, 0, none⟩) 1 1] 25) := by
    rw [Below.heap_alloc _ _ _ (by omega), Below.heap_alloc _ _ _ (by omega), Below.heap_alloc _ _ _ (by omega), Below.heap_alloc _ _ _ (by omega)]; exact b1
  have c2 : (((((w.alloc (.cells #[.int .i64 11, .slice (some ⟨w.heap.size + 1 + 1 + 1 + 1, 0, none⟩) 1 1] 25)).alloc (.cells #[.int .i64 29, .int .i64 0, .int .i64 0] 44)).alloc (.cells #[.string ⟨#[109, 97, 105, 110]⟩, .bool true, .slice none 0 0, .int .i64 0, .int .i64 0, .int .i64 0, .slice (some ⟨w.heap.size + 1, 0, none⟩) 1 1, .slice none 0 0, .slice none 0 0] 39)).alloc (.cells #[.string ⟨#[109, 97, 105, 110]⟩, .bool true, .slice none 0 0, .int .i64 0, .int .i64 0, .int .i64 0, .slice (some ⟨w.heap.size + 1, 0, none⟩) 1 1, .slice none 0 0, .slice none 0 0] 39)).alloc (.cells #[.string ⟨#[77]⟩, .bool false, .bool false, .int .i64 0, .slice none 0 0, .slice none 0 0, .slice none 0 0, .slice (some ⟨w.heap.size + 1 + 1 + 1, 0, none⟩) 1 1] 31)).heap[w.heap.size + 1]? = some (.cells #[.int .i64 29, .int .i64 0, .int .i64 0] 44) := by
    rw [Below.heap_alloc _ _ _ (by omega), Below.heap_alloc _ _ _ (by omega), Below.heap_alloc _ _ _ (by omega)]; exact b2
  have c4 : (((((w.alloc (.cells #[.int .i64 11, .slice (some ⟨w.heap.size + 1 + 1 + 1 + 1, 0, none⟩) 1 1] 25)).alloc (.cells #[.int .i64 29, .int .i64 0, .int .i64 0] 44)).alloc (.cells #[.string ⟨#[109, 97, 105, 110]⟩, .bool true, .slice none 0 0, .int .i64 0, .int .i64 0, .int .i64 0, .slice (some ⟨w.heap.size + 1, 0, none⟩) 1 1, .slice none 0 0, .slice none 0 0] 39)).alloc (.cells #[.string ⟨#[109, 97, 105, 110]⟩, .bool true, .slice none 0 0, .int .i64 0, .int .i64 0, .int .i64 0, .slice (some ⟨w.heap.size + 1, 0, none⟩) 1 1, .slice none 0 0, .slice none 0 0] 39)).alloc (.cells #[.string ⟨#[77]⟩, .bool false, .bool false, .int .i64 0, .slice none 0 0, .slice none 0 0, .slice none 0 0, .slice (some ⟨w.heap.size + 1 + 1 + 1, 0, none⟩) 1 1] 31)).heap[w.heap.size + 1 + 1 + 1]? = some (.cells #[.string ⟨#[109, 97, 105, 110]⟩, .bool true, .slice none 0 0, .int .i64 0, .int .i64 0, .int .i64 0, .slice (some ⟨w.heap.size + 1, 0, none⟩) 1 1, .slice none 0 0, .slice none 0 0] 39) := by
    rw [Below.heap_alloc _ _ _ (by omega)]; exact b4
  have s5 : (((((w.alloc (.cells #[.int .i64 11, .slice (some ⟨w.heap.size + 1 + 1 + 1 + 1, 0, none⟩) 1 1] 25)).alloc (.cells #[.int .i64 29, .int .i64 0, .int .i64 0] 44)).alloc (.cells #[.string ⟨#[109, 97, 105, 110]⟩, .bool true, .slice none 0 0, .int .i64 0, .int .i64 0, .int .i64 0, .slice (some ⟨w.heap.size + 1, 0, none⟩) 1 1, .slice none 0 0, .slice none 0 0] 39)).alloc (.cells #[.string ⟨#[109, 97, 105, 110]⟩, .bool true, .slice none 0 0, .int .i64 0, .int .i64 0, .int .i64 0, .slice (some ⟨w.heap.size + 1, 0, none⟩) 1 1, .slice none 0 0, .slice none 0 0] 39)).alloc (.cells #[.string ⟨#[77]⟩, .bool false, .bool false, .int .i64 0, .slice none 0 0, .slice none 0 0, .slice none 0 0, .slice (some ⟨w.heap.size + 1 + 1 + 1, 0, none⟩) 1 1] 31)).heap.size = w.heap.size + 1 + 1 + 1 + 1 + 1 := by simp
  refine bodyPost_ret (results_cell_row rfl _ _ w.heap.size 25 _ (0, 0) _ rfl c1 Tryz.underlying25 rfl infoRPg) rfl ?_
  exact ⟨hB, rfl, b5, c4, c2, s5⟩
def tinyX (m : Md) : Cs := ⟨⟨#[77]⟩, false, false, 0, [], [], [], [m]⟩
/-- The row of classes at g: Tiny's class, whose method lies alone in block b, and xs behind it, which reach S. -/
structure Met (w : World) (S : Nat → Prop) (xs : List Cs) (g n c b bi : Nat) : Prop where
  cell : w.cell? ⟨g, 7, none⟩ = some (.slice (some ⟨b, 0, none⟩) 1 1)
  met : w.heap[b]? = some (.cells #[.string ⟨#[109, 97, 105, 110]⟩, .bool true, .slice none 0 0, .int .i64 0, .int .i64 0, .int .i64 0, .slice (some ⟨bi, 0, none⟩) 1 1, .slice none 0 0, .slice none 0 0] 39 (0, 0))
  ins : w.heap[bi]? = some (.cells #[.int .i64 29, .int .i64 0, .int .i64 0] 44 (0, 0))
  ne : g ≠ b ∧ b ≠ bi ∧ g ≠ bi
  lt : g < w.heap.size
  far : ∀ k, S k → k ≠ b
  row : ∀ (w4 : World) (m : Md) (M : Array Value) (S4 : Nat → Prop), w4.heap[b]? = some (.cells M 39 (0, 0)) → M.size = 9 → kMd.R w4 S4 m M.toList → S4 b → S4 g → (∀ k, S k → S4 k) → (∀ k, k = g ∨ S k → w4.heap[k]? = w.heap[k]?) → Sl kCs w4 S4 (.slice (some ⟨g, 0, none⟩) n c) (tinyX m :: xs)
theorem Met.keep {w w' : World} {S : Nat → Prop} {xs : List Cs} {g n c b bi : Nat} (h : Met w S xs g n c b bi) (hk : ∀ k, k = g ∨ k = b ∨ k = bi ∨ S k → w'.heap[k]? = w.heap[k]?) : Met w' S xs g n c b bi where
  cell := (by have q := h.cell; simp only [World.cell?] at q ⊢; rw [hk g (.inl rfl)]; exact q)
  met := (hk b (.inr (.inl rfl))).trans h.met
  ins := (hk bi (.inr (.inr (.inl rfl)))).trans h.ins
  ne := h.ne
  lt := (by
    have q := hk g (.inl rfl)
    rw [Array.getElem?_eq_getElem h.lt] at q
    exact (Array.getElem?_eq_some_iff.1 q).1)
  far := h.far
  row := fun w4 m M S4 e1 e2 e3 e4 e5 e6 e7 => h.row w4 m M S4 e1 e2 e3 e4 e5 e6 fun k q => (e7 k q).trans (hk k (q.elim .inl fun q => .inr (.inr (.inr q))))
theorem met_run {N n : Nat} {W : World} {S : Nat → Prop} {xs : List Cs} {ao : Option Addr} {cap : Nat} (hl : xs.length = n) (hC : W.heap[N + 1 + 1 + 1 + 1]? = some (.cells (#[.string ⟨#[77]⟩, .bool false, .bool false, .int .i64 0, .slice none 0 0, .slice none 0 0, .slice none 0 0, .slice (some ⟨N + 1 + 1 + 1, 0, none⟩) 1 1] : Array Value) 31 (0, 0))) (hM : W.heap[N + 1 + 1 + 1]? = some (.cells #[.string ⟨#[109, 97, 105, 110]⟩, .bool true, .slice none 0 0, .int .i64 0, .int .i64 0, .int .i64 0, .slice (some ⟨N + 1, 0, none⟩) 1 1, .slice none 0 0, .slice none 0 0] 39 (0, 0))) (hI : W.heap[N + 1]? = some (.cells #[.int .i64 29, .int .i64 0, .int .i64 0] 44 (0, 0))) (hS : ∀ k, S k → k < N) (h : Sl kCs W S (.slice ao n cap) xs) (hn : n ≤ 1000) (h0 : 0 < n) :
    ∃ g c w3, (appY #[23, 23] 23 #[.slice (some ⟨N + 1 + 1 + 1 + 1, 0, none⟩) 1 1, .slice ao n cap]).run Tryz.prog W = .ok (.slice (some ⟨g, 0, none⟩) (1 + n) c) w3 ∧ Below N W w3 ∧ W.heap.size ≤ w3.heap.size ∧ (∀ k, k < W.heap.size → k ≠ N + 1 + 1 + 1 + 1 → w3.heap[k]? = W.heap[k]?) ∧ (g = N + 1 + 1 + 1 + 1 ∨ W.heap.size ≤ g) ∧ Met w3 S xs g (1 + n) c (N + 1 + 1 + 1) (N + 1) := by
  subst hl
  obtain ⟨i0, hi, hz0, hz1, hz2⟩ := info_parts infoCQ
  have hsz := (Array.getElem?_eq_some_iff.1 hC).1
  have hown : W.ownsRow (N + 1 + 1 + 1 + 1) 31 8 (.slice (some ⟨N + 1 + 1 + 1 + 1, 0, none⟩) 1 1) 1 ([(#[.string ⟨#[77]⟩, .bool false, .bool false, .int .i64 0, .slice none 0 0, .slice none 0 0, .slice none 0 0, .slice (some ⟨N + 1 + 1 + 1, 0, none⟩) 1 1] : Array Value).toList] : List (List Value)).flatten :=
    ⟨rfl, .inr ⟨N + 1 + 1 + 1 + 1, 1, _, rfl, Nat.le_refl _, hC, Nat.le_refl _, by decide, rfl, rfl⟩⟩
  obtain ⟨b, o, CS, rfl, hsb, hcl, hcr, hck, hc1, hcc⟩ := h.raw h0
  have hcell : ∀ j u, CS.flatten[j]? = some u → W.cell? ((⟨b, o, none⟩ : Addr).add j) = some u := fun j u hu => by
    have hadd : (⟨b, o, none⟩ : Addr).add j = ⟨b, o + j, none⟩ := by unfold Addr.add; split <;> simp_all
    rw [hadd]; exact hcc j u hu
  obtain ⟨g, c, w3, hr, hown3, hg, hat, hgl⟩ := run_append_lies (P := Tryz.prog) (w := W) 23 23 (N + 1 + 1 + 1 + 1) 31 i0 (.agg #[.string ⟨#[]⟩, .bool false, .bool false, .int .i64 0, .slice none 0 0, .slice none 0 0, .slice none 0 0, .slice none 0 0]) 8 128 Tryz.underlying23 hi hz0 hz1 hz2 rfl (by decide) (.slice (some ⟨N + 1 + 1 + 1 + 1, 0, none⟩) 1 1) 1 _ hown ⟨b, o, none⟩ xs.length cap CS.flatten (by rw [flat_len CS hck, hcl]; rfl) hcell (fun u hu => by
    obtain ⟨r, hr, hu⟩ := List.mem_flatten.1 hu
    exact hc1 r hr u hu) h0 (by unfold maxLen; omega) (by omega) (by omega) _ rfl
  have hkeep : ∀ k, k < W.heap.size → k ≠ N + 1 + 1 + 1 + 1 → w3.heap[k]? = W.heap[k]? := fun k hk hne => hg.block k hk fun e => hne (by
    have : k = N + 1 + 1 + 1 + 1 := by simpa [Value.ownBlock, eq_comm] using e
    exact this)
  have hgg : g = N + 1 + 1 + 1 + 1 ∨ W.heap.size ≤ g := by
    rcases hat with q | q
    · left; simpa [Value.ownBlock, eq_comm] using q
    · right; omega
  have hne : g ≠ N + 1 + 1 + 1 ∧ g ≠ N + 1 := by rcases hgg with q | q <;> omega
  have hlt : g < w3.heap.size := by
    rcases hown3.2 with ⟨e, -⟩ | ⟨g', cap', cur, e, r1, r2, -⟩
    · cases e
    · have e1 := (Addr.mk.inj (Option.some.inj (Value.slice.inj e).1)).1
      rw [e1]
      exact (Array.getElem?_eq_some_iff.1 r2).1
  refine ⟨g, c, w3, hr, ⟨hg.os, hg.tape, hg.output, hg.size, fun k hk => hkeep k (by omega) (by omega)⟩, hg.size, hkeep, hgg, ?_, (hkeep _ (by omega) (by omega)).trans hM, (hkeep _ (by omega) (by omega)).trans hI, ⟨hne.1, by omega, hne.2⟩, hlt, fun k q => by have := hS k q; omega, fun w4 m M S4 e1 e2 e3 e4 e5 e6 e7 => ?_⟩
  · have q := hown3.cellAt 7 (by omega)
    exact q
  · have hown4 : w4.ownsRow (N + 1 + 1 + 1 + 1) 31 kCs.k (.slice (some ⟨g, 0, none⟩) (1 + xs.length) c) (1 + xs.length) ([(#[.string ⟨#[77]⟩, .bool false, .bool false, .int .i64 0, .slice none 0 0, .slice none 0 0, .slice none 0 0, .slice (some ⟨N + 1 + 1 + 1, 0, none⟩) 1 1] : Array Value).toList] ++ CS).flatten := by
      rw [List.flatten_append]
      refine ⟨hown3.1, ?_⟩
      rcases hown3.2 with ⟨e, -⟩ | ⟨g', cap', cur, e, r1, r2, r3⟩
      · cases e
      · have e1 := (Addr.mk.inj (Option.some.inj (Value.slice.inj e).1)).1
        exact .inr ⟨g', cap', cur, e, r1, (e7 g' (.inl e1.symm)).trans r2, r3⟩
    refine sl_own2 (K := kCs) (T := 31) (base := N + 1 + 1 + 1 + 1) (CS := [(#[.string ⟨#[77]⟩, .bool false, .bool false, .int .i64 0, .slice none 0 0, .slice none 0 0, .slice none 0 0, .slice (some ⟨N + 1 + 1 + 1, 0, none⟩) 1 1] : Array Value).toList] ++ CS) (by simp [tinyX]; omega) hown4 (by simp [hcl]) (fun r hr => ?_) (fun i x cs hx hcs => ?_) e5
    · rcases List.mem_append.1 hr with hr | hr
      · rw [List.mem_singleton.1 hr]; rfl
      · exact hck r hr
    · cases i with
      | zero =>
        simp at hx hcs
        subst hx hcs
        exact ⟨_, _, _, _, rfl, Sl.nil _ _ _, Sl.nil _ _ _, Sl.nil _ _ _, Sl.one1 (K := kMd) (x := m) e1 e4 e3⟩
      | succ i =>
        rw [List.getElem?_cons_succ] at hx
        rw [List.singleton_append, List.getElem?_cons_succ] at hcs
        obtain ⟨cs', h3, h4⟩ := hcr i x hx
        rw [hcs] at h3
        injection h3 with h3
        subst h3
        exact kCs.mono (fun k hk => e6 k hk) (kCs.keep (fun k hk => (e7 k (.inr hk)).trans (hkeep k (by have := hS k hk; omega) (by have := hS k hk; omega))) h4)
attribute [local go_sem ↓] app_Y
set_option maxRecDepth 20000 in
set_option maxHeartbeats 4000000 in
theorem with_met {w : World} {S : Nat → Prop} {xs : List Cs} {ao : Option Addr} {cap n : Nat} (hl : xs.length = n) (hS : ∀ k, S k → k < w.heap.size) (h : Sl kCs w S (.slice ao n cap) xs) (hn : n ≤ 1000) (h0 : 0 < n) : Calls Tryz.prog 12 #[.slice ao n cap] w fun e w' => ∃ g c b bi, e = .returned (.agg #[.int .i64 11, .slice (some ⟨g, 0, none⟩) (1 + n) c]) ∧ Below w.heap.size w w' ∧ Met w' S xs g (1 + n) c b bi ∧ w.heap.size ≤ b := by
  obtain ⟨w1, hw1⟩ : ∃ w1, w1 = w.alloc (.cells #[.int .i64 0, .slice none 0 0] 25) := ⟨_, rfl⟩
  have hz1 : w1.heap.size = w.heap.size + 1 := by rw [hw1, World.size_alloc]
  have hb1 : Below w.heap.size w w1 := by rw [hw1]; exact (Below.refl _ _).alloc (Nat.le_refl _) _
  have hx1 : w1.heap[w.heap.size]? = some (.cells #[.int .i64 0, .slice none 0 0] 25 (0, 0)) := by rw [hw1]; exact heap_alloc_new _ _
  have hT := TinyN w1
  have HF : Hid (∀ w2, Below w1.heap.size w1 w2 ∧ Tn w2 w1.heap.size → ∃ g c w3, (appY #[23, 23] 23 #[.slice (some ⟨w1.heap.size + 1 + 1 + 1 + 1, 0, none⟩) 1 1, .slice ao n cap]).run Tryz.prog (w2.alloc (.cells #[.int .i64 11, .slice (some ⟨w1.heap.size + 1 + 1 + 1 + 1, 0, none⟩) 1 1] 25)) = .ok (.slice (some ⟨g, 0, none⟩) (1 + n) c) w3 ∧ (w3.cell? ⟨w2.heap.size, 0, none⟩ = some (.int .i64 11) ∧ w3.cell? ⟨w2.heap.size, 1, none⟩ = some (.slice (some ⟨w1.heap.size + 1 + 1 + 1 + 1, 0, none⟩) 1 1) ∧ w3.frozen? ⟨w2.heap.size, 1, none⟩ = false) ∧ (w3.cell? ⟨w.heap.size, 0, none⟩ = some (.int .i64 0) ∧ w3.cell? ⟨w.heap.size, 1, none⟩ = some (.slice none 0 0) ∧ w3.frozen? ⟨w.heap.size, 0, none⟩ = false ∧ w3.frozen? ⟨w.heap.size, 1, none⟩ = false) ∧ (¬ w2.heap.size = w.heap.size ∧ ¬ w.heap.size = w2.heap.size) ∧
      Hid ((((w3.setCell ⟨w2.heap.size, 1, none⟩ (.slice (some ⟨g, 0, none⟩) (1 + n) c)).setCell ⟨w.heap.size, 0, none⟩ (.int .i64 11)).setCell ⟨w.heap.size, 1, none⟩ (.slice (some ⟨g, 0, none⟩) (1 + n) c)).heap[w.heap.size]? = some (.cells #[.int .i64 11, .slice (some ⟨g, 0, none⟩) (1 + n) c] 25 (0, 0)) ∧
        Below w.heap.size w (((w3.setCell ⟨w2.heap.size, 1, none⟩ (.slice (some ⟨g, 0, none⟩) (1 + n) c)).setCell ⟨w.heap.size, 0, none⟩ (.int .i64 11)).setCell ⟨w.heap.size, 1, none⟩ (.slice (some ⟨g, 0, none⟩) (1 + n) c)) ∧
        Met (((w3.setCell ⟨w2.heap.size, 1, none⟩ (.slice (some ⟨g, 0, none⟩) (1 + n) c)).setCell ⟨w.heap.size, 0, none⟩ (.int .i64 11)).setCell ⟨w.heap.size, 1, none⟩ (.slice (some ⟨g, 0, none⟩) (1 + n) c)) S xs g (1 + n) c (w1.heap.size + 1 + 1 + 1) (w1.heap.size + 1))) := fun w2 hT2 => by
    have hbT := hT2.1
    have hsz := hT2.2.size
    obtain ⟨W, hW⟩ : ∃ W, W = w2.alloc (.cells #[.int .i64 11, .slice (some ⟨w1.heap.size + 1 + 1 + 1 + 1, 0, none⟩) 1 1] 25) := ⟨_, rfl⟩
    have hWz : W.heap.size = w2.heap.size + 1 := by rw [hW, World.size_alloc]
    have hbW : Below w2.heap.size w2 W := by rw [hW]; exact (Below.refl _ _).alloc (Nat.le_refl _) _
    have hWn : W.heap[w2.heap.size]? = some (.cells #[.int .i64 11, .slice (some ⟨w1.heap.size + 1 + 1 + 1 + 1, 0, none⟩) 1 1] 25 (0, 0)) := by rw [hW]; exact heap_alloc_new _ _
    have hWw : Below w.heap.size w W := (hb1.trans (hbT.mono hb1.size)).trans (hbW.mono (by omega))
    rw [← hW]
    obtain ⟨g, c, w3, hr, hb3, hz3, hk3, hg3, hs3⟩ := met_run (S := S) (N := w1.heap.size) hl ((hbW.block _ (by omega)).trans hT2.2.cls) ((hbW.block _ (by omega)).trans hT2.2.met) ((hbW.block _ (by omega)).trans hT2.2.ins) (fun k q => by have := hS k q; omega) (h.keep fun b q => hWw.block b (hS b q)) hn h0
    have e2 : w3.heap[w2.heap.size]? = some (.cells #[.int .i64 11, .slice (some ⟨w1.heap.size + 1 + 1 + 1 + 1, 0, none⟩) 1 1] 25 (0, 0)) := (hk3 _ (by omega) (by omega)).trans hWn
    have e1 : w3.heap[w.heap.size]? = some (.cells #[.int .i64 0, .slice none 0 0] 25 (0, 0)) := (hk3 _ (by omega) (by omega)).trans ((hbW.block _ (by omega)).trans ((hbT.block _ (by omega)).trans hx1))
    refine ⟨g, c, w3, hr, ⟨bxq_cell e2 rfl, bxq_cell e2 rfl, by simp [World.frozen?, e2]⟩, ⟨bxq_cell e1 rfl, bxq_cell e1 rfl, by simp [World.frozen?, e1], by simp [World.frozen?, e1]⟩, ⟨by omega, by omega⟩, ?_⟩
    obtain ⟨W4, hW4⟩ : ∃ W4, W4 = ((w3.setCell ⟨w2.heap.size, 1, none⟩ (.slice (some ⟨g, 0, none⟩) (1 + n) c)).setCell ⟨w.heap.size, 0, none⟩ (.int .i64 11)).setCell ⟨w.heap.size, 1, none⟩ (.slice (some ⟨g, 0, none⟩) (1 + n) c) := ⟨_, rfl⟩
    rw [← hW4]
    have hne : ∀ k, k ≠ w2.heap.size → k ≠ w.heap.size → W4.heap[k]? = w3.heap[k]? := fun k q1 q2 => by rw [hW4, Below.heap_setCell _ _ _ _ q2, Below.heap_setCell _ _ _ _ q2, Below.heap_setCell _ _ _ _ q1]
    have hz4 : W4.heap.size = w3.heap.size := by rw [hW4]; simp [World.setCell]
    have hnw : w.heap.size ≠ w2.heap.size := by omega
    have e1' : (w3.setCell ⟨w2.heap.size, 1, none⟩ (.slice (some ⟨g, 0, none⟩) (1 + n) c)).heap[w.heap.size]? = some (.cells #[.int .i64 0, .slice none 0 0] 25 (0, 0)) := (Below.heap_setCell _ _ _ _ hnw).trans e1
    refine ⟨by rw [hW4]; exact two_set e1' _ _, ?_, ?_⟩
    · exact hWw.trans ⟨by rw [hW4]; exact hb3.os, by rw [hW4]; exact hb3.tape, by rw [hW4]; exact hb3.output, by omega, fun k q => (hne k (by omega) (by omega)).trans (hb3.block k (by omega))⟩
    · refine hs3.keep fun k q => ?_
      rcases q with q | q | q | q
      · have hg2 : g ≠ w2.heap.size ∧ g ≠ w.heap.size := by rcases hg3 with q2 | q2 <;> omega
        exact hne k (by omega) (by omega)
      · exact hne k (by omega) (by omega)
      · exact hne k (by omega) (by omega)
      · have := hS k q; exact hne k (by omega) (by omega)
  have HZ1 : Hid (w1.heap.size = w.heap.size + 1) := hz1
  clear hb1 hx1 hS h hz1 hl
  go_enter Tryz.func12, Tryz.ntmps12
  go_upto_region 1 with fail
  rw [← hw1]
  clear hw1
  go_wp2_with (go_at_call 20; refine hT.mono ?_; clear hT; rintro e w2 ⟨hbq, rfl, hT2⟩; obtain ⟨g, c, w3, hrun, ⟨x0, x1, fx⟩, ⟨y0, y1, fy0, fy1⟩, ⟨n1, n2⟩, HQ⟩ := HF.out w2 ⟨hbq, hT2⟩; clear HF hT2 hbq)
  refine bodyPost_ret (results_cell_row rfl _ _ w.heap.size 25 _ (0, 0) _ rfl HQ.out.1 Tryz.underlying25 rfl infoRPg) rfl ⟨g, c, w1.heap.size + 1 + 1 + 1, w1.heap.size + 1, rfl, HQ.out.2.1, HQ.out.2.2, by have := HZ1.out; omega⟩
end Go.Proofs.YtbdfpodglfpjnaaGreat
