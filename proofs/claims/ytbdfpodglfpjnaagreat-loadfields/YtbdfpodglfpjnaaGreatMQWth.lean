/- layer 15's helpers: method, with, faults. -/
import Derived.Test.YtbdfpodglfpjnaaGreatMY42
namespace Go.Proofs.YtbdfpodglfpjnaaGreat
open Go.RowKit

/-- Tiny's row of classes. -/
def tinyV (w : World) : Array Value := #[.string ⟨#[77]⟩, .bool false, .bool false, .int .i64 0, .slice none 0 0, .slice none 0 0, .slice none 0 0, .slice (some ⟨w.heap.size + 1 + 1 + 1, 0, none⟩) 1 1]
structure TnB (w w' : World) : Prop where
  bel : Below w.heap.size w w'
  sz : w.heap.size + 4 < w'.heap.size
  ex : ∃ cs : Array Value, w'.heap[w.heap.size + 4]? = some (.cells cs 31 (0, 0)) ∧ kCs.R w' (fun k => w.heap.size ≤ k ∧ k < w.heap.size + 4) tinyC cs.toList
set_option maxHeartbeats 2000000 in
set_option maxRecDepth 20000 in
theorem tiny_own (w : World) : Calls Tryz.prog 20 #[] w fun e w' => e = .returned (.agg #[.int .i64 11, .slice (some ⟨w.heap.size + 4, 0, none⟩) 1 1]) ∧ Hid (TnB w w') := by
  go_enter Tryz.func20, Tryz.ntmps20
  go_wp2
  have s1 : (w.alloc (.cells #[.int .i64 11, .slice (some ⟨w.heap.size + 1 + 1 + 1 + 1, 0, none⟩) 1 1] 25)).heap.size = w.heap.size + 1 := by simp
  have s2 : ((w.alloc (.cells #[.int .i64 11, .slice (some ⟨w.heap.size + 1 + 1 + 1 + 1, 0, none⟩) 1 1] 25)).alloc (.cells #[.int .i64 29, .int .i64 0, .int .i64 0] 44)).heap.size = w.heap.size + 1 + 1 := by simp
  have s3 : (((w.alloc (.cells #[.int .i64 11, .slice (some ⟨w.heap.size + 1 + 1 + 1 + 1, 0, none⟩) 1 1] 25)).alloc (.cells #[.int .i64 29, .int .i64 0, .int .i64 0] 44)).alloc (.cells #[.string ⟨#[109, 97, 105, 110]⟩, .bool true, .slice none 0 0, .int .i64 0, .int .i64 0, .int .i64 0, .slice (some ⟨w.heap.size + 1, 0, none⟩) 1 1, .slice none 0 0, .slice none 0 0] 39)).heap.size = w.heap.size + 1 + 1 + 1 := by simp
  have s4 : ((((w.alloc (.cells #[.int .i64 11, .slice (some ⟨w.heap.size + 1 + 1 + 1 + 1, 0, none⟩) 1 1] 25)).alloc (.cells #[.int .i64 29, .int .i64 0, .int .i64 0] 44)).alloc (.cells #[.string ⟨#[109, 97, 105, 110]⟩, .bool true, .slice none 0 0, .int .i64 0, .int .i64 0, .int .i64 0, .slice (some ⟨w.heap.size + 1, 0, none⟩) 1 1, .slice none 0 0, .slice none 0 0] 39)).alloc (.cells #[.string ⟨#[109, 97, 105, 110]⟩, .bool true, .slice none 0 0, .int .i64 0, .int .i64 0, .int .i64 0, .slice (some ⟨w.heap.size + 1, 0, none⟩) 1 1, .slice none 0 0, .slice none 0 0] 39)).heap.size = w.heap.size + 1 + 1 + 1 + 1 := by simp
  have b1 := heap_alloc_new w (.cells #[.int .i64 11, .slice (some ⟨w.heap.size + 1 + 1 + 1 + 1, 0, none⟩) 1 1] 25)
  have b2 := heap_alloc_new (w.alloc (.cells #[.int .i64 11, .slice (some ⟨w.heap.size + 1 + 1 + 1 + 1, 0, none⟩) 1 1] 25)) (.cells #[.int .i64 29, .int .i64 0, .int .i64 0] 44)
  have b4 := heap_alloc_new (((w.alloc (.cells #[.int .i64 11, .slice (some ⟨w.heap.size + 1 + 1 + 1 + 1, 0, none⟩) 1 1] 25)).alloc (.cells #[.int .i64 29, .int .i64 0, .int .i64 0] 44)).alloc (.cells #[.string ⟨#[109, 97, 105, 110]⟩, .bool true, .slice none 0 0, .int .i64 0, .int .i64 0, .int .i64 0, .slice (some ⟨w.heap.size + 1, 0, none⟩) 1 1, .slice none 0 0, .slice none 0 0] 39)) (.cells #[.string ⟨#[109, 97, 105, 110]⟩, .bool true, .slice none 0 0, .int .i64 0, .int .i64 0, .int .i64 0, .slice (some ⟨w.heap.size + 1, 0, none⟩) 1 1, .slice none 0 0, .slice none 0 0] 39)
  have b5 := heap_alloc_new ((((w.alloc (.cells #[.int .i64 11, .slice (some ⟨w.heap.size + 1 + 1 + 1 + 1, 0, none⟩) 1 1] 25)).alloc (.cells #[.int .i64 29, .int .i64 0, .int .i64 0] 44)).alloc (.cells #[.string ⟨#[109, 97, 105, 110]⟩, .bool true, .slice none 0 0, .int .i64 0, .int .i64 0, .int .i64 0, .slice (some ⟨w.heap.size + 1, 0, none⟩) 1 1, .slice none 0 0, .slice none 0 0] 39)).alloc (.cells #[.string ⟨#[109, 97, 105, 110]⟩, .bool true, .slice none 0 0, .int .i64 0, .int .i64 0, .int .i64 0, .slice (some ⟨w.heap.size + 1, 0, none⟩) 1 1, .slice none 0 0, .slice none 0 0] 39)) (.cells #[.string ⟨#[77]⟩, .bool false, .bool false, .int .i64 0, .slice none 0 0, .slice none 0 0, .slice none 0 0, .slice (some ⟨w.heap.size + 1 + 1 + 1, 0, none⟩) 1 1] 31)
  rw [s1] at b2
  rw [s3] at b4
  rw [s4] at b5
  have hB : Below w.heap.size w (((((w.alloc (.cells #[.int .i64 11, .slice (some ⟨w.heap.size + 1 + 1 + 1 + 1, 0, none⟩) 1 1] 25)).alloc (.cells #[.int .i64 29, .int .i64 0, .int .i64 0] 44)).alloc (.cells #[.string ⟨#[109, 97, 105, 110]⟩, .bool true, .slice none 0 0, .int .i64 0, .int .i64 0, .int .i64 0, .slice (some ⟨w.heap.size + 1, 0, none⟩) 1 1, .slice none 0 0, .slice none 0 0] 39)).alloc (.cells #[.string ⟨#[109, 97, 105, 110]⟩, .bool true, .slice none 0 0, .int .i64 0, .int .i64 0, .int .i64 0, .slice (some ⟨w.heap.size + 1, 0, none⟩) 1 1, .slice none 0 0, .slice none 0 0] 39)).alloc (.cells #[.string ⟨#[77]⟩, .bool false, .bool false, .int .i64 0, .slice none 0 0, .slice none 0 0, .slice none 0 0, .slice (some ⟨w.heap.size + 1 + 1 + 1, 0, none⟩) 1 1] 31)) := (((((Below.refl _ _).alloc (Nat.le_refl _) _).alloc (by omega) _).alloc (by omega) _).alloc (by omega) _).alloc (by omega) _
  have c1 : (((((w.alloc (.cells #[.int .i64 11, .slice (some ⟨w.heap.size + 1 + 1 + 1 + 1, 0, none⟩) 1 1] 25)).alloc (.cells #[.int .i64 29, .int .i64 0, .int .i64 0] 44)).alloc (.cells #[.string ⟨#[109, 97, 105, 110]⟩, .bool true, .slice none 0 0, .int .i64 0, .int .i64 0, .int .i64 0, .slice (some ⟨w.heap.size + 1, 0, none⟩) 1 1, .slice none 0 0, .slice none 0 0] 39)).alloc (.cells #[.string ⟨#[109, 97, 105, 110]⟩, .bool true, .slice none 0 0, .int .i64 0, .int .i64 0, .int .i64 0, .slice (some ⟨w.heap.size + 1, 0, none⟩) 1 1, .slice none 0 0, .slice none 0 0] 39)).alloc (.cells #[.string ⟨#[77]⟩, .bool false, .bool false, .int .i64 0, .slice none 0 0, .slice none 0 0, .slice none 0 0, .slice (some ⟨w.heap.size + 1 + 1 + 1, 0, none⟩) 1 1] 31)).heap[w.heap.size]? = some (.cells #[.int .i64 11, .slice (some ⟨w.heap.size + 1 + 1 + 1 + 1, 0, none⟩) 1 1] 25) := by
    rw [Below.heap_alloc _ _ _ (by omega), Below.heap_alloc _ _ _ (by omega), Below.heap_alloc _ _ _ (by omega), Below.heap_alloc _ _ _ (by omega)]; exact b1
  have c2 : (((((w.alloc (.cells #[.int .i64 11, .slice (some ⟨w.heap.size + 1 + 1 + 1 + 1, 0, none⟩) 1 1] 25)).alloc (.cells #[.int .i64 29, .int .i64 0, .int .i64 0] 44)).alloc (.cells #[.string ⟨#[109, 97, 105, 110]⟩, .bool true, .slice none 0 0, .int .i64 0, .int .i64 0, .int .i64 0, .slice (some ⟨w.heap.size + 1, 0, none⟩) 1 1, .slice none 0 0, .slice none 0 0] 39)).alloc (.cells #[.string ⟨#[109, 97, 105, 110]⟩, .bool true, .slice none 0 0, .int .i64 0, .int .i64 0, .int .i64 0, .slice (some ⟨w.heap.size + 1, 0, none⟩) 1 1, .slice none 0 0, .slice none 0 0] 39)).alloc (.cells #[.string ⟨#[77]⟩, .bool false, .bool false, .int .i64 0, .slice none 0 0, .slice none 0 0, .slice none 0 0, .slice (some ⟨w.heap.size + 1 + 1 + 1, 0, none⟩) 1 1] 31)).heap[w.heap.size + 1]? = some (.cells #[.int .i64 29, .int .i64 0, .int .i64 0] 44) := by
    rw [Below.heap_alloc _ _ _ (by omega), Below.heap_alloc _ _ _ (by omega), Below.heap_alloc _ _ _ (by omega)]; exact b2
  have c4 : (((((w.alloc (.cells #[.int .i64 11, .slice (some ⟨w.heap.size + 1 + 1 + 1 + 1, 0, none⟩) 1 1] 25)).alloc (.cells #[.int .i64 29, .int .i64 0, .int .i64 0] 44)).alloc (.cells #[.string ⟨#[109, 97, 105, 110]⟩, .bool true, .slice none 0 0, .int .i64 0, .int .i64 0, .int .i64 0, .slice (some ⟨w.heap.size + 1, 0, none⟩) 1 1, .slice none 0 0, .slice none 0 0] 39)).alloc (.cells #[.string ⟨#[109, 97, 105, 110]⟩, .bool true, .slice none 0 0, .int .i64 0, .int .i64 0, .int .i64 0, .slice (some ⟨w.heap.size + 1, 0, none⟩) 1 1, .slice none 0 0, .slice none 0 0] 39)).alloc (.cells #[.string ⟨#[77]⟩, .bool false, .bool false, .int .i64 0, .slice none 0 0, .slice none 0 0, .slice none 0 0, .slice (some ⟨w.heap.size + 1 + 1 + 1, 0, none⟩) 1 1] 31)).heap[w.heap.size + 1 + 1 + 1]? = some (.cells #[.string ⟨#[109, 97, 105, 110]⟩, .bool true, .slice none 0 0, .int .i64 0, .int .i64 0, .int .i64 0, .slice (some ⟨w.heap.size + 1, 0, none⟩) 1 1, .slice none 0 0, .slice none 0 0] 39) := by
    rw [Below.heap_alloc _ _ _ (by omega)]; exact b4
  have s5 : (((((w.alloc (.cells #[.int .i64 11, .slice (some ⟨w.heap.size + 1 + 1 + 1 + 1, 0, none⟩) 1 1] 25)).alloc (.cells #[.int .i64 29, .int .i64 0, .int .i64 0] 44)).alloc (.cells #[.string ⟨#[109, 97, 105, 110]⟩, .bool true, .slice none 0 0, .int .i64 0, .int .i64 0, .int .i64 0, .slice (some ⟨w.heap.size + 1, 0, none⟩) 1 1, .slice none 0 0, .slice none 0 0] 39)).alloc (.cells #[.string ⟨#[109, 97, 105, 110]⟩, .bool true, .slice none 0 0, .int .i64 0, .int .i64 0, .int .i64 0, .slice (some ⟨w.heap.size + 1, 0, none⟩) 1 1, .slice none 0 0, .slice none 0 0] 39)).alloc (.cells #[.string ⟨#[77]⟩, .bool false, .bool false, .int .i64 0, .slice none 0 0, .slice none 0 0, .slice none 0 0, .slice (some ⟨w.heap.size + 1 + 1 + 1, 0, none⟩) 1 1] 31)).heap.size = w.heap.size + 1 + 1 + 1 + 1 + 1 := by simp
  refine bodyPost_ret (results_cell_row rfl _ _ w.heap.size 25 _ (0, 0) _ rfl c1 Tryz.underlying25 rfl infoRPg) rfl ?_
  refine ⟨rfl, hB, by omega, tinyV w, b5, ⟨_, _, _, _, rfl, Sl.nil _ _ _, Sl.nil _ _ _, Sl.nil _ _ _, ?_⟩⟩
  refine Sl.one1 (K := kMd) (x := tinyM) c4 (And.intro (by omega) (by omega)) ⟨_, _, _, _, rfl, Sl.nil _ _ _, ?_, Sl.nil _ _ _, Sl.nil _ _ _⟩
  exact Sl.one1 (K := kIs) (x := ⟨29, 0, 0⟩) c2 (And.intro (by omega) (by omega)) rfl
theorem sl_own2 {α : Type} {K : Kd α} {w : World} {S : Nat → Prop} {base : Nat} {T : TypeId} {g n cap : Nat} {xs : List α} {CS : List (List Value)} (hn : n = xs.length) (h : w.ownsRow base T K.k (.slice (some ⟨g, 0, none⟩) n cap) n CS.flatten) (hl : CS.length = xs.length) (hk : ∀ r ∈ CS, r.length = K.k) (hR : ∀ (i : Nat) (x : α) (cs : List Value), xs[i]? = some x → CS[i]? = some cs → K.R w S x cs) (hS : S g) : Sl K w S (.slice (some ⟨g, 0, none⟩) n cap) xs := by
  subst hn
  rcases h.2 with ⟨e1, e0⟩ | ⟨g', cap', cur, e1, e2, e3, e4, e5, e6, e7⟩
  · cases e1
  · injection e1 with f1 f2 f3
    injection f1 with f1
    injection f1 with f1
    subst f1 f3
    have hgl := (Array.getElem?_eq_some_iff.1 e3).1
    refine ⟨_, cap, rfl, by omega, .inr ⟨g, 0, rfl, hS, ⟨hgl, fun _ j => by simp [World.frozen?, e3]⟩, fun i x hx => ?_⟩⟩
    have hi := (List.getElem?_eq_some_iff.1 hx).1
    obtain ⟨cs, hcs⟩ : ∃ cs, CS[i]? = some cs := ⟨_, List.getElem?_eq_getElem (by omega)⟩
    refine ⟨cs, hR i x cs hx hcs, fun j u hu => ?_⟩
    have hj := (List.getElem?_eq_some_iff.1 hu).1
    have hck := hk cs (List.mem_of_getElem? hcs)
    have h1 := flat_at CS hk i cs hcs j (by omega)
    have hlt : i * K.k + j < xs.length * K.k := by
      have := Nat.mul_le_mul_right K.k (show i + 1 ≤ xs.length by omega)
      rw [Nat.add_mul, Nat.one_mul] at this; omega
    rw [Nat.zero_add, h.cellAt _ hlt, h1]; exact hu
/-- What Tiny's class and the appended ones reach, behind the append in W that left w3. -/
def Wb (S : Nat → Prop) (a b c d : Nat) (k : Nat) : Prop := S k ∨ (a ≤ k ∧ k < b) ∨ (c ≤ k ∧ k < d)
theorem with_run {w0 W : World} {S : Nat → Prop} {xs : List Cs} {ao : Option Addr} {cap : Nat} (hT : TnB w0 W) (hS : ∀ k, S k → k < w0.heap.size) (h : Sl kCs W S (.slice ao xs.length cap) xs) (hn : xs.length ≤ 1000) (h0 : 0 < xs.length) :
    ∃ g c w3, (appY #[23, 23] 23 #[.slice (some ⟨w0.heap.size + 4, 0, none⟩) 1 1, .slice ao xs.length cap]).run Tryz.prog W = .ok (.slice (some ⟨g, 0, none⟩) (1 + xs.length) c) w3 ∧ Below w0.heap.size W w3 ∧ W.heap.size ≤ w3.heap.size ∧ (∀ k, k < W.heap.size → k ≠ w0.heap.size + 4 → w3.heap[k]? = W.heap[k]?) ∧ Sl kCs w3 (Wb S w0.heap.size (w0.heap.size + 5) W.heap.size w3.heap.size) (.slice (some ⟨g, 0, none⟩) (1 + xs.length) c) (tinyC :: xs) := by
  obtain ⟨i0, hi, hz0, hz1, hz2⟩ := info_parts infoCQ
  obtain ⟨ts, ht, hR⟩ := hT.ex
  have hsz := hT.sz
  have ht8 : ts.size = 8 := by have := kCs.len hR; rw [Array.length_toList] at this; exact this
  have hown : W.ownsRow (w0.heap.size + 4) 31 8 (.slice (some ⟨w0.heap.size + 4, 0, none⟩) 1 1) 1 ([ts.toList] : List (List Value)).flatten := by
    refine ⟨by simp [ht8], .inr ⟨w0.heap.size + 4, 1, _, rfl, Nat.le_refl _, ht, Nat.le_refl _, by decide, by simp [ht8], ?_⟩⟩
    rw [List.take_of_length_le (by simp [ht8])]
    simp
  obtain ⟨b, o, CS, rfl, hsb, hcl, hcr, hck, hc1, hcc⟩ := h.raw h0
  have hcell : ∀ j u, CS.flatten[j]? = some u → W.cell? ((⟨b, o, none⟩ : Addr).add j) = some u := fun j u hu => by
    have hadd : (⟨b, o, none⟩ : Addr).add j = ⟨b, o + j, none⟩ := by unfold Addr.add; split <;> simp_all
    rw [hadd]; exact hcc j u hu
  obtain ⟨g, c, w3, hr, hown3, hg, hat, hgl⟩ := run_append_lies (P := Tryz.prog) (w := W) 23 23 (w0.heap.size + 4) 31 i0 (.agg #[.string ⟨#[]⟩, .bool false, .bool false, .int .i64 0, .slice none 0 0, .slice none 0 0, .slice none 0 0, .slice none 0 0]) 8 128 Tryz.underlying23 hi hz0 hz1 hz2 rfl (by decide) (.slice (some ⟨w0.heap.size + 4, 0, none⟩) 1 1) 1 _ hown ⟨b, o, none⟩ xs.length cap CS.flatten (by rw [flat_len CS hck, hcl]; rfl) hcell (fun u hu => by
    obtain ⟨r, hr, hu⟩ := List.mem_flatten.1 hu
    exact hc1 r hr u hu) h0 (by unfold maxLen; omega) (by omega) (by omega) _ rfl
  have hkeep : ∀ k, k < W.heap.size → k ≠ w0.heap.size + 4 → w3.heap[k]? = W.heap[k]? := fun k hk hne => hg.block k hk fun e => hne (by
    have : k = w0.heap.size + 4 := by simpa [Value.ownBlock, eq_comm] using e
    exact this)
  refine ⟨g, c, w3, hr, ⟨hg.os, hg.tape, hg.output, hg.size, fun k hk => hkeep k (by omega) (by omega)⟩, hg.size, hkeep, ?_⟩
  refine sl_own2 (K := kCs) (T := 31) (base := w0.heap.size + 4) (CS := [ts.toList] ++ CS) (by simp; omega) (by rw [List.flatten_append]; exact hown3) (by simp [hcl]) (fun r hr => ?_) (fun i x cs hx hcs => ?_) ?_
  · rcases List.mem_append.1 hr with hr | hr
    · rw [List.mem_singleton.1 hr, Array.length_toList]; exact ht8
    · exact hck r hr
  · cases i with
    | zero =>
      simp at hx hcs
      subst hx hcs
      exact kCs.mono (fun k hk => .inr (.inl ⟨hk.1, by have := hk.2; omega⟩)) (kCs.keep (fun k hk => hkeep k (by have := hk.2; omega) (by have := hk.2; omega)) hR)
    | succ i =>
      rw [List.getElem?_cons_succ] at hx
      rw [List.singleton_append, List.getElem?_cons_succ] at hcs
      obtain ⟨cs', h3, h4⟩ := hcr i x hx
      rw [hcs] at h3
      injection h3 with h3
      subst h3
      exact kCs.mono (fun k hk => .inl hk) (kCs.keep (fun k hk => hkeep k (by have := hS k hk; omega) (by have := hS k hk; omega)) h4)
  · rcases hat with e | e
    · have : w0.heap.size + 4 = g := by simpa [Value.ownBlock] using e
      exact .inr (.inl ⟨by omega, by omega⟩)
    · exact .inr (.inr ⟨by omega, hgl⟩)
theorem two_set {W : World} {b : Nat} {T : TypeId} {x0 x1 : Value} (h : W.heap[b]? = some (.cells #[x0, x1] T (0, 0))) (u0 u1 : Value) : ((W.setCell ⟨b, 0, none⟩ u0).setCell ⟨b, 1, none⟩ u1).heap[b]? = some (.cells #[u0, u1] T (0, 0)) := by
  simp [World.setCell, Array.getElem?_modify, h]
theorem TnB.below {w w' w'' : World} (h : TnB w w') (hb : Below w'.heap.size w' w'') : TnB w w'' := by
  obtain ⟨cs, h1, h2⟩ := h.ex
  have := h.sz
  exact ⟨h.bel.trans (hb.mono h.bel.size), Nat.lt_of_lt_of_le h.sz hb.size, cs, (hb.block _ h.sz).trans h1, kCs.keep (fun k q => hb.block k (by omega)) h2⟩
attribute [local go_sem ↓] app_Y
set_option maxRecDepth 20000 in
set_option maxHeartbeats 4000000 in
theorem with_ok {w : World} {S : Nat → Prop} {xs : List Cs} {ao : Option Addr} {cap : Nat} (hS : ∀ k, S k → k < w.heap.size) (h : Sl kCs w S (.slice ao xs.length cap) xs) (hn : xs.length ≤ 1000) (h0 : 0 < xs.length) : Calls Tryz.prog 12 #[.slice ao xs.length cap] w fun e w' => ∃ g c, e = .returned (.agg #[.int .i64 11, .slice (some ⟨g, 0, none⟩) (1 + xs.length) c]) ∧ Below w.heap.size w w' ∧ ∃ S' : Nat → Prop, (∀ k, S' k → k < w'.heap.size) ∧ Sl kCs w' S' (.slice (some ⟨g, 0, none⟩) (1 + xs.length) c) (tinyC :: xs) := by
  obtain ⟨w1, hw1⟩ : ∃ w1, w1 = w.alloc (.cells #[.int .i64 0, .slice none 0 0] 25) := ⟨_, rfl⟩
  have hz1 : w1.heap.size = w.heap.size + 1 := by rw [hw1, World.size_alloc]
  have hb1 : Below w.heap.size w w1 := by rw [hw1]; exact (Below.refl _ _).alloc (Nat.le_refl _) _
  have hx1 : w1.heap[w.heap.size]? = some (.cells #[.int .i64 0, .slice none 0 0] 25 (0, 0)) := by rw [hw1]; exact heap_alloc_new _ _
  have hT := tiny_own w1
  have HF : Hid (∀ w2, TnB w1 w2 → ∃ g c w3, (appY #[23, 23] 23 #[.slice (some ⟨w1.heap.size + 4, 0, none⟩) 1 1, .slice ao xs.length cap]).run Tryz.prog (w2.alloc (.cells #[.int .i64 11, .slice (some ⟨w1.heap.size + 4, 0, none⟩) 1 1] 25)) = .ok (.slice (some ⟨g, 0, none⟩) (1 + xs.length) c) w3 ∧ (w3.cell? ⟨w2.heap.size, 0, none⟩ = some (.int .i64 11) ∧ w3.cell? ⟨w2.heap.size, 1, none⟩ = some (.slice (some ⟨w1.heap.size + 4, 0, none⟩) 1 1) ∧ w3.frozen? ⟨w2.heap.size, 1, none⟩ = false) ∧ (w3.cell? ⟨w.heap.size, 0, none⟩ = some (.int .i64 0) ∧ w3.cell? ⟨w.heap.size, 1, none⟩ = some (.slice none 0 0) ∧ w3.frozen? ⟨w.heap.size, 0, none⟩ = false ∧ w3.frozen? ⟨w.heap.size, 1, none⟩ = false) ∧ (¬ w2.heap.size = w.heap.size ∧ ¬ w.heap.size = w2.heap.size) ∧
      Hid ((((w3.setCell ⟨w2.heap.size, 1, none⟩ (.slice (some ⟨g, 0, none⟩) (1 + xs.length) c)).setCell ⟨w.heap.size, 0, none⟩ (.int .i64 11)).setCell ⟨w.heap.size, 1, none⟩ (.slice (some ⟨g, 0, none⟩) (1 + xs.length) c)).heap[w.heap.size]? = some (.cells #[.int .i64 11, .slice (some ⟨g, 0, none⟩) (1 + xs.length) c] 25 (0, 0)) ∧
        Below w.heap.size w (((w3.setCell ⟨w2.heap.size, 1, none⟩ (.slice (some ⟨g, 0, none⟩) (1 + xs.length) c)).setCell ⟨w.heap.size, 0, none⟩ (.int .i64 11)).setCell ⟨w.heap.size, 1, none⟩ (.slice (some ⟨g, 0, none⟩) (1 + xs.length) c)) ∧
        ∃ S' : Nat → Prop, (∀ k, S' k → k < (((w3.setCell ⟨w2.heap.size, 1, none⟩ (.slice (some ⟨g, 0, none⟩) (1 + xs.length) c)).setCell ⟨w.heap.size, 0, none⟩ (.int .i64 11)).setCell ⟨w.heap.size, 1, none⟩ (.slice (some ⟨g, 0, none⟩) (1 + xs.length) c)).heap.size) ∧ Sl kCs (((w3.setCell ⟨w2.heap.size, 1, none⟩ (.slice (some ⟨g, 0, none⟩) (1 + xs.length) c)).setCell ⟨w.heap.size, 0, none⟩ (.int .i64 11)).setCell ⟨w.heap.size, 1, none⟩ (.slice (some ⟨g, 0, none⟩) (1 + xs.length) c)) S' (.slice (some ⟨g, 0, none⟩) (1 + xs.length) c) (tinyC :: xs))) := fun w2 hT2 => by
    have hsz := hT2.sz
    obtain ⟨W, hW⟩ : ∃ W, W = w2.alloc (.cells #[.int .i64 11, .slice (some ⟨w1.heap.size + 4, 0, none⟩) 1 1] 25) := ⟨_, rfl⟩
    have hWz : W.heap.size = w2.heap.size + 1 := by rw [hW, World.size_alloc]
    have hbW : Below w2.heap.size w2 W := by rw [hW]; exact (Below.refl _ _).alloc (Nat.le_refl _) _
    have hWn : W.heap[w2.heap.size]? = some (.cells #[.int .i64 11, .slice (some ⟨w1.heap.size + 4, 0, none⟩) 1 1] 25 (0, 0)) := by rw [hW]; exact heap_alloc_new _ _
    have hWw : Below w.heap.size w W := (hb1.trans (hT2.bel.mono hb1.size)).trans (hbW.mono (by omega))
    rw [← hW]
    obtain ⟨g, c, w3, hr, hb3, hz3, hk3, hs3⟩ := with_run (S := S) (hT2.below hbW) (fun k q => by have := hS k q; omega) (h.keep fun b q => hWw.block b (hS b q)) hn h0
    have e2 : w3.heap[w2.heap.size]? = some (.cells #[.int .i64 11, .slice (some ⟨w1.heap.size + 4, 0, none⟩) 1 1] 25 (0, 0)) := (hk3 _ (by omega) (by omega)).trans hWn
    have e1 : w3.heap[w.heap.size]? = some (.cells #[.int .i64 0, .slice none 0 0] 25 (0, 0)) := (hk3 _ (by omega) (by omega)).trans ((hbW.block _ (by omega)).trans ((hT2.bel.block _ (by omega)).trans hx1))
    refine ⟨g, c, w3, hr, ⟨bxq_cell e2 rfl, bxq_cell e2 rfl, by simp [World.frozen?, e2]⟩, ⟨bxq_cell e1 rfl, bxq_cell e1 rfl, by simp [World.frozen?, e1], by simp [World.frozen?, e1]⟩, ⟨by omega, by omega⟩, ?_⟩
    obtain ⟨W4, hW4⟩ : ∃ W4, W4 = ((w3.setCell ⟨w2.heap.size, 1, none⟩ (.slice (some ⟨g, 0, none⟩) (1 + xs.length) c)).setCell ⟨w.heap.size, 0, none⟩ (.int .i64 11)).setCell ⟨w.heap.size, 1, none⟩ (.slice (some ⟨g, 0, none⟩) (1 + xs.length) c) := ⟨_, rfl⟩
    rw [← hW4]
    have hne : ∀ k, k ≠ w2.heap.size → k ≠ w.heap.size → W4.heap[k]? = w3.heap[k]? := fun k q1 q2 => by rw [hW4, Below.heap_setCell _ _ _ _ q2, Below.heap_setCell _ _ _ _ q2, Below.heap_setCell _ _ _ _ q1]
    have hz4 : W4.heap.size = w3.heap.size := by rw [hW4]; simp [World.setCell]
    have hnw : w.heap.size ≠ w2.heap.size := by omega
    have e1' : (w3.setCell ⟨w2.heap.size, 1, none⟩ (.slice (some ⟨g, 0, none⟩) (1 + xs.length) c)).heap[w.heap.size]? = some (.cells #[.int .i64 0, .slice none 0 0] 25 (0, 0)) := (Below.heap_setCell _ _ _ _ hnw).trans e1
    refine ⟨by rw [hW4]; exact two_set e1' _ _, ?_, Wb S w1.heap.size (w1.heap.size + 5) W.heap.size w3.heap.size, fun k q => ?_, hs3.keep fun k q => ?_⟩
    · exact hWw.trans ⟨by rw [hW4]; exact hb3.os, by rw [hW4]; exact hb3.tape, by rw [hW4]; exact hb3.output, by omega, fun k q => (hne k (by omega) (by omega)).trans (hb3.block k (by omega))⟩
    · rcases q with q | q | q
      · have := hS k q; omega
      · omega
      · omega
    · rcases q with q | q | q
      · have := hS k q; exact hne k (by omega) (by omega)
      · exact hne k (by omega) (by omega)
      · exact hne k (by omega) (by omega)
  clear hb1 hx1 hS h hz1
  generalize xs.length = M at *
  go_enter Tryz.func12, Tryz.ntmps12
  go_upto_region 1 with fail
  rw [← hw1]
  clear hw1
  go_wp2_with (go_at_call 20; refine hT.mono ?_; clear hT; rintro e w2 ⟨rfl, hT2⟩; obtain ⟨g, c, w3, hrun, ⟨x0, x1, fx⟩, ⟨y0, y1, fy0, fy1⟩, ⟨n1, n2⟩, HQ⟩ := HF.out w2 hT2.out; clear HF hT2)
  refine bodyPost_ret (results_cell_row rfl _ _ w.heap.size 25 _ (0, 0) _ rfl HQ.out.1 Tryz.underlying25 rfl infoRPg) rfl ⟨g, c, rfl, HQ.out.2.1, HQ.out.2.2⟩
def retI : Is := ⟨29, 0, 0⟩
def mthM (nm : ByteArray) (xs : List Int) (ret : Int) : Md := ⟨nm, false, xs, ret, 1 + xs.length, 0, [retI], [], []⟩
set_option maxRecDepth 20000 in
set_option maxHeartbeats 4000000 in
theorem method_ok (nm : ByteArray) (ax : Option Addr) (n cx : Nat) (ret : Int) (hn : n ≤ 1000) (w : World) : Calls Tryz.prog 14 #[.string nm, .slice ax n cx, .int .i64 ret] w fun e w' => e = .returned (.agg #[.string nm, .bool false, .slice ax n cx, .int .i64 ret, .int .i64 (1 + n), .int .i64 0, .slice (some ⟨w.heap.size + 1, 0, none⟩) 1 1, .slice none 0 0, .slice none 0 0]) ∧ Below w.heap.size w w' ∧ w.heap.size + 2 ≤ w'.heap.size ∧ w'.heap[w.heap.size + 1]? = some (.cells #[.int .i64 29, .int .i64 0, .int .i64 0] 44 (0, 0)) := by
  go_enter Tryz.func14, Tryz.ntmps14
  go_wp2
  have hz : (w.alloc (.cells #[.string nm, .bool false, .slice ax n cx, .int .i64 ret, .int .i64 (1 + n), .int .i64 0, .slice (some ⟨w.heap.size + 1, 0, none⟩) 1 1, .slice none 0 0, .slice none 0 0] 39)).heap.size = w.heap.size + 1 := Array.size_push _
  have h1 := heap_alloc_new (w.alloc (.cells #[.string nm, .bool false, .slice ax n cx, .int .i64 ret, .int .i64 (1 + n), .int .i64 0, .slice (some ⟨w.heap.size + 1, 0, none⟩) 1 1, .slice none 0 0, .slice none 0 0] 39)) (.cells #[.int .i64 29, .int .i64 0, .int .i64 0] 44)
  rw [hz] at h1
  have h0 : ((w.alloc (.cells #[.string nm, .bool false, .slice ax n cx, .int .i64 ret, .int .i64 (1 + n), .int .i64 0, .slice (some ⟨w.heap.size + 1, 0, none⟩) 1 1, .slice none 0 0, .slice none 0 0] 39)).alloc (.cells #[.int .i64 29, .int .i64 0, .int .i64 0] 44)).heap[w.heap.size]? = some (.cells #[.string nm, .bool false, .slice ax n cx, .int .i64 ret, .int .i64 (1 + n), .int .i64 0, .slice (some ⟨w.heap.size + 1, 0, none⟩) 1 1, .slice none 0 0, .slice none 0 0] 39 (0, 0)) := (Below.heap_alloc _ _ _ (by omega)).trans (heap_alloc_new w _)
  refine bodyPost_ret (results_cell_row rfl _ _ w.heap.size 39 _ (0, 0) _ rfl h0 Tryz.underlying39 rfl infoRMd) rfl ⟨rfl, ((Below.refl _ _).alloc (Nat.le_refl _) _).alloc (by omega) _, ?_, h1⟩
  rw [World.size_alloc, hz]
  exact Nat.le_refl _
theorem okl_n {p : Pg} (h : Okl p) : p.cls.length ≤ 1000 := h.okz.n
set_option maxRecDepth 20000 in
set_option maxHeartbeats 4000000 in
theorem faults_yes {w : World} {S : Nat → Prop} {p : Pg} {ao : Option Addr} {cap : Nat} (hO : Okl p) (hS : ∀ k, S k → k < w.heap.size) (h : Sl kCs w S (.slice ao p.cls.length cap) p.cls) (hJ : loadJ p = .ok (allJ p)) : Calls Tryz.prog 13 #[.agg #[.int .i64 p.main, .slice ao p.cls.length cap], .int .i64 0, .int .i64 0] w fun e w' => e = .returned (.bool true) ∧ Below w.heap.size w w' := by
  obtain ⟨W, hW⟩ : ∃ W, W = w.alloc (.cells #[.int .i64 p.main, .slice ao p.cls.length cap] 25) := ⟨_, rfl⟩
  have hB : Below w.heap.size w W := by rw [hW]; exact (Below.refl _ _).alloc (Nat.le_refl _) _
  have hbx : W.heap[w.heap.size]? = some (.cells #[.int .i64 p.main, .slice ao p.cls.length cap] 25 (0, 0)) := by rw [hW]; exact heap_alloc_new _ _
  have hWz : w.heap.size < W.heap.size := (Array.getElem?_eq_some_iff.1 hbx).1
  have hL := load_any (w := W) (S := S) (cs := [.int .i64 p.main, .slice ao p.cls.length cap]) hO (fun k q => Nat.lt_of_lt_of_le (hS k q) hB.size) ⟨_, rfl, h.keep fun b q => hB.block b (hS b q)⟩
  unfold LdQ at hL
  rw [hJ] at hL
  have c0 : W.cell? ⟨w.heap.size, 0, none⟩ = some (.int .i64 p.main) := bxq_cell hbx rfl
  have c1 : W.cell? ⟨w.heap.size, 1, none⟩ = some (.slice ao p.cls.length cap) := bxq_cell hbx rfl
  have hn := okl_n hO
  have hlen : (allJ p).length = 11 + p.cls.length := by simp [allJ, nJ]
  have HC : Hid (∀ w2, Below W.heap.size W w2 → w2.cell? ⟨w.heap.size, 1, none⟩ = some (.slice ao p.cls.length cap)) := fun w2 hb => cell_keep c1 hb
  have HBW : Hid _ := hB
  obtain ⟨M, hM⟩ : ∃ M, (allJ p).length = M := ⟨_, rfl⟩
  have hq : ((M : Int) == 11 + (p.cls.length : Int)) = true := by rw [← hM, hlen]; simp
  have HL : Hid (Calls Tryz.prog 15 #[.agg #[.int .i64 p.main, .slice ao p.cls.length cap]] W fun e w2 => ∃ al cl, e = .returned (.tuple #[.slice al M cl, .int .i64 0, .int .i64 0]) ∧ Below W.heap.size W w2) := by
    refine hL.mono ?_
    rintro e w2 ⟨hb, vl, rfl, hs⟩
    obtain ⟨al, cl, rfl⟩ := hs.form
    rw [hM]
    exact ⟨al, cl, rfl, hb⟩
  clear hL h hS hO hJ hlen hM hbx hWz hB
  generalize p.cls.length = N at *
  go_enter Tryz.func13, Tryz.ntmps13
  go_upto_region 1 with fail
  rw [← hW]
  clear hW
  go_wp2_with (first
    | (go_at_call 15; refine HL.out.mono ?_; clear HL; rintro e w2 ⟨al, cl, rfl, hb⟩; have HB2 : Hid _ := hb; have d1 := HC.out w2 hb; clear hb)
    | (go_at_call 16; refine (num_any _ _).mono ?_; rintro e w9 ⟨rfl, hw9⟩; replace hw9 := hw9.symm; subst hw9))
  go_ret
  exact ⟨rfl, HBW.out.trans (HB2.out.mono HBW.out.size)⟩
set_option maxRecDepth 20000 in
set_option maxHeartbeats 4000000 in
theorem faults_err {w : World} {S : Nat → Prop} {p : Pg} {ao : Option Addr} {cap : Nat} (hO : Okl p) (hS : ∀ k, S k → k < w.heap.size) (h : Sl kCs w S (.slice ao p.cls.length cap) p.cls) {class_ code : Int} (hc : code ≠ 0) (hJ : loadJ p = .error (code, class_)) : Calls Tryz.prog 13 #[.agg #[.int .i64 p.main, .slice ao p.cls.length cap], .int .i64 class_, .int .i64 code] w fun e w' => e = .returned (.bool true) ∧ Below w.heap.size w w' := by
  obtain ⟨W, hW⟩ : ∃ W, W = w.alloc (.cells #[.int .i64 p.main, .slice ao p.cls.length cap] 25) := ⟨_, rfl⟩
  have hB : Below w.heap.size w W := by rw [hW]; exact (Below.refl _ _).alloc (Nat.le_refl _) _
  have hbx : W.heap[w.heap.size]? = some (.cells #[.int .i64 p.main, .slice ao p.cls.length cap] 25 (0, 0)) := by rw [hW]; exact heap_alloc_new _ _
  have hL := load_any (w := W) (S := S) (cs := [.int .i64 p.main, .slice ao p.cls.length cap]) hO (fun k q => Nat.lt_of_lt_of_le (hS k q) hB.size) ⟨_, rfl, h.keep fun b q => hB.block b (hS b q)⟩
  unfold LdQ at hL
  rw [hJ] at hL
  have c0 : W.cell? ⟨w.heap.size, 0, none⟩ = some (.int .i64 p.main) := bxq_cell hbx rfl
  have c1 : W.cell? ⟨w.heap.size, 1, none⟩ = some (.slice ao p.cls.length cap) := bxq_cell hbx rfl
  have hn := okl_n hO
  have HC : Hid (∀ w2, Below W.heap.size W w2 → w2.cell? ⟨w.heap.size, 1, none⟩ = some (.slice ao p.cls.length cap)) := fun w2 hb => cell_keep c1 hb
  have HBW : Hid _ := hB
  have hq0 : (code == 0) = false := by simpa using hc
  have hq1 : ((0 : Int) == 11 + (p.cls.length : Int)) = false := by simp; omega
  have HL : Hid (Calls Tryz.prog 15 #[.agg #[.int .i64 p.main, .slice ao p.cls.length cap]] W fun e w2 => e = .returned (.tuple #[.slice none 0 0, .int .i64 class_, .int .i64 code]) ∧ Below W.heap.size W w2) := hL.mono fun e w2 ⟨hb, q⟩ => ⟨q, hb⟩
  clear hL h hS hO hJ hbx hB hc
  generalize p.cls.length = N at *
  go_enter Tryz.func13, Tryz.ntmps13
  go_upto_region 1 with fail
  rw [← hW]
  clear hW
  go_wp2_with (first
    | (go_at_call 15; refine HL.out.mono ?_; clear HL; rintro e w2 ⟨rfl, hb⟩; have HB2 : Hid _ := hb; have d1 := HC.out w2 hb; clear hb)
    | (go_at_call 16; refine (num_any _ _).mono ?_; rintro e w9 ⟨rfl, hw9⟩; replace hw9 := hw9.symm; subst hw9))
  go_ret
  exact ⟨rfl, HBW.out.trans (HB2.out.mono HBW.out.size)⟩
end Go.Proofs.YtbdfpodglfpjnaaGreat
