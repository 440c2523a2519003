/- FragActs' memory beside the pool: the play's block, its row of what must be. -/
import Derived.Test.YtlkomjapfcmpkaaFOwn
import Derived.Deep.MidRow
namespace Go.Proofs.Ytlkomjapfcmpkaa
open Go.RowKit

/-- The cells of the row: each fragment's ten. -/
def ucell (I : Nat → Bool) (V : Nat → Nat → Int) (k : Nat) : Value := if k % 10 = 0 then .bool (I (k / 10)) else .int .i64 (V (k / 10) (k % 10))
theorem ucell_is (I : Nat → Bool) (V : Nat → Nat → Int) (f : Nat) : ucell I V (f * 10) = .bool (I f) := by
  unfold ucell; rw [if_pos (by omega), show f * 10 / 10 = f by omega]
theorem ucell_at (I : Nat → Bool) (V : Nat → Nat → Int) (f : Nat) {j : Nat} (h1 : 1 ≤ j) (h2 : j < 10) : ucell I V (f * 10 + j) = .int .i64 (V f j) := by
  unfold ucell; rw [if_neg (by omega), show (f * 10 + j) / 10 = f by omega, show (f * 10 + j) % 10 = j by omega]
def updB (I : Nat → Bool) (f : Nat) (x : Bool) : Nat → Bool := fun g => if g = f then x else I g
def updR (V : Nat → Nat → Int) (f : Nat) (R : Nat → Int) : Nat → Nat → Int := fun g => if g = f then R else V g
theorem updB_at (I : Nat → Bool) (f : Nat) (x : Bool) : updB I f x f = x := by simp [updB]
theorem updB_else (I : Nat → Bool) {f g : Nat} (x : Bool) (h : g ≠ f) : updB I f x g = I g := by simp [updB, h]
theorem updR_at (V : Nat → Nat → Int) (f : Nat) (R : Nat → Int) : updR V f R f = R := by simp [updR]
theorem updR_else (V : Nat → Nat → Int) {f g : Nat} (R : Nat → Int) (h : g ≠ f) : updR V f R g = V g := by simp [updR, h]

/-- The row tells what is in use, its colour, its words. -/
def Agree (ws : Nat → Int) (base n : Nat) (I : Nat → Bool) (V : Nat → Nat → Int) : Prop := ∀ f, f < n → (I f = true ↔ ws (base + 8 * n + f) ≠ 0) ∧ (I f = true → V f 1 = ws (base + 8 * n + f) ∧ ∀ i, i < 8 → V f (2 + i) = ws (base + 8 * f + i))
section
variable {ws : Nat → Int} {base n : Nat} {I : Nat → Bool} {V : Nat → Nat → Int}
theorem Agree.inuse (h : Agree ws base n I V) {f : Nat} (hf : f < n) (hi : I f = true) : InUse ws base n (f : Int) := ⟨by omega, by omega, by simpa using (h f hf).1.1 hi⟩
theorem Agree.not (h : Agree ws base n I V) {x : Int} (hx : ¬ (0 ≤ x ∧ x < (n : Int) ∧ I x.toNat = true)) : ¬ InUse ws base n x := fun q => hx ⟨q.1, q.2.1, (h x.toNat (by have := q.1; have := q.2.1; omega)).1.2 q.2.2⟩
theorem Agree.alloc (h : Agree ws base n I V) {f : Nat} (hf : f < n) : Agree (upd (zap ws (base + 8 * f) 8) (base + 8 * n + f) 1) base n (updB I f true) (updR V f (fun j => if j = 1 then 1 else 0)) := by
  intro g hg
  by_cases e : g = f
  · subst e
    rw [updB_at, updR_at, upd_at]
    refine ⟨⟨fun _ => by decide, fun _ => rfl⟩, fun _ => ⟨rfl, fun i hi => ?_⟩⟩
    rw [upd_else _ _ (by omega), zap_in _ (by omega) (by omega)]
    simp; omega
  · rw [updB_else _ _ e, updR_else _ _ e, upd_else _ _ (by omega), zap_else _ (by omega)]
    refine ⟨(h g hg).1, fun q => ⟨((h g hg).2 q).1, fun i hi => ?_⟩⟩
    rw [upd_else _ _ (by omega), zap_else _ (by omega)]
    exact ((h g hg).2 q).2 i hi
theorem Agree.free (h : Agree ws base n I V) {f : Nat} (hf : f < n) : Agree (upd ws (base + 8 * n + f) 0) base n (updB I f false) (updR V f (fun _ => 0)) := by
  intro g hg
  by_cases e : g = f
  · subst e
    rw [updB_at, updR_at, upd_at]
    exact ⟨⟨fun q => absurd q (by decide), fun q => absurd rfl q⟩, fun q => absurd q (by decide)⟩
  · rw [updB_else _ _ e, updR_else _ _ e, upd_else _ _ (by omega)]
    refine ⟨(h g hg).1, fun q => ⟨((h g hg).2 q).1, fun i hi => ?_⟩⟩
    rw [upd_else _ _ (by omega)]
    exact ((h g hg).2 q).2 i hi
theorem Agree.store (h : Agree ws base n I V) {f i : Nat} {v : Int} (hf : f < n) (hi : i < 8) : Agree (upd ws (base + 8 * f + i) v) base n I (updR V f (upd (V f) (2 + i) v)) := by
  intro g hg
  rw [upd_else _ _ (by omega)]
  refine ⟨(h g hg).1, fun q => ?_⟩
  by_cases e : g = f
  · subst e
    rw [updR_at, upd_else _ _ (by omega)]
    refine ⟨((h g hg).2 q).1, fun j hj => ?_⟩
    by_cases e2 : j = i
    · subst e2; rw [upd_at, upd_at]
    · rw [upd_else _ _ (by omega), upd_else _ _ (by omega)]; exact ((h g hg).2 q).2 j hj
  · rw [updR_else _ _ e]
    refine ⟨((h g hg).2 q).1, fun j hj => ?_⟩
    rw [upd_else _ _ (by omega)]; exact ((h g hg).2 q).2 j hj
theorem Agree.paint (h : Agree ws base n I V) {f : Nat} {c : Int} (hf : f < n) (hi : I f = true) (hc : c ≠ 0) : Agree (upd ws (base + 8 * n + f) c) base n I (updR V f (upd (V f) 1 c)) := by
  intro g hg
  by_cases e : g = f
  · subst e
    rw [updR_at, upd_at, upd_at]
    refine ⟨⟨fun _ => hc, fun _ => hi⟩, fun q => ⟨rfl, fun j hj => ?_⟩⟩
    rw [upd_else _ _ (by omega), upd_else _ _ (by omega)]; exact ((h g hg).2 q).2 j hj
  · rw [updR_else _ _ e, upd_else _ _ (by omega)]
    refine ⟨(h g hg).1, fun q => ⟨((h g hg).2 q).1, fun j hj => ?_⟩⟩
    rw [upd_else _ _ (by omega)]; exact ((h g hg).2 q).2 j hj
end

/-- The pool, the play at block y, its row at block q. -/
structure Gm (B : Nat) (w0 w : World) (P : Nat → Prop) (p b W base n : Nat) (cs : Nat → Int) (T : Int) (xs : List Int) (ws : Nat → Int) (y q : Nat) (I : Nat → Bool) (V : Nat → Nat → Int) (many : Int) : Prop where
  pl : Pl w P p b W base n 3 cs T xs ws
  blk : w.heap[y]? = some (.cells (#[.pointer (some ⟨p, 0, none⟩), .pointer (some ⟨b, 0, none⟩), .slice (some ⟨q, 0, none⟩) n n, .int .i64 many]) 30 (0, 0))
  row : w.rowIs q 38 (n * 10) (ucell I V)
  out : Below B w0 w
  big : B ≤ w.heap.size
  off : ¬ P y ∧ ¬ P q
  fr : ∀ j, P j → B ≤ j
  own : B ≤ y ∧ B ≤ q
theorem Gm.below {w' : World} {B : Nat} {w0 w : World} {P : Nat → Prop} {p b W base n : Nat} {cs : Nat → Int} {T : Int} {xs : List Int} {ws : Nat → Int} {y q : Nat} {I : Nat → Bool} {V : Nat → Nat → Int} {many : Int} (h : Gm B w0 w P p b W base n cs T xs ws y q I V many) (e : Below w.heap.size w w') : Gm B w0 w' P p b W base n cs T xs ws y q I V many :=
  ⟨h.pl.below e, ov e h.blk, h.row.of_block (e.block _ h.row.lt), h.out.trans (e.mono h.big), Nat.le_trans h.big e.size, h.off, h.fr, h.own⟩
theorem Gm.turn {w' : World} {B : Nat} {w0 w : World} {P : Nat → Prop} {p b W base n : Nat} {cs : Nat → Int} {T : Int} {xs : List Int} {ws : Nat → Int} {y q : Nat} {I : Nat → Bool} {V : Nat → Nat → Int} {many : Int} {cs' : Nat → Int} {T' : Int} {xs' : List Int} {ws' : Nat → Int} (h : Gm B w0 w P p b W base n cs T xs ws y q I V many) (hT : Turn w P p b W base n 3 cs' T' xs' ws' w') :
    ∃ P', Gm B w0 w' P' p b W base n cs' T' xs' ws' y q I V many ∧ Bt P w w' ∧ Wider P P' w := by
  obtain ⟨P', h1, h2, h3⟩ := hT
  refine ⟨P', ⟨h1, (h2.block y (box_lt h.blk) h.off.1).trans h.blk, h.row.of_block (h2.block q h.row.lt h.off.2), Bt.under h.out h.big h.fr h2, Nat.le_trans h.big h2.size, ⟨fun r => ?_, fun r => ?_⟩, fun j hj => (h3 j hj).elim (h.fr j) (fun r => Nat.le_trans h.big r), h.own⟩, h2, h3⟩
  · have := box_lt h.blk; exact (h3 y r).elim h.off.1 (fun e => by omega)
  · have := h.row.lt; exact (h3 q r).elim h.off.2 (fun e => by omega)
theorem Gm.ne {B : Nat} {w0 w : World} {P : Nat → Prop} {p b W base n : Nat} {cs : Nat → Int} {T : Int} {xs : List Int} {ws : Nat → Int} {y q : Nat} {I : Nat → Bool} {V : Nat → Nat → Int} {many : Int} (h : Gm B w0 w P p b W base n cs T xs ws y q I V many) : y ≠ q := by
  rintro rfl
  obtain ⟨c, hc, _⟩ := h.row
  rw [h.blk] at hc; simp at hc
/-- A cell of the row has been stored. -/
theorem Gm.cell {B : Nat} {w0 w : World} {P : Nat → Prop} {p b W base n : Nat} {cs : Nat → Int} {T : Int} {xs : List Int} {ws : Nat → Int} {y q : Nat} {I : Nat → Bool} {V : Nat → Nat → Int} {many : Int} (h : Gm B w0 w P p b W base n cs T xs ws y q I V many) (k : Nat) (x : Value) {I' : Nat → Bool} {V' : Nat → Nat → Int} (hc : ∀ j, j < n * 10 → (if j = k then x else ucell I V j) = ucell I' V' j) :
    Gm B w0 (w.setCell ⟨q, k, none⟩ x) P p b W base n cs T xs ws y q I' V' many :=
  ⟨h.pl.keep (fun j hj => heap_put _ _ (by show j ≠ q; rintro rfl; exact h.off.2 hj)) (by simp [World.setCell]), (heap_put _ _ h.ne).trans h.blk, (h.row.set k x).congr hc, h.out.setCell (p := ⟨q, k, none⟩) h.own.2 _, by simpa [World.setCell] using h.big, h.off, h.fr, h.own⟩
/-- How many are in use has been stored. -/
theorem Gm.count {B : Nat} {w0 w : World} {P : Nat → Prop} {p b W base n : Nat} {cs : Nat → Int} {T : Int} {xs : List Int} {ws : Nat → Int} {y q : Nat} {I : Nat → Bool} {V : Nat → Nat → Int} {many : Int} (h : Gm B w0 w P p b W base n cs T xs ws y q I V many) (m : Int) : Gm B w0 (w.setCell ⟨y, 3, none⟩ (.int .i64 m)) P p b W base n cs T xs ws y q I V m :=
  ⟨h.pl.keep (fun j hj => heap_put _ _ (by show j ≠ y; rintro rfl; exact h.off.1 hj)) (by simp [World.setCell]), set_blk h.blk 3 _, h.row.setOther (fun e => h.ne e.symm) _, h.out.setCell (p := ⟨y, 3, none⟩) h.own.1 _, by simpa [World.setCell] using h.big, h.off, h.fr, h.own⟩
theorem blk4' {w : World} {b ty : Nat} {c0 c1 c2 c3 : Value} (h : w.heap[b]? = some (.cells #[c0, c1, c2, c3] ty (0, 0))) :
    w.cell? ⟨b, 0, none⟩ = some c0 ∧ w.cell? ⟨b, 1, none⟩ = some c1 ∧ w.cell? ⟨b, 2, none⟩ = some c2 ∧ w.cell? ⟨b, 3, none⟩ = some c3 := by
  simp [World.cell?, h]
/-- A whole fragment of the row has been stored. -/
theorem Gm.whole {B : Nat} {w0 w : World} {P : Nat → Prop} {p b W base n : Nat} {cs : Nat → Int} {T : Int} {xs : List Int} {ws : Nat → Int} {y q : Nat} {I : Nat → Bool} {V : Nat → Nat → Int} {many : Int} (h : Gm B w0 w P p b W base n cs T xs ws y q I V many) (f : Nat) (i : Bool) (R : Nat → Int) :
    Gm B w0 ((((((((((w.setCell ⟨q, f * 10, none⟩ (.bool i)).setCell ⟨q, f * 10 + 1, none⟩ (.int .i64 (R 1))).setCell ⟨q, f * 10 + 2, none⟩ (.int .i64 (R 2))).setCell ⟨q, f * 10 + 3, none⟩ (.int .i64 (R 3))).setCell ⟨q, f * 10 + 4, none⟩ (.int .i64 (R 4))).setCell ⟨q, f * 10 + 5, none⟩ (.int .i64 (R 5))).setCell ⟨q, f * 10 + 6, none⟩ (.int .i64 (R 6))).setCell ⟨q, f * 10 + 7, none⟩ (.int .i64 (R 7))).setCell ⟨q, f * 10 + 8, none⟩ (.int .i64 (R 8))).setCell ⟨q, f * 10 + 9, none⟩ (.int .i64 (R 9)))
      P p b W base n cs T xs ws y q (updB I f i) (updR V f R) many := by
  have one : ∀ {u : World} {V1 : Nat → Nat → Int} (j : Nat), 1 ≤ j → j < 10 → Gm B w0 u P p b W base n cs T xs ws y q (updB I f i) V1 many → Gm B w0 (u.setCell ⟨q, f * 10 + j, none⟩ (.int .i64 (R j))) P p b W base n cs T xs ws y q (updB I f i) (updR V1 f (upd (V1 f) j (R j))) many := by
    intro u V1 j h1 h2 hu
    refine hu.cell (f * 10 + j) _ fun k hk => ?_
    by_cases e : k = f * 10 + j
    · subst e; rw [if_pos rfl, ucell_at _ _ _ h1 h2, updR_at, upd_at]
    · rw [if_neg e]
      unfold ucell
      by_cases e0 : k % 10 = 0
      · rw [if_pos e0, if_pos e0]
      · rw [if_neg e0, if_neg e0]
        by_cases e1 : k / 10 = f
        · rw [e1, updR_at, upd_else _ _ (by omega)]
        · rw [updR_else _ _ e1]
  have h0 : Gm B w0 (w.setCell ⟨q, f * 10, none⟩ (.bool i)) P p b W base n cs T xs ws y q (updB I f i) V many := by
    refine h.cell (f * 10) _ fun k hk => ?_
    by_cases e : k = f * 10
    · subst e; rw [if_pos rfl, ucell_is, updB_at]
    · rw [if_neg e]
      unfold ucell
      by_cases e0 : k % 10 = 0
      · rw [if_pos e0, if_pos e0, updB_else _ _ (by omega)]
      · rw [if_neg e0, if_neg e0]
  have h9 := one 9 (by omega) (by omega) (one 8 (by omega) (by omega) (one 7 (by omega) (by omega) (one 6 (by omega) (by omega) (one 5 (by omega) (by omega) (one 4 (by omega) (by omega) (one 3 (by omega) (by omega) (one 2 (by omega) (by omega) (one 1 (by omega) (by omega) h0))))))))
  refine ⟨h9.pl, h9.blk, h9.row.congr fun k hk => ?_, h9.out, h9.big, h9.off, h9.fr, h9.own⟩
  unfold ucell
  by_cases e0 : k % 10 = 0
  · rw [if_pos e0, if_pos e0]
  · rw [if_neg e0, if_neg e0]
    by_cases e1 : k / 10 = f
    · rw [e1]
      simp only [updR_at]
      rcases (show k % 10 = 1 ∨ k % 10 = 2 ∨ k % 10 = 3 ∨ k % 10 = 4 ∨ k % 10 = 5 ∨ k % 10 = 6 ∨ k % 10 = 7 ∨ k % 10 = 8 ∨ k % 10 = 9 by omega) with e | e | e | e | e | e | e | e | e <;> rw [e] <;> simp [upd]
    · simp only [updR_else _ _ e1]
/-- A store of a whole fragment, by a name that the walk does not open. -/
def stU (a x : Value) : Sem Unit := Instr.storeAt 38 a x
theorem st_U (a x : Value) : Instr.storeAt 38 a x = stU a x := rfl
theorem infoU : (Try.prog.info? 38).map (·.size) = some 10 := by kernel_rfl
theorem Gm.stored {B : Nat} {w0 w : World} {P : Nat → Prop} {p b W base n : Nat} {cs : Nat → Int} {T : Int} {xs : List Int} {ws : Nat → Int} {y q : Nat} {I : Nat → Bool} {V : Nat → Nat → Int} {many : Int} (h : Gm B w0 w P p b W base n cs T xs ws y q I V many) {f : Nat} (hf : f < n) (i : Bool) (c : Int) :
    ∃ U, (stU (.pointer (some ⟨q, f * 10, none⟩)) (.agg #[.bool i, .int .i64 c, .int .i64 0, .int .i64 0, .int .i64 0, .int .i64 0, .int .i64 0, .int .i64 0, .int .i64 0, .int .i64 0])).run Try.prog w = .ok () U ∧
      Gm B w0 U P p b W base n cs T xs ws y q (updB I f i) (updR V f (fun j => if j = 1 then c else 0)) many ∧ U.heap.size = w.heap.size ∧ ∀ j, j ≠ q → U.heap[j]? = w.heap[j]? := by
  refine ⟨_, run_storeAt_mid w q (f * 10) 38 _ (fun j hj => ?_) infoU (by simp [Value.oneCell']), h.whole f i (fun j => if j = 1 then c else 0), by simp [World.setCells, World.setCell], fun j hj => ?_⟩
  · have hj10 : j < 10 := by simpa using hj
    refine ⟨?_, h.row.frozen _⟩
    rw [h.row.cell (i := f * 10 + j) (by omega)]; rfl
  · simp only [World.setCells]
    rw [heap_put _ _ hj, heap_put _ _ hj, heap_put _ _ hj, heap_put _ _ hj, heap_put _ _ hj, heap_put _ _ hj, heap_put _ _ hj, heap_put _ _ hj, heap_put _ _ hj, heap_put _ _ hj]
/-- The play, and the act at block x. -/
def Gx (B : Nat) (w0 w : World) (P : Nat → Prop) (p b W base n : Nat) (cs : Nat → Int) (T : Int) (xs : List Int) (ws : Nat → Int) (y q : Nat) (I : Nat → Bool) (V : Nat → Nat → Int) (many : Int) (x : Nat) (K A F J v : Int) : Prop :=
  Gm B w0 w P p b W base n cs T xs ws y q I V many ∧ w.heap[x]? = some (.cells #[.int .i64 K, .int .i64 A, .int .i64 F, .int .i64 J, .int .i64 v] 33 (0, 0)) ∧ ¬ P x
theorem Gx.below {w' : World} {B : Nat} {w0 w : World} {P : Nat → Prop} {p b W base n : Nat} {cs : Nat → Int} {T : Int} {xs : List Int} {ws : Nat → Int} {y q : Nat} {I : Nat → Bool} {V : Nat → Nat → Int} {many : Int} {x : Nat} {K A F J v : Int} (h : Gx B w0 w P p b W base n cs T xs ws y q I V many x K A F J v) (e : Below w.heap.size w w') : Gx B w0 w' P p b W base n cs T xs ws y q I V many x K A F J v :=
  ⟨h.1.below e, ov e h.2.1, h.2.2⟩
theorem Gx.turn {w' : World} {B : Nat} {w0 w : World} {P : Nat → Prop} {p b W base n : Nat} {cs : Nat → Int} {T : Int} {xs : List Int} {ws : Nat → Int} {y q : Nat} {I : Nat → Bool} {V : Nat → Nat → Int} {many : Int} {x : Nat} {K A F J v : Int} {cs' : Nat → Int} {T' : Int} {xs' : List Int} {ws' : Nat → Int} (h : Gx B w0 w P p b W base n cs T xs ws y q I V many x K A F J v) (hT : Turn w P p b W base n 3 cs' T' xs' ws' w') :
    ∃ P', Gx B w0 w' P' p b W base n cs' T' xs' ws' y q I V many x K A F J v := by
  obtain ⟨P', h1, h2, h3⟩ := h.1.turn hT
  exact ⟨P', h1, (h2.block x (box_lt h.2.1) h.2.2).trans h.2.1, fun r => (h3 x r).elim h.2.2 (fun e => by have := box_lt h.2.1; omega)⟩
theorem Gx.cells {B : Nat} {w0 w : World} {P : Nat → Prop} {p b W base n : Nat} {cs : Nat → Int} {T : Int} {xs : List Int} {ws : Nat → Int} {y q : Nat} {I : Nat → Bool} {V : Nat → Nat → Int} {many : Int} {x : Nat} {K A F J v : Int} (h : Gx B w0 w P p b W base n cs T xs ws y q I V many x K A F J v) :
    (w.cell? ⟨y, 0, none⟩ = some (.pointer (some ⟨p, 0, none⟩)) ∧ w.cell? ⟨y, 1, none⟩ = some (.pointer (some ⟨b, 0, none⟩)) ∧ w.cell? ⟨y, 2, none⟩ = some (.slice (some ⟨q, 0, none⟩) n n) ∧ w.cell? ⟨y, 3, none⟩ = some (.int .i64 many)) ∧
    (w.cell? ⟨x, 0, none⟩ = some (.int .i64 K) ∧ w.cell? ⟨x, 1, none⟩ = some (.int .i64 A) ∧ w.cell? ⟨x, 2, none⟩ = some (.int .i64 F) ∧ w.cell? ⟨x, 3, none⟩ = some (.int .i64 J) ∧ w.cell? ⟨x, 4, none⟩ = some (.int .i64 v)) := ⟨blk4' h.1.blk, blk5 h.2.1⟩
theorem Gm.is {B : Nat} {w0 w : World} {P : Nat → Prop} {p b W base n : Nat} {cs : Nat → Int} {T : Int} {xs : List Int} {ws : Nat → Int} {y q : Nat} {I : Nat → Bool} {V : Nat → Nat → Int} {many : Int} (h : Gm B w0 w P p b W base n cs T xs ws y q I V many) {f : Nat} (hf : f < n) : w.cell? ⟨q, f * 10, none⟩ = some (.bool (I f)) := by rw [h.row.cell (i := f * 10) (by omega), ucell_is]
theorem Gm.at_ {B : Nat} {w0 w : World} {P : Nat → Prop} {p b W base n : Nat} {cs : Nat → Int} {T : Int} {xs : List Int} {ws : Nat → Int} {y q : Nat} {I : Nat → Bool} {V : Nat → Nat → Int} {many : Int} (h : Gm B w0 w P p b W base n cs T xs ws y q I V many) {f : Nat} (hf : f < n) {j : Nat} (h1 : 1 ≤ j) (h2 : j < 10) : w.cell? ⟨q, f * 10 + j, none⟩ = some (.int .i64 (V f j)) := by rw [h.row.cell (i := f * 10 + j) (by omega), ucell_at _ _ _ h1 h2]

theorem Gx.nex {B : Nat} {w0 w : World} {P : Nat → Prop} {p b W base n : Nat} {cs : Nat → Int} {T : Int} {xs : List Int} {ws : Nat → Int} {y q : Nat} {I : Nat → Bool} {V : Nat → Nat → Int} {many : Int} {x : Nat} {K A F J v : Int} (h : Gx B w0 w P p b W base n cs T xs ws y q I V many x K A F J v) : x ≠ q := by
  rintro rfl
  obtain ⟨c, hc, _⟩ := h.1.row
  rw [h.2.1] at hc; simp at hc
theorem Gx.stored {B : Nat} {w0 w : World} {P : Nat → Prop} {p b W base n : Nat} {cs : Nat → Int} {T : Int} {xs : List Int} {ws : Nat → Int} {y q : Nat} {I : Nat → Bool} {V : Nat → Nat → Int} {many : Int} {x : Nat} {K A F J v : Int} (h : Gx B w0 w P p b W base n cs T xs ws y q I V many x K A F J v) {f : Nat} (hf : f < n) (i : Bool) (c : Int) :
    ∃ U, (stU (.pointer (some ⟨q, f * 10, none⟩)) (.agg #[.bool i, .int .i64 c, .int .i64 0, .int .i64 0, .int .i64 0, .int .i64 0, .int .i64 0, .int .i64 0, .int .i64 0, .int .i64 0])).run Try.prog w = .ok () U ∧
      Gx B w0 U P p b W base n cs T xs ws y q (updB I f i) (updR V f (fun j => if j = 1 then c else 0)) many x K A F J v := by
  obtain ⟨U, h1, h2, _, h4⟩ := h.1.stored hf i c
  exact ⟨U, h1, h2, (h4 x h.nex).trans h.2.1, h.2.2⟩
theorem Gm.one {B : Nat} {w0 w : World} {P : Nat → Prop} {p b W base n : Nat} {cs : Nat → Int} {T : Int} {xs : List Int} {ws : Nat → Int} {y q : Nat} {I : Nat → Bool} {V : Nat → Nat → Int} {many : Int} (h : Gm B w0 w P p b W base n cs T xs ws y q I V many) (f : Nat) {j : Nat} (h1 : 1 ≤ j) (h2 : j < 10) (c : Int) : Gm B w0 (w.setCell ⟨q, f * 10 + j, none⟩ (.int .i64 c)) P p b W base n cs T xs ws y q I (updR V f (upd (V f) j c)) many := by
  refine h.cell (f * 10 + j) _ fun k hk => ?_
  by_cases e : k = f * 10 + j
  · subst e; rw [if_pos rfl, ucell_at _ _ _ h1 h2, updR_at, upd_at]
  · rw [if_neg e]
    unfold ucell
    by_cases e0 : k % 10 = 0
    · rw [if_pos e0, if_pos e0]
    · rw [if_neg e0, if_neg e0]
      by_cases e1 : k / 10 = f
      · rw [e1, updR_at, upd_else _ _ (by omega)]
      · rw [updR_else _ _ e1]
theorem Gx.one {B : Nat} {w0 w : World} {P : Nat → Prop} {p b W base n : Nat} {cs : Nat → Int} {T : Int} {xs : List Int} {ws : Nat → Int} {y q : Nat} {I : Nat → Bool} {V : Nat → Nat → Int} {many : Int} {x : Nat} {K A F J v : Int} (h : Gx B w0 w P p b W base n cs T xs ws y q I V many x K A F J v) (f : Nat) {j : Nat} (h1 : 1 ≤ j) (h2 : j < 10) (c : Int) : Gx B w0 (w.setCell ⟨q, f * 10 + j, none⟩ (.int .i64 c)) P p b W base n cs T xs ws y q I (updR V f (upd (V f) j c)) many x K A F J v :=
  ⟨h.1.one f h1 h2 c, (heap_put _ _ h.nex).trans h.2.1, h.2.2⟩
/-- What stands between two acts. -/
def Play (B : Nat) (w0 w : World) (p b W base n m y q : Nat) : Prop := ∃ (P : Nat → Prop) (cs : Nat → Int) (T : Int) (xs : List Int) (ws : Nat → Int) (I : Nat → Bool) (V : Nat → Nat → Int) (many : Int), Gm B w0 w P p b W base n cs T xs ws y q I V many ∧ T ≤ m ∧ Agree ws base n I V ∧ many + xs.length = n
def ActPost (B : Nat) (w0 : World) (p b W base n m y q : Nat) (e : Ending) (w' : World) : Prop := e = .returned (.bool true) ∧ Play B w0 w' p b W base n m y q
end Go.Proofs.Ytlkomjapfcmpkaa
