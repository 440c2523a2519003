/- StackActs' memory beside the stack: the play's block, its rows; the law's small functions. -/
import Derived.Test.YtpajdopdbdflnaaSApp
import Derived.Maps.AppendAt
namespace Go.Proofs.Ytpajdopdbdflnaa
open Go.RowKit

def HasPost (w : World) (n : Nat) (f : Nat → Int) (x : Int) (e : Ending) (w' : World) : Prop := ∃ r : Bool, e = .returned (.bool r) ∧ (r = true ↔ ∃ i, i < n ∧ f i = x) ∧ w' = w
theorem has_ok (v : Value) (n : Nat) (f : Nat → Int) (x : Int) (w : World) (hv : Ints w v n f) (hn : n ≤ 1000) :
    Calls Try.prog 23 #[v, .int .i64 x] w (HasPost w n f x) := by
  obtain ⟨ao, cap, rfl, hc⟩ := hv
  have Hc : Hid (n = 0 ∨ ∃ B o : Nat, ao = some ⟨B, o, none⟩ ∧ B < w.heap.size ∧ ∀ i, i < n → w.cell? ⟨B, o + i, none⟩ = some (.int .i64 (f i))) := hc
  clear hc
  go_enter Try.func23, Try.ntmps23
  go_wp2
  go_loopw [5] (fun v5 wr => wr = w ∧ ∃ i : Nat, i ≤ n ∧ v5 = .int .i64 i ∧ Hid (∀ j, j < i → f j ≠ x)) (fun v5 _ => n - (intOf v5).toNat)
  case atStart => exact ⟨rfl, 0, by omega, rfl, fun j hj => absurd hj (by omega)⟩
  case round =>
    obtain ⟨rfl, i, hi, rfl, hno⟩ := hrel
    by_cases hin : i < n
    · obtain ⟨B, o, rfl, hB, hc⟩ := Hc.out.resolve_left (by omega)
      have hci := hc i hin
      clear hc
      by_cases hx : f i = x
      · have hxx : (f i == x) = true := by simpa using hx
        go_wp2
        go_ret
        exact ⟨true, rfl, ⟨fun _ => ⟨i, hin, hx⟩, fun _ => rfl⟩, rfl⟩
      · have hxx : (f i == x) = false := by simpa using hx
        go_wp2
        go_roundw
        case rel => exact ⟨trivial, i + 1, by omega, by go_num, fun j hj => (by
          by_cases e : j = i
          · subst e; exact hx
          · exact hno.out j (by omega))⟩
        case measure => simp [intOf]; omega
    · have hin' : ¬ (i : Int) < (n : Int) := by omega
      go_wp2
      go_ret
      exact ⟨false, rfl, ⟨fun q => absurd q (by simp), fun ⟨j, hj, hx⟩ => absurd hx (hno.out j (by omega))⟩, rfl⟩

theorem spoil_ok (ao : Option Addr) (n c : Nat) (f : Nat → Int) (Q : Nat → Prop) (w : World) (hv : n = 0 ∨ ∃ g, ao = some ⟨g, 0, none⟩ ∧ Q g ∧ Row w g n f) (hn : n ≤ 1000) :
    Calls Try.prog 12 #[.slice ao n c] w fun e w' => e = .returned (.tuple #[]) ∧ Bt Q w w' := by
  have Hv : Hid (n = 0 ∨ ∃ g, ao = some ⟨g, 0, none⟩ ∧ Q g ∧ Row w g n f) := hv
  clear hv
  go_enter Try.func12, Try.ntmps12
  go_wp2
  go_loopw [2] (fun i wr => ∃ k : Nat, k ≤ n ∧ i = .int .i64 k ∧ Hid (n = 0 ∨ ∃ (g : Nat) (h : Nat → Int), ao = some ⟨g, 0, none⟩ ∧ Q g ∧ Row wr g n h) ∧ Bt Q w wr) (fun i _ => n - (intOf i).toNat)
  case atStart => exact ⟨0, by omega, rfl, Hv.out.imp id (fun ⟨g, q1, q2, q3⟩ => ⟨g, f, q1, q2, q3⟩), Bt.refl _ _⟩
  case round =>
    clear Hv
    obtain ⟨k, hk, rfl, Hv, hB⟩ := hrel
    by_cases hlt : k < n
    · obtain ⟨g, h, rfl, hQ, hr⟩ := Hv.out.resolve_left (by omega)
      have c0 := hr.cell hlt
      have f0 := hr.frozen k
      have Hr : Hid (Row wr g n h) := hr
      clear hr
      go_wp2
      go_roundw
      case rel => exact ⟨k + 1, by omega, by go_num, .inr ⟨g, _, rfl, hQ, Row.set Hr.out k _⟩, hB.set g k _ (.inl hQ)⟩
      case measure => simp [intOf]; omega
    · have hlt' : ¬ (k : Int) < (n : Int) := by omega
      go_wp2
      go_end0
      exact ⟨rfl, hB⟩

theorem g_steps_in {w : World} {P : Nat → Prop} {s : Nat} {b : Zone} {G cap : Nat} {cs : Nat → Int} {ops : Nat → Op} {T : Int} {xs : List Int} (h : Good w P s b G cap cs ops T xs) (g : Nat) (hg : g < G) :
    Calls Try.prog 24 #[.pointer (some ⟨b.b, 0, none⟩), .int .i64 g] w fun e w' => e = .returned (.int .i64 (cs g)) ∧ w' = w := by
  obtain ⟨bw, bs, bt, bu, bl, ws, ob, hS, hI, hO⟩ := h
  exact steps_in hS.ar g hg
theorem g_steps_out {w : World} {P : Nat → Prop} {s : Nat} {b : Zone} {G cap : Nat} {cs : Nat → Int} {ops : Nat → Op} {T : Int} {xs : List Int} (h : Good w P s b G cap cs ops T xs) (g : Int) (hg : ¬ (0 ≤ g ∧ g < G)) :
    Calls Try.prog 24 #[.pointer (some ⟨b.b, 0, none⟩), .int .i64 g] w fun e w' => e = .returned (.int .i64 0) ∧ w' = w := by
  obtain ⟨bw, bs, bt, bu, bl, ws, ob, hS, hI, hO⟩ := h
  exact steps_out hS.ar g hg

/-- One more at a row's end: in its own block, or in a new one. -/
theorem app1 {w : World} {B : Nat} {v : Value} {n : Nat} {f : Nat → Int} (h : Mine w B v n f) (x : Int) (hB : B ≤ w.heap.size) (hn : n ≤ 1000) :
    ∃ p cap w', (Builtin.append_ #[28, 28] 28 #[v, .slice (some ⟨w.heap.size, 0, none⟩) 1 1]).run Try.prog (w.alloc (.cells #[.int .i64 x] 3)) = .ok (.slice (some ⟨p, 0, none⟩) (n + 1) cap) w' ∧
      Mine w' B (.slice (some ⟨p, 0, none⟩) (n + 1) cap) (n + 1) (cat n f (fun _ => x)) ∧ w.grownBy w' v.ownBlock ∧ (v.ownBlock = some p ∨ w.heap.size ≤ p) := by
  obtain ⟨i, hi, hzz⟩ := Option.map_eq_some_iff.1 info3
  simp only [Prod.mk.injEq] at hzz
  obtain ⟨hz, hs, hby⟩ := hzz
  have hcat : cellsOf n f ++ cellsOf 1 (fun _ => x) = cellsOf (n + 1) (cat n f (fun _ => x)) := cellsOf_cat n 1 f _
  obtain ⟨v', w', hr, ho, hg, _, hat⟩ := run_append_own_at (P := Try.prog) (w.alloc (.cells #[.int .i64 x] 3)) B 28 28 3 i _ 1 8 Try.underlying28 hi hz hs hby rfl (by decide) v n (cellsOf n f) (h.below ((Below.refl _ _).alloc (Nat.le_refl _) _)) ⟨w.heap.size, 0, none⟩ 1 1 (cellsOf 1 (fun _ => x)) (by rw [cellsOf_length, Nat.mul_one]) (cell_one_new w (.int .i64 x) 3) cellsOf_one (by unfold maxLen; omega) (by omega) (by simp; omega)
  rw [hcat] at ho
  have ho' : Mine w' B v' (n + 1) (cat n f (fun _ => x)) := ho
  obtain ⟨p, cap, rfl, _⟩ := ho'.shape (by omega)
  refine ⟨p, cap, w', hr, ho', ⟨hg.os, hg.tape, hg.output, Nat.le_trans (by simp) hg.size, fun k hk e => (hg.block k (by simp; omega) e).trans (Below.heap_alloc _ _ k hk)⟩, ?_⟩
  rcases hat with q | q
  · exact .inl q.symm
  · have : p = (w.alloc (.cells #[.int .i64 x] 3)).heap.size := by simpa [Value.ownBlock] using q
    exact .inr (by rw [this]; simp)

/-- What must stand in the stack, from the bottom up. -/
def itm (xs : List Int) (i : Nat) : Int := xs.reverse.getD i 0 - 1
def Op.busy (c : Nat) : Op → Int
  | .idle => -1
  | .push item _ _ _ => item - 1
  | .pop _ _ _ _ => c
/-- The stack, the play's block and its two rows beside it; the row of items holds zs. -/
structure Py (B : Nat) (w0 u : World) (P : Nat → Prop) (s : Nat) (b : Zone) (k c : Nat) (cs : Nat → Int) (ops : Nat → Op) (T : Int) (xs : List Int) (y : Nat) (vi : Value) (zs : List Int) (qb cb : Nat) (busy : Nat → Int) : Prop where
  good : Good u P s b k c cs ops T xs
  blk : u.heap[y]? = some (.cells #[.pointer (some ⟨s, 0, none⟩), .pointer (some ⟨b.b, 0, none⟩), .int .i64 c, vi, .slice (some ⟨qb, 0, none⟩) k cb] 30 (0, 0))
  it : Mine u B vi zs.length (itm zs)
  rb : Row u qb k busy
  ny : ¬ P y
  nb : ¬ P qb
  ni : ∀ g, vi.ownBlock = some g → ¬ P g ∧ g ≠ qb
  ly : B ≤ y
  lb : B ≤ qb
  lp : ∀ j, P j → B ≤ j
  bel : Below B w0 u
  big : B ≤ u.heap.size

section
variable {B : Nat} {w0 u u' : World} {P P' : Nat → Prop} {s : Nat} {b : Zone} {k c : Nat} {cs cs' : Nat → Int} {ops ops' : Nat → Op} {T T' : Int} {xs xs' zs : List Int} {y : Nat} {vi : Value} {qb cb : Nat} {busy : Nat → Int}
theorem Mine.block {w w' : World} {B : Nat} {v : Value} {n : Nat} {f : Nat → Int} (h : Mine w B v n f) (e : ∀ g, v.ownBlock = some g → w'.heap[g]? = w.heap[g]?) : Mine w' B v n f := by
  obtain ⟨h1, h2⟩ := h
  refine ⟨h1, h2.imp id ?_⟩
  rintro ⟨g, cap, cur, rfl, a1, a2, a3⟩
  exact ⟨g, cap, cur, rfl, a1, (e g rfl).trans a2, a3⟩
theorem Mine.lt {w : World} {B : Nat} {v : Value} {n : Nat} {f : Nat → Int} (h : Mine w B v n f) {g : Nat} (e : v.ownBlock = some g) : g < w.heap.size ∧ B ≤ g ∧ ∃ cur, w.heap[g]? = some (.cells cur 3 (0, 0)) := by
  obtain ⟨h1, ⟨rfl, _⟩ | ⟨g', cap, cur, rfl, a1, a2, a3⟩⟩ := h
  · cases e
  · obtain rfl : g' = g := by simpa [Value.ownBlock] using e
    exact ⟨box_lt a2, a1, cur, a2⟩
/-- A call of the stack's. -/
theorem Py.call (h : Py B w0 u P s b k c cs ops T xs y vi zs qb cb busy) (hG : Good u' P' s b k c cs' ops' T' xs') (hB : Bt P u u') (hW : Wider P P' u) : Py B w0 u' P' s b k c cs' ops' T' xs' y vi zs qb cb busy := by
  have ly := box_lt h.blk
  refine ⟨hG, (hB.block _ ly h.ny).trans h.blk, h.it.block fun g e => hB.block _ (h.it.lt e).1 (h.ni g e).1, h.rb.of_block (hB.block _ h.rb.lt h.nb), fun q => (hW _ q).elim h.ny (fun q => by omega), fun q => (hW _ q).elim h.nb (fun q => by have := h.rb.lt; omega), fun g e => ⟨fun q => (hW _ q).elim (h.ni g e).1 (fun q => by have := (h.it.lt e).1; omega), (h.ni g e).2⟩, h.ly, h.lb, hW.from_ h.lp h.big, Bt.under h.bel h.big h.lp hB, Nat.le_trans h.big hB.size⟩
/-- What grows. -/
theorem Py.below (h : Py B w0 u P s b k c cs ops T xs y vi zs qb cb busy) (hB : Below u.heap.size u u') : Py B w0 u' P s b k c cs ops T xs y vi zs qb cb busy := h.call (h.good.below hB) (Bt.of_below hB) (Wider.refl _ _)
theorem Py.ne (h : Py B w0 u P s b k c cs ops T xs y vi zs qb cb busy) : y ≠ qb := by
  rintro rfl
  obtain ⟨cur, h1, _⟩ := h.rb
  rw [h.blk] at h1
  cases h1
theorem Py.nei (h : Py B w0 u P s b k c cs ops T xs y vi zs qb cb busy) {g : Nat} (e : vi.ownBlock = some g) : g ≠ y := by
  rintro rfl
  obtain ⟨_, _, cur, h1⟩ := h.it.lt e
  rw [h.blk] at h1
  cases h1
/-- A store into the row of what agents do. -/
theorem Py.set (h : Py B w0 u P s b k c cs ops T xs y vi zs qb cb busy) (a : Nat) (v : Int) : Py B w0 (u.setCell ⟨qb, a, none⟩ (.int .i64 v)) P s b k c cs ops T xs y vi zs qb cb (upd busy a v) :=
  ⟨h.good.put h.nb _ _, (heap_put _ _ (by show y ≠ qb; exact h.ne)).trans h.blk, h.it.block fun g e => heap_put _ _ (by show g ≠ qb; exact (h.ni g e).2), h.rb.set a v, h.ny, h.nb, h.ni, h.ly, h.lb, h.lp, h.bel.setCell (p := ⟨qb, a, none⟩) h.lb _, by simpa [World.setCell] using h.big⟩
theorem put3 {w : World} {y t : Nat} {a0 a1 a2 a3 a4 v : Value} (h : w.heap[y]? = some (.cells #[a0, a1, a2, a3, a4] t (0, 0))) : (w.setCell ⟨y, 3, none⟩ v).heap[y]? = some (.cells #[a0, a1, a2, v, a4] t (0, 0)) := set_blk h 3 v
theorem put4 {w : World} {y t : Nat} {a0 a1 a2 a3 a4 v : Value} (h : w.heap[y]? = some (.cells #[a0, a1, a2, a3, a4] t (0, 0))) : (w.setCell ⟨y, 4, none⟩ v).heap[y]? = some (.cells #[a0, a1, a2, a3, v] t (0, 0)) := set_blk h 4 v
/-- The row of items is another: its block is the old one's, or new. -/
theorem Py.items (h : Py B w0 u P s b k c cs ops T xs y vi zs qb cb busy) {vi' : Value} {zs' : List Int} (hg : u.grownBy u' vi.ownBlock) (hM : Mine u' B vi' zs'.length (itm zs')) (hw : ∀ g, vi'.ownBlock = some g → vi.ownBlock = some g ∨ u.heap.size ≤ g) :
    Py B w0 (u'.setCell ⟨y, 3, none⟩ vi') P s b k c cs ops T xs y vi' zs' qb cb busy := by
  have hy := box_lt h.blk
  have hblk : u'.heap[y]? = _ := (hg.block y hy (fun e => h.nei e.symm rfl)).trans h.blk
  have hqb : u'.heap[qb]? = u.heap[qb]? := hg.block qb h.rb.lt (fun e => (h.ni _ e.symm).2 rfl)
  have hb1 : Below B u u' := ⟨hg.os, hg.tape, hg.output, hg.size, fun j hj => hg.block j (by have := h.big; omega) (fun e => by have := (h.it.lt e.symm).2.1; omega)⟩
  have hgd : Good u' P s b k c cs ops T xs := h.good.keep (fun j hj => hg.block j (h.good.lt j hj) (fun e => (h.ni j e.symm).1 hj)) hg.size
  have hnew : ∀ g, vi'.ownBlock = some g → ¬ P g ∧ g ≠ qb ∧ g ≠ y := fun g e => by
    rcases hw g e with q | q
    · exact ⟨(h.ni g q).1, (h.ni g q).2, h.nei q⟩
    · exact ⟨fun p => by have := h.good.lt g p; omega, fun e => by have := h.rb.lt; omega, by omega⟩
  exact ⟨hgd.put h.ny _ _, put3 hblk, hM.block fun g e => heap_put _ _ (by show g ≠ y; exact (hnew g e).2.2), (h.rb.of_block hqb).of_block (heap_put _ _ (by show qb ≠ y; exact fun e => h.ne e.symm)), h.ny, h.nb, fun g e => ⟨(hnew g e).1, (hnew g e).2.1⟩, h.ly, h.lb, h.lp, (h.bel.trans hb1).setCell (p := ⟨y, 3, none⟩) h.ly _, by simpa [World.setCell] using Nat.le_trans h.big hg.size⟩
theorem cell5 {w : World} {y t : Nat} {a0 a1 a2 a3 a4 : Value} (h : w.heap[y]? = some (.cells #[a0, a1, a2, a3, a4] t (0, 0))) :
    w.cell? ⟨y, 0, none⟩ = some a0 ∧ w.cell? ⟨y, 1, none⟩ = some a1 ∧ w.cell? ⟨y, 2, none⟩ = some a2 ∧ w.cell? ⟨y, 3, none⟩ = some a3 ∧ w.cell? ⟨y, 4, none⟩ = some a4 ∧ ∀ i, w.frozen? ⟨y, i, none⟩ = false := by
  refine ⟨?_, ?_, ?_, ?_, ?_, fun i => ?_⟩ <;> simp [World.cell?, World.frozen?, h]
theorem itm_push (x : Int) (zs : List Int) : ∀ i, i < zs.length + 1 → cat zs.length (itm zs) (fun _ => x - 1) i = itm (x :: zs) i := by
  intro i hi
  unfold cat itm
  by_cases e : i < zs.length
  · simp only [if_pos e, List.reverse_cons, List.getD_eq_getElem?_getD]
    rw [List.getElem?_append_left (by simpa using e)]
  · obtain rfl : i = zs.length := by omega
    simp [List.getD_eq_getElem?_getD]
theorem itm_pop (x : Int) (zs : List Int) : ∀ i, i < zs.length → itm (x :: zs) i = itm zs i := by
  intro i hi
  have := itm_push x zs i (by omega)
  rw [← this]; simp [cat, hi]
theorem itm_top (x : Int) (zs : List Int) : itm (x :: zs) zs.length = x - 1 := by
  simp [itm, List.getD_eq_getElem?_getD]
theorem itm_its (zs : List Int) {j : Nat} (hj : j < zs.length) : itm zs (zs.length - 1 - j) = its zs j := by
  have h : zs.length - 1 - j < zs.reverse.length := by simp; omega
  simp only [itm, its, List.getD_eq_getElem?_getD, List.getElem?_eq_getElem h, List.getElem_reverse, List.getElem?_eq_getElem hj, Option.getD_some]
  congr 2
  omega
end
end Go.Proofs.Ytpajdopdbdflnaa
