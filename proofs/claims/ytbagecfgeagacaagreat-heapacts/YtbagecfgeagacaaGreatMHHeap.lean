/- The heap as it lies in memory. -/
import Derived.Test.YtbagecfgeagacaaGreatMHNbr
import Derived.Test.YtbagecfgeagacaaGreatMHNums
import Derived.Test.YtbagecfgeagacaaGreatMO3
import Derived.Test.YtbagecfgeagacaaGreatMP5
namespace Go.Proofs.YtbagecfgeagacaaGreat
open Go.RowKit
/-- What a heap is made of. -/
structure Hx where
  P1 : Nat → Prop
  P2 : Nat → Prop
  b : Nat
  so : Nat
  mb : Nat
  p : Nat
  s : Nat
  N : Nat
  T : Int
  xs : List Int
  ws : Nat → Int
  nn : Nat
  D : DataW Unit
  O : List Ob
  q : St
  V : Int → Int → Int
  kb : Nat
  kc : Nat
  vc : Value
  vs : Value
  U : List Int
/-- The kinds' row. -/
def kindsR (so s : Nat) : List (List Value) :=
  [[.int .i64 0, .int .i64 64, .iface 89 (.pointer (some ⟨so, 0, none⟩)), .bool true], [.int .i64 0, .int .i64 1000, .iface 92 (.agg #[.pointer (some ⟨s, 0, none⟩)]), .bool true],
   [.int .i64 0, .int .i64 1000, .iface 92 (.agg #[.pointer (some ⟨s, 0, none⟩)]), .bool true], [.int .i64 1, .int .i64 1, .iface 89 (.pointer (some ⟨so, 0, none⟩)), .bool true]]
/-- The heap's own blocks beside its keepers'. -/
def Hx.side (X : Hx) (h k : Nat) : Prop := k = h ∨ k = X.kb ∨ X.vc.ownBlock = some k ∨ X.vs.ownBlock = some k
def Hx.own (X : Hx) (h k : Nat) : Prop := X.P1 k ∨ X.P2 k ∨ X.side h k
/-- The heap's memory: its keepers over one arena, its struct, its rows. -/
structure HpM (w : World) (h W G : Nat) (c : Int → Int) (room : Int) (R : List (List Value)) (X : Hx) : Prop where
  sto : Sto w X.P2 X.so X.mb X.p X.b W 0 X.N G (natf c) X.T X.xs X.ws X.nn X.D X.O
  gd : Gd w X.P1 X.s X.b W G X.q X.V c
  meet : Meet w X.P1 X.P2 X.b
  lt1 : ∀ k, X.P1 k → k < w.heap.size
  here : w.heap[h]? = some (.cells #[.pointer (some ⟨X.b, 0, none⟩), .slice (some ⟨X.kb, 0, none⟩) 4 X.kc, .slice none 0 0, X.vc, X.vs, .int .i64 room] 66 (0, 0))
  kinds : Rs w 0 102 4 (.slice (some ⟨X.kb, 0, none⟩) 4 X.kc) (kindsR X.so X.s)
  cells : Rs w 0 99 6 X.vc R
  spare : Ri w 0 X.vs X.U
  off : ∀ k, X.side h k → ¬ X.P1 k ∧ ¬ X.P2 k
  zone : X.q.base = 11 * X.N + 8 ∧ 11 * X.N + 8 ≤ W
section
variable {w w' : World} {h W G : Nat} {c : Int → Int} {room : Int} {R : List (List Value)} {X : Hx}
theorem HpM.h_lt (H : HpM w h W G c room R X) : h < w.heap.size := box_lt H.here
theorem HpM.side_lt (H : HpM w h W G c room R X) {k : Nat} (hk : X.side h k) : k < w.heap.size := by
  rcases hk with e | e | e | e
  · subst e; exact H.h_lt
  · subst e; exact (H.kinds.lt (j := X.kb) rfl).2
  · exact (H.cells.lt e).2
  · exact (H.spare.lt e).2
theorem HpM.own_lt (H : HpM w h W G c room R X) {k : Nat} (hk : X.own h k) : k < w.heap.size := by
  rcases hk with e | e | e
  · exact H.lt1 k e
  · exact H.sto.raw.lt k e
  · exact H.side_lt e
theorem HpM.five (H : HpM w h W G c room R X) : w.cell? ⟨h, 0, none⟩ = some (.pointer (some ⟨X.b, 0, none⟩)) ∧ w.cell? ⟨h, 1, none⟩ = some (.slice (some ⟨X.kb, 0, none⟩) 4 X.kc) ∧ w.cell? ⟨h, 3, none⟩ = some X.vc ∧ w.cell? ⟨h, 4, none⟩ = some X.vs ∧ w.cell? ⟨h, 5, none⟩ = some (.int .i64 room) := by
  simp [World.cell?, H.here]
/-- Where the heap's own blocks stand, its struct and its rows stand. -/
theorem HpM.sides (H : HpM w h W G c room R X) (e : ∀ k, X.side h k → w'.heap[k]? = w.heap[k]?) : w'.heap[h]? = some (.cells #[.pointer (some ⟨X.b, 0, none⟩), .slice (some ⟨X.kb, 0, none⟩) 4 X.kc, .slice none 0 0, X.vc, X.vs, .int .i64 room] 66 (0, 0)) ∧ Rs w' 0 102 4 (.slice (some ⟨X.kb, 0, none⟩) 4 X.kc) (kindsR X.so X.s) ∧ Rs w' 0 99 6 X.vc R ∧ Ri w' 0 X.vs X.U :=
  ⟨(e h (.inl rfl)).trans H.here, H.kinds.of_block (fun k hk => e k (.inr (.inl (by simpa [Value.ownBlock] using hk.symm)))), H.cells.of_block (fun k hk => e k (.inr (.inr (.inl hk)))), H.spare.of_block (fun k hk => e k (.inr (.inr (.inr hk))))⟩
theorem HpM.below (H : HpM w h W G c room R X) (b : Below w.heap.size w w') : HpM w' h W G c room R X := by
  obtain ⟨s1, s2, s3, s4⟩ := H.sides (w' := w') fun k hk => b.block k (H.side_lt hk)
  refine ⟨H.sto.below b, H.gd.below b, fun k hk hq => ?_, fun k hk => Nat.lt_of_lt_of_le (H.lt1 k hk) b.size, s1, s2, s3, s4, H.off, H.zone⟩
  rcases H.meet k hk hq with r | ⟨bw, bs, W', G', ws, cs, hA, r⟩
  · exact .inl r
  · exact .inr ⟨bw, bs, W', G', ws, cs, hA.below b, r⟩
/-- What the store has done, as the space sees it. -/
theorem HpM.store (H : HpM w h W G c room R X) {P2 : Nat → Prop} {cs : Nat → Int} {T : Int} {xs : List Int} {ws : Nat → Int} {nn : Nat} {D : DataW Unit} {O : List Ob} (hS : Sto w' P2 X.so X.mb X.p X.b W 0 X.N G cs T xs ws nn D O) (hB : Bt X.P2 w w') (hW : Wider X.P2 P2 w) (hz : ∀ a, 9 * X.N ≤ a → ws a = X.ws a) :
    ∃ P1 V, HpM w' h W G (intf cs) room R { X with P1 := P1, P2 := P2, T := T, xs := xs, ws := ws, nn := nn, D := D, O := O, V := V } ∧ (∀ t, t ≠ -1 → ∀ i, V t i = X.V t i) ∧ Bt (X.own h) w w' ∧ Wider (X.own h) ({ X with P1 := P1, P2 := P2, T := T, xs := xs, ws := ws, nn := nn, D := D, O := O, V := V }.own h) w := by
  obtain ⟨P0, hP, hsub, _⟩ := H.sto.raw.pl
  obtain ⟨bw, bs, w0, hA, hO, _⟩ := hP.ar
  obtain ⟨P0', hP', hsub', _⟩ := hS.raw.pl
  obtain ⟨bw', bs', w0', hA', hO', _, q1, q2⟩ := hP'.ar
  have hzn := H.zone
  obtain ⟨P1, hG, hM, hPP, hlt⟩ := H.gd.other H.lt1 H.meet hA hA' hB hW ⟨hsub' _ q1, hsub' _ q2⟩ fun a h1 _ => by
    rw [hO' a (.inr (by omega)), hO a (.inr (by omega)), hz a (by omega)]
  have far : ∀ k, X.side h k → ¬ P1 k ∧ ¬ P2 k := fun k hk => by
    have h2 : ¬ P2 k := fun r => (hW k r).elim (H.off k hk).2 (fun q => by have := H.side_lt hk; omega)
    exact ⟨fun r => (hPP k r).elim (H.off k hk).1 h2, h2⟩
  obtain ⟨s1, s2, s3, s4⟩ := H.sides (w' := w') fun k hk => hB.block k (H.side_lt hk) (H.off k hk).2
  refine ⟨P1, _, ⟨?_, hG, hM, hlt, s1, s2, s3, s4, far, H.zone⟩, fun t ht i => reV_at _ _ ht i, hB.mono (fun k _ r => .inr (.inl r)), fun k hk => ?_⟩
  · rw [natf_intf]; exact hS
  · rcases hk with r | r | r
    · rcases hPP k r with q | q
      · exact .inl (.inl q)
      · exact (hW k q).elim (fun z => .inl (.inr (.inl z))) .inr
    · exact (hW k r).elim (fun z => .inl (.inr (.inl z))) .inr
    · exact .inl (.inr (.inr r))
/-- What the space has done, as the store sees it. -/
theorem HpM.space (H : HpM w h W G c room R X) {q : St} {V : Int → Int → Int} {c' : Int → Int} (ht : SpTurn w X.P1 X.s X.b W G q V c' w') (e1 : q.base = X.q.base) (e2 : q.half = X.q.half) (hV : ∀ a, V (-1) a = X.V (-1) a) :
    ∃ P1 ws, HpM w' h W G c' room R { X with P1 := P1, ws := ws, q := q, V := V } ∧ (∀ a, a < 9 * X.N → ws a = X.ws a) ∧ Bt (X.own h) w w' ∧ Wider (X.own h) ({ X with P1 := P1, ws := ws, q := q, V := V }.own h) w := by
  have hzn := H.zone
  obtain ⟨ws, hE⟩ := SpTurn.other H.gd ht e1 e2 hV (Q := X.P2) H.sto.raw.lt H.meet (lo := 0) (hi := 0 + (10 * X.N + 1)) (.inl (by omega)) (by omega)
  obtain ⟨hS, hw⟩ := H.sto.rerow hE
  obtain ⟨P', hG, hB, hW, hb⟩ := ht
  have hM := SpTurn.meet H.gd hG hW hb (Q := X.P2) H.sto.raw.lt H.meet
  have far : ∀ k, X.side h k → ¬ (P' k ∧ k < w'.heap.size) ∧ ¬ X.P2 k := fun k hk => by
    refine ⟨fun r => ?_, (H.off k hk).2⟩
    exact (hW k r.1).elim (H.off k hk).1 (fun q => by have := H.side_lt hk; omega)
  obtain ⟨s1, s2, s3, s4⟩ := H.sides (w' := w') fun k hk => hB.block k (H.side_lt hk) (H.off k hk).1
  refine ⟨_, ws, ⟨hS, hG.shrink, fun k hk => hM k hk.1, fun k hk => hk.2, s1, s2, s3, s4, far, by rw [e1]; exact hzn⟩, fun a ha => hw a (Nat.zero_le _) (by omega), hB.mono (fun k _ r => .inl r), fun k hk => ?_⟩
  rcases hk with r | r | r
  · exact (hW k r.1).elim (fun z => .inl (.inl z)) .inr
  · exact .inl (.inr (.inl r))
  · exact .inl (.inr (.inr r))
end
end Go.Proofs.YtbagecfgeagacaaGreat
