/- The heap's own struct and rows are written. -/
import Derived.Test.YtbagecfgeagacaaGreatMHHeap
namespace Go.Proofs.YtbagecfgeagacaaGreat
open Go.RowKit
theorem Gd.keep {w w' : World} {P : Nat → Prop} {s b W G : Nat} {q : St} {V : Int → Int → Int} {c : Int → Int} (h : Gd w P s b W G q V c) (e : ∀ k, P k → w'.heap[k]? = w.heap[k]?) : Gd w' P s b W G q V c := by
  obtain ⟨hW, bw, bs, v, f, h, hI⟩ := h
  obtain ⟨o1, o2, o3, o4, o5⟩ := h.own
  exact ⟨hW, bw, bs, v, f, ⟨(e s o1).trans h.here, ⟨(e b o2).trans h.ar.here, h.ar.words.of_block (e bw o3), h.ar.steps.of_block (e bs o4), h.ar.part⟩, h.row.of_block (fun k hk => e k (o5 k hk)), h.own⟩, hI⟩
theorem Meet.keep {w w' : World} {P Q : Nat → Prop} {s b W G : Nat} {q : St} {V : Int → Int → Int} {c : Int → Int} (hm : Meet w P Q b) (h : Gd w P s b W G q V c) (e : ∀ k, P k → w'.heap[k]? = w.heap[k]?) : Meet w' P Q b := by
  obtain ⟨bw, bs, f, hA, _, o1, o2, o3, o4⟩ := h.ar
  have hA' : Ar w' b bw bs W G (natf f) (natf c) := ⟨(e b o2).trans hA.here, hA.words.of_block (e bw o3), hA.steps.of_block (e bs o4), hA.part⟩
  intro k hk hq
  rcases hm k hk hq with r | ⟨bw', bs', W', G', ws, cs, hB, r⟩
  · exact .inl r
  · obtain ⟨rfl, rfl, _⟩ := hA.one hB
    exact .inr ⟨bw', bs', W, G, _, _, hA', r⟩
section
variable {w w' : World} {h W G : Nat} {c : Int → Int} {room : Int} {R : List (List Value)} {X : Hx}
theorem HpM.reside (H : HpM w h W G c room R X) {room' : Int} {R' : List (List Value)} {vc vs : Value} {U : List Int} (hB : Bt (X.side h) w w') (h1 : w'.heap[h]? = some (.cells #[.pointer (some ⟨X.b, 0, none⟩), .slice (some ⟨X.kb, 0, none⟩) 4 X.kc, .slice none 0 0, vc, vs, .int .i64 room'] 66 (0, 0)))
    (h2 : w'.heap[X.kb]? = w.heap[X.kb]?) (h3 : Rs w' 0 99 6 vc R') (h4 : Ri w' 0 vs U) (n1 : ∀ k, vc.ownBlock = some k → X.side h k ∨ w.heap.size ≤ k) (n2 : ∀ k, vs.ownBlock = some k → X.side h k ∨ w.heap.size ≤ k) :
    HpM w' h W G c room' R' { X with vc := vc, vs := vs, U := U } ∧ Bt (X.own h) w w' ∧ Wider (X.own h) ({ X with vc := vc, vs := vs, U := U }.own h) w := by
  have e : ∀ k, X.P1 k ∨ X.P2 k → w'.heap[k]? = w.heap[k]? := fun k hk => by
    refine hB.block k (hk.elim (H.lt1 k) (H.sto.raw.lt k)) (fun r => ?_)
    exact hk.elim (H.off k r).1 (H.off k r).2
  have new : ∀ k, ({ X with vc := vc, vs := vs, U := U } : Hx).side h k → X.side h k ∨ w.heap.size ≤ k := fun k hk => by
    rcases hk with r | r | r | r
    · exact .inl (.inl r)
    · exact .inl (.inr (.inl r))
    · exact n1 k r
    · exact n2 k r
  refine ⟨⟨⟨H.sto.raw.keep (fun k hk => e k (.inr hk)) hB.size, H.sto.inv, H.sto.mp⟩, H.gd.keep (fun k hk => e k (.inl hk)), H.meet.keep H.gd (fun k hk => e k (.inl hk)), fun k hk => Nat.lt_of_lt_of_le (H.lt1 k hk) hB.size, h1, H.kinds.of_block (fun k hk => ?_), h3, h4, fun k hk => ?_, H.zone⟩, hB.mono (fun k _ r => .inr (.inr r)), fun k hk => ?_⟩
  · simp only [Value.ownBlock, Option.some.injEq] at hk
    subst hk
    exact h2
  · rcases new k hk with r | r
    · exact H.off k r
    · exact ⟨fun z => by have := H.lt1 k z; omega, fun z => by have := H.sto.raw.lt k z; omega⟩
  · rcases hk with r | r | r
    · exact .inl (.inl r)
    · exact .inl (.inr (.inl r))
    · exact (new k r).elim (fun z => .inl (.inr (.inr z))) .inr
theorem HpM.kb_ne (H : HpM w h W G c room R X) : X.kb ≠ h ∧ (∀ k, X.vc.ownBlock = some k → k ≠ X.kb ∧ k ≠ h) ∧ ∀ k, X.vs.ownBlock = some k → k ≠ X.kb ∧ k ≠ h ∧ X.vc.ownBlock ≠ some k := by
  obtain ⟨cur, hk⟩ := H.kinds.kind (j := X.kb) rfl
  have hh := H.here
  refine ⟨fun e => ?_, fun k e => ⟨fun z => ?_, fun z => ?_⟩, fun k e => ⟨fun z => ?_, fun z => ?_, fun z => ?_⟩⟩
  · rw [e, hh] at hk; simp at hk
  · obtain ⟨c2, h2⟩ := H.cells.kind e
    rw [z, hk] at h2; simp at h2
  · obtain ⟨c2, h2⟩ := H.cells.kind e
    rw [z, hh] at h2; simp at h2
  · obtain ⟨c2, h2⟩ := H.spare.kind e
    rw [z, hk] at h2; simp at h2
  · obtain ⟨c2, h2⟩ := H.spare.kind e
    rw [z, hh] at h2; simp at h2
  · obtain ⟨c2, h2⟩ := H.spare.kind e
    obtain ⟨c3, h3⟩ := H.cells.kind z
    rw [h2] at h3; simp at h3
/-- The room is written. -/
theorem HpM.poke (H : HpM w h W G c room R X) (r : Int) : HpM (w.setCell ⟨h, 5, none⟩ (.int .i64 r)) h W G c r R X ∧ Bt (X.own h) w (w.setCell ⟨h, 5, none⟩ (.int .i64 r)) := by
  have hk := H.kb_ne
  have hb : Bt (X.side h) w (w.setCell ⟨h, 5, none⟩ (.int .i64 r)) := ⟨rfl, rfl, rfl, by simp [World.setCell], fun k _ e => heap_put _ _ (fun z => e (.inl z))⟩
  obtain ⟨r1, r2, _⟩ := H.reside (U := X.U) hb (set_blk H.here 5 _) (heap_put _ _ hk.1) (H.cells.of_block fun k e => heap_put _ _ (hk.2.1 k e).2) (H.spare.of_block fun k e => heap_put _ _ (hk.2.2 k e).2.1) (fun k e => .inl (.inr (.inr (.inl e)))) (fun k e => .inl (.inr (.inr (.inr e))))
  exact ⟨r1, r2⟩
end
/-- What a call of the table's leaves. -/
def TabT (w : World) (h W G : Nat) (c : Int → Int) (room : Int) (S : List (Option Cel)) (X : Hx) (w' : World) : Prop :=
  ∃ vc vs U, HpM w' h W G c room (S.map (rowP X.so X.s)) { X with vc := vc, vs := vs, U := U } ∧ Tab S U ∧ U.length ≤ X.U.length + 1 ∧ Bt (X.own h) w w' ∧ Wider (X.own h) ({ X with vc := vc, vs := vs, U := U }.own h) w
def AddT (w : World) (h W G : Nat) (c : Int → Int) (room : Int) (S : List (Option Cel)) (X : Hx) (cl : Cel) (e : Ending) (w' : World) : Prop :=
  ∃ (i : Nat) (S' : List (Option Cel)), e = .returned (.int .i64 ((i : Int) + 1)) ∧ Added S S' i cl ∧ S'.length ≤ S.length + 1 ∧ TabT w h W G c room S' X w'
section
variable {w : World} {h W G : Nat} {c : Int → Int} {room : Int} {S : List (Option Cel)} {X : Hx}
theorem AddT.after {w1 w' : World} {cl : Cel} {e : Ending} (hb : Below w.heap.size w w1) (ht : AddT w1 h W G c room S X cl e w') : AddT w h W G c room S X cl e w' := by
  obtain ⟨i, S', h1, h2, h3, vc, vs, U, h4, h5, h6, h7, h8⟩ := ht
  exact ⟨i, S', h1, h2, h3, vc, vs, U, h4, h5, h6, (Bt.of_below hb).trans h7, fun k hk => (h8 k hk).imp id (fun r => Nat.le_trans hb.size r)⟩
theorem hadd_ok (H : HpM w h W G c room (S.map (rowP X.so X.s)) X) (hT : Tab S X.U) (hS : S.length ≤ 100000) (hU : X.U.length ≤ 100000) (cl : Cel) :
    Calls Tryz.prog 31 #[.pointer (some ⟨h, 3, none⟩), .agg #[.int .i64 cl.kind, .int .i64 cl.cls, .int .i64 cl.n, .iface (kty cl) (kvl X.so X.s cl), .int .i64 cl.at_]] w (AddT w h W G c room S X cl) := by
  have hk := H.kb_ne
  have hlen : (S.map (rowP X.so X.s)).length = S.length := List.length_map _
  rcases List.eq_nil_or_concat X.U with hu | ⟨U, u, hu⟩
  · obtain ⟨sa, sc, hv⟩ := H.spare.form
    rw [hu] at hv hT
    obtain ⟨t1, t2⟩ := hT.more cl
    have hH := H.here
    rw [hv] at hH
    refine (tadd_new hH H.cells (by rw [hlen]; exact hS) cl.kind cl.cls cl.n cl.at_ (kty cl) (kvl X.so X.s cl)).mono ?_
    rintro e w' ⟨v', rfl, hR, hH', hB, hat⟩
    rw [hlen] 
    have hB' : Bt (X.side h) w w' := hB.mono fun k _ z => z.elim .inl (fun z => .inr (.inr (.inl z)))
    obtain ⟨r1, r2, r3⟩ := H.reside (U := X.U) (R' := (S ++ [some cl]).map (rowP X.so X.s)) hB' hH' (hB.block _ (H.kinds.lt (j := X.kb) rfl).2 (fun z => z.elim hk.1 (fun z => (hk.2.1 _ z).1 rfl))) (by rw [List.map_append]; exact hR) (by have hz := H.spare.of_block (w' := w') fun k e => hB.block k (H.spare.lt e).2 (fun z => z.elim (hk.2.2 k e).2.1 (hk.2.2 k e).2.2); rw [hv] at hz; exact hz)
      (fun k e => by
        rcases hat with q | ⟨j, q1, q2⟩
        · exact .inl (.inr (.inr (.inl (by rw [← q]; exact e))))
        · rw [e] at q1; simp at q1; exact .inr (by omega)) (fun k e => .inl (.inr (.inr (.inr (by rw [hv]; exact e)))))
    exact ⟨S.length, _, rfl, t2, by simp, v', _, X.U, r1, by rw [hu]; exact t1, by omega, r2, r3⟩
  · rw [List.concat_eq_append] at hu
    have hsp := H.spare
    have hH := H.here
    obtain ⟨sa, sc, hv⟩ := hsp.form
    rw [hu, List.length_append, List.length_singleton] at hv
    rw [hu] at hsp hT
    rw [hv] at hsp hH
    obtain ⟨ps, rfl, _⟩ := hsp.cells (by simp)
    obtain ⟨i, hi, hl, t1, t2⟩ := hT.again cl
    rw [hi] at hsp
    obtain ⟨ao, cap, hc⟩ := H.cells.form
    rw [hlen] at hc
    have hR := H.cells
    rw [hc] at hR hH
    obtain ⟨p, rfl, _⟩ := hR.cells (by rw [hlen]; omega)
    refine (tadd_old hH hR hsp hlen.symm (by rw [hlen]; exact hl) (by rw [hlen]; exact hS) (by rw [hu, List.length_append] at hU; simp at hU; omega) cl.kind cl.cls cl.n cl.at_ (kty cl) (kvl X.so X.s cl)).mono ?_
    rintro e w' ⟨rfl, hR', hU', hH', hB⟩
    have hB' : Bt (X.side h) w w' := hB.mono fun k _ z => z.elim .inl (fun z => .inr (.inr (.inl (by rw [hc, z]; rfl))))
    obtain ⟨r1, r2, r3⟩ := H.reside (U := U) (R' := (S.set i (some cl)).map (rowP X.so X.s)) hB' hH' (hB.block _ (H.kinds.lt (j := X.kb) rfl).2 (fun z => z.elim hk.1 (fun z => (hk.2.1 X.kb (by rw [hc, z]; rfl)).1 rfl))) (by rw [List.map_set]; exact hR') hU'
      (fun k e => .inl (.inr (.inr (.inl (by rw [hc]; exact e))))) (fun k e => .inl (.inr (.inr (.inr (by rw [hv]; exact e)))))
    exact ⟨i, _, rfl, t2, by simp, _, _, U, r1, t1, by rw [hu, List.length_append]; omega, r2, r3⟩
theorem hrem_ok (H : HpM w h W G c room (S.map (rowP X.so X.s)) X) (hT : Tab S X.U) (hS : S.length ≤ 100000) (hU : X.U.length ≤ 100000) {i : Nat} {cl : Cel} (hi : S[i]? = some (some cl)) (t : Int) (ht : t = (i : Int) + 1) :
    Calls Tryz.prog 34 #[.pointer (some ⟨h, 3, none⟩), .int .i64 t] w fun e w' => e = .returned (.tuple #[]) ∧ TabT w h W G c room (S.set i none) X w' := by
  have hk := H.kb_ne
  have hlen : (S.map (rowP X.so X.s)).length = S.length := List.length_map _
  have hl : i < S.length := (List.getElem?_eq_some_iff.1 hi).1
  obtain ⟨ao, cap, hc⟩ := H.cells.form
  rw [hlen] at hc
  have hR := H.cells
  have hH := H.here
  rw [hc] at hR hH
  obtain ⟨p, rfl, _⟩ := hR.cells (by rw [hlen]; omega)
  refine (tremove_ok hH hR H.spare hlen.symm (by rw [List.getElem?_map, hi]; rfl) (by rw [hlen]; exact hS) hU t ht).mono ?_
  rintro e w' ⟨rfl, vs', hR', hU', hH', hB, hat⟩
  refine ⟨rfl, ?_⟩
  have hB' : Bt (X.side h) w w' := hB.mono fun k _ z => by
    rcases z with z | z | z
    · exact .inl z
    · exact .inr (.inr (.inl (by rw [hc, z]; rfl)))
    · exact .inr (.inr (.inr z))
  obtain ⟨r1, r2, r3⟩ := H.reside (U := X.U ++ [(i : Int) + 1]) (R' := (S.set i none).map (rowP X.so X.s)) hB' hH' (hB.block _ (H.kinds.lt (j := X.kb) rfl).2 (fun z => by
      rcases z with z | z | z
      · exact hk.1 z
      · exact (hk.2.1 X.kb (by rw [hc, z]; rfl)).1 rfl
      · exact (hk.2.2 X.kb z).1 rfl)) (by rw [List.map_set]; exact hR') hU'
    (fun k e => .inl (.inr (.inr (.inl (by rw [hc]; exact e)))))
    (fun k e => by
      rcases hat with q | ⟨j, q1, q2⟩
      · exact .inl (.inr (.inr (.inr (by rw [← q]; exact e))))
      · rw [e] at q1; simp at q1; exact .inr (by omega))
  exact ⟨_, vs', _, r1, hT.gone hi, by simp, r2, r3⟩
end
end Go.Proofs.YtbagecfgeagacaaGreat
