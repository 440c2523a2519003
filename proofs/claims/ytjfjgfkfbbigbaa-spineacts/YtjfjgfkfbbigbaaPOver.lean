/- SpineActs: over. -/
import Derived.Test.YtjfjgfkfbbigbaaPPlayb
namespace Go.Proofs.Ytjfjgfkfbbigbaa
open Go.RowKit
theorem infoR : (Try.prog.info? 38).map (fun i => (i.zero, i.size, i.bytes)) = some (some (.agg #[.int .i64 0, .slice none 0 0, .bool false, .int .i64 0]), 4, 48) := by kernel_rfl
theorem Recs.nil (w : World) (B : Nat) : Recs w B (.slice none 0 0) [] := World.ownsRow_nil w B _ 4
theorem Recs.below {w w' : World} {B : Nat} {v : Value} {L : List Rec} (h : Recs w B v L) (k : Below w.heap.size w w') : Recs w' B v L := h.of_block fun j hj => k.block j (h.lt hj).2
theorem Recs.app {w : World} {B : Nat} {v : Value} {L : List Rec} (h : Recs w B v L) (x : Rec) (hB : B ≤ w.heap.size) (hn : L.length ≤ 100000) :
    ∃ v' w', (Builtin.append_ #[29, 29] 29 #[v, .slice (some ⟨w.heap.size, 0, none⟩) 1 1]).run Try.prog (w.alloc (.cells #[.int .i64 x.id, .slice (some ⟨x.blk, 0, none⟩) x.n x.n, .bool x.gone, .int .i64 x.by_] 38)) = .ok v' w' ∧
      Recs w' B v' (L ++ [x]) ∧ w.grownBy w' v.ownBlock ∧ (v'.ownBlock = v.ownBlock ∨ ∃ k, v'.ownBlock = some k ∧ w.heap.size ≤ k) := by
  obtain ⟨i0, hi0, hzz⟩ := Option.map_eq_some_iff.1 infoR
  simp only [Prod.mk.injEq] at hzz
  obtain ⟨hz0, hz1, hz2⟩ := hzz
  obtain ⟨W, hW⟩ : ∃ W, W = w.alloc (.cells #[.int .i64 x.id, .slice (some ⟨x.blk, 0, none⟩) x.n x.n, .bool x.gone, .int .i64 x.by_] 38) := ⟨_, rfl⟩
  have hbW : Below w.heap.size w W := by rw [hW]; exact (Below.refl _ w).alloc (Nat.le_refl _) _
  have hnew : ∀ j u, ([.int .i64 x.id, .slice (some ⟨x.blk, 0, none⟩) x.n x.n, .bool x.gone, .int .i64 x.by_] : List Value)[j]? = some u → W.cell? ((⟨w.heap.size, 0, none⟩ : Addr).add j) = some u := by
    intro j u hu
    rw [add_lit, Nat.zero_add]
    have e : W.heap[w.heap.size]? = some (.cells #[.int .i64 x.id, .slice (some ⟨x.blk, 0, none⟩) x.n x.n, .bool x.gone, .int .i64 x.by_] 38 (0, 0)) := by
      rw [hW]; exact heap_alloc_new w _
    simp only [World.cell?, e]
    simpa using hu
  obtain ⟨v', w', hrun, hown, hg, _, hat⟩ := run_append_own_at (P := Try.prog) W B 29 29 38 i0 _ 4 48 Try.underlying29 hi0 hz0 hz1 hz2 rfl (by decide) v L.length (cellsR L) (h.below hbW) ⟨w.heap.size, 0, none⟩ 1 1 [.int .i64 x.id, .slice (some ⟨x.blk, 0, none⟩) x.n x.n, .bool x.gone, .int .i64 x.by_] rfl hnew (by simp [Value.oneCell']) (by unfold maxLen; omega) (by omega) (Nat.le_trans hB hbW.size)
  refine ⟨v', w', by rw [← hW]; exact hrun, ?_, ⟨hg.os.trans hbW.os, hg.tape.trans hbW.tape, hg.output.trans hbW.output, Nat.le_trans hbW.size hg.size, fun j hj q => (hg.block j (Nat.lt_of_lt_of_le hj hbW.size) q).trans (hbW.block j hj)⟩, ?_⟩
  · unfold Recs
    rw [cellsR_append, List.length_append]
    exact hown
  · rcases hat with q | q
    · exact .inl q
    · exact .inr ⟨_, q, hbW.size⟩
/-- An append whose run is known. -/
theorem wpList_appR {P : Program} {ops : Array Oper} {rest : List Oper} {o : Oper} {a : Act} {Q : Exit → Act → World → Prop} {w w' : World} {v vx v' : Value} (s x : Operand) (hr : (Builtin.append_ #[29, 29] 29 #[v, vx]).run P w = .ok v' w')
    (hgd : o.guard = none) (ho : o.op = .call { callee := .builtin .append, args := #[s, x], argTypes := #[29, 29] }) (hty : o.type = 29) (hs : a.eval s = v) (hx : a.eval x = vx) (h : wpList P ops Q rest (a.put o.dst v') w') : wpList P ops Q (o :: rest) a w := by
  refine wpList_plain hgd fun K hK => ?_
  unfold Oper.wp execOp
  simp only [ho, hty, resolve, invoke, builtin, Sem.run_bind, Sem.run_pure, Result.andThen_ok, List.map_toArray, List.map_cons, List.map_nil, hs, hx, hr]
  exact hK _ _ h
/-- What stays when a cycle is over. -/
def keepR (bg : Int) (x : Rec) : Bool := !x.gone || decide (bg ≤ x.by_)
/-- The list that over builds, beside the law's memory. -/
structure Left (w : World) (B : Nat) (P : Nat → Prop) (v lv : Value) (M : List Rec) : Prop where
  row : Recs w B lv M
  pl : ∀ k, lv.ownBlock = some k → ¬ P k
  ne : ∀ k, lv.ownBlock = some k → v.ownBlock ≠ some k
section
variable {B : Nat} {w0 w : World} {P : Nat → Prop} {s b W y : Nat} {half : Int} {v : Value} {bg : Int} {un : Bool} {L : List Rec} {q : St} {V : Int → Int → Int} {c : Int → Int}
theorem Play.grown {w' : World} (h : Play B w0 w P s b W y half v bg un L q V c) {r : Option Nat} (hg : w.grownBy w' r) (hr : ∀ k, r = some k → ¬ P k ∧ B ≤ k ∧ k ≠ y ∧ v.ownBlock ≠ some k ∧ ∀ x ∈ L, x.blk ≠ k) : Play B w0 w' P s b W y half v bg un L q V c := by
  have e : ∀ k, k < w.heap.size → (∀ j, r = some j → j ≠ k) → w'.heap[k]? = w.heap[k]? := fun k hk hn => hg.block k hk (fun q => hn k q.symm rfl)
  refine h.remake (r := fun k => r = some k) hg.size ⟨hg.os, hg.tape, hg.output⟩ (fun k hk hn => hg.block k hk (fun q => hn q.symm)) (fun k hk => ⟨(hr k hk).1, (hr k hk).2.1⟩) ?_ ?_ ?_ h.apart h.pv
  · exact (e y h.here.lt (fun j hj => (hr j hj).2.2.1)).trans h.here
  · exact h.row.of_block fun k hk => e k (h.row.lt hk).2 (fun j hj q => (hr j hj).2.2.2.1 (q ▸ hk))
  · intro x hx
    obtain ⟨a, b, d⟩ := h.words x hx
    exact ⟨a.of_block (e _ a.lt (fun j hj q => (hr j hj).2.2.2.2 x hx q.symm)), b, d⟩
theorem Play.not_y (h : Play B w0 w P s b W y half v bg un L q V c) {lv : Value} {M : List Rec} (hr : Recs w B lv M) {k : Nat} (hk : lv.ownBlock = some k) : k ≠ y ∧ ∀ x ∈ L, x.blk ≠ k := by
  obtain ⟨cur, hc⟩ := hr.kind hk
  constructor
  · rintro rfl
    have h1 : w.heap[k]? = _ := h.here
    rw [hc] at h1; simp at h1
  · rintro x hx rfl
    obtain ⟨cur2, hc2, _⟩ := (h.words x hx).1
    rw [hc] at hc2; simp at hc2
theorem Left.below {w' : World} {lv : Value} {M : List Rec} (h : Left w B P v lv M) (k : Below w.heap.size w w') : Left w' B P v lv M := ⟨h.row.below k, h.pl, h.ne⟩
/-- One more. -/
theorem Left.more {lv : Value} {M : List Rec} (hP : Play B w0 w P s b W y half v bg un L q V c) (h : Left w B P v lv M) {v' : Value} {w' : World} {x : Rec} (hr : Recs w' B v' (M ++ [x])) (hg : w.grownBy w' lv.ownBlock) (hat : v'.ownBlock = lv.ownBlock ∨ ∃ k, v'.ownBlock = some k ∧ w.heap.size ≤ k) :
    Play B w0 w' P s b W y half v bg un L q V c ∧ Left w' B P v v' (M ++ [x]) := by
  refine ⟨hP.grown hg fun k hk => ⟨h.pl k hk, (h.row.lt hk).1, (hP.not_y h.row hk).1, h.ne k hk, (hP.not_y h.row hk).2⟩, hr, fun k hk r => ?_, fun k hk r => ?_⟩
  · rcases hat with e | ⟨j, e, hj⟩
    · exact h.pl k (e ▸ hk) r
    · rw [e] at hk; simp at hk; subst hk; have := hP.lt _ r; omega
  · rcases hat with e | ⟨j, e, hj⟩
    · exact h.ne k (e ▸ hk) r
    · rw [e] at hk; simp at hk; subst hk; have := hP.row.lt r; omega
/-- The new list takes the old one's place. -/
theorem Play.swap {lv : Value} {M : List Rec} (h : Play B w0 w P s b W y half v bg un L q V c) (hl : Left w B P v lv M) (hs : M.Sublist L) : Play B w0 (w.setCell ⟨y, 3, none⟩ lv) P s b W y half lv bg un M q V c := by
  refine h.remake (r := fun j => j = y) (by simp [World.setCell]) ⟨rfl, rfl, rfl⟩ (fun j _ hj => Below.heap_setCell _ _ _ _ hj) (fun j hj => hj ▸ h.py) ?_ (hl.row.of_block fun j hj => Below.heap_setCell _ _ _ _ (h.not_y hl.row hj).1) (fun x hx => ⟨(h.words x (hs.subset hx)).1.setOther (a := ⟨y, 3, none⟩) (h.y_x (hs.subset hx)) _, (h.words x (hs.subset hx)).2⟩) (h.apart.sublist hs) hl.pl
  show (w.setCell ⟨y, 3, none⟩ lv).heap[y]? = _
  rw [here_set h.here]; rfl
end
set_option maxRecDepth 20000 in
set_option maxHeartbeats 2000000 in
theorem over_ok {B : Nat} {w0 w : World} {P : Nat → Prop} {s b W y : Nat} {half : Int} {v : Value} {bg : Int} {un : Bool} {L : List Rec} {q : St} {V : Int → Int → Int} {c : Int → Int} (h : Play B w0 w P s b W y half v bg un L q V c) (hL : L.length ≤ 100000) :
    Calls Try.prog 43 #[.pointer (some ⟨y, 0, none⟩)] w fun e w' => e = .returned (.tuple #[]) ∧ ∃ v', Play B w0 w' P s b W y half v' bg false (L.filter (keepR bg)) q V c := by
  obtain ⟨ao, cap, rfl⟩ := h.row.form
  have hp := h.poke 5 (.bool false) (half' := half) (bg' := bg) (un' := false) rfl
  have cc := h.here.cells
  have f5 : w.frozen? ⟨y, 5, none⟩ = false := by have h1 : w.heap[y]? = _ := h.here; simp [World.frozen?, h1]
  have HI : Hid (∀ i, i < L.length → ∃ x, L[i]? = some x) := fun i hi => ⟨_, List.getElem?_eq_getElem hi⟩
  have HT : Hid (∀ (i : Nat) (x : Rec), L[i]? = some x → L.take (i + 1) = L.take i ++ [x]) := fun i x hx => by
    have hi := (List.getElem?_eq_some_iff.1 hx).1
    rw [List.take_add_one, hx]; rfl
  have HE : Hid (L.take L.length = L) := List.take_length
  have HLe : Hid (∀ i, ((L.take i).filter (keepR bg)).length ≤ 100000) := fun i => Nat.le_trans (List.length_filter_le _ _) (by rw [List.length_take]; omega)
  generalize hN : L.length = N at *
  have HN : Hid (L.length = N) := hN
  clear hN h
  go_enter Try.func43, Try.ntmps43
  go_wp2
  have HP : Hid (Play B w0 _ P s b W y half (.slice ao N cap) bg false L q V c) := hp
  clear hp cc f5
  generalize World.setCell _ _ _ = u0 at *
  go_loopg [2, 3] (N + 1) (fun kx s2 s3 wr => ∃ i : Nat, s3 = .int .i64 i ∧ i ≤ N ∧ N - i ≤ kx ∧ Play B w0 wr P s b W y half (.slice ao N cap) bg false L q V c ∧ Left wr B P (.slice ao N cap) s2 ((L.take i).filter (keepR bg)))
  case atStart => exact ⟨0, rfl, by omega, by omega, HP.out, by simpa using Recs.nil _ _, fun k hk => by simp [Value.ownBlock] at hk, fun k hk => by simp [Value.ownBlock] at hk⟩
  case round =>
    clear HP
    obtain ⟨i, rfl, hi, hk, hP, hLf⟩ := hrel
    have cc := hP.here.cells
    by_cases hlt : i < N
    · obtain ⟨x, hx⟩ := HI.out i hlt
      obtain ⟨p, rfl, _, _, hc⟩ := hP.row.cells (by rw [HN.out]; omega)
      obtain ⟨c0, c1, c2, c3⟩ := hc i x hx
      clear hc
      have HX : Hid (L[i]? = some x) := hx
      clear hx
      have hl : (i : Int) < (N : Int) := by omega
      cases hg : x.gone with
      | false =>
        go_wp2
        go_quiet (fail)
        have hP2 := hP.below (below_drewN wr nq _)
        have hL2 := hLf.below (below_drewN wr nq _)
        clear hP hLf
        generalize wr.drewN nq = u1 at *
        have cc2 := hP2.here.cells
        obtain ⟨p', e', _, _, hc2⟩ := hP2.row.cells (by rw [HN.out]; omega)
        simp only [Option.some.injEq, Addr.mk.injEq, and_true] at e'
        subst e'
        obtain ⟨d0, d1, d2, d3⟩ := hc2 i x HX.out
        clear hc2
        go_wp2_with (at_builtin; obtain ⟨v2, u2, hrun, hR2, hg2, hat2⟩ := hL2.row.app x hP2.size (HLe.out i); rw [hg] at hrun; refine wpList_appR _ _ hrun rfl rfl rfl rfl rfl ?_; clear hrun)
        go_roundg (N - (i + 1))
        case measure => omega
        case rel =>
          obtain ⟨hP3, hL3⟩ := Left.more hP2 hL2 hR2 hg2 hat2
          refine ⟨i + 1, by go_num, by omega, by omega, hP3, ?_⟩
          rw [HT.out i x HX.out, List.filter_append, List.filter_cons_of_pos (by simp [keepR, hg]), List.filter_nil]
          exact hL3
      | true =>
        by_cases hby : bg ≤ x.by_
        · have hby2 : decide (bg ≤ x.by_) = true := by simpa using hby
          go_wp2
          go_quiet (fail)
          have hP2 := hP.below (below_drewN wr nq _)
          have hL2 := hLf.below (below_drewN wr nq _)
          clear hP hLf
          generalize wr.drewN nq = u1 at *
          have cc2 := hP2.here.cells
          obtain ⟨p', e', _, _, hc2⟩ := hP2.row.cells (by rw [HN.out]; omega)
          simp only [Option.some.injEq, Addr.mk.injEq, and_true] at e'
          subst e'
          obtain ⟨d0, d1, d2, d3⟩ := hc2 i x HX.out
          clear hc2
          go_wp2_with (at_builtin; obtain ⟨v2, u2, hrun, hR2, hg2, hat2⟩ := hL2.row.app x hP2.size (HLe.out i); rw [hg] at hrun; refine wpList_appR _ _ hrun rfl rfl rfl rfl rfl ?_; clear hrun)
          go_roundg (N - (i + 1))
          case measure => omega
          case rel =>
            obtain ⟨hP3, hL3⟩ := Left.more hP2 hL2 hR2 hg2 hat2
            refine ⟨i + 1, by go_num, by omega, by omega, hP3, ?_⟩
            rw [HT.out i x HX.out, List.filter_append, List.filter_cons_of_pos (by simp [keepR, hby]), List.filter_nil]
            exact hL3
        · have hby2 : decide (bg ≤ x.by_) = false := by simpa using hby
          go_wp2
          go_quiet (fail)
          have hP2 := hP.below (below_drewN wr nq _)
          have hL2 := hLf.below (below_drewN wr nq _)
          go_wp2
          go_roundg (N - (i + 1))
          case measure => omega
          case rel =>
            refine ⟨i + 1, by go_num, by omega, by omega, hP2, ?_⟩
            rw [HT.out i x HX.out, List.filter_append, List.filter_cons_of_neg (by simp [keepR, hg, hby]), List.filter_nil, List.append_nil]
            exact hL2
    · obtain rfl : i = N := by omega
      have hl : ¬ (i : Int) < (i : Int) := by omega
      have f3 : wr.frozen? ⟨y, 3, none⟩ = false := by have h1 : wr.heap[y]? = _ := hP.here; simp [World.frozen?, h1]
      rw [HE.out] at hLf
      obtain ⟨ao2, cap2, rfl⟩ := hLf.row.form
      have hS : Hid (Play B w0 (wr.setCell ⟨y, 3, none⟩ (.slice ao2 (L.filter (keepR bg)).length cap2)) P s b W y half (.slice ao2 (L.filter (keepR bg)).length cap2) bg false (L.filter (keepR bg)) q V c) := hP.swap hLf (List.filter_sublist ..)
      generalize (L.filter (keepR bg)).length = n2 at *
      clear hP hLf
      go_wp2
      go_end0
      exact ⟨rfl, _, hS.out⟩
end Go.Proofs.Ytjfjgfkfbbigbaa
