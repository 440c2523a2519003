/- Agents that push and pop at one time: the walk of StackMany. -/
import Derived.Test.YtpajdopdbdflnaaSEndw
namespace Go.Proofs.Ytpajdopdbdflnaa
open Go.RowKit

theorem Row.of_is {w : World} {g n : Nat} {f : Nat → Int} (h : w.rowIs g 3 n (fun i => .int .i64 (f i))) : Row w g n f := by
  obtain ⟨c, h1, _, h3⟩ := h
  exact ⟨c, h1, h3⟩
theorem Row.drew {w : World} {g n : Nat} {f : Nat → Int} (h : Row w g n f) : Row w.drew g n f := h
theorem masked3k (n : Int) : ∃ k : Nat, 2 + bits BinOp.and .i64 n 3 = (k : Int) ∧ 2 ≤ k ∧ k ≤ 5 := by
  obtain ⟨r, hr, h4⟩ := masked3 n
  exact ⟨2 + r, by rw [hr]; omega, by omega, by omega⟩
theorem upd_twice {f : Nat → Int} {i : Nat} {v x : Int} : upd (upd f i v) i x = upd f i x := by funext j; unfold upd; split <;> rfl

theorem many_begin {w w1 : World} {P : Nat → Prop} {s : Nat} {b : Zone} {k : Nat} (hG : Good w1 P s b k 32 (fun _ => 0) (fun _ => .idle) 0 []) (hb : Below w.heap.size w w1) (hP : ∀ j, P j → w.heap.size ≤ j) :
    Mn w.heap.size w ((w1.alloc (.cells (madeCells #[.int .i64 0] 32) 3)).alloc (.cells (madeCells #[.int .i64 0] k) 3)).drew P s b k (fun _ => 0) (fun _ => .idle) 0 [] (w1.heap.size + 1) w1.heap.size (fun _ => 0) (fun _ => 0) 0 := by
  obtain ⟨r1, r2⟩ := two_rows w1 32 k
  have h2 := (two_below w1 (.cells (madeCells #[.int .i64 0] 32) 3) (.cells (madeCells #[.int .i64 0] k) 3)).drew
  have hsz := hb.size
  refine ⟨hG.below h2, (Row.of_is r2).drew, (Row.of_is r1).drew, fun q => by have := hG.lt _ q; omega, fun q => by have := hG.lt _ q; omega, by omega, by omega, by omega, hP, hb.trans (h2.mono hsz), Nat.le_trans hsz h2.size, ⟨by simp, fun _ => by simp [Op.link], fun v hv a b c ha hb hc => ?_⟩, fun _ _ => rfl⟩
  have e1 := ha.no (by simp)
  have e2 := hb.no (by rintro ⟨j, hj⟩; simp only [Op.link] at hj; omega)
  have e3 := hc.no (by omega)
  omega
section
variable {B : Nat} {w0 u u1 u' : World} {P P' : Nat → Prop} {s : Nat} {b : Zone} {k : Nat} {cs cs' : Nat → Int} {ops ops' : Nat → Op} {T T' : Int} {xs xs' : List Int} {qb qg : Nat} {busy busy' got : Nat → Int} {next next' : Nat}
/-- A store, two stores into the row of what agents do, then a call of the stack's. -/
theorem Mn.began (h : Mn B w0 u P s b k cs ops T xs qb qg busy got next) (hrb : Row u1 qb k busy') (hrg : Row u1 qg 32 got) (hb1 : Below B w0 u1) (hsz : B ≤ u1.heap.size) (hG : Good u' P' s b k 32 cs' ops' T' xs') (hB : Bt P u1 u') (hW : Wider P P' u1) (ha : Acc next' got xs' ops') (hs : ∀ a, a < k → busy' a = (ops' a).kind) : Mn B w0 u' P' s b k cs' ops' T' xs' qb qg busy' got next' :=
  ⟨hG, hrb.of_block (hB.block _ hrb.lt h.nb), hrg.of_block (hB.block _ hrg.lt h.ng), fun q => (hW _ q).elim h.nb (fun q => by have := hrb.lt; omega), fun q => (hW _ q).elim h.ng (fun q => by have := hrg.lt; omega), h.ne, h.lb, h.lg, hW.from_ h.lp hsz, Bt.under hb1 hsz h.lp hB, Nat.le_trans hsz hB.size, ha, hs⟩
theorem Mn.began1 (h : Mn B w0 u P s b k cs ops T xs qb qg busy got next) {g : Nat} {v : Int} (hG : Good u' P' s b k 32 cs' ops' T' xs') (hB : Bt P (u.setCell ⟨qb, g, none⟩ (.int .i64 v)) u') (hW : Wider P P' (u.setCell ⟨qb, g, none⟩ (.int .i64 v))) (ha : Acc next' got xs' ops') (hs : ∀ a, a < k → upd busy g v a = (ops' a).kind) : Mn B w0 u' P' s b k cs' ops' T' xs' qb qg (upd busy g v) got next' :=
  h.began (h.rb.set g v) (h.rg.of_block (heap_put _ _ (by show qg ≠ qb; exact fun e => h.ne e.symm))) (h.bel.setCell (p := ⟨qb, g, none⟩) h.lb _) (by simpa [World.setCell] using h.big) hG hB hW ha hs
theorem Mn.began2 (h : Mn B w0 u P s b k cs ops T xs qb qg busy got next) {g : Nat} {v x : Int} (hG : Good u' P' s b k 32 cs' ops' T' xs') (hB : Bt P ((u.setCell ⟨qb, g, none⟩ (.int .i64 v)).setCell ⟨qb, g, none⟩ (.int .i64 x)) u') (hW : Wider P P' ((u.setCell ⟨qb, g, none⟩ (.int .i64 v)).setCell ⟨qb, g, none⟩ (.int .i64 x))) (ha : Acc next' got xs' ops') (hs : ∀ a, a < k → upd busy g x a = (ops' a).kind) : Mn B w0 u' P' s b k cs' ops' T' xs' qb qg (upd busy g x) got next' :=
  h.began (by have := (h.rb.set g v).set g x; rwa [upd_twice] at this) ((h.rg.of_block (heap_put _ _ (by show qg ≠ qb; exact fun e => h.ne e.symm))).of_block (heap_put _ _ (by show qg ≠ qb; exact fun e => h.ne e.symm))) ((h.bel.setCell (p := ⟨qb, g, none⟩) h.lb _).setCell (p := ⟨qb, g, none⟩) h.lb _) (by simpa [World.setCell] using h.big) hG hB hW ha hs
theorem Acc.may (h : Acc next got xs ops) (hn : next < 32) : May 32 ops xs next := ⟨by omega, by omega, fun j e => by have := h.lk j; omega, fun hm => by have := h.up _ hm; omega⟩
end
theorem rem_in {q k : Nat} (hk : 1 ≤ k) : ∃ g : Nat, (q : Int).tmod (k : Int) = (g : Int) ∧ g < k := by
  refine ⟨q % k, ?_, Nat.mod_lt _ hk⟩
  rw [Int.tmod_eq_emod_of_nonneg (by omega)]
  omega

set_option maxRecDepth 20000 in
set_option maxHeartbeats 8000000 in
theorem many_walk (agents : Int) (vp : Value) (n : Nat) (f : Nat → Int) (w : World) (hp : Ints w vp n f) :
    Calls Try.prog 7 #[.int .i64 agents, vp] w fun e w' => e = .returned (.bool true) ∧ Below w.heap.size w w' := by
  obtain ⟨k, hk, hk2, hk5⟩ := masked3k agents
  obtain ⟨ao, cp, rfl, hp'⟩ := hp
  have Hp : Hid (n = 0 ∨ ∃ B o : Nat, ao = some ⟨B, o, none⟩ ∧ B < w.heap.size ∧ ∀ i, i < n → w.cell? ⟨B, o + i, none⟩ = some (.int .i64 (f i))) := hp'
  clear hp'
  have hmk : ∀ u : World, (Instr.makeSlice 28 (.int .i64 32) (.int .i64 32)).run Try.prog u = .ok (.slice (some ⟨u.heap.size, 0, none⟩) 32 32) (u.alloc (.cells (madeCells #[.int .i64 0] 32) 3)) := fun u => run_make_row' (P := Try.prog) 28 3 (.int .i64 0) 8 Try.underlying28 info3 rfl .i64 .i64 32 (by omega) (by omega) u
  have hml := run_make_row' (P := Try.prog) 28 3 (.int .i64 0) 8 Try.underlying28 info3 rfl .i64 .i64 k (by omega) (by omega)
  go_enter Try.func7, Try.ntmps7
  go_wp2_with (first
    | (go_at_call 13; refine (awake_any _).mono ?_; rintro e w0 ⟨rfl, hb0⟩)
    | (go_at_call 8; refine (begun_ok k 0 32 _ _ _ _ (by omega) rfl rfl (by omega) (by omega) (by omega) (by omega) (by omega)).mono ?_; rintro e w1 ⟨s, b, P, rfl, hG1, hb1', hP1'⟩; have hb1 := hb0.trans (hb1'.mono hb0.size); have hP1 := fun j hj => Nat.le_trans hb0.size (hP1' j hj)))
  go_region
  go_wp2
  have hM0 := many_begin hG1 hb1 hP1
  clear hmk hml hG1 hb1' hP1' hb1 hP1 hb0
  generalize w1.heap.size + 1 = qb at hM0 ⊢
  generalize w1.heap.size = qg at hM0 ⊢
  generalize ((w1.alloc (.cells (madeCells #[.int .i64 0] 32) 3)).alloc (.cells (madeCells #[.int .i64 0] k) 3)).drew = U at hM0 ⊢
  go_loopw [9, 12] (fun v9 v12 wr => ∃ (i next : Nat) (P : Nat → Prop) (cs : Nat → Int) (ops : Nat → Op) (T : Int) (xs : List Int) (busy got : Nat → Int), i ≤ 400 ∧ next ≤ 32 ∧ v9 = .int .i64 next ∧ v12 = .int .i64 i ∧ Mn w.heap.size w wr P s b k cs ops T xs qb qg busy got next ∧ T ≤ i) (fun _ v12 _ => 400 - (intOf v12).toNat)
  case atStart => exact ⟨0, 0, P, _, _, 0, _, _, _, by omega, by omega, rfl, rfl, hM0, by omega⟩
  case round =>
    clear hM0
    obtain ⟨i, next, P, cs, ops, T, xs, busy, got, hi, hn32, rfl, rfl, h, hT⟩ := hrel
    by_cases hin : i < n ∧ i < 400
    · obtain ⟨Bp, o, rfl, hBp, hc⟩ := Hp.out.resolve_left (by omega)
      have hn' : (i : Int) < (n : Int) := by omega
      have h400 : (i : Int) < 400 := by omega
      obtain ⟨q, hq, hq256⟩ := masked255 (f i)
      obtain ⟨a, ha, hak⟩ := rem_in (q := q) (k := k) (by omega)
      have hcj : ∀ u, Below w.heap.size w u → u.cell? ⟨Bp, o + i, none⟩ = some (.int .i64 (f i)) := fun u hu => (World.cell?_of_block (a := ⟨Bp, o + i, none⟩) (hu.block Bp hBp)).trans (hc i hin.1)
      have hcp := hcj _ h.bel
      have hcp2 : (wr.setCell ⟨qb, a, none⟩ (.int .i64 2)).cell? ⟨Bp, o + i, none⟩ = some (.int .i64 (f i)) := hcj _ (h.bel.setCell (p := ⟨qb, a, none⟩) h.lb _)
      have hcb := h.rb.cell hak
      have hfb := h.rb.frozen a
      have hst := h.st a hak
      have hrng := h.good.range
      have Hh : Hid _ := h
      have hk0 : ((k : Int) == 0) = false := by simp; omega
      clear hc hcj
      by_cases hid : ops a = .idle
      · rw [hid] at hst
        simp only [Op.kind] at hst
        rw [hst] at hcb
        have hcb2 : (wr.setCell ⟨qb, a, none⟩ (.int .i64 2)).cell? ⟨qb, a, none⟩ = some (.int .i64 2) := World.cell?_setCell_same _ _ _ hcb
        obtain ⟨m, hm⟩ : ∃ m, bits BinOp.and .i64 (f i) 256 = m := ⟨_, rfl⟩
        by_cases hpush : m = 0 ∧ next < 32
        · obtain ⟨rfl, hnx⟩ := hpush
          have hnx' : (next : Int) < 32 := by omega
          have hG1 := (h.good.put h.nb a (.int .i64 2)).put h.nb a (.int .i64 1)
          have hbe := g_begin_push hG1 (by omega) a next hak hid (h.acc.may hnx)
          clear h hG1
          go_wp2_with (go_at_call 20; refine hbe.mono ?_; rintro e w2 ⟨rfl, P2, hG2, hB2, hW2⟩)
          go_roundw
          case rel => exact ⟨i + 1, next + 1, P2, _, _, T, xs, _, got, by omega, by omega, by go_num, by go_num, Hh.out.began2 hG2 hB2 hW2 (Hh.out.acc.begun hid) (kind_upd Hh.out.st rfl), by omega⟩
          case measure => simp [intOf]; omega
        · have hG1 := h.good.put h.nb a (.int .i64 2)
          have hbe := g_begin_pop hG1 a 0 hak hid
          clear h hG1
          by_cases hm0 : m = 0
          · have hnx' : ¬ (next : Int) < 32 := by omega
            subst hm0
            go_wp2_with (go_at_call 20; refine hbe.mono ?_; rintro e w2 ⟨rfl, P2, hG2, hB2, hW2⟩)
            go_roundw
            case rel => exact ⟨i + 1, next, P2, _, _, T, xs, _, got, by omega, by omega, rfl, by go_num, Hh.out.began1 hG2 hB2 hW2 (Hh.out.acc.on (by rw [hid]; rfl)) (kind_upd Hh.out.st rfl), by omega⟩
            case measure => simp [intOf]; omega
          · have hm0' : (m == 0) = false := by simpa using hm0
            go_wp2_with (go_at_call 20; refine hbe.mono ?_; rintro e w2 ⟨rfl, P2, hG2, hB2, hW2⟩)
            go_roundw
            case rel => exact ⟨i + 1, next, P2, _, _, T, xs, _, got, by omega, by omega, rfl, by go_num, Hh.out.began1 hG2 hB2 hW2 (Hh.out.acc.on (by rw [hid]; rfl)) (kind_upd Hh.out.st rfl), by omega⟩
            case measure => simp [intOf]; omega
      · have hstep := g_step_at h.good (by omega) a a rfl hak hid
        have hrb3 : ∀ w3, Bt P wr w3 → w3.cell? ⟨qb, a, none⟩ = some (.int .i64 (busy a)) := fun w3 hB3 => (h.rb.of_block (hB3.block _ h.rb.lt h.nb)).cell hak
        have Hrb : Hid _ := hrb3
        have hrg3 : ∀ w3, Bt P wr w3 → ∀ m, m < 32 → w3.cell? ⟨qg, m, none⟩ = some (.int .i64 (got m)) := fun w3 hB3 m hm => (h.rg.of_block (hB3.block _ h.rg.lt h.ng)).cell hm
        have Hrg : Hid _ := hrg3
        have hfb3 : ∀ w3, Bt P wr w3 → w3.frozen? ⟨qb, a, none⟩ = false := fun w3 hB3 => (h.rb.of_block (hB3.block _ h.rb.lt h.nb)).frozen a
        have Hfb : Hid _ := hfb3
        have hfg3 : ∀ w3, Bt P wr w3 → ∀ m, w3.frozen? ⟨qg, m, none⟩ = false := fun w3 hB3 m => (h.rg.of_block (hB3.block _ h.rg.lt h.ng)).frozen m
        have Hfg : Hid _ := hfg3
        clear h hrb3 hrg3 hfb3 hfg3 hcp2
        cases hop : ops a with
        | idle => exact absurd hop hid
        | push item n0 t0 i0 =>
          rw [hop] at hst hstep
          simp only [Op.kind] at hst
          rw [hst] at hcb
          go_wp2_with fail
          refine hstep.mono ?_
          rintro e w3 ⟨done, v', ok, op', T', xs', rfl, hG3, hB3, hE⟩
          clear hstep
          have hc3 := Hrb.out w3 hB3
          have hf3 := Hfb.out w3 hB3
          rw [hst] at hc3
          have Hg3 : Hid _ := hG3
          have Hb3 : Hid _ := hB3
          clear hG3 hB3
          cases hE with
          | pushOn hr =>
            go_wp2_with (go_at_call 17; refine (num_any _ _).mono ?_; rintro e w6 ⟨rfl, rfl⟩)
            go_roundw
            case rel => exact ⟨i + 1, next, P, _, _, T, xs, busy, got, by omega, by omega, rfl, by go_num, Hh.out.call Hg3.out Hb3.out (Wider.refl _ _) (Hh.out.acc.on (by rw [hop]; rfl)) (kind_same Hh.out.st (by rw [hop]; rfl)), by omega⟩
            case measure => simp [intOf]; omega
          | pushed =>
            go_wp2_with (go_at_call 17; refine (num_any _ _).mono ?_; rintro e w6 ⟨rfl, rfl⟩)
            go_roundw
            case rel => exact ⟨i + 1, next, P, _, _, T + 1, _, _, got, by omega, by omega, rfl, by go_num, Hh.out.callSet Hg3.out Hb3.out (Wider.refl _ _) (Hh.out.acc.pushed hop (Hh.out.good.ok_push hop).2.2 Hh.out.good.diff) (kind_upd Hh.out.st rfl), by omega⟩
            case measure => simp [intOf]; omega
        | pop n0 t0 i0 d0 =>
          rw [hop] at hst hstep
          simp only [Op.kind] at hst
          rw [hst] at hcb
          go_wp2_with fail
          refine hstep.mono ?_
          rintro e w3 ⟨done, v', ok, op', T', xs', rfl, hG3, hB3, hE⟩
          clear hstep
          have hc3 := Hrb.out w3 hB3
          have hf3 := Hfb.out w3 hB3
          rw [hst] at hc3
          have Hg3 : Hid _ := hG3
          have Hb3 : Hid _ := hB3
          clear hG3
          cases hE with
          | popOn hr =>
            clear hB3
            go_wp2_with (go_at_call 17; refine (num_any _ _).mono ?_; rintro e w6 ⟨rfl, rfl⟩)
            go_roundw
            case rel => exact ⟨i + 1, next, P, _, _, T, xs, busy, got, by omega, by omega, rfl, by go_num, Hh.out.call Hg3.out Hb3.out (Wider.refl _ _) (Hh.out.acc.on (by rw [hop]; rfl)) (kind_same Hh.out.st (by rw [hop]; rfl)), by omega⟩
            case measure => simp [intOf]; omega
          | popped hx =>
            rename_i x
            subst hx
            have hx1 := hrng.1 x (by simp)
            obtain ⟨m, hm⟩ : ∃ m : Nat, x - 1 = m := ⟨(x - 1).toNat, by omega⟩
            rw [hm]
            have hm32 : m < 32 := by omega
            have hcg := Hrg.out w3 hB3 m hm32
            have hfg := Hfg.out w3 hB3 m
            have hcs : (w3.setCell ⟨qg, m, none⟩ (.int .i64 (got m + 1))).cell? ⟨qb, a, none⟩ = some (.int .i64 2) := (World.cell?_setCell_far _ _ _ _ (by show qg ≠ qb; exact fun e => Hh.out.ne e.symm)).trans hc3
            have hsm := Hh.out.acc.small hm32
            have hac := Hh.out.acc.took (List.nodup_cons.1 hrng.2.2.2.1).1 hx1.1 hx1.2
            have hmt : (x - 1).toNat = m := by omega
            rw [hmt] at hac
            have Hac : Hid _ := hac
            clear hB3 hac hmt
            go_wp2_with (go_at_call 17; refine (num_any _ _).mono ?_; rintro e w6 ⟨rfl, rfl⟩)
            go_roundw
            case rel => exact ⟨i + 1, next, P, _, _, T + 1, _, _, _, by omega, by omega, rfl, by go_num, Hh.out.callGot Hg3.out Hb3.out (Wider.refl _ _) (Hac.out.on (by rw [hop]; rfl)) (kind_upd Hh.out.st rfl), by omega⟩
            case measure => simp [intOf]; omega
          | nothing hx =>
            clear hB3
            subst hx
            go_wp2_with (go_at_call 17; refine (num_any _ _).mono ?_; rintro e w6 ⟨rfl, rfl⟩)
            go_roundw
            case rel => exact ⟨i + 1, next, P, _, _, T, _, _, got, by omega, by omega, rfl, by go_num, Hh.out.callSet Hg3.out Hb3.out (Wider.refl _ _) (Hh.out.acc.on (by rw [hop]; rfl)) (kind_upd Hh.out.st rfl), by omega⟩
            case measure => simp [intOf]; omega
    · have hen := ended_ok h (by omega) (by omega)
      by_cases hn : i < n
      · have hn' : (i : Int) < (n : Int) := by omega
        have h400 : ¬ (i : Int) < 400 := by omega
        go_wp2_with (go_at_call 22; refine hen.mono ?_; rintro e w2 ⟨rfl, hb2⟩)
        go_ret
        exact ⟨rfl, hb2⟩
      · have hn' : ¬ (i : Int) < (n : Int) := by omega
        go_wp2_with (go_at_call 22; refine hen.mono ?_; rintro e w2 ⟨rfl, hb2⟩)
        go_ret
        exact ⟨rfl, hb2⟩
end Go.Proofs.Ytpajdopdbdflnaa
