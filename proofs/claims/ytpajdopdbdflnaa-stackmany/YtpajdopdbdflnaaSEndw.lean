/- ended: all that is begun is stepped till it is done; then each number was popped once, or stands in the stack. -/
import Derived.Test.YtpajdopdbdflnaaSEnded
namespace Go.Proofs.Ytpajdopdbdflnaa
open Go.RowKit

theorem Good.rest {w : World} {P : Nat → Prop} {s : Nat} {b : Zone} {G cap : Nat} {cs : Nat → Int} {ops : Nat → Op} {T : Int} {xs : List Int} (h : Good w P s b G cap cs ops T xs) {j : Nat} (hj : G ≤ j) : ops j = .idle := by
  obtain ⟨bw, bs, bt, bu, bl, ws, ob, hS, hI, hO⟩ := h
  exact hS.rest j hj
theorem g_step_at {w : World} {P : Nat → Prop} {s : Nat} {b : Zone} {G cap : Nat} {cs : Nat → Int} {ops : Nat → Op} {T : Int} {xs : List Int} (h : Good w P s b G cap cs ops T xs) (hT : T ≤ 1000000000) (y : Int) (g : Nat) (hy : y = g) (hg : g < G) (hb : ops g ≠ .idle) :
    Calls Try.prog 21 #[.pointer (some ⟨s, 0, none⟩), .int .i64 y] w fun e w' => ∃ (done : Bool) (v : Int) (ok : Bool) (op' : Op) (T' : Int) (xs' : List Int), e = .returned (.tuple #[.bool done, .int .i64 v, .bool ok, .int .i64 0]) ∧
      Good w' P s b G cap (upd cs g (wrap64 (cs g + 1))) (updOp ops g op') T' xs' ∧ Bt P w w' ∧ Eff T xs (ops g) done v ok op' T' xs' := by
  subst hy; exact g_step h hT g hg hb

set_option maxRecDepth 20000 in
set_option maxHeartbeats 8000000 in
theorem ended_ok {B : Nat} {w0 u : World} {P : Nat → Prop} {s : Nat} {b : Zone} {k : Nat} {cs : Nat → Int} {ops : Nat → Op} {T : Int} {xs : List Int} {qb qg : Nat} {busy got : Nat → Int} {next : Nat} (h : Mn B w0 u P s b k cs ops T xs qb qg busy got next) (hT : T ≤ 400) (hk : k ≤ 12) :
    Calls Try.prog 22 #[.pointer (some ⟨s, 0, none⟩), .slice (some ⟨qb, 0, none⟩) k k, .slice (some ⟨qg, 0, none⟩) 32 32, .int .i64 next] u fun e w' => e = .returned (.bool true) ∧ Below B w0 w' := by
  go_enter Try.func22, Try.ntmps22
  go_wp2
  go_loopw [9] (fun v9 wr => ∃ (a : Nat) (P : Nat → Prop) (cs : Nat → Int) (ops : Nat → Op) (T : Int) (xs : List Int) (busy got : Nat → Int), a ≤ k ∧ v9 = .int .i64 a ∧ Mn B w0 wr P s b k cs ops T xs qb qg busy got next ∧ T ≤ 400 + 5 * a ∧ Hid (∀ j, j < a → ops j = .idle)) (fun v9 _ => k - (intOf v9).toNat)
  case atStart => exact ⟨0, P, cs, ops, T, xs, busy, got, by omega, rfl, h, by omega, fun j hj => absurd hj (by omega)⟩
  case round =>
    clear h hT
    obtain ⟨a, P, cs, ops, T, xs, busy, got, ha, rfl, h, hT, hid⟩ := hrel
    by_cases hak : a < k
    · go_wp2
      go_loopw [10] (fun v10 wr => ∃ (j : Nat) (P : Nat → Prop) (cs : Nat → Int) (ops : Nat → Op) (T : Int) (xs : List Int) (busy got : Nat → Int), j ≤ 5 ∧ v10 = .int .i64 j ∧ Mn B w0 wr P s b k cs ops T xs qb qg busy got next ∧ T ≤ 400 + 5 * a + j ∧ Hid (∀ i, i < a → ops i = .idle) ∧ Hid (ops a = .idle ∨ j + rank T xs (ops a) ≤ 5)) (fun v10 _ => 4000 - (intOf v10).toNat)
      case atStart => exact ⟨0, P, cs, ops, T, xs, busy, got, by omega, rfl, h, by omega, hid, .inr (by have := rank_five (T := T) (xs := xs) (ops a); omega)⟩
      case round =>
        clear h hT hid
        obtain ⟨j, P, cs, ops, T, xs, busy, got, hj, rfl, h, hT, hid, hrk⟩ := hrel
        have hc := h.rb.cell hak
        have hst := h.st a hak
        by_cases hi : ops a = .idle
        · rw [hi] at hst
          simp only [Op.kind] at hst
          rw [hst] at hc
          go_wp2
          go_roundw
          case rel => exact ⟨a + 1, P, cs, ops, T, xs, busy, got, by omega, by go_num, h, by omega, fun i hq => (by
            by_cases e : i = a
            · subst e; exact hi
            · exact hid.out i (by omega))⟩
          case measure => simp [intOf]; omega
        · have hrk' := hrk.out.resolve_left hi
          have hpos := rank_pos (T := T) (xs := xs) hi
          have hstep := g_step_at h.good (by omega) a a rfl hak hi
          have hrng := h.good.range
          have Hh : Hid _ := h
          have hidl : ∀ op, Hid (∀ i, i < a → updOp ops a op i = .idle) := fun op i hia => (updOp_else _ _ (by omega)).trans (hid.out i hia)
          have Hidl : Hid _ := hidl
          have hrb3 : ∀ w3, Bt P wr w3 → w3.cell? ⟨qb, a, none⟩ = some (.int .i64 (busy a)) := fun w3 hB3 => (h.rb.of_block (hB3.block _ h.rb.lt h.nb)).cell hak
          have Hrb : Hid _ := hrb3
          have hrg3 : ∀ w3, Bt P wr w3 → ∀ m, m < 32 → w3.cell? ⟨qg, m, none⟩ = some (.int .i64 (got m)) := fun w3 hB3 m hm => (h.rg.of_block (hB3.block _ h.rg.lt h.ng)).cell hm
          have Hrg : Hid _ := hrg3
          have hfb3 : ∀ w3, Bt P wr w3 → w3.frozen? ⟨qb, a, none⟩ = false := fun w3 hB3 => (h.rb.of_block (hB3.block _ h.rb.lt h.nb)).frozen a
          have Hfb : Hid _ := hfb3
          have hfg3 : ∀ w3, Bt P wr w3 → ∀ m, w3.frozen? ⟨qg, m, none⟩ = false := fun w3 hB3 m => (h.rg.of_block (hB3.block _ h.rg.lt h.ng)).frozen m
          have Hfg : Hid _ := hfg3
          clear h hrb3 hrg3 hfb3 hfg3 hidl hrk hid
          cases hop : ops a with
          | idle => exact absurd hop hi
          | push item n t i =>
            rw [hop] at hst hstep hrk' hpos
            simp only [Op.kind] at hst
            rw [hst] at hc
            go_wp2_with fail
            refine hstep.mono ?_
            rintro e w3 ⟨done, v', ok, op', T', xs', rfl, hG3, hB3, hE⟩
            clear hstep
            have hc3 := Hrb.out w3 hB3
            have hf3 := Hfb.out w3 hB3
            rw [hst] at hc3
            have Hg3 : Hid _ := hG3
            have Hb3 : Hid _ := hB3
            clear hG3 hB3
            cases hE with
            | pushOn hr =>
              go_wp2
              go_roundw
              case rel => exact ⟨j + 1, P, _, _, T, xs, busy, got, by omega, by go_num, Hh.out.call Hg3.out Hb3.out (Wider.refl _ _) (Hh.out.acc.on (by rw [hop]; rfl)) (kind_same Hh.out.st (by rw [hop]; rfl)), by omega, Hidl.out _, .inr (by rw [updOp_at]; omega)⟩
              case measure => simp [intOf]; omega
            | pushed =>
              go_wp2
              go_roundw
              case rel => exact ⟨j + 1, P, _, _, T + 1, _, _, got, by omega, by go_num, Hh.out.callSet Hg3.out Hb3.out (Wider.refl _ _) (Hh.out.acc.pushed hop (Hh.out.good.ok_push hop).2.2 Hh.out.good.diff) (kind_upd Hh.out.st rfl), by omega, Hidl.out _, .inl (by rw [updOp_at])⟩
              case measure => simp [intOf]; omega
          | pop n t i d =>
            rw [hop] at hst hstep hrk' hpos
            simp only [Op.kind] at hst
            rw [hst] at hc
            go_wp2_with fail
            refine hstep.mono ?_
            rintro e w3 ⟨done, v', ok, op', T', xs', rfl, hG3, hB3, hE⟩
            clear hstep
            have hc3 := Hrb.out w3 hB3
            have hf3 := Hfb.out w3 hB3
            rw [hst] at hc3
            have Hg3 : Hid _ := hG3
            have Hb3 : Hid _ := hB3
            clear hG3
            cases hE with
            | popOn hr =>
              clear hB3
              go_wp2
              go_roundw
              case rel => exact ⟨j + 1, P, _, _, T, xs, busy, got, by omega, by go_num, Hh.out.call Hg3.out Hb3.out (Wider.refl _ _) (Hh.out.acc.on (by rw [hop]; rfl)) (kind_same Hh.out.st (by rw [hop]; rfl)), by omega, Hidl.out _, .inr (by rw [updOp_at]; omega)⟩
              case measure => simp [intOf]; omega
            | popped hx =>
              rename_i x
              subst hx
              have hx1 := hrng.1 x (by simp)
              obtain ⟨m, hm⟩ : ∃ m : Nat, x - 1 = m := ⟨(x - 1).toNat, by omega⟩
              rw [hm]
              have hm32 : m < 32 := by omega
              have hcg := Hrg.out w3 hB3 m hm32
              have hfg := Hfg.out w3 hB3 m
              have hcs : (w3.setCell ⟨qg, m, none⟩ (.int .i64 (got m + 1))).cell? ⟨qb, a, none⟩ = some (.int .i64 2) := (World.cell?_setCell_far _ _ _ _ (by show qg ≠ qb; exact fun e => Hh.out.ne e.symm)).trans hc3
              have hsm := Hh.out.acc.small hm32
              have hac := Hh.out.acc.took (List.nodup_cons.1 hrng.2.2.2.1).1 hx1.1 hx1.2
              have hmt : (x - 1).toNat = m := by omega
              rw [hmt] at hac
              have Hac : Hid _ := hac
              clear hB3 hac hmt
              go_wp2
              go_roundw
              case rel => exact ⟨j + 1, P, _, _, T + 1, _, _, _, by omega, by go_num, Hh.out.callGot Hg3.out Hb3.out (Wider.refl _ _) (Hac.out.on (by rw [hop]; rfl)) (kind_upd Hh.out.st rfl), by omega, Hidl.out _, .inl (by rw [updOp_at])⟩
              case measure => simp [intOf]; omega
            | nothing hx =>
              clear hB3
              subst hx
              go_wp2
              go_roundw
              case rel => exact ⟨j + 1, P, _, _, T, _, _, got, by omega, by go_num, Hh.out.callSet Hg3.out Hb3.out (Wider.refl _ _) (Hh.out.acc.on (by rw [hop]; rfl)) (kind_upd Hh.out.st rfl), by omega, Hidl.out _, .inl (by rw [updOp_at])⟩
              case measure => simp [intOf]; omega
    · obtain rfl : a = k := by omega
      have hop : ops = fun _ => .idle := funext fun j => (by
        by_cases e : j < a
        · exact hid.out j e
        · exact h.good.rest (by omega))
      subst hop
      have hit := g_its h.good (by omega)
      have hrng := h.good.range
      have hlen := hrng.2.2.1
      have hrg := h.rg
      have hlt := h.rg.lt
      have hbel := h.bel
      have hbig := h.big
      have hqg := h.lg
      have hacc := h.acc
      have hin : ¬ (a : Int) < (a : Int) := by omega
      clear h hid
      go_wp2_with (go_at_call 11; refine hit.mono ?_; rintro e w2 ⟨ao2, c2, rfl, hb2, hq2⟩)
      have hrow : Row w2 qg 32 got := hrg.of_block (hb2.block qg hlt)
      have hB2 : Below B w0 w2 := hbel.trans (hb2.mono hbig)
      have Hq2 : Hid (xs = [] ∨ ∃ g, ao2 = some ⟨g, 0, none⟩ ∧ g ≠ qg ∧ Row w2 g xs.length (its xs)) := hq2.imp id (fun ⟨g, q1, q2, q3⟩ => ⟨g, q1, by omega, q3⟩)
      have Hr : Hid _ := hrng
      clear hit hrg hlt hbel hbig hb2 hq2 hrng
      go_loopw [16] (fun v16 wr => ∃ (i : Nat) (got : Nat → Int), i ≤ xs.length ∧ v16 = .int .i64 i ∧ Row wr qg 32 got ∧ Acc next got (xs.drop i) (fun _ => .idle) ∧ Below B w0 wr ∧ Hid (xs = [] ∨ ∃ g, ao2 = some ⟨g, 0, none⟩ ∧ g ≠ qg ∧ Row wr g xs.length (its xs)) ∧ B ≤ qg) (fun v16 _ => xs.length - (intOf v16).toNat)
      case atStart => exact ⟨0, got, by omega, rfl, hrow, by simpa using hacc, hB2, Hq2, hqg⟩
      case round =>
        clear hrow hacc hB2 Hq2
        obtain ⟨i, got, hi, rfl, hrow, hacc, hB2, Hq2, _⟩ := hrel
        by_cases hil : i < xs.length
        · obtain ⟨g, rfl, hgne, hrl⟩ := Hq2.out.resolve_left (fun e => by simp [e] at hil)
          have hcl := hrl.cell hil
          have hx1 := Hr.out.1 xs[i] (List.getElem_mem hil)
          have hdr : xs.drop i = xs[i] :: xs.drop (i + 1) := List.drop_eq_getElem_cons hil
          obtain ⟨m, hm⟩ : ∃ m : Nat, xs[i] - 1 = m := ⟨(xs[i] - 1).toNat, by omega⟩
          have hits : its xs i = m := by rw [← hm]; simp [its, hil]
          rw [hits] at hcl
          have hm32 : m < 32 := by omega
          have hcg := hrow.cell hm32
          have hfg := hrow.frozen m
          have hsm := hacc.small hm32
          have hnd : (xs[i] :: xs.drop (i + 1)).Nodup := hdr ▸ (Hr.out.2.2.2.1.sublist (List.drop_sublist i xs))
          rw [hdr] at hacc
          have hac := hacc.took (List.nodup_cons.1 hnd).1 hx1.1 hx1.2
          have hmt : (xs[i] - 1).toNat = m := by omega
          rw [hmt] at hac
          have Hac : Hid _ := hac
          have Hrow : Hid _ := hrow
          have Hrl : Hid _ := hrl
          clear hac hmt hnd hacc hdr hx1 hits hrow hrl hm
          go_wp2
          go_roundw
          case rel => exact ⟨i + 1, _, by omega, by go_num, Row.set Hrow.out _ _, Hac.out, hB2.setCell (p := ⟨qg, m, none⟩) hqg _, .inr ⟨g, rfl, hgne, Row.of_block Hrl.out (heap_put _ _ hgne)⟩, hqg⟩
          case measure => simp [intOf]; omega
        · have hil' : ¬ (i : Int) < (xs.length : Int) := by omega
          have hdr : xs.drop i = [] := List.drop_eq_nil_of_le (by omega)
          rw [hdr] at hacc
          go_wp2
          go_loopw [17] (fun v17 wr => ∃ i : Nat, i ≤ 32 ∧ v17 = .int .i64 i ∧ Row wr qg 32 got ∧ Below B w0 wr) (fun v17 _ => 32 - (intOf v17).toNat)
          case atStart => exact ⟨0, by omega, rfl, hrow, hB2⟩
          case round =>
            clear hrow hB2 Hq2
            obtain ⟨v, hv, rfl, hrow, hB2⟩ := hrel
            by_cases hv32 : v < 32
            · have hcg := hrow.cell hv32
              have hc0 := hacc.cnt v hv32 0 0
              by_cases hvn : v < next
              · have hg1 : got v = 1 := by
                  have := hc0 1 (is_no (by simp)) (is_no (by rintro ⟨j, hj⟩; simp only [Op.link] at hj; omega)) (is_yes hvn)
                  omega
                rw [hg1] at hcg
                have hvn' : (v : Int) < (next : Int) := by omega
                clear hc0 hacc hg1
                go_wp2
                go_roundw
                case rel => exact ⟨v + 1, by omega, by go_num, hrow, hB2⟩
                case measure => simp [intOf]; omega
              · have hg1 : got v = 0 := by
                  have := hc0 0 (is_no (by simp)) (is_no (by rintro ⟨j, hj⟩; simp only [Op.link] at hj; omega)) (is_no hvn)
                  omega
                rw [hg1] at hcg
                have hvn' : ¬ (v : Int) < (next : Int) := by omega
                clear hc0 hacc hg1
                go_wp2
                go_roundw
                case rel => exact ⟨v + 1, by omega, by go_num, hrow, hB2⟩
                case measure => simp [intOf]; omega
            · obtain rfl : v = 32 := by omega
              go_wp2
              go_ret
              exact ⟨rfl, hB2⟩
end Go.Proofs.Ytpajdopdbdflnaa
