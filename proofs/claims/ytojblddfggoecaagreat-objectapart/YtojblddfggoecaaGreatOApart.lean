/- The walk of ObjectApart. -/
import Derived.Test.YtojblddfggoecaaGreatOTwo
namespace Go.Proofs.YtojblddfggoecaaGreat
open Go.RowKit
/-- Between two objects' fields: those of O, and the first j of the newest. -/
def Mid (ws : Nat → Int) (O : List Ob) (o : Ob) (i j : Nat) : Prop := (∀ (a : Nat) (z : Ob), O[a]? = some z → ∀ t : Nat, t < z.n → ws (z.ad 0 t) = 100 * (a : Int) + (t : Int)) ∧ ∀ t : Nat, t < j → ws (o.ad 0 t) = 100 * (i : Int) + (t : Int)
theorem Mid.first {ws ws' : Nat → Int} {O : List Ob} {o : Ob} {N len : Nat} {i : Nat} {fi fl : Nat → Int} (h : Apt ws O i fi fl) (hI : OInv ws 0 N len O) (hC : Chn 0 N ws ws' (frg o.n) o.c) : Mid ws' O o i 0 :=
  ⟨fun a z ha t ht => by rw [hI.make_old hC (List.mem_of_getElem? ha)]; exact h.vals a z ha t ht, fun t ht => by omega⟩
theorem Mid.next {ws : Nat → Int} {O : List Ob} {o : Ob} {N len : Nat} {i j : Nat} (h : Mid ws O o i j) (hI : OInv ws 0 N len (O ++ [o])) (hl : O.length = i) (hj : j < o.n) : Mid (upd ws (o.ad 0 j) (100 * (i : Int) + (j : Int))) O o i (j + 1) := by
  have ho : (O ++ [o])[i]? = some o := by rw [← hl]; simp
  refine ⟨fun a z ha t ht => ?_, fun t ht => ?_⟩
  · have hai : a < O.length := (List.getElem?_eq_some_iff.1 ha).1
    have ha' : (O ++ [o])[a]? = some z := by rw [List.getElem?_append_left hai]; exact ha
    rw [upd_else _ _ (hI.ad_ne ha' ho ht hj (by omega))]
    exact h.1 a z ha t ht
  · by_cases e : t = j
    · subst e; rw [upd_at]
    · rw [upd_else _ _ (hI.ad_ne ho ho (by omega) hj (by omega))]
      exact h.2 t (by omega)
theorem Apt.more {ws ws' : Nat → Int} {O : List Ob} {o : Ob} {i : Nat} {fi fl : Nat → Int} (h : Apt ws O i fi fl) (hn : o.n ≤ 64) (hm : Mid ws' O o i o.n) : Apt ws' (O ++ [o]) (i + 1) (cat i fi (fun _ => o.ref)) (cat i fl (fun _ => (o.n : Int))) := by
  have key : ∀ a z, (O ++ [o])[a]? = some z → (a < i ∧ O[a]? = some z) ∨ (a = i ∧ z = o) := by
    intro a z ha
    by_cases e : a < O.length
    · rw [List.getElem?_append_left e] at ha
      exact .inl ⟨by rw [← h.len]; exact e, ha⟩
    · rw [List.getElem?_append_right (by omega)] at ha
      have h1 : a - O.length = 0 := by
        have := (List.getElem?_eq_some_iff.1 ha).1
        simp at this; omega
      rw [h1] at ha
      simp at ha
      exact .inr ⟨by have := h.len; omega, ha.symm⟩
  refine ⟨by rw [List.length_append, h.len]; rfl, ?_, fun a z ha => ?_, fun z hz => ?_, fun a z ha j hj => ?_⟩
  · have := h.tot_; have := frg_nine hn
    rw [tot_append]; simp only [tot]; omega
  · rcases key a z ha with ⟨e, h1⟩ | ⟨rfl, rfl⟩
    · unfold cat; rw [if_pos e, if_pos e]; exact h.rows a z h1
    · unfold cat; rw [if_neg (by omega), if_neg (by omega)]; exact ⟨rfl, rfl⟩
  · rcases List.mem_append.1 hz with hz | hz
    · exact h.size z hz
    · rw [List.mem_singleton.1 hz]; exact hn
  · rcases key a z ha with ⟨_, h1⟩ | ⟨rfl, rfl⟩
    · exact hm.1 a z h1 j hj
    · exact hm.2 j hj
set_option maxRecDepth 20000 in
set_option maxHeartbeats 8000000 in
theorem apart_walk (v : Value) (len : Nat) (f : Nat → Int) (w : World) (hv : Ints w v len f) :
    Calls Tryz.prog 4 #[v] w fun e w' => e = .returned (.bool true) ∧ Below w.heap.size w w' := by
  obtain ⟨ao, cap, rfl, hv0⟩ := hv
  have H1 : Hid (len = 0 ∨ ∃ B o : Nat, ao = some ⟨B, o, none⟩ ∧ B < w.heap.size ∧ ∀ i, i < len → w.cell? ⟨B, o + i, none⟩ = some (.int .i64 (f i))) := hv0
  clear hv0
  have haw := awake8 w
  go_enter Tryz.func4, Tryz.ntmps4
  go_wp2_with (first
    | (go_at_call 13; refine haw.mono ?_; rintro e w1 ⟨rfl, hb1⟩; have hbg := x_begun 200 200 rfl w1 (by omega) (by omega); clear haw)
    | (go_at_call 5; refine hbg.mono ?_; rintro e w2 ⟨so, p, b, P2, rfl, E2⟩; clear hbg))
  have HT : Hid (Two8 w.heap.size w w2 P2 so p b (14 * 200 + 64) 200 0 (fun _ => 0) (fun _ => 0) [] (.slice none 0 0) (.slice none 0 0) 0 (fun _ => 0) (fun _ => 0)) :=
    ⟨⟨E2.sto, E2.few, fun k hk => Nat.le_trans hb1.size (E2.own k hk), hb1.trans (E2.bel.mono hb1.size), Nat.le_trans hb1.size E2.size⟩, Mine.nil _ _ _, Mine.nil _ _ _, fun k hk => by simp [Value.ownBlock] at hk, fun k hk => by simp [Value.ownBlock] at hk, fun k hk => by simp [Value.ownBlock] at hk⟩
  clear E2 hb1
  go_loopg [7, 8, 9, 10, 11, 12, 13, 14] 13 (fun kx s7 s8 s9 s10 s11 s12 s13 s14 wr => ∃ i : Nat, s9 = .int .i64 i ∧ i ≤ 12 ∧ 12 - i ≤ kx ∧ ∃ P m cs ws O fi fl, Two8 w.heap.size w wr P so p b (14 * 200 + 64) 200 m cs ws O s7 s8 i fi fl ∧ m ≤ 70 * i ∧ Hid (Apt ws O i fi fl))
  case atStart => exact ⟨0, rfl, by omega, by omega, P2, 0, _, _, _, _, _, HT.out, by omega, ⟨rfl, by simp [tot], fun a o h => by simp at h, fun o h => by simp at h, fun a o h => by simp at h⟩⟩
  case round =>
  clear HT
  obtain ⟨i, rfl, hi, hkx, P, m, cs, ws, O, fi, fl, T, hm, HA⟩ := hrel
  obtain ⟨gb, hgb⟩ : ∃ gb : Bool, gb = decide (i < len ∧ i < 12) := ⟨_, rfl⟩
  have Hgb : Hid (gb = decide (i < len ∧ i < 12)) := hgb
  clear hgb
  go_upto_region 8 with fail
  go_cut [37] from 30 to 37 (fun s37 wx => s37 = .bool gb ∧ wx = wr)
  case first =>
    by_cases t1 : i < len
    · have t1' : (i : Int) < (len : Int) := by omega
      by_cases t2 : i < 12
      · have t2' : (i : Int) < 12 := by omega
        as_aux_lemma =>
          go_wp2_with fail
          go_meet
          exact ⟨by rw [Hgb.out, decide_eq_true ⟨t1, t2⟩], rfl⟩
      · have t2' : decide ((i : Int) < 12) = false := by simp; omega
        as_aux_lemma =>
          go_wp2_with fail
          go_meet
          exact ⟨by rw [Hgb.out, decide_eq_false (by omega)], rfl⟩
    · have t1' : decide ((i : Int) < (len : Int)) = false := by simp; omega
      as_aux_lemma =>
        go_wp2_with fail
        go_meet
        exact ⟨by rw [Hgb.out, decide_eq_false (by omega)], rfl⟩
  case rest =>
  obtain ⟨rfl, rfl⟩ := hcut
  cases hgg : gb with
  | true =>
    have hgo : i < len ∧ i < 12 := by
      have := Hgb.out; rw [hgg] at this; simpa using this
    obtain ⟨Bs, o0, rfl, hBs, hcell⟩ := H1.out.resolve_left (by omega)
    have cz : wc.cell? ⟨Bs, o0 + i, none⟩ = some (.int .i64 (f i)) := (World.cell?_of_block (a := ⟨Bs, o0 + i, none⟩) (T.ev.bel.block Bs hBs)).trans (hcell i hgo.1)
    obtain ⟨a, ha, ha1⟩ := at_65 (f i)
    generalize f i = z at *
    clear hcell H1
    have hl1 : (i : Int) < (len : Int) := by omega
    have hMk := x_make T.ev (by omega) ((i % 3 : Nat) : Int) a (by omega) (by omega) (by have := HA.out.tot_; omega)
    have ea : ((i : Int).tmod 3) = ((i % 3 : Nat) : Int) := by rw [Int.tmod_eq_emod_of_nonneg (by omega)]; simp
    as_aux_lemma =>
      go_wp2_with (first
        | (at_builtin; refine wpList_app _ _ hrun rfl rfl rfl rfl rfl ?_; clear hrun)
        | (at_builtin; refine wpList_app _ _ hrun2 rfl rfl rfl rfl rfl ?_; clear hrun2)
        | (go_at_call 14; refine hMk.mono ?_; clear hMk; rintro e u1 ⟨o, cs1, ws1, rfl, hn1, hC1, hT1⟩; obtain ⟨P1, T1⟩ := T.turn hT1; have H1 : Hid ((o.n : Int) = a ∧ Chn 0 200 ws ws1 (frg o.n) o.c) := ⟨hn1, hC1⟩; obtain ⟨p3, c3, u3, hrun, p4, c4, u4, hrun2, T4⟩ := T1.app o.ref a (by omega); clear hn1 hC1 hT1)
        | (go_at_call 11; refine (num_any _ _).mono ?_; rintro e w9 ⟨rfl, hw9⟩; replace hw9 := hw9.symm; subst hw9))
      have HT4 : Hid (Two8 w.heap.size w u4 P1 so p b (14 * 200 + 64) 200 (m + 1) cs1 ws1 (O ++ [o]) (.slice (some ⟨p3, 0, none⟩) (i + 1) c3) (.slice (some ⟨p4, 0, none⟩) (i + 1) c4) (i + 1) (cat i fi (fun _ => o.ref)) (cat i fl (fun _ => (a : Int)))) := T4
      have HM0 : Hid (Mid ws1 O o i 0) := by
        obtain ⟨len2, hI, _⟩ := T.ev.inv
        exact Mid.first HA.out hI H1.out.2
      have HO : Hid ((O ++ [o])[i]? = some o ∧ O.length = i) := ⟨by rw [← HA.out.len]; simp, HA.out.len⟩
      clear T T1 T4 cz
      go_loopg [13, 14] 66 (fun kx s13 s14 wx => ∃ j : Nat, s13 = .int .i64 j ∧ j ≤ a ∧ a - j ≤ kx ∧ ∃ P cs ws', Two8 w.heap.size w wx P so p b (14 * 200 + 64) 200 (m + 1 + j) cs ws' (O ++ [o]) (.slice (some ⟨p3, 0, none⟩) (i + 1) c3) (.slice (some ⟨p4, 0, none⟩) (i + 1) c4) (i + 1) (cat i fi (fun _ => o.ref)) (cat i fl (fun _ => (a : Int))) ∧ Hid (Mid ws' O o i j))
      case atStart => exact ⟨0, rfl, by omega, by omega, P1, cs1, ws1, HT4.out, HM0.out⟩
      case round =>
        clear HT4 HM0
        obtain ⟨j, rfl, hj, hk2, P5, cs5, ws5, T5, HM⟩ := hrel
        by_cases hja : j < a
        · have hl3 : (j : Int) < (a : Int) := by omega
          have hPt := fun v => x_put T5.ev (by omega) HO.out.1 0 j v (by omega) (by have := H1.out.1; omega)
          go_wp2_with (first
            | (go_at_call 15; refine (hPt _).mono ?_; clear hPt; rintro e u6 ⟨rfl, cs6, _, hT6⟩; obtain ⟨P6, T6⟩ := T5.turn hT6; clear hT6)
            | (go_at_call 11; refine (num_any _ _).mono ?_; rintro e w9 ⟨rfl, hw9⟩; replace hw9 := hw9.symm; subst hw9))
          go_roundg (a - (j + 1))
          case measure => omega
          case rel =>
            obtain ⟨len2, hI, _⟩ := T5.ev.inv
            exact ⟨j + 1, by go_num, by omega, by omega, P6, cs6, _, T6, HM.out.next hI HO.out.2 (by have := H1.out.1; omega)⟩
        · obtain rfl : j = a := by omega
          have hl3 : ¬ (j : Int) < (j : Int) := by omega
          go_wp2
          go_roundg (12 - (i + 1))
          case measure => omega
          case rel =>
            have hn := H1.out.1
            have hnn : o.n = j := by omega
            have hA2 := HA.out.more (o := o) (ws' := ws5) (by omega) (by rw [hnn]; exact HM.out)
            rw [hn] at hA2
            exact ⟨i + 1, by go_num, by omega, by omega, P5, m + 1 + j, cs5, ws5, O ++ [o], _, _, T5, by omega, hA2⟩
  | false =>
    obtain ⟨aoi, capi, rfl⟩ := T.ids.form
    obtain ⟨aol, capl, rfl⟩ := T.lens.form
    have HIx : Hid (∀ y, y < i → ∃ o, O[y]? = some o ∧ o ∈ O ∧ fi y = o.ref ∧ fl y = o.n ∧ o.n ≤ 64 ∧ ∀ t : Nat, t < o.n → ws (o.ad 0 t) = 100 * (y : Int) + (t : Int)) := fun y hy => by
      have hl : y < O.length := by have := HA.out.len; omega
      have e := List.getElem?_eq_getElem hl
      exact ⟨O[y], e, List.getElem_mem hl, (HA.out.rows y _ e).1, (HA.out.rows y _ e).2, HA.out.size _ (List.getElem_mem hl), HA.out.vals y _ e⟩
    have HL : Hid (O.length = i) := HA.out.len
    clear H1 HA Hgb hgg
    as_aux_lemma =>
      go_wp2
      have HT : Hid (Two8 w.heap.size w wc P so p b (14 * 200 + 64) 200 m cs ws O (.slice aoi i capi) (.slice aol i capl) i fi fl) := T
      clear T
      go_loopg [15, 16, 17, 18] 13 (fun kx s15 s16 s17 s18 wx => ∃ y : Nat, s15 = .int .i64 y ∧ y ≤ i ∧ i - y ≤ kx ∧ ∃ P m cs, Two8 w.heap.size w wx P so p b (14 * 200 + 64) 200 m cs ws O (.slice aoi i capi) (.slice aol i capl) i fi fl ∧ m ≤ 840 + 65 * y)
      case atStart => exact ⟨0, rfl, by omega, by omega, P, m, cs, HT.out, by omega⟩
      case round =>
      clear HT
      obtain ⟨y, rfl, hy, hk2, P, m, cs, T, hm⟩ := hrel
      by_cases hlt : y < i
      · have hlt' : (y : Int) < (i : Int) := by omega
        obtain ⟨o, hx, ho, e1, e2, e3, hvals⟩ := HIx.out y hlt
        have HV : Hid (∀ t : Nat, t < o.n → ws (o.ad 0 t) = 100 * (y : Int) + (t : Int)) := hvals
        have HE : Hid (o ∈ O ∧ fi y = o.ref ∧ fl y = o.n) := ⟨ho, e1, e2⟩
        obtain ⟨pi, rfl, _⟩ := T.ids.cellAt (by omega)
        obtain ⟨pl, rfl, _⟩ := T.lens.cellAt (by omega)
        clear hx ho e1 e2 hvals
        go_wp2
        have HT : Hid (Two8 w.heap.size w _ P so p b (14 * 200 + 64) 200 m cs ws O (.slice (some ⟨pi, 0, none⟩) i capi) (.slice (some ⟨pl, 0, none⟩) i capl) i fi fl) := T
        clear T
        go_loopg [16, 17, 18] 66 (fun kz s16 s17 s18 wz => ∃ j : Nat, s16 = .int .i64 j ∧ j ≤ o.n ∧ o.n - j ≤ kz ∧ ∃ P m cs, Two8 w.heap.size w wz P so p b (14 * 200 + 64) 200 m cs ws O (.slice (some ⟨pi, 0, none⟩) i capi) (.slice (some ⟨pl, 0, none⟩) i capl) i fi fl ∧ m ≤ 840 + 65 * y + j)
        case atStart => exact ⟨0, rfl, by omega, by omega, P, m, cs, HT.out, by omega⟩
        case round =>
          clear HT
          obtain ⟨j, rfl, hj, hk3, P7, m7, cs7, T7, hm7⟩ := hrel
          have ci := T7.ids.cell hlt
          have cl := T7.lens.cell hlt
          rw [HE.out.2.1] at ci
          rw [HE.out.2.2] at cl
          by_cases hjl : j < o.n
          · have hjl' : (j : Int) < (o.n : Int) := by omega
            have hLd := x_load T7.ev (by omega) HE.out.1 2 j (by omega) (by omega)
            rw [show ((j : Int)).toNat = j from rfl, HV.out j hjl] at hLd
            go_wp2_with (first
              | (go_at_call 16; refine hLd.mono ?_; clear hLd; rintro e u8 ⟨rfl, cs8, _, hT8⟩; obtain ⟨P8, T8⟩ := T7.turn hT8; clear hT8)
              | (go_at_call 11; refine (num_any _ _).mono ?_; rintro e w9 ⟨rfl, hw9⟩; replace hw9 := hw9.symm; subst hw9))
            go_roundg (o.n - (j + 1))
            case measure => omega
            case rel => exact ⟨j + 1, by go_num, by omega, by omega, P8, _, cs8, T8, by omega⟩
          · have hjl' : ¬ (j : Int) < (o.n : Int) := by omega
            go_wp2
            go_roundg (i - (y + 1))
            case measure => omega
            case rel => exact ⟨y + 1, by go_num, by omega, by omega, P7, m7, cs7, T7, by omega⟩
      · have hlt' : ¬ (y : Int) < (i : Int) := by omega
        go_wp2
        have HT : Hid (Two8 w.heap.size w _ P so p b (14 * 200 + 64) 200 m cs ws O (.slice aoi i capi) (.slice aol i capl) i fi fl) := T
        clear T
        go_loopg [19] 13 (fun kx s19 wz => ∃ y : Nat, s19 = .int .i64 y ∧ y ≤ i ∧ i - y ≤ kx ∧ ∃ P m cs ws', Two8 w.heap.size w wz P so p b (14 * 200 + 64) 200 m cs ws' (O.drop y) (.slice aoi i capi) (.slice aol i capl) i fi fl ∧ m ≤ 1700 + y)
        case atStart => exact ⟨0, rfl, by omega, by omega, P, m, cs, ws, HT.out, by omega⟩
        case round =>
          clear HT
          obtain ⟨z, rfl, hz, hk3, P7, m7, cs7, ws7, T7, hm7⟩ := hrel
          by_cases hzl : z < i
          · have hzl' : (z : Int) < (i : Int) := by omega
            obtain ⟨o, hx, ho, e1, e2, e3, hvals⟩ := HIx.out z hzl
            obtain ⟨pi, rfl, hci⟩ := T7.ids.cellAt (by omega)
            have ci := hci z hzl
            rw [e1] at ci
            have hdr : (O.drop z)[0]? = some o := by rw [List.getElem?_drop]; exact hx
            have hFr := x_free T7.ev (by omega) hdr 0 (by omega)
            have HD : Hid ((O.drop z).eraseIdx 0 = O.drop (z + 1)) := by
              have hl : z < O.length := by have := HL.out; omega
              rw [List.drop_eq_getElem_cons hl]; rfl
            clear hci hx ho e1 e2 e3 hvals hdr
            go_wp2_with (go_at_call 10; refine hFr.mono ?_; clear hFr; rintro e u8 ⟨rfl, cs8, hT8⟩; obtain ⟨P8, T8⟩ := T7.turn hT8; clear hT8)
            go_roundg (i - (z + 1))
            case measure => omega
            case rel =>
              rw [HD.out] at T8
              exact ⟨z + 1, by go_num, by omega, by omega, P8, _, cs8, _, T8, by omega⟩
          · have hzl' : ¬ (z : Int) < (i : Int) := by omega
            have hnil : O.drop z = [] := List.drop_eq_nil_of_le (by have := HL.out; omega)
            rw [hnil] at T7
            have E7 := T7.ev
            have hU := v_used E7
            clear T7 hnil
            go_wp2_with (first
              | (go_at_call 12; refine hU.mono ?_; clear hU; rintro e u8 ⟨ao8, k8, rfl, hb8⟩; have E8 := E7.below hb8; have hRf := v_refs E8)
              | (go_at_call 7; refine hRf.mono ?_; clear hRf; rintro e u9 ⟨v9, F9, rfl, hM9, _, hb9⟩; obtain ⟨ao9, k9, rfl⟩ := hM9.form))
            go_ret
            exact ⟨rfl, E8.bel.trans (hb9.mono E8.size)⟩
end Go.Proofs.YtojblddfggoecaaGreat
