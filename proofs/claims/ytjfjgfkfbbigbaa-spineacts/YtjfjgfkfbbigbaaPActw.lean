/- The walk of SpineActs. -/
import Derived.Test.YtjfjgfkfbbigbaaPActm
import Derived.Test.YtjfjgfkfbbigbaaPActg
import Derived.Test.YtjfjgfkfbbigbaaPActs
import Derived.Test.YtjfjgfkfbbigbaaPActd
import Derived.Test.YtjfjgfkfbbigbaaPActc
namespace Go.Proofs.Ytjfjgfkfbbigbaa
open Go.RowKit

/-- One act, whatever it is. -/
theorem act7_any {B : Nat} {w0 w : World} {s b W y m : Nat} {half : Int} (h : Edge7 B w0 w s b W y half m) (hm : m ≤ 400) (K A p I n : Int) :
    Calls Try.prog 8 #[.pointer (some ⟨y, 0, none⟩), .agg #[.int .i64 K, .int .i64 A, .int .i64 p, .int .i64 I, .int .i64 n]] w (ActPost7 B w0 s b W y half (m + 1)) := by
  obtain ⟨P, v, bg, un, L, q, V, c, h1, h2, h3, h4, h5, h6⟩ := h
  have hc := And.intro h3 (And.intro h4 (And.intro (And.intro h5 h6) hm))
  by_cases k0 : K < 2
  · exact act_make h1 h2 hc K A p I n k0
  by_cases k1 : K < 4
  · exact act_get h1 h2 hc K A p I n ⟨by omega, k1⟩
  by_cases k2 : K < 6
  · exact act_set h1 h2 hc K A p I n ⟨by omega, k2⟩
  by_cases k3 : K = 6
  · exact act_drop h1 h2 hc K A p I n k3
  exact act_cycle h1 h2 hc K A p I n (by omega)
theorem words_of (z : Int) : ∃ a : Nat, wrap64 ((IntKind.u64.wrap z).tmod 1500) = a ∧ a < 1500 := by
  have h0 : 0 ≤ IntKind.u64.wrap z := by rw [IntKind.wrap_u64]; omega
  generalize IntKind.u64.wrap z = q at h0 ⊢
  rw [Int.tmod_eq_emod_of_nonneg h0]
  have h1 := Int.emod_nonneg q (show (1500 : Int) ≠ 0 by omega)
  have h2 := Int.emod_lt_of_pos q (show 0 < (1500 : Int) by omega)
  exact ⟨(q % 1500).toNat, by rw [IntWalk.wrap64_in _ (by omega)]; omega, by omega⟩
theorem edge_start {w w1 : World} {P : Nat → Prop} {s b W : Nat} {base half : Int} (h : Gd w1 P s b W 3 (q0 base half) (fun _ _ => 0) (fun _ => 0)) (hb : Below w.heap.size w w1) (hP : ∀ k, P k → w.heap.size ≤ k) :
    Edge7 w.heap.size w (w1.alloc (.cells #[.pointer (some ⟨s, 0, none⟩), .pointer (some ⟨b, 0, none⟩), .int .i64 half, .slice none 0 0, .int .i64 0, .bool false] 31)) s b W w1.heap.size half 0 := by
  have ha := (Below.refl w1.heap.size w1).alloc (Nat.le_refl _) (.cells #[.pointer (some ⟨s, 0, none⟩), .pointer (some ⟨b, 0, none⟩), .int .i64 half, .slice none 0 0, .int .i64 0, .bool false] 31)
  refine ⟨fun k => P k ∧ k < w1.heap.size, _, 0, false, [], _, _, _, ⟨h.shrink.below ha, fun k hk => hP k hk.1, fun k hk => Nat.lt_of_lt_of_le hk.2 ha.size, hb.trans (ha.mono hb.size), Nat.le_trans hb.size ha.size, heap_alloc_new w1 _, Recs.nil _ _, fun x hx => by simp at hx, List.Pairwise.nil, ⟨fun r => by have := r.2; omega, hb.size⟩, fun k hk => by simp [Value.ownBlock] at hk⟩, ⟨rfl, List.Pairwise.nil, fun x hx => by simp at hx, fun x hx => by simp at hx, rfl, rfl, rfl, rfl, fun x hx => by simp at hx⟩, fun j => by simp, by simp [q0], by omega, by omega⟩
set_option maxRecDepth 20000 in
set_option maxHeartbeats 8000000 in
theorem acts_walk (base words : Int) (ao : Option Addr) (len cap : Nat) (w : World) (_hlen : len ≤ maxLen)
    (hs : len = 0 ∨ ∃ (B o : Nat) (F : Nat → Nat → Int), ao = some ⟨B, o, none⟩ ∧ B < w.heap.size ∧ ∀ i j, i < len → j < 5 → w.cell? ⟨B, o + i * 5 + j, none⟩ = some (.int .i64 (F i j))) :
    Calls Try.prog 3 #[.int .i64 base, .int .i64 words, .slice ao len cap] w fun e w' => e = .returned (.bool true) ∧ Below w.heap.size w w' := by
  obtain ⟨d, hd, d16⟩ := masked15 base
  obtain ⟨a, ha, a15⟩ := words_of words
  unfold maxLen at _hlen
  have Hs : Hid (len = 0 ∨ ∃ (B o : Nat) (F : Nat → Nat → Int), ao = some ⟨B, o, none⟩ ∧ B < w.heap.size ∧ ∀ i j, i < len → j < 5 → w.cell? ⟨B, o + i * 5 + j, none⟩ = some (.int .i64 (F i j))) := hs
  clear hs
  go_enter Try.func3, Try.ntmps3
  go_wp2_with (go_at_call 7; refine (begun_ok _ _ _ (by omega) (by omega)).mono ?_; rintro e w1 ⟨s, b, P, rfl, hG1, hb1, hQ1⟩)
  have hE0 := edge_start hG1 hb1 hQ1
  have hhalf : 0 ≤ (32 + (a : Int)) / 2 ∧ (32 + (a : Int)) / 2 ≤ 65536 := by omega
  clear hG1 hb1 hQ1 ha hd
  generalize (32 + (a : Int)) / 2 = half at hE0 hhalf ⊢
  generalize World.alloc _ _ = U at hE0 ⊢
  generalize w1.heap.size = y at hE0 ⊢
  generalize ((d : Int) + (32 + (a : Int))).toNat = W at hE0 ⊢
  go_loopg [13] 401 (fun kx s13 wr => ∃ t : Nat, s13 = .int .i64 t ∧ t ≤ 400 ∧ 400 - t ≤ kx ∧ Edge7 w.heap.size w wr s b W y half t)
  case atStart => exact ⟨0, rfl, by omega, by omega, hE0⟩
  case round =>
  clear hE0
  obtain ⟨t, rfl, ht, hkx, hE⟩ := hrel
  obtain ⟨gb, hgb⟩ : ∃ gb : Bool, gb = decide (t < len ∧ t < 400) := ⟨_, rfl⟩
  have Hgb : Hid (gb = decide (t < len ∧ t < 400)) := hgb
  clear hgb
  go_upto_region 7 with fail
  go_cut [49] from 42 to 49 (fun s49 wx => s49 = .bool gb ∧ wx = wr)
  case first =>
    by_cases t1 : t < len
    · have t1' : (t : Int) < (len : Int) := by omega
      by_cases t2 : t < 400
      · have t2' : (t : Int) < 400 := by omega
        as_aux_lemma =>
          go_wp2_with fail
          go_meet
          exact ⟨by rw [Hgb.out, decide_eq_true ⟨t1, t2⟩], rfl⟩
      · have t2' : decide ((t : Int) < 400) = false := by simp; omega
        as_aux_lemma =>
          go_wp2_with fail
          go_meet
          exact ⟨by rw [Hgb.out, decide_eq_false (by omega)], rfl⟩
    · have t1' : decide ((t : Int) < (len : Int)) = false := by simp; omega
      as_aux_lemma =>
        go_wp2_with fail
        go_meet
        exact ⟨by rw [Hgb.out, decide_eq_false (by omega)], rfl⟩
  case rest =>
  obtain ⟨rfl, rfl⟩ := hcut
  cases hgg : gb with
  | true =>
    have hgo : t < len ∧ t < 400 := by
      have := Hgb.out; rw [hgg] at this; simpa using this
    obtain ⟨B, o, F, rfl, hB, hF⟩ := Hs.out.resolve_left (by omega)
    have hbel : Below w.heap.size w wc := by obtain ⟨_, _, _, _, _, _, _, _, hP, _⟩ := hE; exact hP.bel
    have cel : ∀ j, j < 5 → wc.cell? ⟨B, o + t * 5 + j, none⟩ = some (.int .i64 (F t j)) := fun j hj => (hbel.cell hB).trans (hF t j hgo.1 hj)
    obtain ⟨K, hK⟩ : ∃ K, F t 0 = K := ⟨_, rfl⟩
    obtain ⟨A, hA⟩ : ∃ A, F t 1 = A := ⟨_, rfl⟩
    obtain ⟨p, hp⟩ : ∃ p, F t 2 = p := ⟨_, rfl⟩
    obtain ⟨I, hI⟩ : ∃ I, F t 3 = I := ⟨_, rfl⟩
    obtain ⟨n, hn⟩ : ∃ n, F t 4 = n := ⟨_, rfl⟩
    have d0 := cel 0 (by omega)
    have d1 := cel 1 (by omega)
    have d2 := cel 2 (by omega)
    have d3 := cel 3 (by omega)
    have d4 := cel 4 (by omega)
    rw [hK] at d0
    rw [hA] at d1
    rw [hp] at d2
    rw [hI] at d3
    rw [hn] at d4
    rw [Nat.add_zero] at d0
    have hact := act7_any hE ht K A p I n
    have hlt : (t : Int) < (len : Int) := by omega
    clear cel hF hK hA hp hI hn hE hbel
    as_aux_lemma =>
      go_wp2_with (first
        | (go_at_call 8; refine hact.mono ?_; rintro e w2 ⟨rfl, P2, v2, bg2, un2, L2, q2, V2, c2, hP2, hA2, r1, r2, r3, r4⟩; have cc2 := hP2.here.cells; have hRo := groom hP2.gd; have HE : Hid (Agr7 q2 V2 half bg2 un2 L2 ∧ (∀ j, 0 ≤ c2 j ∧ c2 j ≤ 2000 * ((t + 1 : Nat) : Int)) ∧ q2.given ≤ ((t + 1 : Nat) : Int) ∧ 0 ≤ bg2 ∧ bg2 ≤ ((t + 1 : Nat) : Int)) := ⟨hA2, r1, r2, r3, r4⟩; clear hact hA2 r1 r2 r3 r4 d0 d1 d2 d3 d4)
        | (go_at_call 9; refine hRo.mono ?_; rintro e w3 ⟨rfl, hb3⟩; have hP3 := hP2.below hb3; have cc3 := hP3.here.cells; have hle : sumR L2 = q2.taken ∧ q2.taken ≤ q2.half ∧ half = q2.half := (by obtain ⟨_, _, _, _, _, _, hI⟩ := hP3.gd; exact ⟨HE.out.1.sum hI, hI.sums.2.2.2, HE.out.1.half_⟩); have hRm := proom_ok hP3.here hP3.row hhalf (by omega); rw [hle.1, hle.2.2] at hRm; clear hle hb3)
        | (go_at_call 10; refine hRm.mono ?_; rintro e w9 ⟨rfl, hw9⟩; replace hw9 := hw9.symm; subst hw9))
      go_roundg (400 - (t + 1))
      case measure => omega
      case rel => exact ⟨t + 1, by go_num, by omega, by omega, P2, v2, bg2, un2, L2, q2, V2, c2, hP3, HE.out⟩
  | false =>
    obtain ⟨P0, v0, bg, un, L, q, V, c0, hP0, hA, _⟩ := hE
    obtain ⟨ao2, cap2, rfl⟩ := hP0.row.form
    have HA : Hid (Agr7 q V half bg un L) := hA
    have HI : Hid (∀ i, i < L.length → ∃ x, L[i]? = some x) := fun i hi => ⟨_, List.getElem?_eq_getElem hi⟩
    have hlen : L.length ≤ 65536 := by
      obtain ⟨hW, bw, bs, vv, f, hS, hI⟩ := hP0.gd
      have h1 := hA.sum hI
      have h2 := hI.sums
      have h3 := hI.big
      have h4 := hI.base0
      have h5 := hI.half0
      have h6 := sumR_len L
      omega
    generalize hN : L.length = N at *
    clear hN hA Hs Hgb hgg
    have cc0 := hP0.here.cells
    as_aux_lemma =>
      go_wp2
      have HP : Hid (Play w.heap.size w wc P0 s b W y half (.slice ao2 N cap2) bg un L q V c0) := hP0
      clear hP0 cc0
      go_loopg [14, 15, 16, 17, 18, 19] (N + 1) (fun kx s14 s15 s16 s17 s18 s19 wx => ∃ i : Nat, s14 = .int .i64 i ∧ i ≤ N ∧ N - i ≤ kx ∧ ∃ P c, Play w.heap.size w wx P s b W y half (.slice ao2 N cap2) bg un L q V c)
      case atStart => exact ⟨0, rfl, by omega, by omega, P0, c0, HP.out⟩
      case round =>
      clear HP
      obtain ⟨i, rfl, hi, hk2, P, c, hP⟩ := hrel
      have cc := hP.here.cells
      by_cases hlt : i < N
      · obtain ⟨x, hx⟩ := HI.out i hlt
        obtain ⟨g, rfl⟩ := hP.addr hx
        have HX : Hid (L[i]? = some x) := hx
        have r := hP.recd hx
        have hl : (i : Int) < (N : Int) := by omega
        cases hg : x.gone with
        | true =>
          rw [hg] at r
          clear hx
          go_wp2
          go_roundg (N - (i + 1))
          case measure => omega
          case rel => exact ⟨i + 1, by go_num, by omega, by omega, P, c, hP⟩
        | false =>
          rw [hg] at r
          obtain ⟨z, hz, e1, e2⟩ := HA.out.hs (List.mem_of_getElem? hx) hg
          have HV : Hid (∀ j : Nat, j < x.n → V z.id j = x.F j) := fun j hj => by rw [e1]; exact HA.out.val x (List.mem_of_getElem? hx) hg j hj
          have HE : Hid (x.id = z.id ∧ z.n = x.n) := ⟨e1.symm, e2⟩
          have HZ : Hid (z ∈ q.xs) := hz
          have hxn : x.n ≤ 65536 := by
            obtain ⟨hW, bw, bs, vv, f, hS, hI⟩ := hP.gd
            have h1 := hI.lies hz
            have h3 := hI.big
            have h4 := hI.base0
            have h5 := hI.half0
            omega
          rw [← e1] at r
          clear hx hz e1 e2 hg
          have hd := hP.below (below_drewN _ 1 _)
          have hL := glen_ok hd.gd HZ.out
          rw [HE.out.2] at hL
          go_wp2
          go_region_held3 (fun w' => w'.cell? ⟨y, 0, none⟩ = some (.pointer (some ⟨s, 0, none⟩)) ∧ w'.cell? ⟨y, 3, none⟩ = some (.slice (some ⟨g, 0, none⟩) N cap2) ∧ w'.cell? ⟨g, i * 4, none⟩ = some (.int .i64 z.id)) (go_keep) ((go_at_call 11; refine hL.mono ?_; rintro e w5 ⟨rfl, hb5⟩; have hP5 := hd.below hb5; have cc5 := hP5.here.cells; have r5 := hP5.recd HX.out; rw [HE.out.1] at r5; clear hb5))
          clear hP hd cc r hL
          go_wp2_with (go_at_call 12; refine (num_any _ _).mono ?_; rintro e w9 ⟨rfl, hw9⟩; replace hw9 := hw9.symm; subst hw9)
          have HP5 : Hid (Play w.heap.size w w5 P s b W y half (.slice (some ⟨g, 0, none⟩) N cap2) bg un L q V c) := hP5
          clear hP5 cc5 r5
          go_loopg [17, 18, 19] (x.n + 1) (fun kz s17 s18 s19 wz => ∃ j : Nat, s17 = .int .i64 j ∧ j ≤ x.n ∧ x.n - j ≤ kz ∧ ∃ P c, Play w.heap.size w wz P s b W y half (.slice (some ⟨g, 0, none⟩) N cap2) bg un L q V c)
          case atStart => exact ⟨0, rfl, by omega, by omega, P, c, HP5.out⟩
          case round =>
            clear HP5
            obtain ⟨j, rfl, hj, hk3, P7, c7, hP7⟩ := hrel
            by_cases hjl : j < x.n
            · have hjl' : (j : Int) < (x.n : Int) := by omega
              have cc7 := hP7.here.cells
              have r7 := hP7.recd HX.out
              rw [HE.out.1] at r7
              have hd7 := hP7.below (below_drewN _ 1 _)
              have hG := get_ok hd7.gd HZ.out 0 j (by omega) (by rw [HE.out.2]; omega)
              rw [HV.out j hjl] at hG
              go_wp2
              go_region_held3 (fun w' => w'.cell? ⟨y, 0, none⟩ = some (.pointer (some ⟨s, 0, none⟩)) ∧ w'.cell? ⟨y, 3, none⟩ = some (.slice (some ⟨g, 0, none⟩) N cap2) ∧ w'.cell? ⟨g, i * 4, none⟩ = some (.int .i64 z.id)) (go_keep) ((go_at_call 13; refine hG.mono ?_; rintro e w8 ⟨rfl, c8, _, hT⟩; obtain ⟨P8, hP8⟩ := hd7.turn hT; have cc8 := hP8.here.cells; have r8 := hP8.recd HX.out; rw [HE.out.1] at r8; have wd8 := hP8.wd HX.out hjl; clear hT))
              clear hP7 hd7 cc7 r7 hG
              go_wp2_with (go_at_call 12; refine (num_any _ _).mono ?_; rintro e w9 ⟨rfl, hw9⟩; replace hw9 := hw9.symm; subst hw9)
              go_roundg (x.n - (j + 1))
              case measure => omega
              case rel => exact ⟨j + 1, by go_num, by omega, by omega, P8, c8, hP8⟩
            · have hjl' : ¬ (j : Int) < (x.n : Int) := by omega
              go_wp2
              go_roundg (N - (i + 1))
              case measure => omega
              case rel => exact ⟨i + 1, by go_num, by omega, by omega, P7, c7, hP7⟩
      · have hl : ¬ (i : Int) < (N : Int) := by omega
        have hbel := hP.bel
        have hsz := hP.size
        clear hP
        go_wp2_with (go_at_call 14; refine (awake_any _).mono ?_; rintro e w9 ⟨rfl, hb9⟩)
        go_ret
        exact ⟨rfl, hbel.trans (hb9.mono hsz)⟩
end Go.Proofs.Ytjfjgfkfbbigbaa
