/- (*play).begin of a push: what is pushed may be, or not. -/
import Derived.Test.YtpajdopdbdflnaaSPbeginw
namespace Go.Proofs.Ytpajdopdbdflnaa
open Go.RowKit

theorem has_no (v : Value) (n : Nat) (f : Nat → Int) (x : Int) (hn : n ≤ 1000) (hx : ¬ ∃ i, i < n ∧ f i = x) (w : World) (hv : Ints w v n f) :
    Calls Try.prog 23 #[v, .int .i64 x] w fun e w' => e = .returned (.bool false) ∧ w' = w := by
  refine (has_ok v n f x w hv hn).mono ?_
  rintro e w' ⟨r, rfl, hr, rfl⟩
  cases r with
  | false => exact ⟨rfl, rfl⟩
  | true => exact absurd (hr.1 rfl) hx
theorem has_yes (v : Value) (n : Nat) (f : Nat → Int) (x : Int) (hn : n ≤ 1000) (hx : ∃ i, i < n ∧ f i = x) (w : World) (hv : Ints w v n f) :
    Calls Try.prog 23 #[v, .int .i64 x] w fun e w' => e = .returned (.bool true) ∧ w' = w := by
  refine (has_ok v n f x w hv hn).mono ?_
  rintro e w' ⟨r, rfl, hr, rfl⟩
  cases r with
  | true => exact ⟨rfl, rfl⟩
  | false => exact absurd (hr.2 hx) (by simp)
theorem Ints.drewN {w : World} {v : Value} {n : Nat} {f : Nat → Int} (h : Ints w v n f) (m : Nat) : Ints (w.drewN m) v n f := h.below (below_drewN _ _ _)
theorem Row.ints {w : World} {g n : Nat} {f : Nat → Int} (h : Row w g n f) (c : Nat) : Ints w (.slice (some ⟨g, 0, none⟩) n c) n f :=
  ⟨_, _, rfl, .inr ⟨g, 0, rfl, h.lt, fun i hi => by rw [Nat.zero_add]; exact h.cell hi⟩⟩
theorem itm_mem (xs : List Int) (V : Int) : (∃ i, i < xs.length ∧ itm xs i = V) ↔ V + 1 ∈ xs := by
  constructor
  · rintro ⟨i, hi, he⟩
    have hi' : i < xs.reverse.length := by simpa using hi
    have : xs.reverse[i] = V + 1 := by
      have : itm xs i = xs.reverse[i] - 1 := by simp only [itm, List.getD_eq_getElem?_getD, List.getElem?_eq_getElem hi', Option.getD_some]
      omega
    exact List.mem_reverse.1 (this ▸ List.getElem_mem hi')
  · intro hm
    obtain ⟨i, hi, he⟩ := List.getElem_of_mem (List.mem_reverse.2 hm)
    refine ⟨i, by simpa using hi, ?_⟩
    simp only [itm, List.getD_eq_getElem?_getD, List.getElem?_eq_getElem hi, Option.getD_some, he]
    omega
theorem busy_mem {w : World} {P : Nat → Prop} {s : Nat} {b : Zone} {G cap : Nat} {cs : Nat → Int} {ops : Nat → Op} {T : Int} {xs : List Int} (h : Good w P s b G cap cs ops T xs) {busy : Nat → Int} (hst : ∀ a, a < G → busy a = (ops a).busy cap) (V : Int) (h0 : 0 ≤ V) (h1 : V < cap) : (∃ i, i < G ∧ busy i = V) ↔ ∃ j, (ops j).link = V + 1 := by
  constructor
  · rintro ⟨i, hi, he⟩
    rw [hst i hi] at he
    refine ⟨i, ?_⟩
    cases ho : ops i with
    | idle => rw [ho] at he; simp only [Op.busy] at he; omega
    | push item n t j => rw [ho] at he; simp only [Op.busy] at he; simp only [Op.link]; omega
    | pop n t j d => rw [ho] at he; simp only [Op.busy] at he; omega
  · rintro ⟨j, hj⟩
    have hjG : j < G := Nat.lt_of_not_le fun q => by
      rw [h.rest q] at hj; simp only [Op.link] at hj; omega
    refine ⟨j, hjG, ?_⟩
    rw [hst j hjG]
    cases ho : ops j with
    | idle => rw [ho] at hj; simp only [Op.link] at hj; omega
    | push item n t i => rw [ho] at hj; simp only [Op.link] at hj; simp only [Op.busy]; omega
    | pop n t i d => rw [ho] at hj; simp only [Op.link] at hj; omega
theorem may_items {w : World} {P : Nat → Prop} {s : Nat} {b : Zone} {G cap : Nat} {cs : Nat → Int} {ops : Nat → Op} {T : Int} {xs : List Int} (h : Good w P s b G cap cs ops T xs) {busy : Nat → Int} (hst : ∀ a, a < G → busy a = (ops a).busy cap) {V : Int} : ((∃ i, i < xs.length ∧ itm xs i = V) → ¬ May cap ops xs V) ∧ ((∃ i, i < G ∧ busy i = V) → ¬ May cap ops xs V) :=
  ⟨fun q hm => hm.2.2.2 ((itm_mem xs V).1 q), fun q hm => by
    obtain ⟨j, hj⟩ := (busy_mem h hst V hm.1 hm.2.1).1 q
    exact hm.2.2.1 j hj⟩
section
variable {B : Nat} {w0 u : World} {P : Nat → Prop} {s : Nat} {b : Zone} {k c : Nat} {cs : Nat → Int} {ops : Nat → Op} {T : Int} {xs : List Int} {y : Nat} {vi : Value} {qb cb : Nat} {busy : Nat → Int}
set_option maxRecDepth 20000 in
set_option maxHeartbeats 4000000 in
theorem pbegin_push (h : Py B w0 u P s b k c cs ops T xs y vi xs qb cb busy) (hst : ∀ a, a < k → busy a = (ops a).busy c) (K V : Int) (a : Nat) (ha : a < k) (A : Int) (hA : A = a) (hb : ops a = .idle) (hK : K < 2) (hT : T ≤ 1000000000) (hc : c ≤ 32) (hk12 : k ≤ 12) (hm : May c ops xs V) :
    Calls Try.prog 9 #[.pointer (some ⟨y, 0, none⟩), .agg #[.int .i64 K, .int .i64 A, .int .i64 V]] u (BeginPost B w0 s b k c cs T xs y vi qb cb) := by
  subst hA
  have hP1 := h.below ((Below.refl _ _).alloc (Nat.le_refl _) (.cells #[.int .i64 K, .int .i64 (a : Int), .int .i64 V] 32))
  obtain ⟨a0, a1, a2⟩ := act_cells u K a V
  obtain ⟨y0, y1, y2, y3, y4, yf⟩ := cell5 hP1.blk
  have hbc := hP1.rb.cell ha
  have hb0 : busy a = -1 := by rw [hst a ha, hb]; rfl
  rw [hb0] at hbc
  have hA0 : decide ((a : Int) < 0) = false := by simp
  have hA1 : decide ((k : Int) ≤ (a : Int)) = false := by simp; omega
  have hA2 : (a : Int) < (k : Int) := by omega
  have HP1 : Hid _ := hP1
  have Hst : Hid _ := hst
  have hlt := h.good.lt
  have hV0 : decide (V < 0) = false := by have := hm.1; simpa using this
  have hV1 : decide ((c : Int) ≤ V) = false := by have := hm.2.1; simpa using this
  have hxl := h.good.range.2.2.1
  have hi1 := has_no vi xs.length (itm xs) V (by omega) (fun q => (may_items h.good hst).1 q hm)
  have hi2 := has_no (.slice (some ⟨qb, 0, none⟩) k cb) k busy V (by omega) (fun q => (may_items h.good hst).2 q hm)
  have hqb : qb ≠ u.heap.size := by have := h.rb.lt; omega
  clear h hP1 hst
  go_enter Try.func9, Try.ntmps9
  go_wp2
  go_quiet (fail)
  go_wp2
  go_quiet (fail)
  go_wp2
  go_quiet (first
    | (go_at_call_of 23 vi; exact quiet2 (hi1 _ (HP1.out.it.ints.drewN _)))
    | (go_at_call_of 23 qb; exact quiet2 (hi2 _ ((Row.ints HP1.out.rb cb).drewN _))))
  go_wp2
  generalize hU : World.drewN (World.drewN (World.drewN _ _) _) _ = U2
  have hP2 : Py B w0 U2 P s b k c cs ops T xs y vi xs qb cb busy := by rw [← hU]; exact ((HP1.out.drewN _).drewN _).drewN _
  have hsz : u.heap.size < U2.heap.size := by rw [← hU]; show u.heap.size < (u.alloc _).heap.size; simp
  have b1 : U2.cell? ⟨u.heap.size, 1, none⟩ = some (.int .i64 (a : Int)) := by rw [← hU]; exact a1
  have b2 : U2.cell? ⟨u.heap.size, 2, none⟩ = some (.int .i64 V) := by rw [← hU]; exact a2
  clear a0 a1 a2 y0 y1 y2 y3 y4 yf hbc HP1 hU hi1 hi2
  obtain ⟨y0, _⟩ := cell5 hP2.blk
  have hbe := g_begin_push (Good.alike (w' := U2.drew) hP2.good rfl) hT a V ha hb hm
  have HP2 : Hid _ := hP2
  clear hP2 hm
  go_region_held3 (fun w' => w'.cell? ⟨y, 0, none⟩ = some (.pointer (some ⟨s, 0, none⟩)) ∧ w'.cell? ⟨u.heap.size, 1, none⟩ = some (.int .i64 (a : Int)) ∧ w'.cell? ⟨u.heap.size, 2, none⟩ = some (.int .i64 V)) (go_keep)
    ((go_at_call 20; refine hbe.mono ?_; rintro e w3 ⟨rfl, P3, hG3, hB3', hW3⟩; have hB3 := hB3'.undrew; have hP3 := HP2.out.call hG3 hB3 hW3; have hblk := hB3.block u.heap.size hsz (fun q => by have := hlt _ q; omega); have c1 := (World.cell?_of_block (a := ⟨u.heap.size, 1, none⟩) hblk).trans b1; have c2 := (World.cell?_of_block (a := ⟨u.heap.size, 2, none⟩) hblk).trans b2; obtain ⟨z0, z1, z2, z3, z4, zf⟩ := cell5 hP3.blk))
  clear hbe b1 b2 y0
  have HP3 : Hid _ := hP3
  have hcq := hP3.rb.cell ha
  have hfq := hP3.rb.frozen a
  have hP4 := hP3.set a V
  have hyq := hP3.ne
  obtain ⟨v0, v1, v2, v3, v4, vf⟩ := cell5 hP4.blk
  have HP4 : Hid _ := hP4
  clear hP3 hG3 hB3 hB3' hW3 HP2 hP4
  go_wp2
  go_region_held3 (fun w' => w'.cell? ⟨y, 4, none⟩ = some (.slice (some ⟨qb, 0, none⟩) k cb) ∧ w'.cell? ⟨u.heap.size, 1, none⟩ = some (.int .i64 (a : Int)) ∧ w'.cell? ⟨u.heap.size, 2, none⟩ = some (.int .i64 V)) (go_keep) (fail)
  go_wp2_with (go_at_call 17; refine (num_any _ _).mono ?_; rintro e w6 ⟨rfl, rfl⟩)
  go_ret
  exact ⟨rfl, P3, _, _, HP4.out.drew', busy_upd Hst.out (by simp only [Op.busy]; omega)⟩
set_option maxRecDepth 20000 in
set_option maxHeartbeats 4000000 in
theorem pbegin_value0 (h : Py B w0 u P s b k c cs ops T xs y vi xs qb cb busy) (hst : ∀ a, a < k → busy a = (ops a).busy c) (K V : Int) (a : Nat) (ha : a < k) (A : Int) (hA : A = a) (hb : ops a = .idle) (hK : K < 2) (hT : T ≤ 1000000000) (_ : c ≤ 32) (_ : k ≤ 12) (hm : ¬ May c ops xs V) (hV : V < 0) :
    Calls Try.prog 9 #[.pointer (some ⟨y, 0, none⟩), .agg #[.int .i64 K, .int .i64 A, .int .i64 V]] u (BeginPost B w0 s b k c cs T xs y vi qb cb) := by
  subst hA
  have hP1 := h.below ((Below.refl _ _).alloc (Nat.le_refl _) (.cells #[.int .i64 K, .int .i64 (a : Int), .int .i64 V] 32))
  obtain ⟨a0, a1, a2⟩ := act_cells u K a V
  obtain ⟨y0, y1, y2, y3, y4, yf⟩ := cell5 hP1.blk
  have hbc := hP1.rb.cell ha
  have hb0 : busy a = -1 := by rw [hst a ha, hb]; rfl
  rw [hb0] at hbc
  have hA0 : decide ((a : Int) < 0) = false := by simp
  have hA1 : decide ((k : Int) ≤ (a : Int)) = false := by simp; omega
  have hA2 : (a : Int) < (k : Int) := by omega
  have HP1 : Hid _ := hP1
  have Hst : Hid _ := hst
  have hxl := h.good.range.2.2.1
  have hV0 : decide (V < 0) = true := by simpa using hV
  clear h hP1 hst
  go_enter Try.func9, Try.ntmps9
  go_wp2
  go_quiet (fail)
  go_wp2
  go_quiet (fail)
  go_wp2
  go_quiet (fail)
  go_wp2
  generalize hU : World.drewN (World.drewN (World.drewN _ _) _) _ = U2
  have hP2 : Py B w0 U2 P s b k c cs ops T xs y vi xs qb cb busy := by rw [← hU]; exact ((HP1.out.drewN _).drewN _).drewN _
  have hsz : u.heap.size < U2.heap.size := by rw [← hU]; show u.heap.size < (u.alloc _).heap.size; simp
  have b1 : U2.cell? ⟨u.heap.size, 1, none⟩ = some (.int .i64 (a : Int)) := by rw [← hU]; exact a1
  have b2 : U2.cell? ⟨u.heap.size, 2, none⟩ = some (.int .i64 V) := by rw [← hU]; exact a2
  clear a0 a1 a2 y0 y1 y2 y3 y4 yf hbc HP1 hU
  obtain ⟨y0, _⟩ := cell5 hP2.blk
  have hbe := g_begin_value (Good.alike (w' := U2.drew) hP2.good rfl) hT a V ha hb hm
  have HP2 : Hid _ := hP2
  clear hP2 hm
  go_region_held3 (fun w' => w'.cell? ⟨y, 0, none⟩ = some (.pointer (some ⟨s, 0, none⟩)) ∧ w'.cell? ⟨u.heap.size, 1, none⟩ = some (.int .i64 (a : Int)) ∧ w'.cell? ⟨u.heap.size, 2, none⟩ = some (.int .i64 V)) (go_keep)
    ((go_at_call 20; refine hbe.mono ?_; rintro e w3 ⟨rfl, hB3⟩; have hP3 : Hid _ := HP2.out.drew'.below hB3; have hblk := hB3.block u.heap.size hsz; have c1 := (World.cell?_of_block (a := ⟨u.heap.size, 1, none⟩) hblk).trans b1; have c2 := (World.cell?_of_block (a := ⟨u.heap.size, 2, none⟩) hblk).trans b2; obtain ⟨z0, _⟩ := cell5 hP3.out.blk))
  go_wp2_with (go_at_call 17; refine (num_any _ _).mono ?_; rintro e w6 ⟨rfl, rfl⟩)
  go_ret
  exact ⟨rfl, P, _, _, hP3.out, Hst.out⟩
set_option maxRecDepth 20000 in
set_option maxHeartbeats 4000000 in
theorem pbegin_value1 (h : Py B w0 u P s b k c cs ops T xs y vi xs qb cb busy) (hst : ∀ a, a < k → busy a = (ops a).busy c) (K V : Int) (a : Nat) (ha : a < k) (A : Int) (hA : A = a) (hb : ops a = .idle) (hK : K < 2) (hT : T ≤ 1000000000) (hc : c ≤ 32) (_ : k ≤ 12) (hm : ¬ May c ops xs V) (hV : c ≤ V) :
    Calls Try.prog 9 #[.pointer (some ⟨y, 0, none⟩), .agg #[.int .i64 K, .int .i64 A, .int .i64 V]] u (BeginPost B w0 s b k c cs T xs y vi qb cb) := by
  subst hA
  have hP1 := h.below ((Below.refl _ _).alloc (Nat.le_refl _) (.cells #[.int .i64 K, .int .i64 (a : Int), .int .i64 V] 32))
  obtain ⟨a0, a1, a2⟩ := act_cells u K a V
  obtain ⟨y0, y1, y2, y3, y4, yf⟩ := cell5 hP1.blk
  have hbc := hP1.rb.cell ha
  have hb0 : busy a = -1 := by rw [hst a ha, hb]; rfl
  rw [hb0] at hbc
  have hA0 : decide ((a : Int) < 0) = false := by simp
  have hA1 : decide ((k : Int) ≤ (a : Int)) = false := by simp; omega
  have hA2 : (a : Int) < (k : Int) := by omega
  have HP1 : Hid _ := hP1
  have Hst : Hid _ := hst
  have hxl := h.good.range.2.2.1
  have hV0 : decide (V < 0) = false := by simp; omega
  have hV1 : decide ((c : Int) ≤ V) = true := by simpa using hV
  clear h hP1 hst
  go_enter Try.func9, Try.ntmps9
  go_wp2
  go_quiet (fail)
  go_wp2
  go_quiet (fail)
  go_wp2
  go_quiet (fail)
  go_wp2
  generalize hU : World.drewN (World.drewN (World.drewN _ _) _) _ = U2
  have hP2 : Py B w0 U2 P s b k c cs ops T xs y vi xs qb cb busy := by rw [← hU]; exact ((HP1.out.drewN _).drewN _).drewN _
  have hsz : u.heap.size < U2.heap.size := by rw [← hU]; show u.heap.size < (u.alloc _).heap.size; simp
  have b1 : U2.cell? ⟨u.heap.size, 1, none⟩ = some (.int .i64 (a : Int)) := by rw [← hU]; exact a1
  have b2 : U2.cell? ⟨u.heap.size, 2, none⟩ = some (.int .i64 V) := by rw [← hU]; exact a2
  clear a0 a1 a2 y0 y1 y2 y3 y4 yf hbc HP1 hU
  obtain ⟨y0, _⟩ := cell5 hP2.blk
  have hbe := g_begin_value (Good.alike (w' := U2.drew) hP2.good rfl) hT a V ha hb hm
  have HP2 : Hid _ := hP2
  clear hP2 hm
  go_region_held3 (fun w' => w'.cell? ⟨y, 0, none⟩ = some (.pointer (some ⟨s, 0, none⟩)) ∧ w'.cell? ⟨u.heap.size, 1, none⟩ = some (.int .i64 (a : Int)) ∧ w'.cell? ⟨u.heap.size, 2, none⟩ = some (.int .i64 V)) (go_keep)
    ((go_at_call 20; refine hbe.mono ?_; rintro e w3 ⟨rfl, hB3⟩; have hP3 : Hid _ := HP2.out.drew'.below hB3; have hblk := hB3.block u.heap.size hsz; have c1 := (World.cell?_of_block (a := ⟨u.heap.size, 1, none⟩) hblk).trans b1; have c2 := (World.cell?_of_block (a := ⟨u.heap.size, 2, none⟩) hblk).trans b2; obtain ⟨z0, _⟩ := cell5 hP3.out.blk))
  go_wp2_with (go_at_call 17; refine (num_any _ _).mono ?_; rintro e w6 ⟨rfl, rfl⟩)
  go_ret
  exact ⟨rfl, P, _, _, hP3.out, Hst.out⟩
set_option maxRecDepth 20000 in
set_option maxHeartbeats 4000000 in
theorem pbegin_value2 (h : Py B w0 u P s b k c cs ops T xs y vi xs qb cb busy) (hst : ∀ a, a < k → busy a = (ops a).busy c) (K V : Int) (a : Nat) (ha : a < k) (A : Int) (hA : A = a) (hb : ops a = .idle) (hK : K < 2) (hT : T ≤ 1000000000) (hc : c ≤ 32) (_ : k ≤ 12) (hm : ¬ May c ops xs V) (hV : 0 ≤ V) (hV' : V < c) (hi : V + 1 ∈ xs) :
    Calls Try.prog 9 #[.pointer (some ⟨y, 0, none⟩), .agg #[.int .i64 K, .int .i64 A, .int .i64 V]] u (BeginPost B w0 s b k c cs T xs y vi qb cb) := by
  subst hA
  have hP1 := h.below ((Below.refl _ _).alloc (Nat.le_refl _) (.cells #[.int .i64 K, .int .i64 (a : Int), .int .i64 V] 32))
  obtain ⟨a0, a1, a2⟩ := act_cells u K a V
  obtain ⟨y0, y1, y2, y3, y4, yf⟩ := cell5 hP1.blk
  have hbc := hP1.rb.cell ha
  have hb0 : busy a = -1 := by rw [hst a ha, hb]; rfl
  rw [hb0] at hbc
  have hA0 : decide ((a : Int) < 0) = false := by simp
  have hA1 : decide ((k : Int) ≤ (a : Int)) = false := by simp; omega
  have hA2 : (a : Int) < (k : Int) := by omega
  have HP1 : Hid _ := hP1
  have Hst : Hid _ := hst
  have hxl := h.good.range.2.2.1
  have hV0 : decide (V < 0) = false := by simp; omega
  have hV1 : decide ((c : Int) ≤ V) = false := by simp; omega
  have hi1 := has_yes vi xs.length (itm xs) V (by omega) ((itm_mem xs V).2 hi)
  clear h hP1 hst
  go_enter Try.func9, Try.ntmps9
  go_wp2
  go_quiet (fail)
  go_wp2
  go_quiet (fail)
  go_wp2
  go_quiet ((go_at_call_of 23 vi; exact quiet2 (hi1 _ (HP1.out.it.ints.drewN _))))
  go_wp2
  generalize hU : World.drewN (World.drewN (World.drewN _ _) _) _ = U2
  have hP2 : Py B w0 U2 P s b k c cs ops T xs y vi xs qb cb busy := by rw [← hU]; exact ((HP1.out.drewN _).drewN _).drewN _
  have hsz : u.heap.size < U2.heap.size := by rw [← hU]; show u.heap.size < (u.alloc _).heap.size; simp
  have b1 : U2.cell? ⟨u.heap.size, 1, none⟩ = some (.int .i64 (a : Int)) := by rw [← hU]; exact a1
  have b2 : U2.cell? ⟨u.heap.size, 2, none⟩ = some (.int .i64 V) := by rw [← hU]; exact a2
  clear a0 a1 a2 y0 y1 y2 y3 y4 yf hbc HP1 hU
  obtain ⟨y0, _⟩ := cell5 hP2.blk
  have hbe := g_begin_value (Good.alike (w' := U2.drew) hP2.good rfl) hT a V ha hb hm
  have HP2 : Hid _ := hP2
  clear hP2 hm
  go_region_held3 (fun w' => w'.cell? ⟨y, 0, none⟩ = some (.pointer (some ⟨s, 0, none⟩)) ∧ w'.cell? ⟨u.heap.size, 1, none⟩ = some (.int .i64 (a : Int)) ∧ w'.cell? ⟨u.heap.size, 2, none⟩ = some (.int .i64 V)) (go_keep)
    ((go_at_call 20; refine hbe.mono ?_; rintro e w3 ⟨rfl, hB3⟩; have hP3 : Hid _ := HP2.out.drew'.below hB3; have hblk := hB3.block u.heap.size hsz; have c1 := (World.cell?_of_block (a := ⟨u.heap.size, 1, none⟩) hblk).trans b1; have c2 := (World.cell?_of_block (a := ⟨u.heap.size, 2, none⟩) hblk).trans b2; obtain ⟨z0, _⟩ := cell5 hP3.out.blk))
  go_wp2_with (go_at_call 17; refine (num_any _ _).mono ?_; rintro e w6 ⟨rfl, rfl⟩)
  go_ret
  exact ⟨rfl, P, _, _, hP3.out, Hst.out⟩
set_option maxRecDepth 20000 in
set_option maxHeartbeats 4000000 in
theorem pbegin_value3 (h : Py B w0 u P s b k c cs ops T xs y vi xs qb cb busy) (hst : ∀ a, a < k → busy a = (ops a).busy c) (K V : Int) (a : Nat) (ha : a < k) (A : Int) (hA : A = a) (hb : ops a = .idle) (hK : K < 2) (hT : T ≤ 1000000000) (hc : c ≤ 32) (hk12 : k ≤ 12) (hm : ¬ May c ops xs V) (hV : 0 ≤ V) (hV' : V < c) (hi : V + 1 ∉ xs) (hj : ∃ j, (ops j).link = V + 1) :
    Calls Try.prog 9 #[.pointer (some ⟨y, 0, none⟩), .agg #[.int .i64 K, .int .i64 A, .int .i64 V]] u (BeginPost B w0 s b k c cs T xs y vi qb cb) := by
  subst hA
  have hP1 := h.below ((Below.refl _ _).alloc (Nat.le_refl _) (.cells #[.int .i64 K, .int .i64 (a : Int), .int .i64 V] 32))
  obtain ⟨a0, a1, a2⟩ := act_cells u K a V
  obtain ⟨y0, y1, y2, y3, y4, yf⟩ := cell5 hP1.blk
  have hbc := hP1.rb.cell ha
  have hb0 : busy a = -1 := by rw [hst a ha, hb]; rfl
  rw [hb0] at hbc
  have hA0 : decide ((a : Int) < 0) = false := by simp
  have hA1 : decide ((k : Int) ≤ (a : Int)) = false := by simp; omega
  have hA2 : (a : Int) < (k : Int) := by omega
  have HP1 : Hid _ := hP1
  have Hst : Hid _ := hst
  have hxl := h.good.range.2.2.1
  have hV0 : decide (V < 0) = false := by simp; omega
  have hV1 : decide ((c : Int) ≤ V) = false := by simp; omega
  have hi1 := has_no vi xs.length (itm xs) V (by omega) (fun q => hi ((itm_mem xs V).1 q))
  have hi2 := has_yes (.slice (some ⟨qb, 0, none⟩) k cb) k busy V (by omega) ((busy_mem h.good hst V hV hV').2 hj)
  clear h hP1 hst
  go_enter Try.func9, Try.ntmps9
  go_wp2
  go_quiet (fail)
  go_wp2
  go_quiet (fail)
  go_wp2
  go_quiet (first
    | (go_at_call_of 23 vi; exact quiet2 (hi1 _ (HP1.out.it.ints.drewN _)))
    | (go_at_call_of 23 qb; exact quiet2 (hi2 _ ((Row.ints HP1.out.rb cb).drewN _))))
  go_wp2
  generalize hU : World.drewN (World.drewN (World.drewN _ _) _) _ = U2
  have hP2 : Py B w0 U2 P s b k c cs ops T xs y vi xs qb cb busy := by rw [← hU]; exact ((HP1.out.drewN _).drewN _).drewN _
  have hsz : u.heap.size < U2.heap.size := by rw [← hU]; show u.heap.size < (u.alloc _).heap.size; simp
  have b1 : U2.cell? ⟨u.heap.size, 1, none⟩ = some (.int .i64 (a : Int)) := by rw [← hU]; exact a1
  have b2 : U2.cell? ⟨u.heap.size, 2, none⟩ = some (.int .i64 V) := by rw [← hU]; exact a2
  clear a0 a1 a2 y0 y1 y2 y3 y4 yf hbc HP1 hU
  obtain ⟨y0, _⟩ := cell5 hP2.blk
  have hbe := g_begin_value (Good.alike (w' := U2.drew) hP2.good rfl) hT a V ha hb hm
  have HP2 : Hid _ := hP2
  clear hP2 hm
  go_region_held3 (fun w' => w'.cell? ⟨y, 0, none⟩ = some (.pointer (some ⟨s, 0, none⟩)) ∧ w'.cell? ⟨u.heap.size, 1, none⟩ = some (.int .i64 (a : Int)) ∧ w'.cell? ⟨u.heap.size, 2, none⟩ = some (.int .i64 V)) (go_keep)
    ((go_at_call 20; refine hbe.mono ?_; rintro e w3 ⟨rfl, hB3⟩; have hP3 : Hid _ := HP2.out.drew'.below hB3; have hblk := hB3.block u.heap.size hsz; have c1 := (World.cell?_of_block (a := ⟨u.heap.size, 1, none⟩) hblk).trans b1; have c2 := (World.cell?_of_block (a := ⟨u.heap.size, 2, none⟩) hblk).trans b2; obtain ⟨z0, _⟩ := cell5 hP3.out.blk))
  go_wp2_with (go_at_call 17; refine (num_any _ _).mono ?_; rintro e w6 ⟨rfl, rfl⟩)
  go_ret
  exact ⟨rfl, P, _, _, hP3.out, Hst.out⟩
theorem pbegin_any (h : Py B w0 u P s b k c cs ops T xs y vi xs qb cb busy) (hst : ∀ a, a < k → busy a = (ops a).busy c) (K A V : Int) (hT : T ≤ 1000000000) (hc : c ≤ 32) (hk12 : k ≤ 12) :
    Calls Try.prog 9 #[.pointer (some ⟨y, 0, none⟩), .agg #[.int .i64 K, .int .i64 A, .int .i64 V]] u (BeginPost B w0 s b k c cs T xs y vi qb cb) := by
  by_cases hA : 0 ≤ A ∧ A < k
  · obtain ⟨a, rfl⟩ : ∃ a : Nat, A = a := ⟨A.toNat, by omega⟩
    have ha : a < k := by omega
    by_cases hb : ops a = .idle
    · by_cases hK : K < 2
      · by_cases hm : May c ops xs V
        · exact pbegin_push h hst K V a ha _ rfl hb hK hT hc hk12 hm
        · by_cases h0 : V < 0
          · exact pbegin_value0 h hst K V a ha _ rfl hb hK hT hc hk12 hm h0
          by_cases h1 : c ≤ V
          · exact pbegin_value1 h hst K V a ha _ rfl hb hK hT hc hk12 hm h1
          by_cases h2 : V + 1 ∈ xs
          · exact pbegin_value2 h hst K V a ha _ rfl hb hK hT hc hk12 hm (by omega) (by omega) h2
          by_cases h3 : ∃ j, (ops j).link = V + 1
          · exact pbegin_value3 h hst K V a ha _ rfl hb hK hT hc hk12 hm (by omega) (by omega) h2 h3
          · exact absurd ⟨by omega, by omega, fun j q => h3 ⟨j, q⟩, h2⟩ hm
      · exact pbegin_pop h hst K V a ha _ rfl hb (by omega)
    · exact pbegin_busy h hst K V a ha _ rfl hb
  · exact pbegin_agent h hst K A V hA
end
end Go.Proofs.Ytpajdopdbdflnaa
