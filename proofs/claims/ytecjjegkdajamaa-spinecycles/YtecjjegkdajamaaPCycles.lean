/- The walk of SpineCycles. -/
import Derived.Test.YtecjjegkdajamaaPCyc
namespace Go.Proofs.Ytecjjegkdajamaa
open Go.RowKit
theorem at_100 (z : Int) : ∃ a : Nat, wrap64 ((IntKind.u64.wrap z).tmod 100) = a ∧ a < 100 := by
  have h0 : 0 ≤ IntKind.u64.wrap z := by rw [IntKind.wrap_u64]; omega
  generalize IntKind.u64.wrap z = q at h0 ⊢
  rw [Int.tmod_eq_emod_of_nonneg h0]
  have h1 := Int.emod_nonneg q (show (100 : Int) ≠ 0 by omega)
  have h2 := Int.emod_lt_of_pos q (show 0 < (100 : Int) by omega)
  exact ⟨(q % 100).toNat, by rw [IntWalk.wrap64_in _ (by omega)]; omega, by omega⟩
/-- What each of the first n arrays is. -/
def Kv (V : Int → Int → Int) (K : Nat → Int) (n : Nat) : Prop := ∀ j, j < n → 0 ≤ K j ∧ K j < 100 ∧ ∀ t : Nat, (t : Int) < K j → V ((j : Int) + 1) t = 100 * ((j : Int) + 1) + t
def C1 (q : St) (V : Int → Int → Int) (K : Nat → Int) (Gn : Nat → Bool) (i : Nat) : Prop :=
  q.xs.map (fun z => (z.id, z.n)) = Lst K Gn i ∧ q.given = i ∧ q.half = 2000 ∧ q.taken ≤ 103 * i ∧ q.c.on = false ∧ Kv V K i
abbrev idf : Nat → Int := fun j => (j : Int) + 1
theorem info4 : (Try.prog.info? 4).map (fun i => (i.zero, i.size, i.bytes)) = some (some (.bool false), 1, 1) := by kernel_rfl
section
variable {B : Nat} {w0 w : World} {P : Nat → Prop} {s b W : Nat} {q : St} {V : Int → Int → Int} {vi vl : Value} {ni nl : Nat} {fi fl : Nat → Int}
theorem Two.congr {gi gl : Nat → Int} (h : Two B w0 w P s b W q V vi vl ni nl fi fl) (e1 : ∀ i, i < ni → fi i = gi i) (e2 : ∀ i, i < nl → fl i = gl i) : Two B w0 w P s b W q V vi vl ni nl gi gl :=
  ⟨h.env, h.ids.congr e1, h.lens.congr e2, h.pi, h.pl, h.ne⟩
theorem t_make (h : Two B w0 w P s b W q V vi vl ni nl fi fl) (i : Nat) (n : Int) (hi : q.given = i) (hn : 0 ≤ n ∧ n ≤ 1000) (hr : n + 4 ≤ q.half - q.taken) (hgi : i < 1000) :
    Calls Try.prog 15 #[.pointer (some ⟨s, 0, none⟩), .int .i64 0, .int .i64 n] w fun e w' => ∃ (q' : St) (V' : Int → Int → Int) (P' : Nat → Prop), e = .returned (.tuple #[.int .i64 ((i : Int) + 1), .int .i64 0]) ∧ Hid (q' = made q n ∧ V' = fun id i => if id = q.given + 1 then 0 else V id i) ∧ Two B w0 w' P' s b W q' V' vi vl ni nl fi fl := by
  refine (e_make h.env 0 n (by omega) hn hr (by omega)).mono ?_
  rintro e w' ⟨rfl, hT⟩
  obtain ⟨P', hT', _, _⟩ := h.turn hT
  exact ⟨_, _, P', by rw [hi], ⟨rfl, rfl⟩, hT'⟩
theorem t_set (h : Two B w0 w P s b W q V vi vl ni nl fi fl) {A n : Int} (hh : Hs q A n) (g i y : Int) (hg : 0 ≤ g ∧ g < 3) (hi : 0 ≤ i ∧ i < n) :
    Calls Try.prog 16 #[.pointer (some ⟨s, 0, none⟩), .int .i64 g, .int .i64 A, .int .i64 i, .int .i64 y] w fun e w' => e = .returned (.int .i64 0) ∧ ∃ P', Two B w0 w' P' s b W q (updV V A i y) vi vl ni nl fi fl := by
  refine (h_set h.env hh g i y hg hi).mono ?_
  rintro e w' ⟨rfl, hT⟩
  obtain ⟨P', hT', _, _⟩ := h.turn hT
  exact ⟨rfl, P', hT'⟩
end
/-- .. and a row of what is gone. -/
structure Tri (B : Nat) (w0 w : World) (P : Nat → Prop) (s b W : Nat) (q : St) (V : Int → Int → Int) (vi vl : Value) (n : Nat) (fl : Nat → Int) (gz : Nat) (Gn : Nat → Bool) : Prop where
  two : Two B w0 w P s b W q V vi vl n n idf fl
  row : w.rowIs gz 4 n (fun j => .bool (Gn j))
  pg : ¬ P gz
  bg : B ≤ gz
section
variable {B : Nat} {w0 w : World} {P : Nat → Prop} {s b W : Nat} {q : St} {V : Int → Int → Int} {vi vl : Value} {n : Nat} {fl : Nat → Int} {gz : Nat} {Gn : Nat → Bool}
theorem Tri.turn {w' : World} {q' : St} {V' : Int → Int → Int} (h : Tri B w0 w P s b W q V vi vl n fl gz Gn) (ht : EnvT B w0 w P s b W q' V' w') : ∃ P', Tri B w0 w' P' s b W q' V' vi vl n fl gz Gn := by
  obtain ⟨P', hT, hB, hW⟩ := h.two.turn ht
  have r := row_turn h.row h.pg hB hW
  exact ⟨P', hT, r.1, r.2, h.bg⟩
theorem Tri.below {w' : World} (h : Tri B w0 w P s b W q V vi vl n fl gz Gn) (hb : Below w.heap.size w w') : Tri B w0 w' P s b W q V vi vl n fl gz Gn :=
  ⟨h.two.below hb, h.row.of_block (hb.block _ h.row.lt), h.pg, h.bg⟩
theorem Mine.ne_row {v : Value} {m k : Nat} {f : Nat → Int} {F : Nat → Value} (h : Mine w B v m f) (hr : w.rowIs gz 4 n F) (hk : v.ownBlock = some k) : k ≠ gz := by
  rintro rfl
  obtain ⟨c, hc, _⟩ := hr
  rcases h.2 with ⟨rfl, _⟩ | ⟨g, cap, cur, rfl, _, h2, _⟩
  · simp [Value.ownBlock] at hk
  · simp only [Value.ownBlock, Option.some.injEq] at hk
    subst hk
    rw [hc] at h2; simp at h2
theorem Tri.mark (h : Tri B w0 w P s b W q V vi vl n fl gz Gn) (k : Nat) : Tri B w0 (w.setCell ⟨gz, k, none⟩ (.bool true)) P s b W q V vi vl n fl gz (updB Gn k) :=
  ⟨⟨h.two.env.other h.pg h.bg k _, h.two.ids.of_block fun j hj => Below.heap_setCell _ _ _ _ (h.two.ids.ne_row h.row hj), h.two.lens.of_block fun j hj => Below.heap_setCell _ _ _ _ (h.two.lens.ne_row h.row hj), h.two.pi, h.two.pl, h.two.ne⟩,
    (h.row.set k (.bool true)).congr fun j _ => by unfold updB; split <;> rfl, h.pg, h.bg⟩
theorem x_drop (h : Tri B w0 w P s b W q V vi vl n fl gz Gn) {A m : Int} (hh : Hs q A m) :
    Calls Try.prog 17 #[.pointer (some ⟨s, 0, none⟩), .int .i64 A] w fun e w' => ∃ q' P', e = .returned (.int .i64 0) ∧ Hid (q'.xs.map (fun z => (z.id, z.n)) = (q.xs.map (fun z => (z.id, z.n))).filter (fun p => decide (p.1 ≠ A)) ∧ q'.given = q.given ∧ q'.half = q.half ∧ q'.c.on = q.c.on) ∧ Tri B w0 w' P' s b W q' V vi vl n fl gz Gn := by
  obtain ⟨x, hx, rfl, rfl⟩ := hh.ary
  obtain ⟨f, hI, _⟩ := h.two.env.inv
  refine (e_drop h.two.env hx).mono ?_
  rintro e w' ⟨rfl, hT⟩
  obtain ⟨P', hT'⟩ := h.turn hT
  exact ⟨droppedSt q (pos q.xs x.id) x.n, P', rfl, ⟨drop_shape hI.sorted (hI.at_id hx).2, rfl, rfl, rfl⟩, hT'⟩
theorem x_begin (h : Tri B w0 w P s b W q V vi vl n fl gz Gn) (hoff : q.c.on = false) :
    Calls Try.prog 18 #[.pointer (some ⟨s, 0, none⟩)] w fun e w' => ∃ q' P', e = .returned (.int .i64 0) ∧ Hid (q' = begunSt q) ∧ Tri B w0 w' P' s b W q' V vi vl n fl gz Gn := by
  refine (e_begin h.two.env hoff).mono ?_
  rintro e w' ⟨rfl, hT⟩
  obtain ⟨P', hT'⟩ := h.turn hT
  exact ⟨begunSt q, P', rfl, (rfl : _ = _), hT'⟩
theorem x_step (h : Tri B w0 w P s b W q V vi vl n fl gz Gn) (hon : q.c.on = true) (g : Int) (hg : 0 ≤ g ∧ g < 3) (hgi : q.given ≤ 1000000000) :
    Calls Try.prog 19 #[.pointer (some ⟨s, 0, none⟩), .int .i64 g] w fun e w' => ∃ q' P' m, e = .returned (.tuple #[.bool m, .int .i64 0]) ∧ Hid (m = q'.c.on) ∧ Hid (Stepped q q') ∧ Tri B w0 w' P' s b W q' V vi vl n fl gz Gn := by
  refine (e_step h.two.env hon g hg hgi).mono ?_
  rintro e w' ⟨q', rfl, hst, hT⟩
  obtain ⟨P', hT'⟩ := h.turn hT
  exact ⟨q', P', _, rfl, (rfl : _ = _), hst, hT'⟩
theorem x_get (h : Tri B w0 w P s b W q V vi vl n fl gz Gn) {A m : Int} (hh : Hs q A m) (g i : Int) (hg : 0 ≤ g ∧ g < 3) (hi : 0 ≤ i ∧ i < m) :
    Calls Try.prog 13 #[.pointer (some ⟨s, 0, none⟩), .int .i64 g, .int .i64 A, .int .i64 i] w fun e w' => ∃ P', e = .returned (.tuple #[.int .i64 (V A i), .int .i64 0]) ∧ Tri B w0 w' P' s b W q V vi vl n fl gz Gn := by
  refine (h_get h.two.env hh g i hg hi).mono ?_
  rintro e w' ⟨rfl, hT⟩
  obtain ⟨P', hT'⟩ := h.turn hT
  exact ⟨P', rfl, hT'⟩
end
theorem Mine.cell2 {w : World} {B p cap n m i : Nat} {f : Nat → Int} (h : Mine w B (.slice (some ⟨p, 0, none⟩) m cap) n f) (hi : i < n) : w.cell? ⟨p, i, none⟩ = some (.int .i64 (f i)) := by
  obtain ⟨p', e, hc⟩ := h.cellAt (by omega)
  simp only [Option.some.injEq, Addr.mk.injEq] at e
  obtain ⟨rfl, _⟩ := e
  exact hc i hi
theorem Lst_le4 {K : Nat → Int} {Gn : Nat → Bool} : ∀ {n : Nat}, (∀ j, j < n → 0 ≤ K j ∧ K j < 100) → 0 ≤ sumP 4 (Lst K Gn n) ∧ sumP 4 (Lst K Gn n) ≤ 104 * n
  | 0, _ => by simp [Lst, sumP]
  | n + 1, h => by
    have ih := Lst_le4 (Gn := Gn) (n := n) fun j hj => h j (by omega)
    have hn := h n (by omega)
    simp only [Lst, sumP_append]
    split
    · simp only [sumP]; omega
    · simp only [sumP]; omega
def C3 (q : St) (V : Int → Int → Int) (K : Nat → Int) (Gn : Nat → Bool) (n : Nat) : Prop := q.xs.map (fun z => (z.id, z.n)) = Lst K Gn n ∧ q.given = n ∧ q.half = 2000 ∧ Kv V K n
theorem C3.hs {q : St} {V : Int → Int → Int} {K : Nat → Int} {Gn : Nat → Bool} {n : Nat} (h : C3 q V K Gn n) {j : Nat} (hj : j < n) (hg : Gn j = false) : Hs q ((j : Int) + 1) (K j) := by
  unfold Hs; rw [h.1]; exact Lst_mem.2 ⟨j, hj, hg, rfl⟩
theorem C3.not {q : St} {V : Int → Int → Int} {K : Nat → Int} {Gn : Nat → Bool} {n : Nat} (h : C3 q V K Gn n) {j : Nat} (hg : Gn j = true) : has q.xs ((j : Int) + 1) = false := by
  cases hh : has q.xs ((j : Int) + 1) with
  | false => rfl
  | true =>
    obtain ⟨x, hx, e⟩ := (has_iff _ _).1 hh
    have : (x.id, x.n) ∈ Lst K Gn n := by rw [← h.1]; exact List.mem_map.2 ⟨x, hx, rfl⟩
    obtain ⟨i, _, h2, h3⟩ := Lst_mem.1 this
    simp only [Prod.mk.injEq] at h3
    have : i = j := by omega
    subst this
    rw [hg] at h2; simp at h2
set_option maxRecDepth 20000 in
set_option maxHeartbeats 8000000 in
theorem cycles_walk (v1 v2 : Value) (N1 N2 : Nat) (f1 f2 : Nat → Int) (w : World) (hv1 : Ints w v1 N1 f1) (hv2 : Ints w v2 N2 f2) : Calls Try.prog 4 #[v1, v2] w fun e w' => e = .returned (.bool true) ∧ Below w.heap.size w w' := by
  obtain ⟨ao1, cap1, rfl, hv10⟩ := hv1
  have H1 : Hid (N1 = 0 ∨ ∃ B o : Nat, ao1 = some ⟨B, o, none⟩ ∧ B < w.heap.size ∧ ∀ i, i < N1 → w.cell? ⟨B, o + i, none⟩ = some (.int .i64 (f1 i))) := hv10
  obtain ⟨ao2, cap2, rfl, hv20⟩ := hv2
  have H2 : Hid (N2 = 0 ∨ ∃ B o : Nat, ao2 = some ⟨B, o, none⟩ ∧ B < w.heap.size ∧ ∀ i, i < N2 → w.cell? ⟨B, o + i, none⟩ = some (.int .i64 (f2 i))) := hv20
  clear hv10 hv20
  go_enter Try.func4, Try.ntmps4
  go_wp2_with (first
    | (go_at_call 14; refine (awake_any w).mono ?_; rintro e w1 ⟨rfl, hb1⟩)
    | (go_at_call 7; refine (begun_ok 0 4000 w1 (by omega) (by omega)).mono ?_; rintro e w2 ⟨s, b, P, rfl, hG, hb2, hP⟩; obtain ⟨P2, E2⟩ := Env.first hG hb2 hP hb1 hb1.size; clear hG hP))
  have T2 : Hid (Two w.heap.size w w2 P2 s b (0 + 4000 : Int).toNat (q0 0 (4000 / 2)) (fun _ _ => 0) (.slice none 0 0) (.slice none 0 0) 0 0 idf (fun _ => 0)) := ⟨E2, Mine.nil _ _ _, Mine.nil _ _ _, fun k hk => by simp [Value.ownBlock] at hk, fun k hk => by simp [Value.ownBlock] at hk, fun k hk => by simp [Value.ownBlock] at hk⟩
  clear E2 hb1 hb2
  go_loopg [8, 9, 10, 11, 12, 13, 14, 15] 13 (fun kx s8 s9 s10 s11 s12 s13 s14 s15 wr => ∃ i : Nat, s11 = .int .i64 i ∧ i ≤ 12 ∧ i ≤ N1 ∧ 12 - i ≤ kx ∧ ∃ P q V K S, s10 = .int .i64 S ∧ 0 ≤ S ∧ S ≤ 100 * i ∧ Two w.heap.size w wr P s b (0 + 4000 : Int).toNat q V s8 s9 i i idf K ∧ Hid (C1 q V K (fun _ => false) i ∧ S = tot K i))
  case atStart => exact ⟨0, rfl, by omega, by omega, by omega, P2, _, _, _, 0, rfl, by omega, by omega, T2.out, ⟨rfl, rfl, by kernel_rfl, by show (0 : Int) ≤ _; omega, rfl, fun j hj => by omega⟩, rfl⟩
  case round =>
    clear T2
    obtain ⟨i, rfl, hi1, hi2, hkx, P, q, V, K, S, rfl, hS0, hS1, T, HC⟩ := hrel
    by_cases hlt : i < N1 ∧ i < 12
    · obtain ⟨Bs, o, rfl, hBs, hcell⟩ := H1.out.resolve_left (by omega)
      have cz : wr.cell? ⟨Bs, o + i, none⟩ = some (.int .i64 (f1 i)) := (World.cell?_of_block (a := ⟨Bs, o + i, none⟩) (T.env.bel.block Bs hBs)).trans (hcell i hlt.1)
      obtain ⟨a, ha, ha1⟩ := at_100 (f1 i)
      generalize f1 i = z at *
      clear hcell
      have hl1 : (i : Int) < (N1 : Int) := by omega
      have hl2 : (i : Int) < 12 := by omega
      go_wp2_with (first
        | (go_at_call 15; refine (t_make T i a HC.out.1.2.1 (by omega) (by rw [HC.out.1.2.2.1]; have := HC.out.1.2.2.2.1; omega) (by omega)).mono ?_; rintro e u1 ⟨q1, V1, P1, rfl, HQ1, T1⟩)
        | (go_at_call 12; refine (num_any _ _).mono ?_; rintro e w9 ⟨rfl, hw9⟩; replace hw9 := hw9.symm; subst hw9))
      have HC1 : Hid (q1.xs.map (fun z => (z.id, z.n)) = Lst K (fun _ => false) i ++ [((i : Int) + 1, (a : Int))] ∧ q1.given = i + 1 ∧ q1.half = 2000 ∧ q1.taken ≤ 103 * (i + 1) ∧ q1.c.on = false ∧ ∀ id t, id ≠ (i : Int) + 1 → V1 id t = V id t) := by
        obtain ⟨rfl, rfl⟩ := HQ1.out
        obtain ⟨⟨n1, n2, n3, n4, n5, n6⟩, n7⟩ := HC.out
        refine ⟨?_, by show q.given + 1 = _; omega, n3, by show q.taken + ((a : Int) + 4) ≤ _; omega, n5, fun id t hid => if_neg (by omega)⟩
        show (q.xs ++ [(⟨q.given + 1, topOf q, a⟩ : Ary)]).map _ = _
        rw [List.map_append, n1]
        simp [n2]
      have T1' : Hid (Two w.heap.size w u1 P1 s b (0 + 4000 : Int).toNat q1 V1 u8 u9 i i idf K) := T1
      have hHs : Hid (Hs q1 ((i : Int) + 1) a) := by
        show ((i : Int) + 1, (a : Int)) ∈ q1.xs.map _
        rw [HC1.out.1]; simp
      clear T T1 HQ1
      go_loopg [15] 101 (fun kx s15 wx => ∃ j : Nat, s15 = .int .i64 j ∧ j ≤ a ∧ a - j ≤ kx ∧ ∃ P V', Two w.heap.size w wx P s b (0 + 4000 : Int).toNat q1 V' u8 u9 i i idf K ∧ Hid ((∀ id t, id ≠ (i : Int) + 1 → V' id t = V id t) ∧ ∀ t : Nat, t < j → V' ((i : Int) + 1) t = 100 * ((i : Int) + 1) + t))
      case atStart => exact ⟨0, rfl, by omega, by omega, P1, V1, T1'.out, HC1.out.2.2.2.2.2, fun t ht => by omega⟩
      case round =>
        clear T1'
        obtain ⟨j, rfl, hj1, hj2, P, V', T, HV⟩ := hrel
        by_cases hja : j < a
        · have hl3 : (j : Int) < (a : Int) := by omega
          go_wp2_with (go_at_call 16; refine (t_set T hHs.out 0 j _ (by omega) (by omega)).mono ?_; rintro e u2 ⟨rfl, P2, T2⟩)
          go_roundg (a - (j + 1))
          case measure => omega
          case rel =>
            refine ⟨j + 1, by go_num, by omega, by omega, P2, _, T2, fun id t hid => ?_, fun t ht => ?_⟩
            · unfold updV; rw [if_neg (fun r => hid r.1)]; exact HV.out.1 id t hid
            · unfold updV
              by_cases e : (t : Int) = (j : Int)
              · rw [if_pos ⟨rfl, e⟩, e]
              · rw [if_neg (fun r => e r.2)]; exact HV.out.2 t (by omega)
        · obtain rfl : j = a := by omega
          have hl3 : ¬ (j : Int) < (j : Int) := by omega
          go_wp2_with (first
            | (at_builtin; obtain ⟨p2, c2, u3, hrun2, T3⟩ := T2.app_lens (j : Int) (by omega); refine wpList_app _ _ hrun2 rfl rfl rfl rfl rfl ?_; clear hrun2)
            | (at_builtin; obtain ⟨p1, c1, u2, hrun1, T2⟩ := T.app_ids ((i : Int) + 1) (by omega); refine wpList_app _ _ hrun1 rfl rfl rfl rfl rfl ?_; clear hrun1))
          go_roundg (12 - (i + 1))
          case measure => omega
          case rel =>
            obtain ⟨⟨n1, n2, n3, n4, n5, n6⟩, n7⟩ := HC.out
            obtain ⟨m1, m2, m3, m4, m5, m6⟩ := HC1.out
            have eK : ∀ t, t < i → K t = cat i K (fun _ => (j : Int)) t := fun t ht => by simp [cat, ht]
            have eI : cat i K (fun _ => (j : Int)) i = (j : Int) := by simp [cat]
            have eT : ∀ n, n ≤ i → tot (cat i K (fun _ => (j : Int))) n = tot K n := by
              intro n
              induction n with
              | zero => intro _; rfl
              | succ n ih => intro hn; simp only [tot]; rw [ih (by omega), ← eK n (by omega)]
            refine ⟨i + 1, by go_num, by omega, by omega, by omega, P, q1, V', cat i K (fun _ => (j : Int)), S + j, by go_num, by omega, by omega, T3.congr (fun t ht => ?_) (fun _ _ => rfl), ⟨?_, by rw [m2]; omega, m3, by omega, m5, ?_⟩, ?_⟩
            · unfold cat; split
              · rfl
              · have : t = i := by omega
                subst this; rfl
            · rw [m1]
              show _ = Lst (cat i K (fun _ => (j : Int))) (fun _ => false) i ++ _
              rw [← Lst_congr eK, eI]; simp
            · intro t ht
              by_cases e : t = i
              · subst e
                rw [eI]
                exact ⟨by omega, by omega, fun y hy => HV.out.2 y (by omega)⟩
              · rw [← eK t (by omega)]
                refine ⟨(n6 t (by omega)).1, (n6 t (by omega)).2.1, fun y hy => ?_⟩
                rw [HV.out.1 _ _ (by omega)]
                exact (n6 t (by omega)).2.2 y hy
            · simp only [tot]; rw [eT i (by omega), eI, n7]
    · have hl : ¬ (i : Int) < (N1 : Int) ∨ ((i : Int) < (N1 : Int) ∧ ¬ (i : Int) < 12) := by omega
      obtain ⟨aoi, capi, rfl⟩ := T.ids.form
      obtain ⟨aol, capl, rfl⟩ := T.lens.form
      have hmk := run_make_row' (P := Try.prog) 48 4 (.bool false) 1 Try.underlying48 info4 rfl .i64 .i64 i (by omega) (by omega)
      have hTm : Hid (Tri w.heap.size w (wr.alloc (.cells (madeCells #[.bool false] i) 4)) P s b (0 + 4000 : Int).toNat q V (.slice aoi i capi) (.slice aol i capl) i K wr.heap.size (fun _ => false)) :=
        ⟨T.below ((Below.refl _ _).alloc (Nat.le_refl _) _), World.rowIs_made wr (.bool false) i 4, fun r => by have := T.env.lt _ r; omega, T.env.size⟩
      have HC3 : Hid (C3 q V K (fun _ => false) i ∧ q.c.on = false ∧ S = tot K i) := ⟨⟨HC.out.1.1, HC.out.1.2.1, HC.out.1.2.2.1, HC.out.1.2.2.2.2.2⟩, HC.out.1.2.2.2.2.1, HC.out.2⟩
      clear T HC hlt
      generalize hgz : wr.heap.size = gz at *
      rcases hl with hl | ⟨hl1, hl2⟩
      all_goals
        go_wp2
        go_loopg [17, 18] 7 (fun kx s17 s18 wr => ∃ e : Nat, s17 = .int .i64 e ∧ e ≤ 6 ∧ e ≤ N2 ∧ 6 - e ≤ kx ∧ ∃ P q Gn, Tri w.heap.size w wr P s b (0 + 4000 : Int).toNat q V (.slice aoi i capi) (.slice aol i capl) i K gz Gn ∧ Hid (C3 q V K Gn i ∧ q.c.on = false ∧ S = tot K i))
        case atStart => exact ⟨0, rfl, by omega, by omega, by omega, P, q, _, hTm.out, HC3.out⟩
        case round =>
          clear hTm HC3 hmk
          obtain ⟨e, rfl, he1, he2, hek, P, q, Gn, T, HC⟩ := hrel
          by_cases hlt : e < N2 ∧ e < 6 ∧ 0 < i
          · obtain ⟨Bs, o, rfl, hBs, hcell⟩ := H2.out.resolve_left (by omega)
            have cz : wr.cell? ⟨Bs, o + e, none⟩ = some (.int .i64 (f2 e)) := (World.cell?_of_block (a := ⟨Bs, o + e, none⟩) (T.two.env.bel.block Bs hBs)).trans (hcell e hlt.1)
            obtain ⟨k, hk, hk1⟩ := at_word i (f2 e) (by omega) (by omega)
            generalize f2 e = z at *
            obtain ⟨p, rfl, hcI⟩ := T.two.ids.cellAt (by omega)
            have cI : wr.cell? ⟨p, k, none⟩ = some (.int .i64 ((k : Int) + 1)) := hcI k hk1
            have cG := T.row.cell hk1
            have fG := T.row.frozen k
            clear hcell hcI
            have e1 : (e : Int) < (N2 : Int) := by omega
            have e2 : (e : Int) < 6 := by omega
            have e3 : (0 : Int) < (i : Int) := by omega
            cases hg : Gn k with
            | true =>
              rw [hg] at cG
              go_wp2
              go_roundg (6 - (e + 1))
              case measure => omega
              case rel => exact ⟨e + 1, by go_num, by omega, by omega, by omega, P, q, Gn, T, HC.out⟩
            | false =>
              rw [hg] at cG
              go_wp2_with (go_at_call 17; refine (x_drop T (HC.out.1.hs hk1 hg)).mono ?_; rintro e8 u1 ⟨q1, P1, rfl, HQ1, T1⟩; have cG1 := T1.row.cell hk1; have fG1 := T1.row.frozen k)
              go_roundg (6 - (e + 1))
              case measure => omega
              case rel =>
                obtain ⟨⟨n1, n2, n3, n4⟩, n5, n6⟩ := HC.out
                obtain ⟨m1, m2, m3, m4⟩ := HQ1.out
                exact ⟨e + 1, by go_num, by omega, by omega, by omega, P1, q1, updB Gn k, T1.mark k, ⟨by rw [m1, n1, Lst_drop], by rw [m2]; exact n2, by rw [m3]; exact n3, n4⟩, by rw [m4]; exact n5, n6⟩
          · have hl5 : ¬ (e : Int) < (N2 : Int) ∨ ((e : Int) < (N2 : Int) ∧ ¬ (e : Int) < 6) ∨ ((e : Int) < (N2 : Int) ∧ (e : Int) < 6 ∧ ¬ (0 : Int) < (i : Int)) := by omega
            have HT : Hid (Tri w.heap.size w wr P s b (0 + 4000 : Int).toNat q V (.slice aoi i capi) (.slice aol i capl) i K gz Gn) := T
            obtain ⟨R, hR⟩ : ∃ R : Nat, (R : Int) = 1 + tot K i + 2 * i := ⟨(1 + tot K i + 2 * i).toNat, by have := Lst_le (K := K) (Gn := Gn) (n := i) (fun j hj => ⟨(HC.out.1.2.2.2 j hj).1, (HC.out.1.2.2.2 j hj).2.1⟩); omega⟩
            have hR1 : (R : Int) = 1 + S + 2 * i := by rw [HC.out.2.2]; exact hR
            clear hlt T hR
            rcases hl5 with e1 | ⟨e1, e2⟩ | ⟨e1, e2, e3⟩
            all_goals try (exfalso; omega)
            all_goals
              go_wp2_with (go_at_call 18; refine (x_begin HT.out HC.out.2.1).mono ?_; rintro e8 u1 ⟨q1, P1, rfl, HQ1, T1⟩)
              have HD : Hid (C3 q1 V K Gn i ∧ q1.dropped = 0 ∧ q1.c.on = true ∧ rank q1 ≤ R) := by
                obtain ⟨⟨n1, n2, n3, n4⟩, n5, n6⟩ := HC.out
                obtain ⟨ff, hI, _⟩ := HT.out.two.env.inv
                have hrk := rank_begun hI
                rw [sum_wt, n1] at hrk
                have hle := Lst_le (K := K) (Gn := Gn) (n := i) (fun j hj => ⟨(n4 j hj).1, (n4 j hj).2.1⟩)
                rw [HQ1.out]
                exact ⟨⟨n1, n2, n3, n4⟩, rfl, rfl, by omega⟩
              have T1' : Hid (Tri w.heap.size w u1 P1 s b (0 + 4000 : Int).toNat q1 V (.slice aoi i capi) (.slice aol i capl) i K gz Gn) := T1
              clear T1 HQ1 HT HC
              go_loopg [21, 22, 23, 24] (R + 2) (fun kx s21 s22 s23 s24 wx => ∃ (st : Nat) (m : Bool), s21 = .int .i64 st ∧ s22 = .bool m ∧ st ≤ R ∧ R - st ≤ kx ∧ ∃ P q, Tri w.heap.size w wx P s b (0 + 4000 : Int).toNat q V (.slice aoi i capi) (.slice aol i capl) i K gz Gn ∧ Hid (C3 q V K Gn i ∧ q.dropped = 0 ∧ m = q.c.on ∧ (m = true → rank q + st ≤ R)))
              case atStart => exact ⟨0, true, rfl, rfl, by omega, by omega, P1, q1, T1'.out, HD.out.1, HD.out.2.1, HD.out.2.2.1.symm, fun _ => by have := HD.out.2.2.2; omega⟩
              case round =>
                clear T1' HD
                obtain ⟨st, m, rfl, rfl, hst1, hst2, P, q, T, HD⟩ := hrel
                cases m with
                | true =>
                  have hrk : 1 ≤ rank q := by obtain ⟨ff, hI, _⟩ := T.two.env.inv; exact hI.rank1
                  have hrk2 := HD.out.2.2.2 rfl
                  have hbd : ¬ 8 * S + 16 * (i : Int) + 16 < (st : Int) := by omega
                  go_wp2_with (first
                    | (go_at_call 19; refine (x_step T HD.out.2.2.1.symm 1 (by omega) (by rw [HD.out.1.2.1]; omega)).mono ?_; rintro e8 u2 ⟨q2, P2, m2, rfl, HM2, HS2, T2⟩)
                    | (go_at_call 12; refine (num_any _ _).mono ?_; rintro e w9 ⟨rfl, hw9⟩; replace hw9 := hw9.symm; subst hw9))
                  go_roundg (R - (st + 1))
                  case measure => omega
                  case rel =>
                    obtain ⟨⟨n1, n2, n3, n4⟩, n5, n6, n7⟩ := HD.out
                    have hst := HS2.out
                    exact ⟨st + 1, m2, by go_num, rfl, by omega, by omega, P2, q2, T2, ⟨by rw [hst.shape]; exact n1, by rw [hst.given]; exact n2, by rw [hst.half]; exact n3, n4⟩, by rw [hst.dropped]; exact n5, HM2.out, fun r => by have := (hst.on (HM2.out ▸ r)).2.2; omega⟩
                | false =>
                  have HO : Hid (C3 q V K Gn i ∧ q.dropped = 0 ∧ q.leaving = 0) := by
                    obtain ⟨ff, hI, _⟩ := T.two.env.inv
                    exact ⟨HD.out.1, HD.out.2.1, (hI.off HD.out.2.2.1.symm).1⟩
                  have hbd : (st : Int) ≤ 8 * S + 16 * (i : Int) + 16 := by omega
                  have T' : Hid (Tri w.heap.size w wr P s b (0 + 4000 : Int).toNat q V (.slice aoi i capi) (.slice aol i capl) i K gz Gn) := T
                  clear HD T
                  go_wp2
                  go_loopg [25, 26, 27, 28, 29, 30, 31] (i + 1) (fun kx s25 s26 s27 s28 s29 s30 s31 wx => ∃ (y : Nat) (r : Int), s26 = .int .i64 y ∧ s25 = .int .i64 r ∧ 0 ≤ r ∧ r ≤ 2000 ∧ y ≤ i ∧ i - y ≤ kx ∧ ∃ P, Tri w.heap.size w wx P s b (0 + 4000 : Int).toNat q V (.slice aoi i capi) (.slice aol i capl) i K gz Gn ∧ Hid (r = 2000 - sumP 4 (Lst K Gn y)))
                  case atStart => exact ⟨0, 2000, rfl, rfl, by omega, by omega, by omega, by omega, P, T'.out, (show (2000 : Int) = 2000 - sumP 4 (Lst K Gn 0) from by simp [Lst, sumP])⟩
                  case round =>
                    clear T'
                    obtain ⟨y, r, rfl, rfl, hr0, hr1, hy1, hy2, P, T, HR⟩ := hrel
                    by_cases hyi : y < i
                    · obtain ⟨p, rfl, hcI0⟩ := T.two.ids.cellAt (by omega)
                      obtain ⟨p2, rfl, hcL0⟩ := T.two.lens.cellAt (by omega)
                      clear hcI0 hcL0
                      obtain ⟨ky, hky, hky2⟩ : ∃ ky : Nat, K y = ky ∧ ky < 100 := ⟨(K y).toNat, by have := HO.out.1.2.2.2 y hyi; omega, by have := HO.out.1.2.2.2 y hyi; omega⟩
                      have HKY : Hid (K y = ky) := hky
                      have cI : wr.cell? ⟨p, y, none⟩ = some (.int .i64 ((y : Int) + 1)) := T.two.ids.cell2 hyi
                      have cL : wr.cell? ⟨p2, y, none⟩ = some (.int .i64 (ky : Int)) := by rw [← hky]; exact T.two.lens.cell2 hyi
                      have cG := T.row.cell hyi
                      clear hky
                      have hl7 : (y : Int) < (i : Int) := by omega
                      have hle4 := Lst_le4 (K := K) (Gn := Gn) (n := y + 1) (fun j hj => ⟨(HO.out.1.2.2.2 j (by omega)).1, (HO.out.1.2.2.2 j (by omega)).2.1⟩)
                      cases hg : Gn y with
                      | true =>
                        rw [hg] at cG
                        clear hle4
                        go_wp2_with (first
                          | (go_at_call 11; refine (e_len_no T.two.env ((y : Int) + 1) (HO.out.1.not hg)).mono ?_; rintro e8 u2 ⟨rfl, hb2⟩; have T2 := T.below hb2)
                          | (go_at_call 12; refine (num_any _ _).mono ?_; rintro e w9 ⟨rfl, hw9⟩; replace hw9 := hw9.symm; subst hw9))
                        go_roundg (i - (y + 1))
                        case measure => omega
                        case rel => exact ⟨y + 1, r, by go_num, rfl, hr0, hr1, by omega, by omega, P, T2, by simp only [Lst, hg, if_true, List.append_nil]; exact HR.out⟩
                      | false =>
                        rw [hg] at cG
                        have hrn : Hid (r - (ky : Int) - 4 = 2000 - sumP 4 (Lst K Gn (y + 1))) := by
                          have h1 := HR.out
                          have h2 := HKY.out
                          have e9 : Lst K Gn (y + 1) = Lst K Gn y ++ [((y : Int) + 1, K y)] := by simp only [Lst]; rw [if_neg (by rw [hg]; simp)]
                          show r - (ky : Int) - 4 = 2000 - sumP 4 (Lst K Gn (y + 1))
                          rw [e9, sumP_append]
                          simp only [sumP]; omega
                        have hrb : 0 ≤ r - (ky : Int) - 4 := by have := hrn.out; omega
                        have T' : Hid (Tri w.heap.size w wr P s b (0 + 4000 : Int).toNat q V (.slice (some ⟨p, 0, none⟩) i capi) (.slice (some ⟨p2, 0, none⟩) i capl) i K gz Gn) := T
                        have hHs : Hid (Hs q ((y : Int) + 1) ky) := by rw [← HKY.out]; exact HO.out.1.hs hyi hg
                        have hVk : Hid (∀ t : Nat, t < ky → V ((y : Int) + 1) t = 100 * ((y : Int) + 1) + t) := fun t ht => (HO.out.1.2.2.2 y hyi).2.2 t (by rw [HKY.out]; omega)
                        clear T hle4
                        go_wp2
                        go_loopg [29, 30, 31] (ky + 1) (fun kx s29 s30 s31 wx => ∃ j : Nat, s29 = .int .i64 j ∧ j ≤ ky ∧ ky - j ≤ kx ∧ ∃ P, Tri w.heap.size w wx P s b (0 + 4000 : Int).toNat q V (.slice (some ⟨p, 0, none⟩) i capi) (.slice (some ⟨p2, 0, none⟩) i capl) i K gz Gn)
                        case atStart => exact ⟨0, rfl, by omega, by omega, P, T'.out⟩
                        case round =>
                          clear T' cI cL cG
                          obtain ⟨j, rfl, hj1, hj2, P, T⟩ := hrel
                          have cI : wr.cell? ⟨p, y, none⟩ = some (.int .i64 ((y : Int) + 1)) := T.two.ids.cell2 hyi
                          have cL : wr.cell? ⟨p2, y, none⟩ = some (.int .i64 (ky : Int)) := by rw [← HKY.out]; exact T.two.lens.cell2 hyi
                          by_cases hjk : j < ky
                          · have hl8 : (j : Int) < (ky : Int) := by omega
                            have hvj := hVk.out j hjk
                            go_wp2_with (first
                              | (go_at_call 13; refine (x_get T hHs.out 2 j (by omega) (by omega)).mono ?_; rintro e8 u2 ⟨P2, rfl, T2⟩; rw [hvj]; have cI2 : u2.cell? ⟨p, y, none⟩ = some (.int .i64 ((y : Int) + 1)) := T2.two.ids.cell2 hyi)
                              | (go_at_call 12; refine (num_any _ _).mono ?_; rintro e w9 ⟨rfl, hw9⟩; replace hw9 := hw9.symm; subst hw9))
                            go_roundg (ky - (j + 1))
                            case measure => omega
                            case rel => exact ⟨j + 1, by go_num, by omega, by omega, P2, T2⟩
                          · obtain rfl : j = ky := by omega
                            have hl8 : ¬ (j : Int) < (j : Int) := by omega
                            go_wp2
                            go_roundg (i - (y + 1))
                            case measure => omega
                            case rel => exact ⟨y + 1, r - (j : Int) - 4, by go_num, by go_num, hrb, by omega, by omega, by omega, P, T, hrn.out⟩
                    · obtain rfl : y = i := by omega
                      have hl7 : ¬ (y : Int) < (y : Int) := by omega
                      have hroom : q.half - q.taken = r := by
                        obtain ⟨ff, hI, _⟩ := T.two.env.inv
                        have h1 := hI.sums
                        obtain ⟨⟨n1, n2, n3, n4⟩, n5, n6⟩ := HO.out
                        rw [sum_sz, n1] at h1
                        have := HR.out
                        omega
                      have hRm := e_room T.two.env
                      rw [hroom] at hRm
                      clear hroom
                      go_wp2_with (first
                        | (go_at_call 9; refine hRm.mono ?_; rintro e8 u2 ⟨rfl, hb2⟩; have E2 := T.two.env.below hb2)
                        | (go_at_call 12; refine (num_any _ _).mono ?_; rintro e w9 ⟨rfl, hw9⟩; replace hw9 := hw9.symm; subst hw9))
                      go_ret
                      exact ⟨rfl, E2.bel⟩
end Go.Proofs.Ytecjjegkdajamaa
