/- alive: which cells are reached by links from the first ones. -/
import Derived.Test.YtibnipockmnmhaaGreatMKMath
import Derived.Test.YtibnipockmnmhaaGreatMS5
import Derived.Test.YtibnipockmnmhaaGreatMC3
import Derived.Test.YtibnipockmnmhaaGreatMC7
namespace Go.Proofs.YtibnipockmnmhaaGreat
open Go.RowKit
theorem cinfo4 : (Tryz.prog.info? 4).map (fun i => (i.zero, i.size, i.bytes)) = some (some (.bool false), 1, 1) := by kernel_rfl
theorem cntB_set (A : Nat → Bool) {t : Nat} (h : A t = false) : ∀ n, cntB n (setB A t true) = cntB n A + (if t < n then 1 else 0)
  | 0 => rfl
  | n + 1 => by
    have ih := cntB_set A h n
    unfold cntB
    rw [ih]
    unfold setB
    by_cases e : n = t
    · subst e
      rw [if_pos rfl, h]
      simp
    · rw [if_neg e]
      by_cases q : t < n
      · have e1 : (if t < n + 1 then 1 else 0) = 1 := if_pos (by omega)
        rw [if_pos q, e1]; split <;> omega
      · have e1 : (if t < n + 1 then 1 else 0) = 0 := if_neg (by omega)
        rw [if_neg q, e1]; split <;> omega
/-- lv holds the first ones, and what they lead to; pend: what is still to be looked at. -/
structure Alv (n keep i : Nat) (D : Nat → Int) (lv : Nat → Bool) (pend : Int) : Prop where
  root : ∀ x, x < i → lv x = true ∨ pend = (x : Int) + 1
  clo : ∀ j, j < n → lv j = true → D j = 0 ∨ D j = pend ∨ lv (D j - 1).toNat = true
  least : ∀ P : Nat → Prop, (∀ x, x < keep → P x) → (∀ j, j < n → P j → D j ≠ 0 → P (D j - 1).toNat) → (∀ j, j < n → lv j = true → P j) ∧ (pend ≠ 0 → P (pend - 1).toNat)
section
variable {n keep i : Nat} {D : Nat → Int} {lv : Nat → Bool} {pend : Int}
theorem Alv.none (n keep : Nat) (D : Nat → Int) : Alv n keep 0 D (fun _ => false) 0 := ⟨fun x hx => by omega, fun j _ h => by simp at h, fun P _ _ => ⟨fun j _ h => by simp at h, fun h => absurd rfl h⟩⟩
/-- The next of the first ones is taken up. -/
theorem Alv.next (h : Alv n keep i D lv 0) (hi : i < keep) : Alv n keep (i + 1) D lv ((i : Int) + 1) := by
  refine ⟨fun x hx => ?_, fun j hj hl => ?_, fun P h1 h2 => ⟨(h.least P h1 h2).1, fun _ => ?_⟩⟩
  · by_cases e : x = i
    · right; rw [e]
    · rcases h.root x (by omega) with q | q
      · exact .inl q
      · omega
  · rcases h.clo j hj hl with q | q | q
    · exact .inl q
    · exact .inl q
    · exact .inr (.inr q)
  · rw [show ((i : Int) + 1 - 1).toNat = i by omega]; exact h1 i hi
/-- What is looked at is live already. -/
theorem Alv.old (h : Alv n keep i D lv pend) (hp : 1 ≤ pend) (hl : lv (pend - 1).toNat = true) : Alv n keep i D lv 0 := by
  refine ⟨fun x hx => ?_, fun j hj hj2 => ?_, fun P h1 h2 => ⟨(h.least P h1 h2).1, fun q => absurd rfl q⟩⟩
  · rcases h.root x hx with q | q
    · exact .inl q
    · left; rw [q, show ((x : Int) + 1 - 1).toNat = x by omega] at hl; exact hl
  · rcases h.clo j hj hj2 with q | q | q
    · exact .inl q
    · right; right; rw [q]; exact hl
    · exact .inr (.inr q)
/-- It is live from now on, and leads on. -/
theorem Alv.mark (h : Alv n keep i D lv pend) (hp : 1 ≤ pend ∧ pend ≤ n) : Alv n keep i D (setB lv (pend - 1).toNat true) (D (pend - 1).toNat) := by
  have hr : (pend - 1).toNat < n := by omega
  have up : ∀ x, lv x = true → setB lv (pend - 1).toNat true x = true := fun x hx => by unfold setB; split; rfl; exact hx
  have at_ : setB lv (pend - 1).toNat true (pend - 1).toNat = true := by unfold setB; rw [if_pos rfl]
  refine ⟨fun x hx => .inl ?_, fun j hj hj2 => ?_, fun P h1 h2 => ?_⟩
  · rcases h.root x hx with q | q
    · exact up x q
    · rw [show x = (pend - 1).toNat by omega]; exact at_
  · by_cases e : j = (pend - 1).toNat
    · right; left; rw [e]
    · have hj3 : lv j = true := by
        unfold setB at hj2
        rw [if_neg e] at hj2; exact hj2
      rcases h.clo j hj hj3 with q | q | q
      · exact .inl q
      · right; right; rw [q]; exact at_
      · exact .inr (.inr (up _ q))
  · obtain ⟨a, b⟩ := h.least P h1 h2
    have hpp := b (by omega)
    refine ⟨fun j hj hj2 => ?_, fun hne => h2 _ hr hpp hne⟩
    by_cases e : j = (pend - 1).toNat
    · rw [e]; exact hpp
    · unfold setB at hj2
      rw [if_neg e] at hj2
      exact a j hj hj2
end
/-- The law's row of what is live. -/
def AlS (w : World) (gl n : Nat) (lv : Nat → Bool) (u : World) : Prop := Below w.heap.size w u ∧ u.rowIs gl 4 n (fun i => .bool (lv i))
theorem AlS.put {w u : World} {gl n : Nat} {lv : Nat → Bool} (h : AlS w gl n lv u) (hg : w.heap.size ≤ gl) (i : Nat) : AlS w gl n (setB lv i true) (u.setCell ⟨gl, i, none⟩ (.bool true)) :=
  ⟨h.1.setCell hg _, (h.2.set i (.bool true)).congr (fun j _ => by unfold setB; split <;> rfl)⟩
def AlPost (w : World) (n keep : Nat) (D : Nat → Int) (e : Ending) (w' : World) : Prop := ∃ lv, e = .returned (.tuple #[.slice (some ⟨w.heap.size, 0, none⟩) n n, .int .i64 (cntB n lv : Nat)]) ∧ AlS w w.heap.size n lv w' ∧ Alv n keep keep D lv 0
set_option maxRecDepth 20000 in
set_option maxHeartbeats 2000000 in
theorem alive_ok (w : World) (n keep : Nat) (hn : n ≤ 20) (hk : keep ≤ n) (ar : Option Addr) (cr g : Nat) (D : Nat → Int) (hD : ∀ j, j < n → 0 ≤ D j ∧ D j ≤ n)
    (hr : n = 0 ∨ ∃ p, ar = some ⟨p, 0, none⟩ ∧ p < w.heap.size ∧ ∀ x, x < n → w.cell? ⟨p, x, none⟩ = some (.int .i64 ((x : Int) + 1))) (hg : g < w.heap.size) (ht : ∀ x, x < n → w.cell? ⟨g, x, none⟩ = some (.int .i64 (D x))) :
    Calls Tryz.prog 17 #[.slice ar n cr, .slice (some ⟨g, 0, none⟩) n n, .int .i64 keep] w (AlPost w n keep D) := by
  have hmk := run_make_row' (P := Tryz.prog) 44 4 (.bool false) 1 Tryz.underlying44 cinfo4 rfl .i64 .i64 n (by omega) (by omega)
  have H0 : Hid (AlS w w.heap.size n (fun _ => false) (w.alloc (.cells (madeCells #[.bool false] n) 4)) ∧ cntB n (fun _ => false) = 0) := ⟨⟨(Below.refl _ _).alloc (Nat.le_refl _) _, World.rowIs_made w (.bool false) n 4⟩, by
    clear hmk hn hk hD hr ht
    induction n with
    | zero => rfl
    | succ n ih => unfold cntB; rw [ih]; rfl⟩
  have HR : Hid (n = 0 ∨ ∃ p, ar = some ⟨p, 0, none⟩ ∧ p < w.heap.size ∧ ∀ x, x < n → w.cell? ⟨p, x, none⟩ = some (.int .i64 ((x : Int) + 1))) := hr
  have HT : Hid ((∀ j, j < n → 0 ≤ D j ∧ D j ≤ n) ∧ g < w.heap.size ∧ ∀ x, x < n → w.cell? ⟨g, x, none⟩ = some (.int .i64 (D x))) := ⟨hD, hg, ht⟩
  clear hr hg ht hD
  go_enter Tryz.func17, Tryz.ntmps17
  go_wp2
  clear hmk
  obtain ⟨gl, hgl⟩ : ∃ gl, gl = w.heap.size := ⟨_, rfl⟩
  have HG : Hid (gl = w.heap.size) := hgl
  rw [← hgl] at H0
  rw [← hgl]
  clear hgl
  go_loopg [9, 10] 22 (fun kx s9 s10 wr => ∃ (i : Nat) (lv : Nat → Bool), s9 = .int .i64 (cntB n lv : Nat) ∧ s10 = .int .i64 i ∧ i ≤ keep ∧ keep - i ≤ kx ∧ Hid (AlS w gl n lv wr ∧ Alv n keep i D lv 0))
  case atStart => exact ⟨0, fun _ => false, by rw [H0.out.2]; rfl, rfl, by omega, by omega, H0.out.1, Alv.none n keep D⟩
  case round =>
    clear H0
    obtain ⟨i, lv, rfl, rfl, hi, hkx, HI⟩ := hrel
    by_cases hik : i < keep
    · have g1 : (i : Int) < (keep : Int) := by omega
      have g2 : (i : Int) < (n : Int) := by omega
      obtain ⟨p, rfl, hp, hc⟩ := HR.out.resolve_left (by omega)
      have hbel := HI.out.1.1
      have ci : wr.cell? ⟨p, i, none⟩ = some (.int .i64 ((i : Int) + 1)) := (World.cell?_of_block (a := ⟨p, i, none⟩) (hbel.block p hp)).trans (hc i (by omega))
      have hpw : p < wr.heap.size := Nat.lt_of_lt_of_le hp hbel.size
      have HI2 : Hid (AlS w gl n lv wr ∧ Alv n keep (i + 1) D lv ((i : Int) + 1)) := ⟨HI.out.1, HI.out.2.next hik⟩
      have hc20 := cntB_le lv n
      clear HI hc hbel
      go_wp2_with fail
      clear ci
      go_loopg [9, 11] 50 (fun kx s9 s11 wx => ∃ (lx : Nat → Bool) (r : Int), s9 = .int .i64 (cntB n lx : Nat) ∧ s11 = .int .i64 r ∧ 0 ≤ r ∧ r ≤ n ∧ 2 * (n - cntB n lx) + (if r = 0 then 0 else 1) ≤ kx ∧ Hid (AlS w gl n lx wx ∧ Alv n keep (i + 1) D lx r))
      case atStart => exact ⟨lv, (i : Int) + 1, rfl, rfl, by omega, by omega, by split <;> omega, HI2.out⟩
      case round =>
        clear HI2
        obtain ⟨lx, r, rfl, rfl, hr0, hrn, hkr, HX⟩ := hrel
        have hc20 := cntB_le lx n
        by_cases hrz : r = 0
        · have g3 : (r != 0) = false := by simp [hrz]
          have HX2 : Hid (AlS w gl n lx wr ∧ Alv n keep (i + 1) D lx 0) := (by have := HX.out; rw [hrz] at this; exact this)
          clear HX hrz
          go_wp2
          go_roundg (keep - (i + 1))
          case measure => omega
          case rel => exact ⟨i + 1, lx, rfl, by go_num, by omega, by omega, HX2.out⟩
        · have g3 : (r != 0) = true := by simpa using hrz
          rw [if_neg hrz] at hkr
          obtain ⟨ρ, hρ⟩ : ∃ ρ : Nat, r = (ρ : Int) + 1 := ⟨(r - 1).toNat, by omega⟩
          have hρn : ρ < n := by omega
          have HE : Hid (r = (ρ : Int) + 1) := hρ
          have HDp := HT.out.1 ρ hρn
          have er : (r - 1).toNat = ρ := by omega
          -- what the round leaves
          obtain ⟨ly, r', hly, hfin⟩ : ∃ (ly : Nat → Bool) (r' : Int), ((lx ρ = true ∧ ly = lx ∧ r' = 0) ∨ (lx ρ = false ∧ ly = setB lx ρ true ∧ r' = D ρ)) ∧ (Alv n keep (i + 1) D ly r' ∧ cntB n ly ≤ n ∧ 2 * (n - cntB n ly) + (if r' = 0 then 0 else 1) < 2 * (n - cntB n lx) + 1 ∧ 0 ≤ r' ∧ r' ≤ n) := by
            cases hl : lx ρ with
            | true => exact ⟨lx, 0, .inl ⟨rfl, rfl, rfl⟩, HX.out.2.old (by omega) (by rw [er]; exact hl), hc20, by simp, by omega, by omega⟩
            | false =>
              have hm := HX.out.2.mark (by omega)
              rw [er] at hm
              have hcs := cntB_set lx hl n
              rw [if_pos hρn] at hcs
              have hc21 := cntB_le (setB lx ρ true) n
              refine ⟨setB lx ρ true, D ρ, .inr ⟨rfl, rfl, rfl⟩, hm, hc21, ?_, HDp.1, HDp.2⟩
              split <;> omega
          have HS : Hid (AlS w gl n lx wr) := HX.out.1
          have HF : Hid (Alv n keep (i + 1) D ly r' ∧ cntB n ly ≤ n ∧ 2 * (n - cntB n ly) + (if r' = 0 then 0 else 1) < 2 * (n - cntB n lx) + 1 ∧ 0 ≤ r' ∧ r' ≤ n) := hfin
          have HL : Hid ((lx ρ = true ∧ ly = lx ∧ r' = 0) ∨ (lx ρ = false ∧ ly = setB lx ρ true ∧ r' = D ρ)) := hly
          clear HX hfin hly hρ er HDp hrz hpw
          go_wp2_with fail
          go_loopg [9, 12, 13] 25 (fun kx s9 s12 s13 wx => ∃ (j : Nat) (lz : Nat → Bool) (x12 : Int), s9 = .int .i64 (cntB n lz : Nat) ∧ s12 = .int .i64 x12 ∧ s13 = .int .i64 j ∧ j ≤ n ∧ n - j ≤ kx ∧ Hid (AlS w gl n lz wx ∧ ((j ≤ ρ ∧ lz = lx ∧ x12 = 0) ∨ (ρ < j ∧ lz = ly ∧ x12 = r'))))
          case atStart => exact ⟨0, lx, 0, rfl, rfl, rfl, by omega, by omega, HS.out, .inl ⟨by omega, rfl, rfl⟩⟩
          case round =>
            clear HS
            obtain ⟨j, lz, x12, rfl, rfl, rfl, hj, hkj, HJ⟩ := hrel
            have hbel := HJ.out.1.1
            have hpw : p < wr.heap.size := Nat.lt_of_lt_of_le hp hbel.size
            by_cases hjn : j < n
            · have g4 : (j : Int) < (n : Int) := by omega
              obtain ⟨p', e', _, hc⟩ := HR.out.resolve_left (by omega)
              simp only [Option.some.injEq, Addr.mk.injEq, and_true] at e'
              have cj : wr.cell? ⟨p, j, none⟩ = some (.int .i64 ((j : Int) + 1)) := (World.cell?_of_block (a := ⟨p, j, none⟩) (hbel.block p hp)).trans (by have := hc j hjn; rw [← e'] at this; exact this)
              have cl := HJ.out.1.2.cell hjn
              have lgl := HJ.out.1.2.lt
              clear hc e'
              by_cases hjr : j = ρ
              · have hq := HJ.out.2
                have hq1 : lz = lx ∧ x12 = 0 := by
                  rcases hq with q | q
                  · exact ⟨q.2.1, q.2.2⟩
                  · omega
                have hcz := cntB_le lz n
                rcases HL.out with ⟨l1, l2, l3⟩ | ⟨l1, l2, l3⟩
                · have g5 : ((j : Int) + 1 == r) = true := by rw [HE.out, hjr]; simp
                  have g6 : lz j = true := by rw [hq1.1, hjr]; exact l1
                  rw [g6] at cl
                  have HN : Hid (AlS w gl n lz wr ∧ ((j + 1 ≤ ρ ∧ lz = lx ∧ x12 = 0) ∨ (ρ < j + 1 ∧ lz = ly ∧ x12 = r'))) := ⟨HJ.out.1, .inr ⟨by omega, by rw [l2]; exact hq1.1, by rw [l3]; exact hq1.2⟩⟩
                  clear HJ hq hq1 l1 l2 l3 g6 hjr hbel
                  go_wp2
                  go_roundg (n - (j + 1))
                  case measure => omega
                  case rel => exact ⟨j + 1, lz, x12, rfl, rfl, by go_num, by omega, by omega, HN.out⟩
                · have g5 : ((j : Int) + 1 == r) = true := by rw [HE.out, hjr]; simp
                  have g6 : lz j = false := by rw [hq1.1, hjr]; exact l1
                  have hcs := cntB_set lz g6 n
                  rw [if_pos hjn] at hcs
                  rw [g6] at cl
                  have hgne : g ≠ gl := by have h1 := HT.out.2.1; have h2 := HG.out; omega
                  have cd : (wr.setCell ⟨gl, j, none⟩ (.bool true)).cell? ⟨g, j, none⟩ = some (.int .i64 (D j)) := (World.cell?_of_block (a := ⟨g, j, none⟩) ((heap_put _ _ hgne).trans (hbel.block g HT.out.2.1))).trans (HT.out.2.2 j hjn)
                  have lg : g < (wr.setCell ⟨gl, j, none⟩ (.bool true)).heap.size := by have := HT.out.2.1; have := hbel.size; simp [World.setCell]; omega
                  have fz := HJ.out.1.2.frozen j
                  have HN : Hid (AlS w gl n (setB lz j true) (wr.setCell ⟨gl, j, none⟩ (.bool true)) ∧ ((j + 1 ≤ ρ ∧ setB lz j true = lx ∧ D j = 0) ∨ (ρ < j + 1 ∧ setB lz j true = ly ∧ D j = r'))) := ⟨HJ.out.1.put (by rw [HG.out]; exact Nat.le_refl _) j, .inr ⟨by omega, by rw [l2, hq1.1, hjr], by rw [l3, hjr]⟩⟩
                  have HC : Hid (((cntB n lz : Nat) : Int) + 1 = ((cntB n (setB lz j true) : Nat) : Int)) := (by rw [hcs]; rfl : _ = _)
                  clear HJ hq hq1 l1 l2 l3 g6 hjr hbel hcs hgne
                  go_wp2
                  go_roundg (n - (j + 1))
                  case measure => omega
                  case rel => exact ⟨j + 1, setB lz j true, D j, by rw [← HC.out], rfl, by go_num, by omega, by omega, HN.out⟩
              · have g5 : ((j : Int) + 1 == r) = false := by rw [HE.out]; simp; omega
                have HN : Hid (AlS w gl n lz wr ∧ ((j + 1 ≤ ρ ∧ lz = lx ∧ x12 = 0) ∨ (ρ < j + 1 ∧ lz = ly ∧ x12 = r'))) := ⟨HJ.out.1, HJ.out.2.imp (fun q => ⟨by omega, q.2⟩) (fun q => ⟨by omega, q.2⟩)⟩
                clear HJ hjr hbel cl lgl
                go_wp2
                go_roundg (n - (j + 1))
                case measure => omega
                case rel => exact ⟨j + 1, lz, x12, rfl, rfl, by go_num, by omega, by omega, HN.out⟩
            · have g4 : ¬ (j : Int) < (n : Int) := by omega
              have hq : lz = ly ∧ x12 = r' := by
                rcases HJ.out.2 with q | q
                · omega
                · exact q.2
              have HN : Hid (AlS w gl n ly wr) := (by have := HJ.out.1; rw [hq.1] at this; exact this)
              have E1 : Hid (lz = ly ∧ x12 = r') := hq
              clear HJ hq hbel
              go_wp2
              go_roundg (2 * (n - cntB n ly) + (if r' = 0 then 0 else 1))
              case measure => have := HF.out.2.2.1; omega
              case rel => exact ⟨ly, r', by rw [E1.out.1], by rw [E1.out.2], HF.out.2.2.2.1, HF.out.2.2.2.2, Nat.le_refl _, HN.out, HF.out.1⟩
    · have g1 : ¬ (i : Int) < (keep : Int) := by omega
      have HN : Hid (AlS w gl n lv wr ∧ Alv n keep keep D lv 0) := (by have := HI.out; rw [show i = keep by omega] at this; exact this)
      clear HI
      go_wp2
      go_ret2
      refine ⟨lv, by rw [← HG.out]; rfl, ?_, HN.out.2⟩
      rw [← HG.out]; exact HN.out.1
end Go.Proofs.YtibnipockmnmhaaGreat
/- CollectEnds' heap: cells with one link each. -/
namespace Go.Proofs.YtibnipockmnmhaaGreat
open Go.RowKit
def ownB2 (u v : Value) (k : Nat) : Prop := u.ownBlock = some k ∨ v.ownBlock = some k
/-- The sizes as a row. -/
def lst (L : Nat → Nat) : Nat → List Int
  | 0 => []
  | j + 1 => lst L j ++ [(L j : Int)]
theorem lst_len (L : Nat → Nat) : ∀ j, (lst L j).length = j
  | 0 => rfl
  | j + 1 => by rw [lst, List.length_append, lst_len L j]; rfl
theorem lst_get (L : Nat → Nat) : ∀ {j x : Nat}, x < j → (lst L j)[x]? = some ((L x : Int))
  | 0, x, h => by omega
  | j + 1, x, h => by
    rw [lst]
    by_cases e : x < j
    · rw [List.getElem?_append_left (by rw [lst_len]; exact e)]; exact lst_get L e
    · obtain rfl : x = j := by omega
      rw [List.getElem?_append_right (by rw [lst_len]; exact Nat.le_refl _), lst_len, Nat.sub_self]; rfl
theorem lst_congr {L L' : Nat → Nat} : ∀ j, (∀ x, x < j → L x = L' x) → lst L j = lst L' j
  | 0, _ => rfl
  | j + 1, h => by rw [lst, lst, lst_congr j (fun x hx => h x (by omega)), h j (by omega)]
def sumL (L : Nat → Nat) : Nat → Nat
  | 0 => 0
  | j + 1 => sumL L j + L j
theorem sumL_congr {L L' : Nat → Nat} : ∀ j, (∀ x, x < j → L x = L' x) → sumL L j = sumL L' j
  | 0, _ => rfl
  | j + 1, h => by rw [sumL, sumL, sumL_congr j (fun x hx => h x (by omega)), h j (by omega)]
theorem sumL_le {L : Nat → Nat} {b : Nat} : ∀ j, (∀ x, x < j → L x ≤ b) → sumL L j ≤ b * j
  | 0, _ => Nat.zero_le _
  | j + 1, h => by
    have h1 := sumL_le j (fun x hx => h x (by omega))
    have h2 := h j (by omega)
    rw [sumL, Nat.mul_succ]; omega
def kd2 (x : Nat) : Int := if x % 2 = 0 then 1 else 3
/-- n cells, of L words each, the last of which is D; P the first thread's roots. -/
structure EnB (n : Nat) (L : Nat → Nat) (D : Nat → Int) (P : List Int) (X : Cm) : Prop where
  T : X.T = 2
  W : X.W = 16384
  ph : X.ph = 0
  lk : ¬ X.tr.ln < X.tr.lw
  all : allB X.T X.A = true
  len : X.S.length = n
  cell : ∀ x, x < n → ∃ a, X.S[x]? = some (some ⟨kd2 x, x, L x, a⟩)
  rt0 : X.rt 0 = P
  rt1 : X.rt 1 = []
  word : ∀ x, x < n → ∀ j, j < L x → X.F x j = if j + 1 = L x then D x else 0
  sum : sumS X.S = sumL L n + 16 * n
  cy : X.cy = 0
  big : ∀ x, x < n → 1 ≤ L x ∧ L x ≤ 40
section
variable {B : Nat} {w0 w w' : World} {hb : Nat} {u v : Value} {n a b c : Nat} {L : Nat → Nat} {D : Nat → Int} {P : List Int} {X : Cm}
theorem EnB.rfs (h : EnB n L D P X) {x : Nat} (hx : x < n) : rfs X.S ((x : Int) + 1) = L x := by
  obtain ⟨a, ha⟩ := h.cell x hx
  unfold Go.Proofs.YtibnipockmnmhaaGreat.rfs
  rw [celOf_at, ha]
  show (if kd2 x = 1 ∨ kd2 x = 3 then L x else 0) = L x
  rw [if_pos (by unfold kd2; split <;> simp)]
theorem EnB.nums (h : EnB n L D P X) : nums 0 X.S = seg 0 n := by
  have hs : ∀ (S : List (Option Cel)) (k : Nat), (∀ x, x < S.length → ∃ c, S[x]? = some (some c)) → Go.Proofs.YtibnipockmnmhaaGreat.nums k S = seg k S.length := by
    intro S
    induction S with
    | nil => intro k _; rfl
    | cons o S ih =>
      intro k hS
      obtain ⟨c, hc⟩ := hS 0 (by simp)
      simp at hc
      subst hc
      have h2 := ih (k + 1) (fun x hx => by have := hS (x + 1) (by simp; omega); simpa using this)
      have h3 : ∀ m, seg k (m + 1) = ((k : Int) + 1) :: seg (k + 1) m := by
        intro m
        induction m with
        | zero => simp [seg]
        | succ m im => rw [seg, im, seg, List.cons_append]; congr 3; omega
      rw [List.length_cons, h3, ← h2]
      rfl
  have := hs X.S 0 (fun x hx => by rw [h.len] at hx; obtain ⟨a, ha⟩ := h.cell x hx; exact ⟨_, ha⟩)
  rw [h.len] at this
  exact this
/-- While cells are made: a and b of them stand in the law's two rows. -/
def EnS (B : Nat) (w0 : World) (hb n a b : Nat) (L : Nat → Nat) (c : Nat) (u v : Value) (w : World) : Prop := ∃ X Z, Sd B w0 w hb X Z (ownB2 u v) ∧ Ri w B u (seg 0 a) ∧ Ri w B v (lst L b) ∧ (∀ k, u.ownBlock = some k → v.ownBlock ≠ some k) ∧ EnB n L (fun _ => 0) (seg 0 n) X ∧ X.m ≤ c
theorem EnS.bel (h : EnS B w0 hb n a b L c u v w) : Below B w0 w := let ⟨_, _, H, _⟩ := h; H.cv.hv.bel
theorem EnS.below (h : EnS B w0 hb n a b L c u v w) (q : Below w.heap.size w w') : EnS B w0 hb n a b L c u v w' := by
  obtain ⟨X, Z, H, h1, h2, h3, h4, h5⟩ := h
  exact ⟨X, Z, (H.below q).1, h1.below q, h2.below q, h3, h4, h5⟩
theorem EnS.forms (h : EnS B w0 hb n a b L c u v w) : (∃ ao cap, u = .slice ao a cap) ∧ ∃ ao cap, v = .slice ao b cap := by
  obtain ⟨X, Z, H, h1, h2, _⟩ := h
  obtain ⟨ao, cap, e⟩ := h1.form
  obtain ⟨ao2, cap2, e2⟩ := h2.form
  rw [seg_len] at e
  rw [lst_len] at e2
  exact ⟨⟨ao, cap, e⟩, ao2, cap2, e2⟩
theorem fits_two {x : Nat} {cls : Int} {k : Nat} (h1 : k ≤ 64) (h2 : 0 ≤ cls) : Fits (kd2 x) cls k := by
  unfold kd2
  split
  · exact fits_obj h1 h2
  · exact ⟨by omega, ⟨by unfold kmin; rw [if_neg (by omega)]; omega, by unfold kmax; rw [if_neg (by omega), if_neg (by omega)]; omega⟩, h2⟩
def setN (L : Nat → Nat) (i k : Nat) : Nat → Nat := fun x => if x = i then k else L x
theorem en_make (h : EnS B w0 hb n n n L c u v w) (hn : n < 20) (hc : c ≤ 100000) (k : Nat) (hk : 1 ≤ k ∧ k ≤ 40) : Calls Tryz.prog 14 #[.pointer (some ⟨hb, 0, none⟩), .int .i64 0, .int .i64 (kd2 n), .int .i64 n, .int .i64 k] w fun e w' => e = .returned (.tuple #[.int .i64 ((n : Int) + 1), .int .i64 0]) ∧ EnS B w0 hb (n + 1) n n (setN L n k) (c + 500) u v w' := by
  obtain ⟨X, Z, H, h1, h2, h3, hg, hm⟩ := h
  have hsl := sumL_le (b := 40) n (fun x hx => (hg.big x hx).2)
  refine (cmake_ok H.cv (by omega) 0 (kd2 n) n k (by rw [hg.T]; omega) (fits_two (by omega) (by omega)) (by rw [hg.rt0, seg_len]; omega) (by rw [hg.sum, hg.W]; omega)).mono ?_
  rintro e w' ⟨x, S', a, c', rfl, hAd, hT⟩
  have ex : x = n := by rw [hAd.at_, hg.len]
  subst ex
  obtain ⟨⟨Z', H'⟩, st⟩ := H.call hT rfl
  have hL : ∀ y, y < x → setN L x k y = L y := fun y hy => if_neg (by omega)
  have hLx : setN L x k x = k := if_pos rfl
  refine ⟨rfl, _, Z', H', h1.of_block (fun j hj => st j (.inl hj)), ?_, h3, ⟨hg.T, hg.W, hg.ph, hg.lk, hg.all, ?_, fun y hy => ?_, ?_, ?_, fun y hy j hj => ?_, ?_, hg.cy, fun y hy => ?_⟩, by show X.m + 500 ≤ _; omega⟩
  · rw [lst_congr x (fun y hy => hL y hy)]
    exact h2.of_block (fun j hj => st j (.inr hj))
  · show S'.length = _
    rw [hAd.eq, List.length_append, hg.len]; rfl
  · show ∃ a, S'[y]? = _
    by_cases e : y = x
    · subst e; rw [hLx]; exact ⟨a, hAd.new⟩
    · obtain ⟨a', h⟩ := hg.cell y (by omega)
      rw [hL y (by omega)]
      exact ⟨a', by rw [hAd.old y e]; exact h⟩
  · show setL X.rt 0 (X.rt 0 ++ [(x : Int) + 1]) 0 = _
    rw [hg.rt0]
    simp [setL, seg]
  · show setL X.rt 0 (X.rt 0 ++ [(x : Int) + 1]) 1 = _
    simp [setL, hg.rt1]
  · show setF X.F x (fun _ => 0) y j = _
    by_cases e : y = x
    · subst e; rw [setF_at]; split <;> rfl
    · rw [setF_else _ _ e, hL y (by omega)]
      rw [hL y (by omega)] at hj
      exact hg.word y (by omega) j hj
  · show sumS S' = _
    rw [hAd.sum, hg.sum, sumL, hLx, sumL_congr x (fun y hy => hL y hy)]
    show sumL L x + 16 * x + (k + 16) = _
    omega
  · by_cases e : y = x
    · subst e; rw [hLx]; exact hk
    · rw [hL y (by omega)]; exact hg.big y (by omega)
theorem en_app9 {ao : Option Addr} {cap : Nat} (h : EnS B w0 hb (n + 1) n b L c (.slice ao n cap) v w) (hn : n < 20) : ∃ ao' cap' w3, (appC #[39, 39] 39 #[.slice ao n cap, .slice (some ⟨w.heap.size, 0, none⟩) 1 1]).run Tryz.prog (w.alloc (.cells #[.int .i64 ((n : Int) + 1)] 3)) = .ok (.slice ao' (n + 1) cap') w3 ∧ EnS B w0 hb (n + 1) (n + 1) b L c (.slice ao' (n + 1) cap') v w3 := by
  obtain ⟨X, Z, H, h1, h2, h3, hg, hm⟩ := h
  obtain ⟨ao2, cap2, ao', cap', w3, e1, e2, e3, e4, e5, e6⟩ := H.app h1 (fun k hk => .inl hk) (by rw [seg_len]; omega) ((n : Int) + 1)
  rw [seg_len] at e1 e2 e3 e4 e6
  simp only [Value.slice.injEq] at e1
  obtain ⟨rfl, _, rfl⟩ := e1
  have e : seg 0 n ++ [(n : Int) + 1] = seg 0 (n + 1) := by simp [seg]
  rw [e] at e3
  refine ⟨ao', cap', w3, e2, X, Z, e4.less (fun k hk => hk.elim (fun q => .inr q) (fun q => .inl (.inr q))), e3, h2.of_block (fun j hj => e5 j (.inr hj) (fun q => h3 j q hj)), fun k hk hv => ?_, hg, hm⟩
  rcases e6 with q | ⟨j, q1, q2⟩
  · rw [q] at hk; exact h3 k hk hv
  · rw [q1] at hk
    simp at hk
    subst hk
    have := (h2.lt hv).2
    omega
theorem en_app10 {ao : Option Addr} {cap : Nat} (h : EnS B w0 hb (n + 1) (n + 1) n L c u (.slice ao n cap) w) (hn : n < 20) (k : Nat) (hk : L n = k) : ∃ ao' cap' w3, (appC #[39, 39] 39 #[.slice ao n cap, .slice (some ⟨w.heap.size, 0, none⟩) 1 1]).run Tryz.prog (w.alloc (.cells #[.int .i64 (k : Nat)] 3)) = .ok (.slice ao' (n + 1) cap') w3 ∧ EnS B w0 hb (n + 1) (n + 1) (n + 1) L c u (.slice ao' (n + 1) cap') w3 := by
  subst hk
  obtain ⟨X, Z, H, h1, h2, h3, hg, hm⟩ := h
  obtain ⟨ao2, cap2, ao', cap', w3, e1, e2, e3, e4, e5, e6⟩ := H.app h2 (fun k hk => .inr hk) (by rw [lst_len]; omega) (L n : Nat)
  rw [lst_len] at e1 e2 e3 e4 e6
  simp only [Value.slice.injEq] at e1
  obtain ⟨rfl, _, rfl⟩ := e1
  refine ⟨ao', cap', w3, e2, X, Z, e4.less (fun k hk => hk.elim (fun q => .inl (.inl q)) (fun q => .inr q)), h1.of_block (fun j hj => e5 j (.inl hj) (fun q => h3 j hj q)), e3, fun k hk hv => ?_, hg, hm⟩
  rcases e6 with q | ⟨j, q1, q2⟩
  · rw [q] at hv; exact h3 k hk hv
  · rw [q1] at hv
    simp at hv
    subst hv
    have := (h1.lt hk).2
    omega
/-- The links' row beside them: Dr what it holds, D what the cells hold. -/
structure EnD (B : Nat) (w0 : World) (hb n : Nat) (L : Nat → Nat) (D Dr : Nat → Int) (P : List Int) (c : Nat) (u v : Value) (g : Nat) (O : Nat → Prop) (X : Cm) (Z : Cx) (w : World) : Prop where
  sd : Sd B w0 w hb X Z (fun k => ownB2 u v k ∨ k = g ∨ O k)
  r9 : Ri w B u (seg 0 n)
  r10 : Ri w B v (lst L n)
  row : w.rowIs g 3 n (fun i => .int .i64 (Dr i))
  dis : (∀ k, u.ownBlock = some k → v.ownBlock ≠ some k) ∧ u.ownBlock ≠ some g ∧ v.ownBlock ≠ some g ∧ ¬ O g
  few : X.m ≤ c
  small : ∀ x, x < n → 0 ≤ Dr x ∧ Dr x ≤ n
def EnP (B : Nat) (w0 : World) (hb n : Nat) (L : Nat → Nat) (D Dr : Nat → Int) (P : List Int) (c : Nat) (u v : Value) (g : Nat) (w : World) : Prop := ∃ X Z, EnD B w0 hb n L D Dr P c u v g (fun _ => False) X Z w ∧ EnB n L D P X
theorem EnS.row (h : EnS B w0 hb n n n L c u v w) : EnP B w0 hb n L (fun _ => 0) (fun _ => 0) (seg 0 n) c u v w.heap.size (w.alloc (.cells (madeCells #[.int .i64 0] n) 3)) := by
  obtain ⟨X, Z, H, h1, h2, h3, hg, hm⟩ := h
  have bb : Below w.heap.size w (w.alloc (.cells (madeCells #[.int .i64 0] n) 3)) := (Below.refl _ _).alloc (Nat.le_refl _) _
  refine ⟨X, Z, ⟨H.mine (Bt.of_below bb) (fun k hk => ?_), h1.below bb, h2.below bb, World.rowIs_made w (.int .i64 0) n 3, ⟨h3, fun q => by have := (h1.lt q).2; omega, fun q => by have := (h2.lt q).2; omega, fun q => q⟩, hm, fun x hx => by omega⟩, hg⟩
  rcases hk with q | q | q
  · exact .inl q
  · exact .inr ⟨by omega, by rw [Go.Deep.nblk_alloc]; omega⟩
  · exact q.elim
theorem EnD.bel {Dr : Nat → Int} {g : Nat} {O : Nat → Prop} {Z : Cx} (h : EnD B w0 hb n L D Dr P c u v g O X Z w) : Below B w0 w := h.sd.cv.hv.bel
theorem EnD.below {Dr : Nat → Int} {g : Nat} {O : Nat → Prop} {Z : Cx} (h : EnD B w0 hb n L D Dr P c u v g O X Z w) (q : Below w.heap.size w w') : EnD B w0 hb n L D Dr P c u v g O X Z w' :=
  ⟨(h.sd.below q).1, h.r9.below q, h.r10.below q, h.row.of_block (q.block g h.row.lt), h.dis, h.few, h.small⟩
/-- A call of the heap. -/
theorem EnD.call {Dr : Nat → Int} {g c' : Nat} {O : Nat → Prop} {Z : Cx} {X' : Cm} {D' : Nat → Int} {P' : List Int} (h : EnD B w0 hb n L D Dr P c u v g O X Z w) (hT : CcT B w0 w hb Z X' w') (e : X'.T = X.T) (hm : X'.m ≤ c') : ∃ Z', EnD B w0 hb n L D' Dr P' c' u v g O X' Z' w' ∧ ∀ k, O k → w'.heap[k]? = w.heap[k]? := by
  obtain ⟨⟨Z', H'⟩, st⟩ := h.sd.call hT e
  exact ⟨Z', ⟨H', h.r9.of_block (fun j hj => st j (.inl (.inl hj))), h.r10.of_block (fun j hj => st j (.inl (.inr hj))), h.row.of_block (st g (.inr (.inl rfl))), h.dis, hm, h.small⟩, fun k hk => st k (.inr (.inr hk))⟩
/-- What the rows hold. -/
theorem EnD.cells {Dr : Nat → Int} {g : Nat} {O : Nat → Prop} {Z : Cx} {a1 a2 : Option Addr} {c1 c2 : Nat} (h : EnD B w0 hb n L D Dr P c (.slice a1 n c1) (.slice a2 n c2) g O X Z w) (hn : 0 < n) : ∃ p q, a1 = some ⟨p, 0, none⟩ ∧ a2 = some ⟨q, 0, none⟩ ∧ (p < w.heap.size ∧ q < w.heap.size ∧ g < w.heap.size) ∧ ∀ x, x < n → w.cell? ⟨p, x, none⟩ = some (.int .i64 ((x : Int) + 1)) ∧ w.cell? ⟨q, x, none⟩ = some (.int .i64 (L x : Nat)) ∧ w.cell? ⟨g, x, none⟩ = some (.int .i64 (Dr x)) := by
  obtain ⟨p, rfl, hp, _, _, hc⟩ := h.r9.cells (by rw [seg_len]; exact hn)
  obtain ⟨q, rfl, hq, _, _, hc2⟩ := h.r10.cells (by rw [lst_len]; exact hn)
  refine ⟨p, q, rfl, rfl, ⟨hp.2, hq.2, h.row.lt⟩, fun x hx => ⟨?_, hc2 x _ (lst_get L hx), h.row.cell hx⟩⟩
  have := hc x _ (seg_get 0 hx)
  rw [show ((0 : Nat) : Int) + x + 1 = (x : Int) + 1 by omega] at this
  exact this
/-- A link is written into the row. -/
theorem EnD.put {Dr : Nat → Int} {g : Nat} {Z : Cx} (h : EnD B w0 hb n L D Dr P c u v g (fun _ => False) X Z w) (i : Nat) (x : Int) (hx : 0 ≤ x ∧ x ≤ n) : EnD B w0 hb n L D (fun j => if j = i then x else Dr j) P c u v g (fun _ => False) X Z (w.setCell ⟨g, i, none⟩ (.int .i64 x)) := by
  have hB : Bt (fun k => ownB2 u v k ∨ k = g ∨ False) w (w.setCell ⟨g, i, none⟩ (.int .i64 x)) := (Bt.refl _ w).set g i _ (.inl (.inr (.inl rfl)))
  refine ⟨h.sd.mine hB (fun k hk => .inl hk), h.r9.of_block (fun j hj => heap_put _ _ (fun q => h.dis.2.1 (by rw [hj, show j = g from q]))), h.r10.of_block (fun j hj => heap_put _ _ (fun q => h.dis.2.2.1 (by rw [hj, show j = g from q]))), (h.row.set i _).congr (fun j _ => by split <;> rfl), h.dis, h.few, fun y hy => ?_⟩
  split
  · exact hx
  · exact h.small y hy
/-- A link is put into its cell. -/
theorem en_link {Dr : Nat → Int} {g i : Nat} {Z : Cx} (h : EnD B w0 hb n L D Dr P c u v g (fun _ => False) X Z w) (hg : EnB n L D P X) (hi : i < n) (hc : c ≤ 100000) (r j y : Int) (hr : r = (i : Int) + 1) (hj : j = (L i : Int) - 1) : Calls Tryz.prog 15 #[.pointer (some ⟨hb, 0, none⟩), .int .i64 0, .int .i64 r, .int .i64 j, .int .i64 y] w fun e w' => e = .returned (.int .i64 0) ∧ EnP B w0 hb n L (fun x => if x = i then y else D x) Dr P (c + 2) u v g w' := by
  subst hr hj
  obtain ⟨a, ha⟩ := hg.cell i hi
  have hb1 := hg.big i hi
  have hm := h.few
  refine (cput_ok h.sd.cv (by omega) 0 y (by rw [hg.T]; omega) ha ((L i : Int) - 1) (L i - 1) (by omega) (show L i - 1 < L i by omega)).mono ?_
  rintro e w' ⟨rfl, c', _, hT⟩
  have et : X.pw ((i : Int) + 1) ((L i : Int) - 1) = X.tr := if_neg (by rw [hg.ph]; omega)
  rw [et] at hT
  obtain ⟨Z', h', _⟩ := h.call (D' := fun x => if x = i then y else D x) (P' := P) (c' := c + 2) hT rfl (by show X.m + 2 ≤ _; omega)
  refine ⟨rfl, _, Z', h', hg.T, hg.W, hg.ph, hg.lk, hg.all, hg.len, hg.cell, hg.rt0, hg.rt1, fun x hx l hl => ?_, hg.sum, hg.cy, hg.big⟩
  dsimp only
  by_cases e : x = i
  · subst e
    rw [setF_at, if_pos rfl]
    by_cases q : l + 1 = L x
    · rw [if_pos q, if_pos (by omega)]
    · rw [if_neg q, if_neg (by omega), hg.word x hx l hl, if_neg q]
  · rw [setF_else _ _ e, if_neg e]; exact hg.word x hx l hl
theorem en_pop {Dr : Nat → Int} {g j : Nat} (h : EnP B w0 hb n L D Dr (seg 0 (j + 1)) c u v g w) : Calls Tryz.prog 16 #[.pointer (some ⟨hb, 0, none⟩), .int .i64 0] w fun e w' => (∃ x y, e = .returned (.tuple #[.int .i64 x, .int .i64 y])) ∧ EnP B w0 hb n L D Dr (seg 0 j) c u v g w' := by
  obtain ⟨X, Z, h, hg⟩ := h
  have e : X.rt 0 = seg 0 j ++ [((0 : Nat) : Int) + j + 1] := by rw [hg.rt0, seg]
  refine (cpop_ok h.sd.cv 0 (by rw [hg.T]; omega) e).mono ?_
  rintro e' w' ⟨rfl, hT⟩
  have et : X.popTr (((0 : Nat) : Int) + j + 1) = X.tr := if_neg (by rw [hg.ph]; omega)
  rw [et] at hT
  obtain ⟨Z', h', _⟩ := h.call (D' := D) (P' := seg 0 j) (c' := c) hT rfl h.few
  refine ⟨⟨_, _, rfl⟩, _, Z', h', hg.T, hg.W, hg.ph, hg.lk, hg.all, hg.len, hg.cell, ?_, ?_, hg.word, hg.sum, hg.cy, hg.big⟩
  · show setL X.rt 0 (seg 0 j) 0 = seg 0 j
    simp [setL]
  · show setL X.rt 0 (seg 0 j) 1 = []
    simp [setL, hg.rt1]
end
end Go.Proofs.YtibnipockmnmhaaGreat
/- CollectEnds' cycle. -/
namespace Go.Proofs.YtibnipockmnmhaaGreat
open Go.RowKit
def enK (n : Nat) (lv : Nat → Bool) (x : Int) : Prop := 1 ≤ x ∧ x ≤ n ∧ lv (x - 1).toNat = true
theorem enK_at {n : Nat} {lv : Nat → Bool} {x : Nat} : enK n lv ((x : Int) + 1) ↔ x < n ∧ lv x = true := by
  unfold enK
  rw [show ((x : Int) + 1 - 1).toNat = x by omega]
  constructor
  · rintro ⟨_, h2, h3⟩; exact ⟨by omega, h3⟩
  · rintro ⟨h2, h3⟩; exact ⟨by omega, by omega, h3⟩
theorem enK_nat {n : Nat} {lv : Nat → Bool} {x : Int} (h : enK n lv x) : ∃ i : Nat, x = (i : Int) + 1 ∧ i < n ∧ lv i = true := ⟨(x - 1).toNat, by unfold enK at h; omega, by unfold enK at h; omega, h.2.2⟩
/-- As many are left as are live. -/
theorem seg_cnt {lv : Nat → Bool} {f : Int → Bool} : ∀ n : Nat, (∀ x : Nat, x < n → (f ((x : Int) + 1) = true ↔ lv x = true)) → ((seg 0 n).filter f).length = cntB n lv
  | 0, _ => rfl
  | n + 1, h => by
    have ih := seg_cnt (lv := lv) (f := f) n (fun x hx => h x (by omega))
    have hx := h n (by omega)
    rw [seg, List.filter_append, List.length_append, ih]
    show _ = cntB n lv + (if lv n = true then 1 else 0)
    rw [show ((0 : Nat) : Int) + n + 1 = (n : Int) + 1 by omega]
    cases hl : lv n with
    | true => rw [List.filter_cons, if_pos (hx.2 hl)]; simp
    | false =>
      have : f ((n : Int) + 1) = false := by
        cases hf : f ((n : Int) + 1) with
        | false => rfl
        | true => rw [hx.1 hf] at hl; simp at hl
      rw [List.filter_cons, this]; simp
section
variable {B : Nat} {w0 w w' : World} {hb : Nat} {u v : Value} {n keep c g gl r : Nat} {L : Nat → Nat} {D : Nat → Int} {lv : Nat → Bool} {X : Cm}
theorem EnB.wd (h : EnB n L D (seg 0 keep) X) {x j : Nat} (hx : x < n) (hj : j < L x) : wd X ((x : Int) + 1) j = if j + 1 = L x then D x else 0 := by
  unfold Go.Proofs.YtibnipockmnmhaaGreat.wd
  rw [show ((x : Int) + 1 - 1).toNat = x by omega]
  exact h.word x hx j hj
theorem EnB.snap (h : EnB n L D (seg 0 keep) X) (hk : keep ≤ n) (hD : ∀ x, x < n → 0 ≤ D x ∧ D x ≤ n) (ha : Alv n keep keep D lv 0) : Snap (enK n lv) (Go.Proofs.YtibnipockmnmhaaGreat.wd X) X.rt X.S X.T := by
  have hroot : ∀ x, x < keep → lv x = true := fun x hx => (ha.root x hx).resolve_right (by omega)
  have hclo : ∀ j, j < n → lv j = true → D j ≠ 0 → enK n lv (D j) := fun j hj hl h0 => by
    rcases ha.clo j hj hl with q | q | q
    · exact absurd q h0
    · exact absurd q h0
    · exact ⟨by have := hD j hj; omega, (hD j hj).2, q⟩
  refine ⟨fun t ht x hx => ?_, fun x hx => ?_, fun x hx j hj => ?_, fun P hP hW => ?_⟩
  · rw [h.T] at ht
    rcases (show t = 0 ∨ t = 1 by omega) with rfl | rfl
    · rw [h.rt0, seg_mem] at hx
      right
      obtain ⟨i, rfl⟩ : ∃ i : Nat, x = (i : Int) + 1 := ⟨(x - 1).toNat, by omega⟩
      exact enK_at.2 ⟨by omega, hroot i (by omega)⟩
    · rw [h.rt1] at hx; simp at hx
  · obtain ⟨i, rfl, hi, _⟩ := enK_nat hx
    rw [h.nums, seg_mem]; omega
  · obtain ⟨i, rfl, hi, hl⟩ := enK_nat hx
    rw [h.rfs hi] at hj
    rw [h.wd hi hj]
    by_cases q : j + 1 = L i
    · rw [if_pos q]
      by_cases z : D i = 0
      · exact .inl z
      · exact .inr (hclo i hi hl z)
    · left; rw [if_neg q]
  · have hl := ha.least (fun x => lv x = true ∧ P ((x : Int) + 1)) (fun x hx => ⟨hroot x hx, hP 0 (by rw [h.T]; omega) _ (by rw [h.rt0, seg_mem]; omega) (by omega)⟩) (fun j hj hp h0 => by
      have hk2 := hclo j hj hp.1 h0
      obtain ⟨i, ei, hi, hli⟩ := enK_nat hk2
      have hb := h.big j hj
      have e : Go.Proofs.YtibnipockmnmhaaGreat.wd X ((j : Int) + 1) (L j - 1) = D j := by rw [h.wd hj (by omega), if_pos (by omega)]
      have := hW _ (enK_at.2 ⟨hj, hp.1⟩) hp.2 (L j - 1) (by rw [h.rfs hj]; omega) (by rw [e]; exact h0)
      rw [e] at this
      rw [show (D j - 1).toNat = i by omega]
      exact ⟨hli, by rw [← ei]; exact this⟩)
    intro x hx
    obtain ⟨i, rfl, hi, hli⟩ := enK_nat hx
    exact (hl.1 i hi hli).2
theorem EnB.mu (h : EnB n L D (seg 0 keep) X) (T : Tr) (hT : T.row = seg 0 n) : ∀ p, p ≤ n → musum T X.S p ≤ sumL L p + p
  | 0, _ => Nat.zero_le _
  | p + 1, hp => by
    have ih := h.mu T hT p (by omega)
    unfold musum sumL
    rw [hT, seg_get 0 (show p < n by omega), show ((0 : Nat) : Int) + p + 1 = (p : Int) + 1 by omega]
    simp only [Option.getD_some]
    rw [h.rfs (by omega)]
    split <;> omega
/-- With what is live beside them. -/
def EnL (B : Nat) (w0 : World) (hb n keep : Nat) (L : Nat → Nat) (D : Nat → Int) (c : Nat) (u v : Value) (g gl : Nat) (lv : Nat → Bool) (w : World) : Prop := ∃ X Z, EnD B w0 hb n L D D (seg 0 keep) c u v g (fun k => k = gl) X Z w ∧ EnB n L D (seg 0 keep) X ∧ w.rowIs gl 4 n (fun i => .bool (lv i))
theorem EnP.live (h : EnP B w0 hb n L D D (seg 0 keep) c u v g w) (ha : AlS w w.heap.size n lv w') : EnL B w0 hb n keep L D c u v g w.heap.size lv w' := by
  obtain ⟨X, Z, h, hg⟩ := h
  have h2 := h.below ha.1
  refine ⟨X, Z, ⟨h.sd.mine (Bt.of_below ha.1) (fun k hk => ?_), h2.r9, h2.r10, h2.row, ⟨h.dis.1, h.dis.2.1, h.dis.2.2.1, fun q => by have := h.row.lt; omega⟩, h.few, h.small⟩, hg, ha.2⟩
  rcases hk with q | q | q
  · exact .inl (.inl q)
  · exact .inl (.inr (.inl q))
  · exact .inr ⟨by omega, by rw [q]; exact ha.2.lt⟩
/-- Within the cycle, with r turns to come at most. -/
def EnC (B : Nat) (w0 : World) (hb n keep : Nat) (L : Nat → Nat) (D : Nat → Int) (c : Nat) (u v : Value) (g gl : Nat) (lv : Nat → Bool) (r : Nat) (w : World) : Prop := ∃ X Z Xb, EnD B w0 hb n L D D (seg 0 keep) (c - 500 * r) u v g (fun k => k = gl) X Z w ∧ EnB n L D (seg 0 keep) Xb ∧ w.rowIs gl 4 n (fun i => .bool (lv i)) ∧ Qz (enK n lv) (Go.Proofs.YtibnipockmnmhaaGreat.wd Xb) Xb.rt Xb.S X r ∧ X.T = 2 ∧ X.cy = 0 ∧ 500 * r ≤ c
theorem en_begin (h : EnL B w0 hb n keep L D c u v g gl lv w) (hk : keep ≤ n) (hn : n ≤ 20) (ha : Alv n keep keep D lv 0) (hc : c ≤ 100000) : Calls Tryz.prog 18 #[.pointer (some ⟨hb, 0, none⟩)] w fun e w' => e = .returned (.int .i64 0) ∧ ∃ r, r ≤ sumL L n + 2 * n + 4 ∧ r ≤ 900 ∧ EnC B w0 hb n keep L D (c + 500 * 900) u v g gl lv r w' := by
  obtain ⟨X, Z, h, hg, hl⟩ := h
  have hm := h.few
  refine (cbegin_idle h.sd.cv (by omega) hg.ph hg.all).mono ?_
  rintro e w' ⟨rfl, rr, hT⟩
  have hq := qz_begin (X := X) (hg.snap hk h.small ha) (fun _ _ => rfl) (fun _ _ _ => rfl) hg.lk 1 rr
  have hmu := hg.mu (X.tr.begun X.S) hg.nums (nums 0 X.S).length (by rw [hg.nums, seg_len]; exact Nat.le_refl _)
  have hlen : (nums 0 X.S).length = n := by rw [hg.nums, seg_len]
  have hsl := sumL_le (b := 40) n (fun x hx => (hg.big x hx).2)
  rw [hlen] at hmu hq
  obtain ⟨r, hr⟩ : ∃ r, r = musum (X.tr.begun X.S) X.S n + n + 4 := ⟨_, rfl⟩
  rw [← hr] at hq
  have h1 : r ≤ sumL L n + 2 * n + 4 := by omega
  have h2 : r ≤ 900 := by omega
  obtain ⟨Z', h', st⟩ := h.call (D' := D) (P' := seg 0 keep) (c' := c + 500 * 900 - 500 * r) hT rfl (by show X.m ≤ _; omega)
  exact ⟨rfl, r, h1, h2, _, Z', X, h', hg, hl.of_block (st gl rfl), hq, hg.T, hg.cy, by omega⟩
/-- Between a step and the answers. -/
def EnA (B : Nat) (w0 : World) (hb n keep : Nat) (L : Nat → Nat) (D : Nat → Int) (c : Nat) (u v : Value) (g gl : Nat) (lv : Nat → Bool) (r t : Nat) (b : Bool) (w : World) : Prop := ∃ X1 Z Xb X0, EnD B w0 hb n L D D (seg 0 keep) (c + 500 - 500 * r) u v g (fun k => k = gl) (ansN X1 t) Z w ∧ EnB n L D (seg 0 keep) Xb ∧ w.rowIs gl 4 n (fun i => .bool (lv i)) ∧ Qz (enK n lv) (Go.Proofs.YtibnipockmnmhaaGreat.wd Xb) Xb.rt Xb.S X0 r ∧ X0.T = 2 ∧ X0.cy = 0 ∧ 500 * r ≤ c ∧ Stp X0 X1 ∧ (X0.tr.q.Nodup ∧ ∀ p ∈ X0.tr.q, X0.tr.col p = 2) ∧ b = (X1.ph != 0)
theorem en_step (h : EnC B w0 hb n keep L D c u v g gl lv r w) (hc : c ≤ 1000000) : Calls Tryz.prog 19 #[.pointer (some ⟨hb, 0, none⟩)] w fun e w' => ∃ b, e = .returned (.tuple #[.bool b, .int .i64 0]) ∧ EnA B w0 hb n keep L D c u v g gl lv r 0 b w' := by
  obtain ⟨X, Z, Xb, h, hg, hl, hq, hT, hcy, h500⟩ := h
  have hm := h.few
  refine (cstep_ok h.sd.cv (by omega) (qz_phs hq) ⟨by omega, by omega⟩).mono ?_
  rintro e w' ⟨X1, hs, rfl, hTT⟩
  have hcost := hs.cost.2.2
  obtain ⟨Z', h', st⟩ := h.call (D' := D) (P' := seg 0 keep) (c' := c + 500 - 500 * r) hTT hs.T (by omega)
  exact ⟨_, rfl, X1, Z', Xb, X, h', hg, hl.of_block (st gl rfl), hq, hT, hcy, h500, hs, h.sd.cv.greys, rfl⟩
theorem en_ans {t : Nat} {b : Bool} (h : EnA B w0 hb n keep L D c u v g gl lv r t b w) (ht : t < 2) (i : Int) (hi : i = t) : Calls Tryz.prog 20 #[.pointer (some ⟨hb, 0, none⟩), .int .i64 i] w fun e w' => e = .returned (.int .i64 0) ∧ EnA B w0 hb n keep L D c u v g gl lv r (t + 1) b w' := by
  subst hi
  obtain ⟨X1, Z, Xb, X0, h, hg, hl, hq, hT, hcy, h500, hs, hgr, hbb⟩ := h
  have hT1 : (ansN X1 t).T = 2 := by rw [(ansN_same X1 t).1, hs.T, hT]
  refine (canswer_any h.sd.cv t (by rw [hT1]; exact ht)).mono ?_
  rintro e w' ⟨rfl, hTT⟩
  obtain ⟨Z', h', st⟩ := h.call (D' := D) (P' := seg 0 keep) (c' := c + 500 - 500 * r) hTT (ans1_same _ _).1 (by rw [(ans1_same _ _).2.2.1]; exact h.few)
  exact ⟨rfl, X1, Z', Xb, X0, h', hg, hl.of_block (st gl rfl), hq, hT, hcy, h500, hs, hgr, hbb⟩
/-- Behind the cycle. -/
def EnE (B : Nat) (w0 : World) (hb n keep : Nat) (L : Nat → Nat) (D : Nat → Int) (c : Nat) (u v : Value) (g gl : Nat) (lv : Nat → Bool) (w : World) : Prop := ∃ X Z Xb, EnD B w0 hb n L D D (seg 0 keep) c u v g (fun k => k = gl) X Z w ∧ EnB n L D (seg 0 keep) Xb ∧ w.rowIs gl 4 n (fun i => .bool (lv i)) ∧ X.T = 2 ∧ X.cy = 1 ∧ X.ph = 0 ∧ (∀ x, x < n → lv x = true → ∃ a, X.S[x]? = some (some ⟨kd2 x, x, L x, a⟩) ∧ X.F x (L x - 1) = D x) ∧ (nums 0 X.S).length = cntB n lv
theorem en_next {b : Bool} (h : EnA B w0 hb n keep L D c u v g gl lv r 2 b w) (hk : keep ≤ n) (ha : Alv n keep keep D lv 0) (hD : ∀ x, x < n → 0 ≤ D x ∧ D x ≤ n) : (b = true ∧ ∃ r', r' < r ∧ EnC B w0 hb n keep L D c u v g gl lv r' w) ∨ (b = false ∧ EnE B w0 hb n keep L D (c + 500) u v g gl lv w) := by
  obtain ⟨X1, Z, Xb, X0, h, hg, hl, hq, hT, hcy, h500, hs, hgr, hbb⟩ := h
  have hT1 : X1.T = 2 := hs.T.trans hT
  have e2 : ansN X1 2 = ansN X1 X1.T := by rw [hT1]
  rw [e2] at h
  obtain ⟨b1, b2, b3, b4, b5, b6, b7, b8, b9⟩ := ansN_same X1 X1.T
  have hr1 := qz_pos hq
  have hm := h.few
  rcases qz_turn (by rw [hT, ← hg.T]; exact hg.snap hk hD ha) hq hgr.1 hgr.2 hs with ⟨q1, r', q2, q3⟩ | ⟨q1, q2⟩
  · refine .inl ⟨by rw [hbb]; simpa using q1, r', q2, _, Z, Xb, ⟨h.sd, h.r9, h.r10, h.row, h.dis, by omega, h.small⟩, hg, hl, q3, by rw [b1, hT1], ?_, by omega⟩
    rcases hs.cyc with z | ⟨_, z⟩
    · rw [b8, z, hcy]
    · exact absurd z q1
  · have hc := qz_cyc hq hs q1
    obtain ⟨f, hf, hn⟩ := q2.there
    refine .inr ⟨by rw [hbb, q1]; rfl, _, Z, Xb, ⟨h.sd, h.r9, h.r10, h.row, h.dis, by omega, h.small⟩, hg, hl, by rw [b1, hT1], by rw [b8, hc, hcy]; rfl, by rw [b7]; exact q1, fun x hx hlx => ?_, ?_⟩
    · have hk2 : enK n lv ((x : Int) + 1) := enK_at.2 ⟨hx, hlx⟩
      obtain ⟨a, hxa⟩ := hg.cell x hx
      have hb := hg.big x hx
      have hc1 := q2.cel _ hk2
      rw [celOf_at, celOf_at, hxa] at hc1
      have hw := q2.wd _ hk2 (L x - 1)
      rw [hg.wd hx (by omega), if_pos (by omega)] at hw
      unfold Go.Proofs.YtibnipockmnmhaaGreat.wd at hw
      rw [show ((x : Int) + 1 - 1).toNat = x by omega] at hw
      refine ⟨a, ?_, hw⟩
      cases e : (ansN X1 X1.T).S[x]? with
      | none => rw [e] at hc1; simp at hc1
      | some o => rw [e] at hc1; simp at hc1; rw [hc1]
    · rw [hn, hg.nums]
      exact seg_cnt n (fun x hx => (hf ((x : Int) + 1) (by rw [hg.nums, seg_mem]; omega)).trans (enK_at.trans ⟨fun q => q.2, fun q => ⟨hx, q⟩⟩))
theorem en_refs (h : EnE B w0 hb n keep L D c u v g gl lv w) (hc : c ≤ 1000000) : Calls Tryz.prog 21 #[.pointer (some ⟨hb, 0, none⟩)] w fun e w' => (∃ ao cap, e = .returned (.slice ao (cntB n lv) cap)) ∧ EnE B w0 hb n keep L D c u v g gl lv w' := by
  obtain ⟨X, Z, Xb, h, hg, hl, h1, h2, h3, h4, h5⟩ := h
  have hm := h.few
  refine (crefs_ok h.sd.cv (by omega)).mono ?_
  rintro e w' ⟨x, rfl, hr, hb1⟩
  obtain ⟨ao, cap, rfl⟩ := hr.form
  rw [h5]
  exact ⟨⟨ao, cap, rfl⟩, X, Z, Xb, h.below hb1, hg, hl.of_block (hb1.block gl hl.lt), h1, h2, h3, h4, h5⟩
theorem en_load {i : Nat} (h : EnE B w0 hb n keep L D c u v g gl lv w) (hi : i < n) (hl1 : lv i = true) (hc : c ≤ 1000000) (r j : Int) (hr : r = (i : Int) + 1) (hj : j = (L i : Int) - 1) : Calls Tryz.prog 22 #[.pointer (some ⟨hb, 0, none⟩), .int .i64 1, .int .i64 r, .int .i64 j] w fun e w' => e = .returned (.tuple #[.int .i64 (D i), .int .i64 0]) ∧ EnE B w0 hb n keep L D (c + 1) u v g gl lv w' := by
  subst hr hj
  obtain ⟨X, Z, Xb, h, hg, hl, h1, h2, h3, h4, h5⟩ := h
  have hm := h.few
  obtain ⟨a, ha, hw⟩ := h4 i hi hl1
  have hb1 := hg.big i hi
  refine (cload_ok h.sd.cv (by omega) 1 (by rw [h1]; omega) ha ((L i : Int) - 1) (L i - 1) (by omega) (show L i - 1 < L i by omega)).mono ?_
  rintro e w' ⟨rfl, c', _, hT⟩
  obtain ⟨Z', h', st⟩ := h.call (D' := D) (P' := seg 0 keep) (c' := c + 1) hT rfl (by show X.m + 1 ≤ _; omega)
  exact ⟨by rw [hw], _, Z', Xb, h', hg, hl.of_block (st gl rfl), h1, h2, h3, h4, h5⟩
theorem en_cycles (h : EnE B w0 hb n keep L D c u v g gl lv w) : Calls Tryz.prog 23 #[.pointer (some ⟨hb, 0, none⟩)] w fun e w' => e = .returned (.int .i64 1) ∧ w' = w := by
  obtain ⟨X, Z, Xb, h, hg, hl, h1, h2, h3, h4, h5⟩ := h
  have := ccycles_ok h.sd.cv
  rw [h2] at this
  exact this
theorem en_phase (h : EnE B w0 hb n keep L D c u v g gl lv w) : Calls Tryz.prog 24 #[.pointer (some ⟨hb, 0, none⟩)] w fun e w' => e = .returned (.int .i64 0) ∧ w' = w := by
  obtain ⟨X, Z, Xb, h, hg, hl, h1, h2, h3, h4, h5⟩ := h
  have := cphase_ok h.sd.cv
  rw [h3] at this
  exact this
end
end Go.Proofs.YtibnipockmnmhaaGreat
