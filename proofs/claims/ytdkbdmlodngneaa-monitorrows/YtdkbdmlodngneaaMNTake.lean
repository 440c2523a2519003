/- A table of monitors: owns, take. -/
import Derived.Test.YtdkbdmlodngneaaMNTab
namespace Go.Proofs.Ytdkbdmlodngneaa
open Go.RowKit

section
variable {B : Nat} {w w' : World} {s bs mo mb : Nat} {wv : Value} {M : Mt} {c : Nat}
/-- What owns answers. -/
def ownA (M : Mt) (t : Nat) (obj : Int) : Int × Int := match M.ow obj with
  | some (u, d) => if u = t then (d, 0) else (0, 2001)
  | none => (0, 2001)
set_option maxRecDepth 20000 in
theorem nowns_ok (h : MnC B w s bs mo mb wv M c) {t : Nat} (ht : t < M.N) (hs : M.st t ≠ 2) {obj : Int} (hk : okI obj) : Calls Try.prog 17 #[.pointer (some ⟨s, 0, none⟩), .int .i64 t, .int .i64 obj] w fun e w' => e = .returned (.tuple #[.int .i64 (ownA M t obj).1, .int .i64 (ownA M t obj).2]) ∧ Below w.heap.size w w' := by
  have hA := nacts_ok h ht hs
  obtain ⟨-, c1, -, -⟩ := h.cells
  have hl := h.ho.look (x := obj) hk
  change (Instr.lookup 40 (.map (some mo)) (.int .i64 obj) true).run Try.prog w = .ok (.tuple #[.agg #[.int .i64 ((M.ow obj).getD (0, 0)).1, .int .i64 ((M.ow obj).getD (0, 0)).2], .bool (M.ow obj).isSome]) w at hl
  unfold ownA
  clear h hs hk ht
  rcases ho : M.ow obj with _ | ⟨u, d⟩
  · rw [ho] at hl
    simp only [Option.getD_none, Option.isSome_none] at hl
    have HB : Hid (Below w.heap.size w (w.alloc (.cells #[.int .i64 0, .int .i64 0] 49))) := (Below.refl _ w).alloc (Nat.le_refl _) _
    go_enter Try.func17, Try.ntmps17
    go_wp2_with (go_at_call 15; refine hA.mono ?_; rintro e w9 ⟨rfl, hw9⟩; replace hw9 := hw9.symm; subst hw9)
    go_ret2
    exact ⟨rfl, HB.out⟩
  · rw [ho] at hl
    simp only [Option.getD_some, Option.isSome_some] at hl
    have HB : Hid (Below w.heap.size w (w.alloc (.cells #[.int .i64 u, .int .i64 d] 49))) := (Below.refl _ w).alloc (Nat.le_refl _) _
    by_cases hu : u = t
    · subst hu
      simp only [if_true]
      go_enter Try.func17, Try.ntmps17
      go_wp2_with (go_at_call 15; refine hA.mono ?_; rintro e w9 ⟨rfl, hw9⟩; replace hw9 := hw9.symm; subst hw9)
      go_ret2
      exact ⟨rfl, HB.out⟩
    · simp only [if_neg hu]
      have e1 : (u != (t : Int)) = true := by simp [hu]
      go_enter Try.func17, Try.ntmps17
      go_wp2_with (go_at_call 15; refine hA.mono ?_; rintro e w9 ⟨rfl, hw9⟩; replace hw9 := hw9.symm; subst hw9)
      go_ret2
      exact ⟨rfl, HB.out⟩
/-- What take makes of a table. -/
def Mt.taken (M : Mt) (t : Nat) (obj d : Int) : Mt := { M with
  ow := fun z => if z = obj then some ((t : Int), (M.bk ((t : Int), obj)).getD d) else M.ow z
  bk := fun z => if z = ((t : Int), obj) then none else M.bk z
  st := fun i => if i = t then 0 else M.st i }
theorem MnC.congr {M' : Mt} (h : MnC B w s bs mo mb wv M c) (e : M = M') : MnC B w s bs mo mb wv M' c := e ▸ h
set_option maxRecDepth 20000 in
set_option maxHeartbeats 1000000 in
theorem ntake_ok (h : MnC B w s bs mo mb wv M c) {t : Nat} (ht : t < M.N) {obj d : Int} (hk : okI obj) (hc : c < 1000000) : Calls Try.prog 16 #[.pointer (some ⟨s, 0, none⟩), .agg #[.int .i64 t, .int .i64 obj], .int .i64 d] w fun e w' => e = .returned (.tuple #[]) ∧ MnC B w' s bs mo mb wv (M.taken t obj d) (c + 1) ∧ Below B w w' := by
  have hN := h.hN
  have hkt : okI (t : Int) := ⟨by omega, by omega⟩
  obtain ⟨U, hU⟩ : ∃ U, U = w.alloc (.cells #[.int .i64 t, .int .i64 obj] 53) := ⟨_, rfl⟩
  have b0 : Below w.heap.size w U := by rw [hU]; exact (Below.refl _ w).alloc (Nat.le_refl _) _
  have bx0 : U.heap[w.heap.size]? = some (.cells #[.int .i64 t, .int .i64 obj] 53 (0, 0)) := by rw [hU]; exact Array.getElem?_push_size
  have hszU : U.heap.size = w.heap.size + 1 := by rw [hU]; exact Array.size_push _
  have B1 : Below B w U.drew := (b0.mono h.Bw).drew
  have h1 : MnC B U.drew s bs mo mb wv M c := h.below b0.drew
  have bx1 : U.drew.heap[w.heap.size]? = some (.cells #[.int .i64 t, .int .i64 obj] 53 (0, 0)) := bx0
  have hszW : U.drew.heap.size = w.heap.size + 1 := hszU
  have hbB := h.Bw
  have htl : (t : Int) < (M.N : Int) := by omega
  have ht0 : (0 : Int) ≤ (t : Int) := by omega
  have hlt := h.lt
  have hwl := fun j hj => (h.hw.lt (j := j) hj).2
  have hl := h1.hb.look (x := ((t : Int), obj)) ⟨hkt, hk⟩
  change (Instr.lookup 41 (.map (some mb)) (.agg #[.int .i64 t, .int .i64 obj]) true).run Try.prog U.drew = .ok (.tuple #[.int .i64 ((M.bk ((t : Int), obj)).getD 0), .bool (M.bk ((t : Int), obj)).isSome]) U.drew at hl
  rcases ho : M.bk ((t : Int), obj) with _ | q
  · rw [ho] at hl
    simp only [Option.getD_none, Option.isSome_none] at hl
    -- store
    obtain ⟨w3, r3, m3, t3⟩ := (h1.ho.of_block (w' := U.drew.drew) rfl).store (Nat.lt_of_le_of_lt h.hc (by unfold maxLen; omega)) (x := obj) hk ((t : Int), d)
    have h3 := (h1.of_blocks (w' := U.drew.drew) rfl rfl rfl rfl (fun _ _ => rfl)).own m3 t3 (Nat.le_succ c) (by omega)
    have b3 := below_map (B1.drew) t3 h.hB.2.2.1 (by show B ≤ U.drew.heap.size; omega)
    have e3 : w3.heap[w.heap.size]? = U.drew.heap[w.heap.size]? := t3.grown.block _ (by show _ < U.drew.heap.size; omega) (fun e => by injection e with e; have := hlt.2.2.1; omega)
    have bx3 := e3.trans bx1
    have h4 := (h3.of_blocks (w' := w3.drew) rfl rfl rfl rfl (fun _ _ => rfl)).set t 0
    have b4 := below_set (b := bs) (i := t) (v := .int .i64 0) b3.drew h.hB.2.1
    have HR : Hid (MnC B (w3.drew.setCell ⟨bs, t, none⟩ (.int .i64 0)) s bs mo mb wv (M.taken t obj d) (c + 1) ∧ Below B w (w3.drew.setCell ⟨bs, t, none⟩ (.int .i64 0))) := by
      refine ⟨h4.congr ?_, b4⟩
      unfold Mt.taken
      rw [ho]
      simp only [Option.getD_none]
      congr 1
      funext z
      by_cases e : z = ((t : Int), obj)
      · subst e; rw [if_pos rfl, ho]
      · rw [if_neg e]
    have r3 : (Instr.mapUpdate 40 (.map (some mo)) (.int .i64 obj) (.agg #[.int .i64 t, .int .i64 d])).run Try.prog U.drew.drew = .ok () w3 := r3
    obtain ⟨k0, k1, -, k3⟩ := h1.cells
    obtain ⟨j0, j1, -, j3⟩ := h3.cells
    have hst1 := (h3.hst.cell ht)
    have hfz : w3.drew.frozen? ⟨bs, t, none⟩ = false := h3.hst.frozen _
    have x0 : U.drew.cell? ⟨w.heap.size, 0, none⟩ = some (.int .i64 t) := by simp [World.cell?, bx1]
    have x1 : U.drew.cell? ⟨w.heap.size, 1, none⟩ = some (.int .i64 obj) := by simp [World.cell?, bx1]
    have y0 : w3.cell? ⟨w.heap.size, 0, none⟩ = some (.int .i64 t) := by simp [World.cell?, bx3]
    have y1 : w3.cell? ⟨w.heap.size, 1, none⟩ = some (.int .i64 obj) := by simp [World.cell?, bx3]
    clear h h1 h3 h4 b0 B1 b3 b4 m3 t3 ho hlt hwl hk hkt bx0 bx1 bx3 e3 hszU hszW hbB
    generalize M.N = N at *
    go_enter Try.func16, Try.ntmps16
    go_wp2_with fail
    rw [← hU]
    clear hU
    go_region
    go_wp2_with fail
    go_region
    go_wp2_with fail
    go_region
    go_wp2_with fail
    go_end0
    exact ⟨rfl, HR.out⟩
  · rw [ho] at hl
    simp only [Option.getD_some, Option.isSome_some] at hl
    obtain ⟨w2, r2, m2, t2⟩ := (h1.hb.of_block (w' := U.drew.drew) rfl).drop (x := ((t : Int), obj)) ⟨hkt, hk⟩ 0
    have h2 := (h1.of_blocks (w' := U.drew.drew) rfl rfl rfl rfl (fun _ _ => rfl)).bak m2 t2 (Nat.le_refl c) h.hc
    have b2 := below_map (B1.drew) t2 h.hB.2.2.2 (by show B ≤ U.drew.heap.size; omega)
    have e2 : w2.heap[w.heap.size]? = U.drew.heap[w.heap.size]? := t2.grown.block _ (by show _ < U.drew.heap.size; omega) (fun e => by injection e with e; have := hlt.2.2.2; omega)
    have bx2 := e2.trans bx1
    have hsz2 : U.drew.heap.size ≤ w2.heap.size := t2.grown.size
    obtain ⟨w3, r3, m3, t3⟩ := (h2.ho.of_block (w' := w2.drew) rfl).store (Nat.lt_of_le_of_lt h.hc (by unfold maxLen; omega)) (x := obj) hk ((t : Int), q)
    have h3 := (h2.of_blocks (w' := w2.drew) rfl rfl rfl rfl (fun _ _ => rfl)).own m3 t3 (Nat.le_succ c) (by omega)
    have b3 := below_map b2.drew t3 h.hB.2.2.1 (by show B ≤ w2.heap.size; omega)
    have e3 : w3.heap[w.heap.size]? = w2.heap[w.heap.size]? := t3.grown.block _ (by show _ < w2.heap.size; omega) (fun e => by injection e with e; have := hlt.2.2.1; omega)
    have bx3 := e3.trans bx2
    have h4 := (h3.of_blocks (w' := w3.drew) rfl rfl rfl rfl (fun _ _ => rfl)).set t 0
    have b4 := below_set (b := bs) (i := t) (v := .int .i64 0) b3.drew h.hB.2.1
    have HR : Hid (MnC B (w3.drew.setCell ⟨bs, t, none⟩ (.int .i64 0)) s bs mo mb wv (M.taken t obj d) (c + 1) ∧ Below B w (w3.drew.setCell ⟨bs, t, none⟩ (.int .i64 0))) := by
      refine ⟨h4.congr ?_, b4⟩
      unfold Mt.taken
      rw [ho]
      simp only [Option.getD_some]
    have r3 : (Instr.mapUpdate 40 (.map (some mo)) (.int .i64 obj) (.agg #[.int .i64 t, .int .i64 q])).run Try.prog w2.drew = .ok () w3 := r3
    have r2 : ∀ ty, (Builtin.delete_ #[41, 53] ty #[.map (some mb), .agg #[.int .i64 t, .int .i64 obj]]).run Try.prog U.drew.drew = .ok (.tuple #[]) w2 := fun ty => r2
    obtain ⟨k0, k1, -, k3⟩ := h1.cells
    obtain ⟨g0, g1, -, g3⟩ := h2.cells
    have z0 : w2.cell? ⟨w.heap.size, 0, none⟩ = some (.int .i64 t) := by simp [World.cell?, bx2]
    have z1 : w2.cell? ⟨w.heap.size, 1, none⟩ = some (.int .i64 obj) := by simp [World.cell?, bx2]
    obtain ⟨j0, j1, -, j3⟩ := h3.cells
    have hst1 := (h3.hst.cell ht)
    have hfz : w3.drew.frozen? ⟨bs, t, none⟩ = false := h3.hst.frozen _
    have x0 : U.drew.cell? ⟨w.heap.size, 0, none⟩ = some (.int .i64 t) := by simp [World.cell?, bx1]
    have x1 : U.drew.cell? ⟨w.heap.size, 1, none⟩ = some (.int .i64 obj) := by simp [World.cell?, bx1]
    have y0 : w3.cell? ⟨w.heap.size, 0, none⟩ = some (.int .i64 t) := by simp [World.cell?, bx3]
    have y1 : w3.cell? ⟨w.heap.size, 1, none⟩ = some (.int .i64 obj) := by simp [World.cell?, bx3]
    clear h h1 h2 h3 h4 b0 B1 b2 b3 b4 m2 t2 m3 t3 ho hlt hwl hk hkt bx0 bx1 bx2 bx3 e2 e3 hszU hsz2 hszW hbB
    generalize M.N = N at *
    go_enter Try.func16, Try.ntmps16
    go_wp2_with fail
    rw [← hU]
    clear hU
    go_region
    go_wp2_with fail
    go_region
    go_wp2_with fail
    go_region
    go_wp2_with fail
    go_region
    go_wp2_with fail
    go_end0
    exact ⟨rfl, HR.out⟩
end
end Go.Proofs.Ytdkbdmlodngneaa
