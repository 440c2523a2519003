/- Make of a heap. -/
import Derived.Test.YthkelaeemefnaaaGreatMHCall
import Derived.BigRegion
namespace Go.Proofs.YthkelaeemefnaaaGreat
open Go.RowKit
theorem inv_oMake (p : Addr) (w : World) : (Go.method 445 150 (.pointer (some p)) "Make").run Tryz.prog w = .ok (209, .pointer (some p)) w := by kernel_rfl
theorem inv_aMake (v : Value) (w : World) : (Go.method 445 153 (.agg #[v]) "Make").run Tryz.prog w = .ok (273, .agg #[v]) w := by kernel_rfl
theorem cell3 {w : World} {z ty : Nat} {a b c : Value} (h : w.heap[z]? = some (.cells #[a, b, c] ty (0, 0))) : w.cell? ⟨z, 0, none⟩ = some a ∧ w.cell? ⟨z, 1, none⟩ = some b ∧ w.cell? ⟨z, 2, none⟩ = some c := by
  simp [World.cell?, h]
/-- A cell more. -/
def MkPost (w : World) (h W G m : Nat) (S : List (Option Cel)) (F : Nat → Nat → Int) (X : Hx) (t cls : Int) (n : Nat) (e : Ending) (w' : World) : Prop :=
  ∃ (i : Nat) (S' : List (Option Cel)) (a : Int) (c' : Int → Int), e = .returned (.tuple #[.int .i64 ((i : Int) + 1), .int .i64 0]) ∧ Added S S' i ⟨t, cls, n, a⟩ ∧ HpT w h W G (m + 500) c' S' (setF F i (fun _ => 0)) X w'
section
variable {w : World} {h W G m : Nat} {c : Int → Int} {S : List (Option Cel)} {F : Nat → Nat → Int} {X : Hx}
/-- Behind the keeper: the room and the table. -/
structure Mid (w : World) (h W G m : Nat) (c : Int → Int) (S : List (Option Cel)) (F : Nat → Nat → Int) (X : Hx) (cl : Cel) (w2 : World) : Prop where
  mid : ∃ (c' : Int → Int) (Y : Hx), HpM w2 h W G c' ((roomW W : Int) - sumS S) (rowsN Y.so Y.s S) Y ∧ Y.so = X.so ∧ Y.s = X.s ∧ Y.ln = X.ln ∧ Y.vc = X.vc ∧ Bt (X.own h) w w2 ∧ Wider (X.own h) (Y.own h) w ∧
    ∀ (S' : List (Option Cel)) (i : Nat) (w3 : World) (vc : Value) (ln : Nat), Added S S' i cl → S'.length ≤ S.length + 1 → Tab S' ln → HpM w3 h W G c' ((roomW W : Int) - sumS S') (rowsN Y.so Y.s S') { Y with vc := vc, ln := ln } → HpC w3 h W G (m + 500) c' S' (setF F i (fun _ => 0)) { Y with vc := vc, ln := ln }
theorem few_up {c c' : Int → Int} {g k K : Int} (h : Few K (natf c)) (hu : Up c c' g k) (hk : 0 ≤ k) : Few (K + k) (natf c') := fun j => by
  have h1 := h j
  show 0 ≤ c' j ∧ c' j ≤ K + k
  have h2 : 0 ≤ c j ∧ c j ≤ K := h1
  by_cases e : (j : Int) = g
  · have := hu.2; rw [← e] at this; omega
  · rw [hu.1 j e]; omega
theorem HpC.mid_ob (H : HpC w h W G m c S F X) {n : Nat} (hn : n ≤ 64) {t cls : Int} (ht : t = 1 ∨ t = 4) {cc : Nat → Nat} {xs : List Int} {cs ws : Nat → Int} {D : DataW Unit} {P2 : Nat → Prop} {w2 : World} (hfit : sumS S + (n + 16) ≤ roomW W) (hm : m ≤ 2000000)
    (hC : Chn 0 X.N X.ws ws (frg n) cc) (hg : Grew (natf c) cs 300) (hS : Sto w2 P2 X.so X.mb X.p X.b W 0 X.N G cs (X.T + frg n) xs ws (X.nn + 1) D (X.O ++ [⟨n, cc⟩])) (hB : Bt X.P2 w w2) (hW : Wider X.P2 P2 w) : Mid w h W G m c S F X ⟨t, cls, n, (cc 0 : Int) + 1⟩ w2 := by
  obtain ⟨P1, V, hM, hV, hB2, hW2⟩ := H.mem.store hS hB hW fun a ha => hC.old a fun k hk => by
    have := hC.lt k hk
    constructor <;> omega
  refine ⟨intf cs, { X with P1 := P1, P2 := P2, T := X.T + frg n, xs := xs, ws := ws, nn := X.nn + 1, D := D, O := X.O ++ [⟨n, cc⟩], V := V }, hM, rfl, rfl, rfl, rfl, hB2, hW2, fun S' i w3 vc ln hA hl hT hM3 => ?_⟩
  have hob : (⟨t, cls, n, (cc 0 : Int) + 1⟩ : Cel).ob = true := by rcases ht with rfl | rfl <;> rfl
  have hx : ∀ x ∈ X.q.xs, x.id ≠ -1 := fun x hx => by
    obtain ⟨_, _, _, _, f, _, hI⟩ := H.mem.gd
    have := (hI.ids x hx).1
    omega
  have hL0 : Lnk S F X.O X.ws X.q.xs V := H.lnk.same (fun _ _ _ => rfl) rfl (fun x hxx j => hV _ (hx x hxx) j)
  have hinv := H.mem.sto.inv
  have hL := hL0.make_ob hA hob (o := ⟨n, cc⟩) rfl rfl (ws' := ws) (fun j => hC.field) (fun z hz j => hinv.make_old hC hz) (fun z hz => hinv.make_ref hC hz)
  have hf := H.few
  have h9 := frg_nine hn
  refine ⟨hM3, hT, hL, H.enough, H.big, by rw [hA.sum]; exact hfit, H.half, H.calm, ⟨?_, ?_, ?_, by omega⟩, ?_⟩
  · show 25 * (X.T + frg n) ≤ ((m + 500 : Nat) : Int); omega
  · show 500 * (X.nn + 1) ≤ m + 500; omega
  · show 500 * X.q.given ≤ ((m + 500 : Nat) : Int); omega
  · rw [natf_intf]
    exact (hg _ (by omega) (by omega) H.cnt).mono (by omega)
theorem HpC.mid_ar (H : HpC w h W G m c S F X) {n : Nat} {t cls g : Int} (ht : t = 2 ∨ t = 3) {q' : St} {c' : Int → Int} {w2 : World} (hfit : sumS S + (n + 16) ≤ roomW W)
    (hS : Same X.q q') (hu : Up c c' g 150000) (hT : SpTurn w X.P1 X.s X.b W G (made q' n) (fun id i => if id = X.q.given + 1 then 0 else X.V id i) c' w2) : Mid w h W G m c S F X ⟨t, cls, n, X.q.given + 1⟩ w2 := by
  obtain ⟨_, _, _, _, f, _, hI⟩ := H.mem.gd
  have hg0 := hI.given0
  obtain ⟨P1, ws, hM, hw, hB2, hW2⟩ := H.mem.space hT hS.base hS.half fun a => if_neg (by omega)
  refine ⟨c', { X with P1 := P1, ws := ws, q := made q' n, V := fun id i => if id = X.q.given + 1 then 0 else X.V id i }, hM, rfl, rfl, rfl, rfl, hB2, hW2, fun S' i w3 vc ln hA hl hTb hM3 => ?_⟩
  have hob : (⟨t, cls, n, X.q.given + 1⟩ : Cel).ob = false := by rcases ht with rfl | rfl <;> rfl
  have hinv := H.mem.sto.inv
  have hids : ∀ z ∈ q'.xs, z.id ≤ X.q.given := fun z hz => by
    have hm : (z.id, z.n) ∈ X.q.xs.map (fun z => (z.id, z.n)) := by rw [← hS.shape]; exact List.mem_map.2 ⟨z, hz, rfl⟩
    obtain ⟨y, hy, e⟩ := List.mem_map.1 hm
    simp only [Prod.mk.injEq] at e
    have := (hI.ids y hy).2.1
    omega
  have hL0 : Lnk S F X.O ws q'.xs X.V := H.lnk.same (fun o ho j => hw _ (by
    have h1 := (hinv.used o ho _ (hop_lt j o.n)).1
    have h2 := wrd_lt j o.n
    unfold Ob.ad
    omega)) hS.shape (fun _ _ _ => rfl)
  have hL := hL0.make_ar hA hob (x := ⟨q'.given + 1, topOf q', n⟩) (by show q'.given + 1 = _; rw [hS.given]) rfl (V' := fun id i => if id = X.q.given + 1 then 0 else X.V id i) (fun j => by show (if q'.given + 1 = _ then _ else _) = _; rw [hS.given, if_pos rfl]) (fun z hz j => by have := hids z hz; exact if_neg (by omega)) (fun z hz => by have := hids z hz; show z.id ≠ q'.given + 1; rw [hS.given]; omega)
  have hf := H.few
  refine ⟨hM3, hTb, hL, H.enough, H.big, by rw [hA.sum]; exact hfit, hS.half.trans H.half, hS.off, ⟨?_, ?_, ?_, by omega⟩, ?_⟩
  · show 25 * X.T ≤ ((m + 500 : Nat) : Int); omega
  · show 500 * X.nn ≤ m + 500; omega
  · show 500 * (q'.given + 1) ≤ ((m + 500 : Nat) : Int); rw [hS.given]; omega
  · exact (few_up H.cnt hu (by omega)).mono (by omega)
theorem HpC.below {w' : World} (H : HpC w h W G m c S F X) (b : Below w.heap.size w w') : HpC w' h W G m c S F X :=
  ⟨H.mem.below b, H.tab, H.lnk, H.enough, H.big, H.fit, H.half, H.calm, H.few, H.cnt⟩
theorem HpT.after {w1 w' : World} {m' : Nat} {c' : Int → Int} {S' : List (Option Cel)} {F' : Nat → Nat → Int} (hb : Below w.heap.size w w1) (ht : HpT w1 h W G m' c' S' F' X w') : HpT w h W G m' c' S' F' X w' := by
  obtain ⟨X', h1, h2, h3⟩ := ht
  exact ⟨X', h1, (Bt.of_below hb).trans h2, fun k hk => (h3 k hk).imp id (fun r => Nat.le_trans hb.size r)⟩
theorem HpC.room_obj (H : HpC w h W G m c S F X) {n : Nat} (hn : n ≤ 64) (hfit : sumS S + (n + 16) ≤ roomW W) : 1 + (n + 5) / 6 ≤ X.xs.length := by
  have hs := H.lnk.sum
  have h2 := (sz_s16 X.q.xs (fun x hx => by
    obtain ⟨_, _, _, _, f, _, hI⟩ := H.mem.gd
    exact (hI.ids x hx).2.2))
  exact H.enough.obj H.mem.sto.inv.size H.mem.sto.inv.sum hn (by omega)
theorem HpC.room_arr (H : HpC w h W G m c S F X) {n : Nat} (hfit : sumS S + (n + 16) ≤ roomW W) : sumG sz X.q.xs + ((n : Int) + 4) ≤ X.q.half := by
  have hs := H.lnk.sum
  rw [H.half]
  exact H.enough.arr H.big.1 (fun x hx => by
    obtain ⟨_, _, _, _, f, _, hI⟩ := H.mem.gd
    exact (hI.ids x hx).2.2) (by omega)
end
end Go.Proofs.YthkelaeemefnaaaGreat
