/- The heap between two calls; its kinds; what it refuses. -/
import Derived.Test.YtbagecfgeagacaaGreatMHSide
import Derived.Test.YtbagecfgeagacaaGreatMHArr
import Derived.BigQuiet
namespace Go.Proofs.YtbagecfgeagacaaGreat
open Go.RowKit
/-- The heap between two calls: S its cells, F their words, m how many calls there were at most. -/
structure HpC (w : World) (h W G m : Nat) (c : Int → Int) (S : List (Option Cel)) (F : Nat → Nat → Int) (X : Hx) : Prop where
  mem : HpM w h W G c ((roomW W : Int) - sumS S) (S.map (rowP X.so X.s)) X
  tab : Tab S X.U
  lnk : Lnk S F X.O X.ws X.q.xs X.V
  enough : Enough W X.N
  big : 512 ≤ W ∧ W ≤ 20000
  fit : sumS S ≤ roomW W
  half : X.q.half = ((W : Int) - (11 * X.N + 8)) / 2
  calm : X.q.c.on = false
  few : X.T ≤ 20 * (m : Int) ∧ X.nn ≤ m ∧ X.q.given ≤ (m : Int) ∧ S.length ≤ m ∧ X.U.length ≤ m
  cnt : Few (200000 * (m : Int)) (natf c)
/-- What a call leaves. -/
def HpT (w : World) (h W G m : Nat) (c : Int → Int) (S : List (Option Cel)) (F : Nat → Nat → Int) (X : Hx) (w' : World) : Prop :=
  ∃ X', HpC w' h W G m c S F X' ∧ Bt (X.own h) w w' ∧ Wider (X.own h) (X'.own h) w
theorem four_cells {w : World} {p o : Nat} {a b c d : Value} (h : w.rangeAt p o [a, b, c, d]) : w.cell? ⟨p, o, none⟩ = some a ∧ w.cell? ⟨p, o + 1, none⟩ = some b ∧ w.cell? ⟨p, o + 2, none⟩ = some c ∧ w.cell? ⟨p, o + 3, none⟩ = some d :=
  ⟨h 0 a rfl, h 1 b rfl, h 2 c rfl, h 3 d rfl⟩
theorem infoK : (Tryz.prog.info? 75).map (·.size) = some 3 := by kernel_rfl
theorem kfind_out {w : World} {h kb kc : Nat} (c1 : w.cell? ⟨h, 1, none⟩ = some (.slice (some ⟨kb, 0, none⟩) 4 kc)) (t : Int) (ht : t < 1 ∨ 4 < t) :
    Calls Tryz.prog 28 #[.pointer (some ⟨h, 1, none⟩), .int .i64 t] w fun e w' => e = .returned (.tuple #[.agg #[.int .i64 0, .int .i64 0, .nilIface], .bool false]) ∧ Below w.heap.size w w' := by
  have hh : h < w.heap.size := cell_in1 c1
  by_cases h1 : t < 1
  · clear ht
    go_enter Tryz.func28, Tryz.ntmps28
    go_wp2
    exact bodyPost_ret (results_ct rfl _ _ w.heap.size 75 _ (0, 0) _ rfl (box_alloc (heap_alloc_new w _) _) Tryz.underlying75 rfl infoK) rfl ⟨rfl, two_below _ _ _⟩
  · have h2 : 4 < t := by omega
    have h3 : decide (t < 1) = false := by simp; omega
    clear ht h1
    go_enter Tryz.func28, Tryz.ntmps28
    go_wp2
    exact bodyPost_ret (results_ct rfl _ _ w.heap.size 75 _ (0, 0) _ rfl (box_alloc (heap_alloc_new w _) _) Tryz.underlying75 rfl infoK) rfl ⟨rfl, two_below _ _ _⟩
theorem kfind_at {w : World} {h kb kc i : Nat} {x y : Int} {ty : TypeId} {d : Value} (c1 : w.cell? ⟨h, 1, none⟩ = some (.slice (some ⟨kb, 0, none⟩) 4 kc)) (hr : w.rangeAt kb (i * 4) [.int .i64 x, .int .i64 y, .iface ty d, .bool true]) (hi : i < 4) (t : Int) (ht : t = (i : Int) + 1) :
    Calls Tryz.prog 28 #[.pointer (some ⟨h, 1, none⟩), .int .i64 t] w fun e w' => e = .returned (.tuple #[.agg #[.int .i64 x, .int .i64 y, .iface ty d], .bool true]) ∧ Below w.heap.size w w' := by
  have hh : h < w.heap.size := cell_in1 c1
  have cc := four_cells hr
  have hp : kb < w.heap.size := cell_in1 cc.1
  have h1 : decide (t < 1) = false := by simp; omega
  have h2 : decide (4 < t) = false := by simp; omega
  have h3 : t - 1 = (i : Int) := by omega
  have h4 : (i : Int) < 4 := by omega
  clear hr ht
  go_enter Tryz.func28, Tryz.ntmps28
  go_wp2
  go_region
  go_wp2
  exact bodyPost_ret (results_ct rfl _ _ w.heap.size 75 _ (0, 0) _ rfl (box_alloc (heap_alloc_new w _) _) Tryz.underlying75 rfl infoK) rfl ⟨rfl, (two_below _ _ _).drew⟩
/-- How many words a cell of a kind may have. -/
def kmin (t : Int) : Int := if t = 4 then 1 else 0
def kmax (t : Int) : Int := if t = 1 then 64 else if t = 4 then 1 else 1000
def ktt (t : Int) : TypeId := if t = 1 ∨ t = 4 then 89 else 92
def kvv (so s : Nat) (t : Int) : Value := if t = 1 ∨ t = 4 then .pointer (some ⟨so, 0, none⟩) else .agg #[.pointer (some ⟨s, 0, none⟩)]
theorem kk_cel (so s : Nat) (c : Cel) : ktt c.kind = kty c ∧ kvv so s c.kind = kvl so s c := by
  have e : c.ob = true ↔ (c.kind = 1 ∨ c.kind = 4) := by simp [Cel.ob]
  unfold ktt kvv kty kvl
  by_cases h : c.kind = 1 ∨ c.kind = 4
  · rw [if_pos h, if_pos (e.2 h), if_pos h, if_pos (e.2 h)]; exact ⟨rfl, rfl⟩
  · rw [if_neg h, if_neg (fun q => h (e.1 q)), if_neg h, if_neg (fun q => h (e.1 q))]; exact ⟨rfl, rfl⟩
section
variable {w w' : World} {h W G : Nat} {c : Int → Int} {room : Int} {R : List (List Value)} {X : Hx}
theorem HpM.kind (H : HpM w h W G c room R X) (t : Int) (ht : 1 ≤ t ∧ t ≤ 4) :
    Calls Tryz.prog 28 #[.pointer (some ⟨h, 1, none⟩), .int .i64 t] w fun e w' => e = .returned (.tuple #[.agg #[.int .i64 (kmin t), .int .i64 (kmax t), .iface (ktt t) (kvv X.so X.s t)], .bool true]) ∧ Below w.heap.size w w' := by
  have c1 := H.five.2.1
  obtain ⟨p, e, _, _, _, hc⟩ := H.kinds.cells (by simp [kindsR])
  simp only [Option.some.injEq, Addr.mk.injEq, and_true] at e
  have hr : t = 1 ∨ t = 2 ∨ t = 3 ∨ t = 4 := by omega
  rcases hr with rfl | rfl | rfl | rfl
  · exact kfind_at c1 (by rw [e]; exact hc 0 _ rfl) (by omega) 1 rfl
  · exact kfind_at c1 (by rw [e]; exact hc 1 _ rfl) (by omega) 2 rfl
  · exact kfind_at c1 (by rw [e]; exact hc 2 _ rfl) (by omega) 3 rfl
  · exact kfind_at c1 (by rw [e]; exact hc 3 _ rfl) (by omega) 4 rfl
theorem HpM.agent (H : HpM w h W G c room R X) (g : Int) (r : Bool) (hr : r = true ↔ 0 ≤ g ∧ g < G) : Calls Tryz.prog 29 #[.pointer (some ⟨X.b, 0, none⟩), .int .i64 g] w fun e w' => e = .returned (.bool r) ∧ w' = w := by
  cases r with
  | true => exact H.gd.agent_yes g (hr.1 rfl)
  | false => exact H.gd.agent_no g (fun q => by simpa using hr.2 q)
theorem below_one {w w1 : World} (hb : Below w.heap.size w w1) (o : Obj) : Below w.heap.size w (w1.alloc o) := hb.alloc hb.size o
/-- No such agent. -/
theorem hmake_agent (H : HpM w h W G c room R X) (g t cls n : Int) (hg : ¬ (0 ≤ g ∧ g < G)) :
    Calls Tryz.prog 16 #[.pointer (some ⟨h, 0, none⟩), .int .i64 g, .int .i64 t, .int .i64 cls, .int .i64 n] w fun e w' => e = .returned (.tuple #[.int .i64 0, .int .i64 904]) ∧ Below w.heap.size w w' := by
  have cc := H.five
  have hh := H.h_lt
  have hA := fun w1 (hb : Below w.heap.size w w1) => (H.below hb).agent g false (by simpa using hg)
  have hc1 : ∀ w1, Below w.heap.size w w1 → w1.cell? ⟨h, 0, none⟩ = some (.pointer (some ⟨X.b, 0, none⟩)) ∧ h < w1.heap.size := fun w1 hb => ⟨(H.below hb).five.1, (H.below hb).h_lt⟩
  by_cases ht : 1 ≤ t ∧ t ≤ 4
  · have hK := H.kind t ht
    generalize kmin t = x at *
    generalize kmax t = y at *
    generalize ktt t = ty at *
    generalize kvv X.so X.s t = d at *
    clear H hg ht
    go_enter Tryz.func16, Tryz.ntmps16
    go_wp2_with (first
      | (go_at_call 28; refine hK.mono ?_; rintro e w1 ⟨rfl, hb⟩; have k1 := hc1 w1 hb; clear hK)
      | (go_at_call 29; refine (hA _ (below_one hb _)).mono ?_; rintro e w9 ⟨rfl, hw9⟩; replace hw9 := hw9.symm; subst hw9))
    go_ret2
    exact ⟨rfl, below_one hb _⟩
  · have hK := kfind_out cc.2.1 t (by omega)
    clear H hg ht
    go_enter Tryz.func16, Tryz.ntmps16
    go_wp2_with (first
      | (go_at_call 28; refine hK.mono ?_; rintro e w1 ⟨rfl, hb⟩; have k1 := hc1 w1 hb; clear hK)
      | (go_at_call 29; refine (hA _ (below_one hb _)).mono ?_; rintro e w9 ⟨rfl, hw9⟩; replace hw9 := hw9.symm; subst hw9))
    go_ret2
    exact ⟨rfl, below_one hb _⟩
/-- No such kind. -/
theorem hmake_kind (H : HpM w h W G c room R X) (g t cls n : Int) (hg : 0 ≤ g ∧ g < G) (ht : ¬ (1 ≤ t ∧ t ≤ 4)) :
    Calls Tryz.prog 16 #[.pointer (some ⟨h, 0, none⟩), .int .i64 g, .int .i64 t, .int .i64 cls, .int .i64 n] w fun e w' => e = .returned (.tuple #[.int .i64 0, .int .i64 902]) ∧ Below w.heap.size w w' := by
  have cc := H.five
  have hh := H.h_lt
  have hA := fun w1 (hb : Below w.heap.size w w1) => (H.below hb).agent g true (by simpa using hg)
  have hc1 : ∀ w1, Below w.heap.size w w1 → w1.cell? ⟨h, 0, none⟩ = some (.pointer (some ⟨X.b, 0, none⟩)) ∧ h < w1.heap.size := fun w1 hb => ⟨(H.below hb).five.1, (H.below hb).h_lt⟩
  have hK := kfind_out cc.2.1 t (by omega)
  clear H hg ht
  go_enter Tryz.func16, Tryz.ntmps16
  go_wp2_with (first
    | (go_at_call 28; refine hK.mono ?_; rintro e w1 ⟨rfl, hb⟩; have k1 := hc1 w1 hb; clear hK)
    | (go_at_call 29; refine (hA _ (below_one hb _)).mono ?_; rintro e w9 ⟨rfl, hw9⟩; replace hw9 := hw9.symm; subst hw9))
  go_ret2
  exact ⟨rfl, below_one hb _⟩
/-- No such size, or no such class. -/
theorem hmake_size (H : HpM w h W G c room R X) (g t cls n : Int) (hg : 0 ≤ g ∧ g < G) (ht : 1 ≤ t ∧ t ≤ 4) (hn : ¬ ((kmin t ≤ n ∧ n ≤ kmax t) ∧ 0 ≤ cls)) :
    Calls Tryz.prog 16 #[.pointer (some ⟨h, 0, none⟩), .int .i64 g, .int .i64 t, .int .i64 cls, .int .i64 n] w fun e w' => e = .returned (.tuple #[.int .i64 0, .int .i64 900]) ∧ Below w.heap.size w w' := by
  have cc := H.five
  have hh := H.h_lt
  have hA := fun w1 (hb : Below w.heap.size w w1) => (H.below hb).agent g true (by simpa using hg)
  have hc1 : ∀ w1, Below w.heap.size w w1 → w1.cell? ⟨h, 0, none⟩ = some (.pointer (some ⟨X.b, 0, none⟩)) ∧ h < w1.heap.size := fun w1 hb => ⟨(H.below hb).five.1, (H.below hb).h_lt⟩
  have hK := H.kind t ht
  generalize kmin t = x at *
  generalize kmax t = y at *
  generalize ktt t = ty at *
  generalize kvv X.so X.s t = d at *
  clear H hg ht
  by_cases n1 : n < x
  · clear hn
    go_enter Tryz.func16, Tryz.ntmps16
    go_wp2_with (first
      | (go_at_call 28; refine hK.mono ?_; rintro e w1 ⟨rfl, hb⟩; have k1 := hc1 w1 hb; clear hK)
      | (go_at_call 29; refine (hA _ (below_one hb _)).mono ?_; rintro e w9 ⟨rfl, hw9⟩; replace hw9 := hw9.symm; subst hw9))
    go_ret2
    exact ⟨rfl, below_one hb _⟩
  · have n1' : decide (n < x) = false := by simp; omega
    by_cases n2 : y < n
    · clear hn n1
      go_enter Tryz.func16, Tryz.ntmps16
      go_wp2_with (first
        | (go_at_call 28; refine hK.mono ?_; rintro e w1 ⟨rfl, hb⟩; have k1 := hc1 w1 hb; clear hK)
        | (go_at_call 29; refine (hA _ (below_one hb _)).mono ?_; rintro e w9 ⟨rfl, hw9⟩; replace hw9 := hw9.symm; subst hw9))
      go_ret2
      exact ⟨rfl, below_one hb _⟩
    · have n2' : decide (y < n) = false := by simp; omega
      have n3 : cls < 0 := by omega
      clear hn n1 n2
      go_enter Tryz.func16, Tryz.ntmps16
      go_wp2_with (first
        | (go_at_call 28; refine hK.mono ?_; rintro e w1 ⟨rfl, hb⟩; have k1 := hc1 w1 hb; clear hK)
        | (go_at_call 29; refine (hA _ (below_one hb _)).mono ?_; rintro e w9 ⟨rfl, hw9⟩; replace hw9 := hw9.symm; subst hw9))
      go_ret2
      exact ⟨rfl, below_one hb _⟩
/-- No room. -/
theorem hmake_full (H : HpM w h W G c room R X) (g t cls n : Int) (hg : 0 ≤ g ∧ g < G) (ht : 1 ≤ t ∧ t ≤ 4) (hn : (kmin t ≤ n ∧ n ≤ kmax t) ∧ 0 ≤ cls) (hr : room < n + 16) :
    Calls Tryz.prog 16 #[.pointer (some ⟨h, 0, none⟩), .int .i64 g, .int .i64 t, .int .i64 cls, .int .i64 n] w fun e w' => e = .returned (.tuple #[.int .i64 0, .int .i64 901]) ∧ Below w.heap.size w w' := by
  have cc := H.five
  have hh := H.h_lt
  have hA := fun w1 (hb : Below w.heap.size w w1) => (H.below hb).agent g true (by simpa using hg)
  have hc1 : ∀ w1, Below w.heap.size w w1 → (w1.cell? ⟨h, 0, none⟩ = some (.pointer (some ⟨X.b, 0, none⟩)) ∧ w1.cell? ⟨h, 5, none⟩ = some (.int .i64 room)) ∧ h < w1.heap.size := fun w1 hb => ⟨⟨(H.below hb).five.1, (H.below hb).five.2.2.2.2⟩, (H.below hb).h_lt⟩
  have hK := H.kind t ht
  have hnb : -1000000 ≤ n ∧ n ≤ 1000000 := by
    have h1 : 0 ≤ kmin t := by unfold kmin; split <;> omega
    have h2 : kmax t ≤ 1000 := by unfold kmax; split <;> (try split) <;> omega
    omega
  have hC := charge_ok n hnb
  have n1 : decide (n < kmin t) = false := by simp; omega
  have n2 : decide (kmax t < n) = false := by simp; omega
  have n3 : decide (cls < 0) = false := by simp; omega
  generalize kmin t = x at *
  generalize kmax t = y at *
  generalize ktt t = ty at *
  generalize kvv X.so X.s t = d at *
  clear H hg ht hn
  go_enter Tryz.func16, Tryz.ntmps16
  go_wp2_with (first
    | (go_at_call 28; refine hK.mono ?_; rintro e w1 ⟨rfl, hb⟩; have k1 := hc1 w1 hb; clear hK)
    | (go_at_call 29; refine (hA _ (below_one hb _)).mono ?_; rintro e w9 ⟨rfl, hw9⟩; replace hw9 := hw9.symm; subst hw9))
  go_quiet ((go_at_call 30; exact Calls.quiet_of_same (hC _)))
  go_wp2
  go_ret2
  exact ⟨rfl, (below_one hb _).trans (below_drewN _ _ _)⟩
end
end Go.Proofs.YtbagecfgeagacaaGreat
