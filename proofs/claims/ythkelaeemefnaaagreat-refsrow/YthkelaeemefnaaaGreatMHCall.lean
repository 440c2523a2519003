/- The heap between two calls; its kinds; what it refuses. -/
import Derived.Test.YthkelaeemefnaaaGreatMH2
import Derived.Test.YthkelaeemefnaaaGreatMHArr
import Derived.BigQuiet
namespace Go.Proofs.YthkelaeemefnaaaGreat
open Go.RowKit
/-- The heap between two calls: S its cells, F their words, m what the calls cost at most: Make and Free 500, Load and Put 1. -/
structure HpC (w : World) (h W G m : Nat) (c : Int → Int) (S : List (Option Cel)) (F : Nat → Nat → Int) (X : Hx) : Prop where
  mem : HpM w h W G c ((roomW W : Int) - sumS S) (rowsN X.so X.s S) X
  tab : Tab S X.ln
  lnk : Lnk S F X.O X.ws X.q.xs X.V
  enough : Enough W X.N
  big : 512 ≤ W ∧ W ≤ 20000
  fit : sumS S ≤ roomW W
  half : X.q.half = ((W : Int) - (11 * X.N + 8)) / 2
  calm : X.q.c.on = false
  few : 25 * X.T ≤ (m : Int) ∧ 500 * X.nn ≤ m ∧ 500 * X.q.given ≤ (m : Int) ∧ 500 * S.length ≤ m
  cnt : Few (400 * (m : Int)) (natf c)
/-- What a call leaves. -/
def HpT (w : World) (h W G m : Nat) (c : Int → Int) (S : List (Option Cel)) (F : Nat → Nat → Int) (X : Hx) (w' : World) : Prop :=
  ∃ X', HpC w' h W G m c S F X' ∧ Bt (X.own h) w w' ∧ Wider (X.own h) (X'.own h) w
/-- How many words a cell of a kind may have. -/
def kmin (t : Int) : Int := if t = 4 then 1 else 0
def kmax (t : Int) : Int := if t = 1 then 64 else if t = 4 then 1 else 1000
def ktt (t : Int) : TypeId := if t = 1 ∨ t = 4 then 150 else 153
def kvv (so s : Nat) (t : Int) : Value := if t = 1 ∨ t = 4 then .pointer (some ⟨so, 0, none⟩) else .agg #[.pointer (some ⟨s, 0, none⟩)]
theorem kk_cel (so s : Nat) (c : Cel) : ktt c.kind = kty c ∧ kvv so s c.kind = kvl so s c := by
  have e : c.ob = true ↔ (c.kind = 1 ∨ c.kind = 4) := by simp [Cel.ob]
  unfold ktt kvv kty kvl
  by_cases h : c.kind = 1 ∨ c.kind = 4
  · rw [if_pos h, if_pos (e.2 h), if_pos h, if_pos (e.2 h)]; exact ⟨rfl, rfl⟩
  · rw [if_neg h, if_neg (fun q => h (e.1 q)), if_neg h, if_neg (fun q => h (e.1 q))]; exact ⟨rfl, rfl⟩
section
variable {w w' : World} {h W G : Nat} {c : Int → Int} {room : Int} {R : List (List Value)} {X : Hx}
theorem kindsR_key (so s : Nat) : KeyK (kindsR so s) [1, 2, 3, 4] := by
  refine ⟨rfl, fun i r hr => ?_⟩
  unfold kindsR at hr
  match i, hr with
  | 0, hr => simp at hr; subst hr; exact ⟨_, _, _, _, _, rfl, rfl⟩
  | 1, hr => simp at hr; subst hr; exact ⟨_, _, _, _, _, rfl, rfl⟩
  | 2, hr => simp at hr; subst hr; exact ⟨_, _, _, _, _, rfl, rfl⟩
  | 3, hr => simp at hr; subst hr; exact ⟨_, _, _, _, _, rfl, rfl⟩
  | i + 4, hr => simp at hr
theorem kinds_rise : SortedK [1, 2, 3, 4] := by unfold SortedK; decide
theorem HpM.kind (H : HpM w h W G c room R X) (t : Int) (ht : 1 ≤ t ∧ t ≤ 4) :
    Calls Tryz.prog 93 #[.pointer (some ⟨h, 1, none⟩), .int .i64 t] w fun e w' => e = .returned (.tuple #[.agg #[.int .i64 (kmin t), .int .i64 (kmax t), .iface (ktt t) (kvv X.so X.s t)], .bool true]) ∧ Below w.heap.size w w' := by
  have c1 := H.five.2.1
  have hr : t = 1 ∨ t = 2 ∨ t = 3 ∨ t = 4 := by omega
  have hk := kindsR_key X.so X.s
  rcases hr with rfl | rfl | rfl | rfl
  · exact findK_at c1 H.kinds hk kinds_rise (by decide) (i := 0) rfl 1 rfl
  · exact findK_at c1 H.kinds hk kinds_rise (by decide) (i := 1) rfl 2 rfl
  · exact findK_at c1 H.kinds hk kinds_rise (by decide) (i := 2) rfl 3 rfl
  · exact findK_at c1 H.kinds hk kinds_rise (by decide) (i := 3) rfl 4 rfl
theorem HpM.kind_no (H : HpM w h W G c room R X) (t : Int) (ht : ¬ (1 ≤ t ∧ t ≤ 4)) :
    Calls Tryz.prog 93 #[.pointer (some ⟨h, 1, none⟩), .int .i64 t] w fun e w' => e = .returned (.tuple #[.agg #[.int .i64 0, .int .i64 0, .nilIface], .bool false]) ∧ Below w.heap.size w w' := by
  refine findK_no H.five.2.1 H.kinds (kindsR_key X.so X.s) kinds_rise (by decide) t ?_
  cases e : hasK [1, 2, 3, 4] t with
  | false => rfl
  | true =>
    have := (hasK_iff _ _).1 e
    simp only [List.mem_cons, List.not_mem_nil, or_false] at this
    omega
theorem HpM.agent (H : HpM w h W G c room R X) (g : Int) (r : Bool) (hr : r = true ↔ 0 ≤ g ∧ g < G) : Calls Tryz.prog 115 #[.pointer (some ⟨X.b, 0, none⟩), .int .i64 g] w fun e w' => e = .returned (.bool r) ∧ w' = w := by
  cases r with
  | true => exact H.gd.agent_yes g (hr.1 rfl)
  | false => exact H.gd.agent_no g (fun q => by simpa using hr.2 q)
theorem below_one {w w1 : World} (hb : Below w.heap.size w w1) (o : Obj) : Below w.heap.size w (w1.alloc o) := hb.alloc hb.size o
/-- What there may not be. -/
theorem hcheck_kind (H : HpM w h W G c room R X) (t cls n : Int) (ht : ¬ (1 ≤ t ∧ t ≤ 4)) :
    Calls Tryz.prog 65 #[.pointer (some ⟨h, 0, none⟩), .int .i64 t, .int .i64 cls, .int .i64 n] w fun e w' => e = .returned (.int .i64 902) ∧ Below w.heap.size w w' := by
  have hh := H.h_lt
  have hK := H.kind_no t ht
  clear H ht
  go_enter Tryz.func65, Tryz.ntmps65
  go_wp2_with (go_at_call 93; refine hK.mono ?_; rintro e w1 ⟨rfl, hb⟩; clear hK)
  go_ret
  exact ⟨rfl, below_one hb _⟩
theorem hcheck_size (H : HpM w h W G c room R X) (t cls n : Int) (ht : 1 ≤ t ∧ t ≤ 4) (hn : ¬ ((kmin t ≤ n ∧ n ≤ kmax t) ∧ 0 ≤ cls)) :
    Calls Tryz.prog 65 #[.pointer (some ⟨h, 0, none⟩), .int .i64 t, .int .i64 cls, .int .i64 n] w fun e w' => e = .returned (.int .i64 900) ∧ Below w.heap.size w w' := by
  have hh := H.h_lt
  have hK := H.kind t ht
  generalize kmin t = x at *
  generalize kmax t = y at *
  generalize ktt t = ty at *
  generalize kvv X.so X.s t = d at *
  clear H ht
  by_cases n1 : n < x
  · clear hn
    go_enter Tryz.func65, Tryz.ntmps65
    go_wp2_with (go_at_call 93; refine hK.mono ?_; rintro e w1 ⟨rfl, hb⟩; clear hK)
    go_ret
    exact ⟨rfl, below_one hb _⟩
  · have n1' : decide (n < x) = false := by simp; omega
    by_cases n2 : y < n
    · clear hn n1
      go_enter Tryz.func65, Tryz.ntmps65
      go_wp2_with (go_at_call 93; refine hK.mono ?_; rintro e w1 ⟨rfl, hb⟩; clear hK)
      go_ret
      exact ⟨rfl, below_one hb _⟩
    · have n2' : decide (y < n) = false := by simp; omega
      have n3 : cls < 0 := by omega
      clear hn n1 n2
      go_enter Tryz.func65, Tryz.ntmps65
      go_wp2_with (go_at_call 93; refine hK.mono ?_; rintro e w1 ⟨rfl, hb⟩; clear hK)
      go_ret
      exact ⟨rfl, below_one hb _⟩
theorem hcheck_yes (H : HpM w h W G c room R X) (t cls n : Int) (ht : 1 ≤ t ∧ t ≤ 4) (hn : (kmin t ≤ n ∧ n ≤ kmax t) ∧ 0 ≤ cls) :
    Calls Tryz.prog 65 #[.pointer (some ⟨h, 0, none⟩), .int .i64 t, .int .i64 cls, .int .i64 n] w fun e w' => e = .returned (.int .i64 0) ∧ Below w.heap.size w w' := by
  have hh := H.h_lt
  have hK := H.kind t ht
  generalize kmin t = x at *
  generalize kmax t = y at *
  generalize ktt t = ty at *
  generalize kvv X.so X.s t = d at *
  have n1 : decide (n < x) = false := by simp; omega
  have n2 : decide (y < n) = false := by simp; omega
  have n3 : decide (cls < 0) = false := by simp; omega
  clear H ht hn
  go_enter Tryz.func65, Tryz.ntmps65
  go_wp2_with (go_at_call 93; refine hK.mono ?_; rintro e w1 ⟨rfl, hb⟩; clear hK)
  go_ret
  exact ⟨rfl, below_one hb _⟩
/-- No such agent. -/
theorem hmake_agent (H : HpM w h W G c room R X) (g t cls n : Int) (hg : ¬ (0 ≤ g ∧ g < G)) :
    Calls Tryz.prog 94 #[.pointer (some ⟨h, 0, none⟩), .int .i64 g, .int .i64 t, .int .i64 cls, .int .i64 n] w fun e w' => e = .returned (.tuple #[.int .i64 0, .int .i64 904]) ∧ Below w.heap.size w w' := by
  have cc := H.five
  have hh := H.h_lt
  have hA := H.agent g false (by simpa using hg)
  clear H hg
  go_enter Tryz.func94, Tryz.ntmps94
  go_wp2_with (go_at_call 115; refine hA.mono ?_; rintro e w9 ⟨rfl, hw9⟩; replace hw9 := hw9.symm; subst hw9)
  go_ret2
  exact ⟨rfl, Below.refl _ _⟩
theorem hmake_code (H : HpM w h W G c room R X) (g t cls n : Int) (hg : 0 ≤ g ∧ g < G) (code : Int) (h0 : code ≠ 0) (hC : Calls Tryz.prog 65 #[.pointer (some ⟨h, 0, none⟩), .int .i64 t, .int .i64 cls, .int .i64 n] w fun e w' => e = .returned (.int .i64 code) ∧ Below w.heap.size w w') :
    Calls Tryz.prog 94 #[.pointer (some ⟨h, 0, none⟩), .int .i64 g, .int .i64 t, .int .i64 cls, .int .i64 n] w fun e w' => e = .returned (.tuple #[.int .i64 0, .int .i64 code]) ∧ Below w.heap.size w w' := by
  have cc := H.five
  have hh := H.h_lt
  have hA := H.agent g true (by simpa using hg)
  have h1 : (code == 0) = false := by simpa using h0
  have h2 : (code != 0) = true := by simpa using h0
  clear H hg
  go_enter Tryz.func94, Tryz.ntmps94
  go_wp2_with (first
    | (go_at_call 115; refine hA.mono ?_; rintro e w9 ⟨rfl, hw9⟩; replace hw9 := hw9.symm; subst hw9)
    | (go_at_call 65; refine hC.mono ?_; rintro e w1 ⟨rfl, hb⟩))
  go_ret2
  exact ⟨rfl, hb⟩
/-- No such kind. -/
theorem hmake_kind (H : HpM w h W G c room R X) (g t cls n : Int) (hg : 0 ≤ g ∧ g < G) (ht : ¬ (1 ≤ t ∧ t ≤ 4)) :
    Calls Tryz.prog 94 #[.pointer (some ⟨h, 0, none⟩), .int .i64 g, .int .i64 t, .int .i64 cls, .int .i64 n] w fun e w' => e = .returned (.tuple #[.int .i64 0, .int .i64 902]) ∧ Below w.heap.size w w' :=
  hmake_code H g t cls n hg 902 (by decide) (hcheck_kind H t cls n ht)
/-- No such size, or no such class. -/
theorem hmake_size (H : HpM w h W G c room R X) (g t cls n : Int) (hg : 0 ≤ g ∧ g < G) (ht : 1 ≤ t ∧ t ≤ 4) (hn : ¬ ((kmin t ≤ n ∧ n ≤ kmax t) ∧ 0 ≤ cls)) :
    Calls Tryz.prog 94 #[.pointer (some ⟨h, 0, none⟩), .int .i64 g, .int .i64 t, .int .i64 cls, .int .i64 n] w fun e w' => e = .returned (.tuple #[.int .i64 0, .int .i64 900]) ∧ Below w.heap.size w w' :=
  hmake_code H g t cls n hg 900 (by decide) (hcheck_size H t cls n ht hn)
/-- No room. -/
theorem hmake_full (H : HpM w h W G c room R X) (g t cls n : Int) (hg : 0 ≤ g ∧ g < G) (ht : 1 ≤ t ∧ t ≤ 4) (hn : (kmin t ≤ n ∧ n ≤ kmax t) ∧ 0 ≤ cls) (hr : room < n + 16) :
    Calls Tryz.prog 94 #[.pointer (some ⟨h, 0, none⟩), .int .i64 g, .int .i64 t, .int .i64 cls, .int .i64 n] w fun e w' => e = .returned (.tuple #[.int .i64 0, .int .i64 901]) ∧ Below w.heap.size w w' := by
  have cc := H.five
  have hh := H.h_lt
  have hA := H.agent g true (by simpa using hg)
  have hK := hcheck_yes H t cls n ht hn
  have hc1 : ∀ w1, Below w.heap.size w w1 → w1.cell? ⟨h, 5, none⟩ = some (.int .i64 room) ∧ h < w1.heap.size := fun w1 hb => ⟨(H.below hb).five.2.2.2.2, (H.below hb).h_lt⟩
  have hnb : -1000000 ≤ n ∧ n ≤ 1000000 := by
    have h1 : 0 ≤ kmin t := by unfold kmin; split <;> omega
    have h2 : kmax t ≤ 1000 := by unfold kmax; split <;> (try split) <;> omega
    omega
  have hC := charge_ok n hnb
  clear H hg ht hn
  go_enter Tryz.func94, Tryz.ntmps94
  go_wp2_with (first
    | (go_at_call 115; refine hA.mono ?_; rintro e w9 ⟨rfl, hw9⟩; replace hw9 := hw9.symm; subst hw9)
    | (go_at_call 65; refine hK.mono ?_; rintro e w1 ⟨rfl, hb⟩; have k1 := hc1 w1 hb; clear hK))
  go_quiet ((go_at_call 56; exact Calls.quiet_of_same (hC _)))
  go_wp2
  go_ret2
  exact ⟨rfl, hb.trans (below_drewN _ _ _)⟩
end
end Go.Proofs.YthkelaeemefnaaaGreat
