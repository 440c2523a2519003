/- Plain parts of LoadSupers, LoadTypes, LoadMains: programs with a number in them, told by tables. -/
import Derived.Test.YtbdfpodglfpjnaaGreatMQBlk
namespace Go.Proofs.YtbdfpodglfpjnaaGreat
open Go.RowKit

theorem tmod_bd (z : Int) (m : Int) (hm : 0 < m) : -m < z.tmod m ∧ z.tmod m < m := ⟨Int.lt_tmod_of_pos z hm, Int.tmod_lt_of_pos z hm⟩
theorem load_of {p : Pg} {f : Fs} (h : st8 p = f) : loadJ p = if f.1 = 0 then .ok (allJ p) else .error f := by unfold loadJ; rw [h]
/-- LoadSupers. -/
def supP (s : Int) : Pg := ⟨11, [tinyC, ⟨⟨#[65]⟩, false, false, s, [], [], [], []⟩, ⟨⟨#[73]⟩, true, false, 0, [], [], [], []⟩]⟩
def supF (s : Int) : Fs := if s < 0 ∨ 13 ≤ s ∨ s = 10 then (1500, 12) else if s = 12 then (1501, 12) else (0, 0)
theorem sup_tab : ((List.range 39).all fun i => okB (supP ((i : Int) - 19)) && decide (st8 (supP ((i : Int) - 19)) = supF ((i : Int) - 19))) = true := by kernel_rfl
theorem sup_at (s : Int) (h1 : -20 < s) (h2 : s < 20) : Okl (supP s) ∧ st8 (supP s) = supF s := by
  have h := List.all_eq_true.1 sup_tab (s + 19).toNat (List.mem_range.2 (by omega))
  rw [show (((s + 19).toNat : Nat) : Int) - 19 = s by omega, Bool.and_eq_true, decide_eq_true_eq] at h
  exact ⟨okl_of h.1, h.2⟩
/-- LoadTypes: a field, a static field, an argument, a result. -/
def typC : Nat → Int → Cs
  | 0, k => ⟨⟨#[65]⟩, false, false, 0, [], [⟨⟨#[120]⟩, k⟩], [], []⟩
  | 1, k => ⟨⟨#[65]⟩, false, false, 0, [], [], [⟨⟨#[120]⟩, k⟩], []⟩
  | 2, k => ⟨⟨#[65]⟩, false, false, 0, [], [], [], [⟨⟨#[102]⟩, false, [k], 0, 2, 0, [retI], [], []⟩]⟩
  | _, k => ⟨⟨#[65]⟩, false, false, 0, [], [], [], [⟨⟨#[102]⟩, false, [], k, 1, 0, [retI], [], []⟩]⟩
def typP (v : Nat) (k : Int) : Pg := ⟨11, [tinyC, typC v k]⟩
def fineT (v : Nat) (k : Int) : Bool := k == 1 || k == 3 || k == 4 || (16 ≤ k && k ≤ 28) || (v == 3 && k == 0)
def typF (v : Nat) (k : Int) : Fs := if fineT v k then (0, 0) else (1504, 12)
theorem typ_tab : ((List.range 79).all fun i => (List.range 4).all fun v => okB (typP v ((i : Int) - 39)) && decide (st8 (typP v ((i : Int) - 39)) = typF v ((i : Int) - 39))) = true := by kernel_rfl
theorem typ_at (v : Nat) (hv : v < 4) (k : Int) (h1 : -40 < k) (h2 : k < 40) : Okl (typP v k) ∧ st8 (typP v k) = typF v k := by
  have h := List.all_eq_true.1 (List.all_eq_true.1 typ_tab (k + 39).toNat (List.mem_range.2 (by omega))) v (List.mem_range.2 hv)
  rw [show (((k + 39).toNat : Nat) : Int) - 39 = k by omega, Bool.and_eq_true, decide_eq_true_eq] at h
  exact ⟨okl_of h.1, h.2⟩
/-- LoadMains: main's number. -/
def maiP (k : Int) : Pg := ⟨k, [tinyC, ⟨⟨#[73]⟩, true, false, 0, [], [], [], [⟨⟨#[102]⟩, false, [], 0, 0, 0, [], [], []⟩]⟩, ⟨⟨#[69]⟩, false, false, 0, [], [], [], []⟩]⟩
def maiF (k : Int) : Fs := if k = 11 then (0, 0) else (1505, k)
theorem mai_tab : ((List.range 39).all fun i => okB (maiP ((i : Int) - 19)) && decide (st8 (maiP ((i : Int) - 19)) = maiF ((i : Int) - 19))) = true := by kernel_rfl
theorem mai_at (k : Int) (h1 : -20 < k) (h2 : k < 20) : Okl (maiP k) ∧ st8 (maiP k) = maiF k := by
  have h := List.all_eq_true.1 mai_tab (k + 19).toNat (List.mem_range.2 (by omega))
  rw [show (((k + 19).toNat : Nat) : Int) - 19 = k by omega, Bool.and_eq_true, decide_eq_true_eq] at h
  exact ⟨okl_of h.1, h.2⟩
theorem withN {w : World} {S : Nat → Prop} {xs : List Cs} {ao : Option Addr} {cap n : Nat} (hl : xs.length = n) (hS : ∀ k, S k → k < w.heap.size) (h : Sl kCs w S (.slice ao n cap) xs) (hn : n ≤ 1000) (h0 : 0 < n) : Calls Tryz.prog 12 #[.slice ao n cap] w fun e w' => ∃ g c, e = .returned (.agg #[.int .i64 11, .slice (some ⟨g, 0, none⟩) (n + 1) c]) ∧ Below w.heap.size w w' ∧ ∃ S' : Nat → Prop, (∀ k, S' k → k < w'.heap.size) ∧ Sl kCs w' S' (.slice (some ⟨g, 0, none⟩) (n + 1) c) (tinyC :: xs) := by
  subst hl
  refine (with_ok hS h hn h0).mono ?_
  rintro e w' ⟨g, c, he, hb, S', h1, h2⟩
  rw [Nat.add_comm] at he h2
  exact ⟨g, c, he, hb, S', h1, h2⟩
theorem yesN {w : World} {S : Nat → Prop} {p : Pg} {ao : Option Addr} {cap n : Nat} {k : Int} (hk : p.main = k) (hl : p.cls.length = n) (hO : Okl p) (hS : ∀ k, S k → k < w.heap.size) (h : Sl kCs w S (.slice ao n cap) p.cls) (hJ : loadJ p = .ok (allJ p)) : Calls Tryz.prog 13 #[.agg #[.int .i64 k, .slice ao n cap], .int .i64 0, .int .i64 0] w fun e w' => e = .returned (.bool true) ∧ Below w.heap.size w w' := by
  subst hl hk; exact faults_yes hO hS h hJ
theorem errN {w : World} {S : Nat → Prop} {p : Pg} {ao : Option Addr} {cap n : Nat} {k : Int} (hk : p.main = k) (hl : p.cls.length = n) (hO : Okl p) (hS : ∀ k, S k → k < w.heap.size) (h : Sl kCs w S (.slice ao n cap) p.cls) {class_ code : Int} (hc : code ≠ 0) (hJ : loadJ p = .error (code, class_)) : Calls Tryz.prog 13 #[.agg #[.int .i64 k, .slice ao n cap], .int .i64 class_, .int .i64 code] w fun e w' => e = .returned (.bool true) ∧ Below w.heap.size w w' := by
  subst hl hk; exact faults_err hO hS h hc hJ
end Go.Proofs.YtbdfpodglfpjnaaGreat
