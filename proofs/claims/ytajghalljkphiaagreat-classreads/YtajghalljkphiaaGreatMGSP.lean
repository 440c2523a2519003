/- SpoilInts, SpoilFields, SpoilProgram: nothing turns but blocks of the program that is handed over. -/
import Derived.Test.YtajghalljkphiaaGreatMGD2
import Derived.Test.YtajghalljkphiaaGreatMLSamp
import Derived.Test.YtajghalljkphiaaGreatMGD3
namespace Go.Proofs.YtajghalljkphiaaGreat
open Go.RowKit

/-- What a cell may turn into: an int into an int, a string into one that is not much longer. -/
def Sm (n : Nat) (u u' : Value) : Prop := u' = u ∨ (∃ x y, u = .int .i64 x ∧ u' = .int .i64 y) ∨ ∃ s t : ByteArray, u = .string s ∧ u' = .string t ∧ t.size ≤ s.size + n
/-- Of what w held only cells of S's blocks have turned, each as Sm says. -/
structure Spl (S : Nat → Prop) (n : Nat) (w w' : World) : Prop where
  bs : Bs S w w'
  cell : ∀ b o u, S b → w.cell? ⟨b, o, none⟩ = some u → ∃ u', w'.cell? ⟨b, o, none⟩ = some u' ∧ Sm n u u'
  frz : ∀ b, S b → (∀ j, w.frozen? ⟨b, j, none⟩ = false) → ∀ j, w'.frozen? ⟨b, j, none⟩ = false
section
variable {S : Nat → Prop} {n : Nat} {w w' : World}
theorem Spl.refl (S : Nat → Prop) (w : World) : Spl S 0 w w := ⟨Bs.refl _ _, fun _ _ _ _ h => ⟨_, h, .inl rfl⟩, fun _ _ h => h⟩
theorem frozen_same {w w' : World} {b : Nat} (h : w'.heap[b]? = w.heap[b]?) (j : Nat) : w'.frozen? ⟨b, j, none⟩ = w.frozen? ⟨b, j, none⟩ := by simp only [World.frozen?, h]
theorem Spl.far {w2 : World} (h : Spl S n w w') (hS : ∀ k, S k → k < w.heap.size) (e1 : w2.os = w'.os) (e2 : w2.tape = w'.tape) (e3 : w2.output = w'.output) (e4 : w'.heap.size ≤ w2.heap.size) (e5 : ∀ k, k < w.heap.size → w2.heap[k]? = w'.heap[k]?) : Spl S n w w2 :=
  ⟨⟨e1.trans h.bs.os, e2.trans h.bs.tape, e3.trans h.bs.output, Nat.le_trans h.bs.size e4, fun k hk hs => (e5 k hk).trans (h.bs.block k hk hs)⟩, fun b o u hb hc => by rw [cell_same (e5 b (hS b hb))]; exact h.cell b o u hb hc, fun b hb hf j => by rw [frozen_same (e5 b (hS b hb))]; exact h.frz b hb hf j⟩
theorem setCell_cell (w : World) (b o b' o' : Nat) (v u : Value) (h : w.cell? ⟨b', o', none⟩ = some u) : (w.setCell ⟨b, o, none⟩ v).cell? ⟨b', o', none⟩ = some (if b = b' ∧ o = o' then v else u) := by
  by_cases e : b = b' ∧ o = o'
  · obtain ⟨rfl, rfl⟩ := e
    rw [if_pos ⟨rfl, rfl⟩]
    exact World.cell?_setCell_same _ _ _ h
  · rw [if_neg e]
    rw [World.cell?_setCell_other]
    · exact h
    · intro e2; apply e; injection e2 with e3 e4; exact ⟨e3, e4⟩
theorem setCell_frozen (w : World) (b o b' j : Nat) (v : Value) : (w.setCell ⟨b, o, none⟩ v).frozen? ⟨b', j, none⟩ = w.frozen? ⟨b', j, none⟩ := by
  simp only [World.frozen?, World.setCell, Array.getElem?_modify]
  by_cases e : b = b'
  · subst e
    rw [if_pos rfl]
    cases w.heap[b]? with
    | none => rfl
    | some o => cases o <;> rfl
  · rw [if_neg e]
theorem Spl.setI {b o : Nat} {x y : Int} (h : Spl S n w w') (hb : S b) (hx : w.cell? ⟨b, o, none⟩ = some (.int .i64 x)) : Spl S n w (w'.setCell ⟨b, o, none⟩ (.int .i64 y)) := by
  refine ⟨h.bs.trans (Bs.set hb), fun b' o' u hb' hc => ?_, fun b' hb' hf j => by rw [setCell_frozen]; exact h.frz b' hb' hf j⟩
  obtain ⟨u', e1, e2⟩ := h.cell b' o' u hb' hc
  refine ⟨_, setCell_cell _ _ _ _ _ _ _ e1, ?_⟩
  split
  · rename_i e
    obtain ⟨rfl, rfl⟩ := e
    rw [hx] at hc
    obtain rfl := Option.some.inj hc
    exact .inr (.inl ⟨_, _, rfl, rfl⟩)
  · exact e2
theorem Sm.more {n m : Nat} {u u' : Value} (h : Sm n u u') (hm : n ≤ m) : Sm m u u' := by
  rcases h with h | h | ⟨s, t, e1, e2, e3⟩
  · exact .inl h
  · exact .inr (.inl h)
  · exact .inr (.inr ⟨s, t, e1, e2, by omega⟩)
theorem Spl.setS {b o : Nat} {s t : ByteArray} (h : Spl S n w w') (hb : S b) (hs : w.cell? ⟨b, o, none⟩ = some (.string s)) (ht : t.size ≤ s.size + n + 1) : Spl S (n + 1) w (w'.setCell ⟨b, o, none⟩ (.string t)) := by
  refine ⟨h.bs.trans (Bs.set hb), fun b' o' u hb' hc => ?_, fun b' hb' hf j => by rw [setCell_frozen]; exact h.frz b' hb' hf j⟩
  obtain ⟨u', e1, e2⟩ := h.cell b' o' u hb' hc
  refine ⟨_, setCell_cell _ _ _ _ _ _ _ e1, ?_⟩
  split
  · rename_i e
    obtain ⟨rfl, rfl⟩ := e
    rw [hs] at hc
    obtain rfl := Option.some.inj hc
    exact .inr (.inr ⟨_, _, rfl, rfl, by omega⟩)
  · exact e2.more (by omega)
theorem Spl.int {b o : Nat} {x : Int} (h : Spl S n w w') (hb : S b) (hx : w.cell? ⟨b, o, none⟩ = some (.int .i64 x)) : ∃ y, w'.cell? ⟨b, o, none⟩ = some (.int .i64 y) := by
  obtain ⟨u, h1, h2⟩ := h.cell b o _ hb hx
  rcases h2 with rfl | ⟨_, y, _, rfl⟩ | ⟨_, _, e, _⟩
  · exact ⟨_, h1⟩
  · exact ⟨_, h1⟩
  · cases e
theorem Spl.str {b o : Nat} {s : ByteArray} (h : Spl S n w w') (hb : S b) (hx : w.cell? ⟨b, o, none⟩ = some (.string s)) : ∃ t : ByteArray, w'.cell? ⟨b, o, none⟩ = some (.string t) ∧ t.size ≤ s.size + n := by
  obtain ⟨u, h1, h2⟩ := h.cell b o _ hb hx
  rcases h2 with rfl | ⟨_, y, e, _⟩ | ⟨_, t, e, rfl, e2⟩
  · exact ⟨_, h1, by omega⟩
  · cases e
  · cases e; exact ⟨_, h1, e2⟩
theorem Spl.slc {b o l c : Nat} {a : Option Addr} (h : Spl S n w w') (hb : S b) (hx : w.cell? ⟨b, o, none⟩ = some (.slice a l c)) : w'.cell? ⟨b, o, none⟩ = some (.slice a l c) := by
  obtain ⟨u, h1, h2⟩ := h.cell b o _ hb hx
  rcases h2 with rfl | ⟨_, y, e, _⟩ | ⟨_, t, e, _⟩
  · exact h1
  · cases e
  · cases e
theorem Spl.bol {b o : Nat} {a : Bool} (h : Spl S n w w') (hb : S b) (hx : w.cell? ⟨b, o, none⟩ = some (.bool a)) : w'.cell? ⟨b, o, none⟩ = some (.bool a) := by
  obtain ⟨u, h1, h2⟩ := h.cell b o _ hb hx
  rcases h2 with rfl | ⟨_, y, e, _⟩ | ⟨_, t, e, _⟩
  · exact h1
  · cases e
  · cases e
theorem Bs.drew {a b : World} (h : Bs S a b) : Bs S a b.drew := ⟨h.os, h.tape, h.output, h.size, h.block⟩
theorem Spl.drew (h : Spl S n w w') : Spl S n w w'.drew := ⟨h.bs.drew, h.cell, h.frz⟩
theorem Sl.at2 {α : Type} {K : Kd α} {ao : Option Addr} {l cap : Nat} {xs : List α} (h : Sl K w S (.slice ao l cap) xs) {i : Nat} {c : α} (hc : xs[i]? = some c) :
    ∃ b o, ao = some ⟨b, o, none⟩ ∧ S b ∧ (K.uf = true → ∀ j, w.frozen? ⟨b, j, none⟩ = false) ∧ ∃ cs, K.R w S c cs ∧ ∀ j u, cs[j]? = some u → w.cell? ⟨b, o + (i * K.k + j), none⟩ = some u := by
  obtain ⟨ao2, cp, e, _, hh⟩ := h
  injection e with e _ _
  rcases hh with q | ⟨b, o, q1, q2, q3, q4⟩
  · rw [q] at hc; simp at hc
  · obtain ⟨cs, r1, r2⟩ := q4 i c hc
    exact ⟨b, o, e.trans q1, q2, q3.2, cs, r1, r2⟩
theorem Sl.len {α : Type} {K : Kd α} {ao : Option Addr} {l cap : Nat} {xs : List α} (h : Sl K w S (.slice ao l cap) xs) : l = xs.length := by
  obtain ⟨ao2, cp, e, _⟩ := h; injection e
end

set_option maxHeartbeats 2000000 in
set_option maxRecDepth 20000 in
theorem spoilI_ok {S : Nat → Prop} {n : Nat} {w w1 : World} {v : Value} {xs : List Int} (hv : Sl kIU w S v xs) (H : Spl S n w w1) : Calls Tryz.prog 24 #[v] w1 fun e w2 => e = .returned (.tuple #[]) ∧ Spl S n w w2 ∧ Bs S w1 w2 := by
  have hv2 := hv
  obtain ⟨ao, cap, rfl, hmx, -⟩ := hv2
  unfold maxLen at hmx
  have HV : Hid (Sl kIU w S (.slice ao xs.length cap) xs) := hv
  have HH : Hid (Spl S n w w1) := H
  clear hv H
  go_enter Tryz.func24, Tryz.ntmps24
  go_wp2
  go_loopg [2] (xs.length + 1) (fun kx s2 wr => ∃ i : Nat, s2 = .int .i64 i ∧ i ≤ xs.length ∧ xs.length - i ≤ kx ∧ Hid (Spl S n w wr ∧ Bs S w1 wr))
  case atStart => exact ⟨0, rfl, by omega, by omega, HH.out, Bs.refl _ _⟩
  case round =>
    obtain ⟨i, rfl, hi, hk, HL⟩ := hrel
    by_cases hlt : i < xs.length
    · obtain ⟨c, hc⟩ : ∃ c, xs[i]? = some c := ⟨_, List.getElem?_eq_getElem hlt⟩
      obtain ⟨b, o, rfl, hb, hf, cs, r1, ha⟩ := HV.out.at2 hc
      obtain rfl := r1
      have q0 : w.cell? ⟨b, o + i, none⟩ = some (.int .i64 c) := by have := ha 0 _ rfl; rw [show kIU.k = 1 from rfl, show o + (i * 1 + 0) = o + i by omega] at this; exact this
      have Q0 : Hid (S b ∧ w.cell? ⟨b, o + i, none⟩ = some (.int .i64 c)) := ⟨hb, q0⟩
      obtain ⟨y, a0⟩ := HL.out.1.int hb q0
      have f0 := HL.out.1.frz b hb (hf rfl) (o + i)
      have hl2 : (i : Int) < (xs.length : Int) := by omega
      clear ha hc q0 hb hf HV
      go_wp2
      go_roundg (xs.length - (i + 1))
      case measure => omega
      case rel => exact ⟨i + 1, by go_num, by omega, by omega, HL.out.1.setI Q0.out.1 Q0.out.2, HL.out.2.trans (Bs.set Q0.out.1)⟩
    · have hn : i = xs.length := by omega
      subst hn
      have hl : ¬ ((xs.length : Nat) : Int) < ((xs.length : Nat) : Int) := by omega
      go_wp2
      go_end0
      exact ⟨rfl, HL.out⟩

theorem tilde_size (t : ByteArray) : ((⟨#[126]⟩ : ByteArray) ++ t).size = t.size + 1 := by
  rw [ByteArray.size_append]; show 1 + t.size = _; omega
set_option maxHeartbeats 2000000 in
set_option maxRecDepth 20000 in
theorem spoilF_ok {S : Nat → Prop} {n : Nat} {w w1 : World} {v : Value} {xs : List Fd} (hv : Sl kFdU w S v xs) (hsm : ∀ f ∈ xs, f.nm.size ≤ 1000) (hn : n + xs.length ≤ 1000000000) (H : Spl S n w w1) : Calls Tryz.prog 25 #[v] w1 fun e w2 => e = .returned (.tuple #[]) ∧ Spl S (n + xs.length) w w2 ∧ Bs S w1 w2 := by
  have hv2 := hv
  obtain ⟨ao, cap, rfl, hmx, -⟩ := hv2
  unfold maxLen at hmx
  have HV : Hid (Sl kFdU w S (.slice ao xs.length cap) xs) := hv
  have HH : Hid (Spl S n w w1) := H
  have HSM : Hid (∀ f ∈ xs, f.nm.size ≤ 1000) := hsm
  clear hv H hsm
  go_enter Tryz.func25, Tryz.ntmps25
  go_wp2
  go_loopg [2] (xs.length + 1) (fun kx s2 wr => ∃ i : Nat, s2 = .int .i64 i ∧ i ≤ xs.length ∧ xs.length - i ≤ kx ∧ Hid (Spl S (n + i) w wr ∧ Bs S w1 wr))
  case atStart => exact ⟨0, rfl, by omega, by omega, HH.out, Bs.refl _ _⟩
  case round =>
    obtain ⟨i, rfl, hi, hk, HL⟩ := hrel
    by_cases hlt : i < xs.length
    · obtain ⟨c, hc⟩ : ∃ c, xs[i]? = some c := ⟨_, List.getElem?_eq_getElem hlt⟩
      have hcs := HSM.out c (List.mem_of_getElem? hc)
      obtain ⟨b, o, rfl, hb, hf, cs, r1, ha⟩ := HV.out.at2 hc
      obtain rfl := r1
      have q0 : w.cell? ⟨b, o + i * 2, none⟩ = some (.string c.nm) := by have := ha 0 _ rfl; rw [show kFdU.k = 2 from rfl, show o + (i * 2 + 0) = o + i * 2 by omega] at this; exact this
      have Q0 : Hid (S b ∧ w.cell? ⟨b, o + i * 2, none⟩ = some (.string c.nm)) := ⟨hb, q0⟩
      obtain ⟨t, a0, ht⟩ := HL.out.1.str hb q0
      have f0 := HL.out.1.frz b hb (hf rfl) (o + i * 2)
      have hl2 : (i : Int) < (xs.length : Int) := by omega
      have HT : Hid (t.size ≤ c.nm.size + (n + i)) := ht
      have ht2 : ¬ (9223372036854775807 : Int) < ((1 + t.size : Nat) : Int) := by omega
      clear ha hc q0 hb hf HV ht hcs
      go_wp2
      go_roundg (xs.length - (i + 1))
      case measure => omega
      case rel => exact ⟨i + 1, by go_num, by omega, by omega, HL.out.1.setS Q0.out.1 Q0.out.2 (by rw [tilde_size]; have := HT.out; omega), HL.out.2.trans (Bs.set Q0.out.1)⟩
    · have hn : i = xs.length := by omega
      subst hn
      have hl : ¬ ((xs.length : Nat) : Int) < ((xs.length : Nat) : Int) := by omega
      go_wp2
      go_end0
      exact ⟨rfl, HL.out⟩
end Go.Proofs.YtajghalljkphiaaGreat
/- SpoilProgram. -/
namespace Go.Proofs.YtajghalljkphiaaGreat
open Go.RowKit

def SmallP (p : Pg) : Prop := p.cls.length ≤ 1000 ∧ ∀ c ∈ p.cls, c.nm.size ≤ 1000 ∧ c.flds.length ≤ 1000 ∧ ∀ f ∈ c.flds, f.nm.size ≤ 1000
theorem Bs.keeps {S : Nat → Prop} {w w' : World} {b : Nat} {o : Obj} (h : Bs S w w') (hb : ¬ S b) (e : w.heap[b]? = some o) : w'.heap[b]? = some o :=
  (h.block b (Array.getElem?_eq_some_iff.1 e).1 hb).trans e
theorem infoSMd : (Tryz.prog.info? 63).map (·.size) = some 9 := by kernel_rfl
theorem Bs.after {S : Nat → Prop} {a b c : World} (h : Bs S a b) (e1 : c.os = b.os) (e2 : c.tape = b.tape) (e3 : c.output = b.output) (e4 : b.heap.size ≤ c.heap.size) (e5 : ∀ k, k < b.heap.size → c.heap[k]? = b.heap[k]?) : Bs S a c :=
  h.trans ⟨e1, e2, e3, e4, fun k hk _ => e5 k hk⟩

set_option maxHeartbeats 8000000 in
set_option maxRecDepth 20000 in
theorem spoilP_ok {S : Nat → Prop} {w : World} {p : Pg} {cs : List Value} (hS : ∀ k, S k → k < w.heap.size) (hR : kPgU.R w S p cs) (hp : SmallP p) : Calls Tryz.prog 9 #[.agg cs.toArray] w fun e w' => e = .returned (.tuple #[]) ∧ Bs S w w' := by
  obtain ⟨v1, rfl, hV⟩ := hR
  have hV2 := hV
  obtain ⟨ao, cap, rfl, -⟩ := hV2
  have HV : Hid (Sl kCsU w S (.slice ao p.cls.length cap) p.cls) := hV
  have HP : Hid (SmallP p) := hp
  have HS : Hid (∀ k, S k → k < w.heap.size) := hS
  have hpl : p.cls.length ≤ 1000 := hp.1
  have HI : Hid (Spl S 0 w (w.alloc (.cells #[.int .i64 p.main, .slice ao p.cls.length cap] 24)) ∧ Bs S w (w.alloc (.cells #[.int .i64 p.main, .slice ao p.cls.length cap] 24)) ∧ (w.alloc (.cells #[.int .i64 p.main, .slice ao p.cls.length cap] 24)).heap[w.heap.size]? = some (.cells #[.int .i64 p.main, .slice ao p.cls.length cap] 24 (0, 0))) := ⟨(Spl.refl S w).far hS rfl rfl rfl (by simp) (fun k hk => Below.heap_alloc _ _ _ hk), (Bs.refl S w).after rfl rfl rfl (by simp) (fun k hk => Below.heap_alloc _ _ _ hk), heap_alloc_new _ _⟩
  clear hV hS hp
  go_enter Tryz.func9, Tryz.ntmps9
  go_wp2_with (fail)
  go_loopg [2] (p.cls.length + 1) (fun kx s2 wr => ∃ (i n : Nat), s2 = .int .i64 i ∧ i ≤ p.cls.length ∧ p.cls.length - i ≤ kx ∧ n ≤ 1001 * i ∧ Hid (Spl S n w wr ∧ Bs S w wr ∧ wr.heap[w.heap.size]? = some (.cells #[.int .i64 p.main, .slice ao p.cls.length cap] 24 (0, 0))))
  case atStart => exact ⟨0, 0, rfl, by omega, by omega, by omega, HI.out⟩
  case round =>
    obtain ⟨i, n, rfl, hi, hk, hn, HL⟩ := hrel
    clear HI
    by_cases hlt : i < p.cls.length
    · obtain ⟨c, hc⟩ : ∃ c, p.cls[i]? = some c := ⟨_, List.getElem?_eq_getElem hlt⟩
      have HCC : Hid (c.nm.size ≤ 1000 ∧ c.flds.length ≤ 1000 ∧ ∀ f ∈ c.flds, f.nm.size ≤ 1000) := HP.out.2 c (List.mem_of_getElem? hc)
      obtain ⟨cb, co, rfl, hb, hf, cs, r1, ha⟩ := HV.out.at2 hc
      obtain ⟨v1, v2, v3, v4, rfl, s1, s2, s3, s4⟩ := r1
      have S1 : Hid (Sl kIU w S v1 c.faces) := s1
      have S2 : Hid (Sl kFdU w S v2 c.flds) := s2
      have S4 : Hid (Sl kMdU w S v4 c.mds) := s4
      obtain ⟨a1, c1, rfl, -⟩ := s1
      obtain ⟨a2, c2, rfl, -⟩ := s2
      obtain ⟨a4, c4, rfl, hm4, -⟩ := s4
      unfold maxLen at hm4
      have HB : Hid (S cb) := hb
      have HFZ : Hid (∀ j, w.frozen? ⟨cb, j, none⟩ = false) := hf rfl
      have q0 : w.cell? ⟨cb, co + i * 8, none⟩ = some (.string c.nm) := by have := ha 0 _ rfl; rw [show kCsU.k = 8 from rfl, show co + (i * 8 + 0) = co + i * 8 by omega] at this; exact this
      have q4 : w.cell? ⟨cb, co + i * 8 + 4, none⟩ = some (.slice a1 c.faces.length c1) := by have := ha 4 _ rfl; rw [show kCsU.k = 8 from rfl, show co + (i * 8 + 4) = co + i * 8 + 4 by omega] at this; exact this
      have q5 : w.cell? ⟨cb, co + i * 8 + 5, none⟩ = some (.slice a2 c.flds.length c2) := by have := ha 5 _ rfl; rw [show kCsU.k = 8 from rfl, show co + (i * 8 + 5) = co + i * 8 + 5 by omega] at this; exact this
      have q7 : w.cell? ⟨cb, co + i * 8 + 7, none⟩ = some (.slice a4 c.mds.length c4) := by have := ha 7 _ rfl; rw [show kCsU.k = 8 from rfl, show co + (i * 8 + 7) = co + i * 8 + 7 by omega] at this; exact this
      have Q0 : Hid (w.cell? ⟨cb, co + i * 8, none⟩ = some (.string c.nm)) := q0
      have Q5 : Hid (w.cell? ⟨cb, co + i * 8 + 5, none⟩ = some (.slice a2 c.flds.length c2)) := q5
      have Q7 : Hid (w.cell? ⟨cb, co + i * 8 + 7, none⟩ = some (.slice a4 c.mds.length c4)) := q7
      have z0 : wr.cell? ⟨w.heap.size, 1, none⟩ = some (.slice (some ⟨cb, co, none⟩) p.cls.length cap) := by simp [World.cell?, HL.out.2.2]
      have g4 := HL.out.1.slc hb q4
      have hl2 : (i : Int) < (p.cls.length : Int) := by omega
      have hC1 := spoilI_ok S1.out HL.out.1
      have HNS : Hid (¬ S w.heap.size) := fun h => by have := HS.out _ h; omega
      clear q0 q4 q5 q7 ha hc hf hb s3 S1 HV
      go_upto_region 6 with (first
        | (go_at_call 24; refine hC1.mono ?_; rintro e wa ⟨rfl, hA, hAb⟩; have HLa : Hid (Spl S n w wa ∧ Bs S w wa ∧ wa.heap[w.heap.size]? = some (.cells #[.int .i64 p.main, .slice (some ⟨cb, co, none⟩) p.cls.length cap] 24 (0, 0))) := ⟨hA, HL.out.2.1.trans hAb, hAb.keeps HNS.out HL.out.2.2⟩; have z1 : wa.cell? ⟨w.heap.size, 1, none⟩ = some (.slice (some ⟨cb, co, none⟩) p.cls.length cap) := (by simp [World.cell?, HLa.out.2.2]); have g5 := hA.slc HB.out Q5.out; have hC2 := spoilF_ok S2.out HCC.out.2.2 (by have := HCC.out.2.1; omega) hA; clear hC1 hA hAb)
        | (go_at_call 25; refine hC2.mono ?_; rintro e wb ⟨rfl, hA, hAb⟩; have HLb : Hid (Spl S (n + c.flds.length) w wb ∧ Bs S w wb ∧ wb.heap[w.heap.size]? = some (.cells #[.int .i64 p.main, .slice (some ⟨cb, co, none⟩) p.cls.length cap] 24 (0, 0))) := ⟨hA, HLa.out.2.1.trans hAb, hAb.keeps HNS.out HLa.out.2.2⟩; clear hC2 hA hAb HLa))
      clear z0 z1 g4 g5 HL S2
      obtain ⟨N, hN⟩ : ∃ N, N = n + c.flds.length := ⟨_, rfl⟩
      rw [← hN] at HLb
      have HNN : Hid (N = n + c.flds.length) := hN
      clear hN
      go_wp2_with (fail)
      go_loopg [3] (c.mds.length + 1) (fun kx s3 wr => ∃ (k : Nat), s3 = .int .i64 k ∧ k ≤ c.mds.length ∧ c.mds.length - k ≤ kx ∧ Hid (Spl S N w wr ∧ Bs S w wr ∧ wr.heap[w.heap.size]? = some (.cells #[.int .i64 p.main, .slice (some ⟨cb, co, none⟩) p.cls.length cap] 24 (0, 0))))
      case atStart => exact ⟨0, rfl, by omega, by omega, HLb.out⟩
      case round =>
        obtain ⟨k, rfl, hk2, hkx2, HM⟩ := hrel
        clear HLb
        have z2 : wr.cell? ⟨w.heap.size, 1, none⟩ = some (.slice (some ⟨cb, co, none⟩) p.cls.length cap) := by simp [World.cell?, HM.out.2.2]
        have g7 := HM.out.1.slc HB.out Q7.out
        by_cases hlt2 : k < c.mds.length
        · obtain ⟨m, hm⟩ : ∃ m, c.mds[k]? = some m := ⟨_, List.getElem?_eq_getElem hlt2⟩
          obtain ⟨db, dO, rfl, hdb, -, ds, r2, hd⟩ := S4.out.at2 hm
          obtain ⟨u1, u2, u3, u4, rfl, x1, x2, x3, x4⟩ := r2
          have X1 : Hid (Sl kIU w S u1 m.args) := x1
          have X2 : Hid (Sl kIsU w S u2 m.code) := x2
          have X4 : Hid (Sl kMpU w S u4 m.maps) := x4
          obtain ⟨b1, k1, rfl, -⟩ := x1
          obtain ⟨b2, k2, rfl, hm2, -⟩ := x2
          obtain ⟨b3, k3, rfl, -⟩ := x3
          obtain ⟨b4, k4, rfl, hm5, -⟩ := x4
          unfold maxLen at hm2 hm5
          have q0 : w.cell? ⟨db, dO + k * 9, none⟩ = some (.string m.nm) := by have := hd 0 _ rfl; rw [show kMdU.k = 9 from rfl, show dO + (k * 9 + 0) = dO + k * 9 by omega] at this; exact this
          have q1 : w.cell? ⟨db, dO + k * 9 + 1, none⟩ = some (.bool m.stc) := by have := hd 1 _ rfl; rw [show kMdU.k = 9 from rfl, show dO + (k * 9 + 1) = dO + k * 9 + 1 by omega] at this; exact this
          have q2 : w.cell? ⟨db, dO + k * 9 + 2, none⟩ = some (.slice b1 m.args.length k1) := by have := hd 2 _ rfl; rw [show kMdU.k = 9 from rfl, show dO + (k * 9 + 2) = dO + k * 9 + 2 by omega] at this; exact this
          have q3 : w.cell? ⟨db, dO + k * 9 + 3, none⟩ = some (.int .i64 m.ret) := by have := hd 3 _ rfl; rw [show kMdU.k = 9 from rfl, show dO + (k * 9 + 3) = dO + k * 9 + 3 by omega] at this; exact this
          have q4 : w.cell? ⟨db, dO + k * 9 + 4, none⟩ = some (.int .i64 m.lo) := by have := hd 4 _ rfl; rw [show kMdU.k = 9 from rfl, show dO + (k * 9 + 4) = dO + k * 9 + 4 by omega] at this; exact this
          have q5 : w.cell? ⟨db, dO + k * 9 + 5, none⟩ = some (.int .i64 m.st) := by have := hd 5 _ rfl; rw [show kMdU.k = 9 from rfl, show dO + (k * 9 + 5) = dO + k * 9 + 5 by omega] at this; exact this
          have q6 : w.cell? ⟨db, dO + k * 9 + 6, none⟩ = some (.slice b2 m.code.length k2) := by have := hd 6 _ rfl; rw [show kMdU.k = 9 from rfl, show dO + (k * 9 + 6) = dO + k * 9 + 6 by omega] at this; exact this
          have q7 : w.cell? ⟨db, dO + k * 9 + 7, none⟩ = some (.slice b3 m.tab.length k3) := by have := hd 7 _ rfl; rw [show kMdU.k = 9 from rfl, show dO + (k * 9 + 7) = dO + k * 9 + 7 by omega] at this; exact this
          have q8 : w.cell? ⟨db, dO + k * 9 + 8, none⟩ = some (.slice b4 m.maps.length k4) := by have := hd 8 _ rfl; rw [show kMdU.k = 9 from rfl, show dO + (k * 9 + 8) = dO + k * 9 + 8 by omega] at this; exact this
          obtain ⟨t0, e0, -⟩ := HM.out.1.str hdb q0
          have e1 := HM.out.1.bol hdb q1
          have e2 := HM.out.1.slc hdb q2
          obtain ⟨y3, e3⟩ := HM.out.1.int hdb q3
          obtain ⟨y4, e4⟩ := HM.out.1.int hdb q4
          obtain ⟨y5, e5⟩ := HM.out.1.int hdb q5
          have e6 := HM.out.1.slc hdb q6
          have e7 := HM.out.1.slc hdb q7
          have e8 := HM.out.1.slc hdb q8
          have hl3 : (k : Int) < (c.mds.length : Int) := by omega
          have HN0 : Hid ((wr.alloc (.cells #[.string ⟨#[]⟩, .bool false, .slice none 0 0, .int .i64 0, .int .i64 0, .int .i64 0, .slice none 0 0, .slice none 0 0, .slice none 0 0] 63)).heap[wr.heap.size]? = some (.cells #[.string ⟨#[]⟩, .bool false, .slice none 0 0, .int .i64 0, .int .i64 0, .int .i64 0, .slice none 0 0, .slice none 0 0, .slice none 0 0] 63 (0, 0))) := heap_alloc_new _ _
          have hwz := HM.out.1.bs.size
          clear q0 q1 q2 q3 q4 q5 q6 q7 q8 hd hm hdb
          go_upto_region 11 with (first
            | (refine wpList_store_row rfl 63 _ _ rfl wr.heap.size _ rfl rfl 63 _ HN0.out infoSMd rfl (by simp [Value.oneCell']) ?_; have hx := boxed wr #[.string ⟨#[]⟩, .bool false, .slice none 0 0, .int .i64 0, .int .i64 0, .int .i64 0, .slice none 0 0, .slice none 0 0, .slice none 0 0] #[.string t0, .bool m.stc, .slice b1 m.args.length k1, .int .i64 y3, .int .i64 y4, .int .i64 y5, .slice b2 m.code.length k2, .slice b3 m.tab.length k3, .slice b4 m.maps.length k4] 63; generalize ((wr.alloc (.cells #[.string ⟨#[]⟩, .bool false, .slice none 0 0, .int .i64 0, .int .i64 0, .int .i64 0, .slice none 0 0, .slice none 0 0, .slice none 0 0] 63)).setRow wr.heap.size #[.string t0, .bool m.stc, .slice b1 m.args.length k1, .int .i64 y3, .int .i64 y4, .int .i64 y5, .slice b2 m.code.length k2, .slice b3 m.tab.length k3, .slice b4 m.maps.length k4]) = wc at hx ⊢; obtain ⟨mb, hmb⟩ : ∃ mb, mb = wr.heap.size := ⟨_, rfl⟩; rw [← hmb] at hx ⊢; obtain ⟨g1, h1, h2, o1⟩ := hx; have HX : Hid (Spl S N w wc ∧ Bs S w wc ∧ wc.heap[w.heap.size]? = some (.cells #[.int .i64 p.main, .slice (some ⟨cb, co, none⟩) p.cls.length cap] 24 (0, 0)) ∧ wc.heap[mb]? = some (.cells #[.string t0, .bool m.stc, .slice b1 m.args.length k1, .int .i64 y3, .int .i64 y4, .int .i64 y5, .slice b2 m.code.length k2, .slice b3 m.tab.length k3, .slice b4 m.maps.length k4] 63 (0, 0)) ∧ w.heap.size < mb) := ⟨HM.out.1.far HS.out o1.1 o1.2.1 o1.2.2 (by omega) (fun k hk => h2 k (by omega)), HM.out.2.1.after o1.1 o1.2.1 o1.2.2 (by omega) (fun k hk => h2 k (by omega)), (by rw [h2 _ (by have := (Array.getElem?_eq_some_iff.1 HM.out.2.2).1; omega)]; exact HM.out.2.2), g1, (by have := (Array.getElem?_eq_some_iff.1 HM.out.2.2).1; omega)⟩; have n2 : wc.cell? ⟨mb, 2, none⟩ = some (.slice b1 m.args.length k1) := (by simp [World.cell?, HX.out.2.2.2.1]); have hC3 := spoilI_ok X1.out HX.out.1; clear g1 h1 h2 o1 HN0 hmb)
            | (go_at_call 24; refine hC3.mono ?_; rintro e wd ⟨rfl, hA, hAb⟩; have HY : Hid (Spl S N w wd ∧ Bs S w wd ∧ wd.heap[w.heap.size]? = some (.cells #[.int .i64 p.main, .slice (some ⟨cb, co, none⟩) p.cls.length cap] 24 (0, 0)) ∧ wd.heap[mb]? = some (.cells #[.string t0, .bool m.stc, .slice b1 m.args.length k1, .int .i64 y3, .int .i64 y4, .int .i64 y5, .slice b2 m.code.length k2, .slice b3 m.tab.length k3, .slice b4 m.maps.length k4] 63 (0, 0)) ∧ w.heap.size < mb) := ⟨hA, HX.out.2.1.trans hAb, hAb.keeps HNS.out HX.out.2.2.1, hAb.keeps (fun h => by have := HS.out _ h; have := HX.out.2.2.2.2; omega) HX.out.2.2.2.1, HX.out.2.2.2.2⟩; clear hC3 hA hAb HX))
          clear e0 e1 e2 e3 e4 e5 e6 e7 e8 z2 g7 n2 hwz HM X1
          go_wp2_with (fail)
          go_loopg [5] (m.code.length + 1) (fun kx s5 wr => ∃ (j : Nat), s5 = .int .i64 j ∧ j ≤ m.code.length ∧ m.code.length - j ≤ kx ∧ Hid (Spl S N w wr ∧ Bs S w wr ∧ wr.heap[w.heap.size]? = some (.cells #[.int .i64 p.main, .slice (some ⟨cb, co, none⟩) p.cls.length cap] 24 (0, 0)) ∧ wr.heap[mb]? = some (.cells #[.string t0, .bool m.stc, .slice b1 m.args.length k1, .int .i64 y3, .int .i64 y4, .int .i64 y5, .slice b2 m.code.length k2, .slice b3 m.tab.length k3, .slice b4 m.maps.length k4] 63 (0, 0)) ∧ w.heap.size < mb))
          case atStart => exact ⟨0, rfl, by omega, by omega, HY.out⟩
          case round =>
            obtain ⟨j, rfl, hj, hkx3, HZ⟩ := hrel
            clear HY
            have n6 : wr.cell? ⟨mb, 6, none⟩ = some (.slice b2 m.code.length k2) := by simp [World.cell?, HZ.out.2.2.2.1]
            by_cases hlt3 : j < m.code.length
            · obtain ⟨s, hs⟩ : ∃ s, m.code[j]? = some s := ⟨_, List.getElem?_eq_getElem hlt3⟩
              obtain ⟨sb, so, rfl, hsb, hsf, ss, r3, hsd⟩ := X2.out.at2 hs
              obtain rfl := r3
              have q1 : w.cell? ⟨sb, so + j * 3 + 1, none⟩ = some (.int .i64 s.a) := by have := hsd 1 _ rfl; rw [show kIsU.k = 3 from rfl, show so + (j * 3 + 1) = so + j * 3 + 1 by omega] at this; exact this
              have QS : Hid (S sb ∧ w.cell? ⟨sb, so + j * 3 + 1, none⟩ = some (.int .i64 s.a)) := ⟨hsb, q1⟩
              obtain ⟨y, e1⟩ := HZ.out.1.int hsb q1
              have f1 := HZ.out.1.frz sb hsb (hsf rfl) (so + j * 3 + 1)
              have hl4 : (j : Int) < (m.code.length : Int) := by omega
              clear q1 hsd hsf hsb hs
              go_upto_region 14 with (fail)
              go_region
              go_wp2_with (fail)
              go_roundg (m.code.length - (j + 1))
              case measure => omega
              case rel => exact ⟨j + 1, by go_num, by omega, by omega, (HZ.out.1.setI QS.out.1 QS.out.2).drew, (HZ.out.2.1.trans (Bs.set QS.out.1)).drew, (Bs.set (v := _) QS.out.1).keeps HNS.out HZ.out.2.2.1, (Bs.set QS.out.1).keeps (fun h => by have := HS.out _ h; have := HZ.out.2.2.2.2; omega) HZ.out.2.2.2.1, HZ.out.2.2.2.2⟩
            · have hl4 : ¬ (j : Int) < (m.code.length : Int) := by omega
              go_wp2_with (fail)
              go_loopg [6] (m.maps.length + 1) (fun kx s6 wr => ∃ (j : Nat), s6 = .int .i64 j ∧ j ≤ m.maps.length ∧ m.maps.length - j ≤ kx ∧ Hid (Spl S N w wr ∧ Bs S w wr ∧ wr.heap[w.heap.size]? = some (.cells #[.int .i64 p.main, .slice (some ⟨cb, co, none⟩) p.cls.length cap] 24 (0, 0)) ∧ wr.heap[mb]? = some (.cells #[.string t0, .bool m.stc, .slice b1 m.args.length k1, .int .i64 y3, .int .i64 y4, .int .i64 y5, .slice b2 m.code.length k2, .slice b3 m.tab.length k3, .slice b4 m.maps.length k4] 63 (0, 0)) ∧ w.heap.size < mb))
              case atStart => exact ⟨0, rfl, by omega, by omega, HZ.out⟩
              case round =>
                obtain ⟨l, rfl, hj2, hkx4, HW⟩ := hrel
                clear HZ n6
                have n8 : wr.cell? ⟨mb, 8, none⟩ = some (.slice b4 m.maps.length k4) := by simp [World.cell?, HW.out.2.2.2.1]
                by_cases hlt4 : l < m.maps.length
                · obtain ⟨s, hs⟩ : ∃ s, m.maps[l]? = some s := ⟨_, List.getElem?_eq_getElem hlt4⟩
                  obtain ⟨sb, so, rfl, hsb, -, ss, r3, hsd⟩ := X4.out.at2 hs
                  obtain ⟨g1, g2, rfl, y1, -⟩ := r3
                  have Y1 : Hid (Sl kIU w S g1 s.lo) := y1
                  obtain ⟨l1, l2, rfl, -⟩ := y1
                  have q1 : w.cell? ⟨sb, so + l * 3 + 1, none⟩ = some (.slice l1 s.lo.length l2) := by have := hsd 1 _ rfl; rw [show kMpU.k = 3 from rfl, show so + (l * 3 + 1) = so + l * 3 + 1 by omega] at this; exact this
                  have e1 := HW.out.1.slc hsb q1
                  have hl5 : (l : Int) < (m.maps.length : Int) := by omega
                  have hC4 := spoilI_ok Y1.out HW.out.1
                  clear q1 hsd hsb hs Y1
                  go_wp2_with (go_at_call 24; refine hC4.mono ?_; rintro e we ⟨rfl, hA, hAb⟩; have HU : Hid (Spl S N w we ∧ Bs S w we ∧ we.heap[w.heap.size]? = some (.cells #[.int .i64 p.main, .slice (some ⟨cb, co, none⟩) p.cls.length cap] 24 (0, 0)) ∧ we.heap[mb]? = some (.cells #[.string t0, .bool m.stc, .slice b1 m.args.length k1, .int .i64 y3, .int .i64 y4, .int .i64 y5, .slice b2 m.code.length k2, .slice b3 m.tab.length k3, .slice (some ⟨sb, so, none⟩) m.maps.length k4] 63 (0, 0)) ∧ w.heap.size < mb) := ⟨hA, HW.out.2.1.trans hAb, hAb.keeps HNS.out HW.out.2.2.1, hAb.keeps (fun h => by have := HS.out _ h; have := HW.out.2.2.2.2; omega) HW.out.2.2.2.1, HW.out.2.2.2.2⟩; clear hC4 hA hAb)
                  go_roundg (m.maps.length - (l + 1))
                  case measure => omega
                  case rel => exact ⟨l + 1, by go_num, by omega, by omega, HU.out⟩
                · have hl5 : ¬ (l : Int) < (m.maps.length : Int) := by omega
                  go_wp2_with (fail)
                  go_roundg (c.mds.length - (k + 1))
                  case measure => omega
                  case rel => exact ⟨k + 1, by go_num, by omega, by omega, HW.out.1, HW.out.2.1, HW.out.2.2.1⟩
        · have hl3 : ¬ (k : Int) < (c.mds.length : Int) := by omega
          obtain ⟨t0, e0, ht0⟩ := HM.out.1.str HB.out Q0.out
          have f0 := HM.out.1.frz cb HB.out HFZ.out (co + i * 8)
          have HT : Hid (t0.size ≤ c.nm.size + N) := ht0
          have ht2 : ¬ (9223372036854775807 : Int) < ((1 + t0.size : Nat) : Int) := by have := HCC.out.1; have := HCC.out.2.1; have := HNN.out; omega
          clear ht0
          go_upto_region 19 with (fail)
          go_region
          go_wp2_with (fail)
          go_roundg (p.cls.length - (i + 1))
          case measure => omega
          case rel => exact ⟨i + 1, N + 1, by go_num, by omega, by omega, by have := HCC.out.2.1; have := HNN.out; omega, (HM.out.1.setS HB.out Q0.out (by rw [tilde_size]; have := HT.out; omega)).drew, (HM.out.2.1.trans (Bs.set HB.out)).drew, (Bs.set HB.out).keeps HNS.out HM.out.2.2⟩
    · have hl2 : ¬ (i : Int) < (p.cls.length : Int) := by omega
      have z0 : wr.cell? ⟨w.heap.size, 1, none⟩ = some (.slice ao p.cls.length cap) := by simp [World.cell?, HL.out.2.2]
      go_wp2_with (fail)
      go_end0
      exact ⟨rfl, HL.out.2.1⟩
end Go.Proofs.YtajghalljkphiaaGreat
