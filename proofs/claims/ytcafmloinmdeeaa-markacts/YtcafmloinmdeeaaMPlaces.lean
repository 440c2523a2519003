/- Where a row holds a number: placesOf. -/
import Derived.Test.YtcafmloinmdeeaaMTaken
namespace Go.Proofs.Ytcafmloinmdeeaa
open Go.RowKit Go.Shelf
attribute [local go_sem] Oper.semAt_some
theorem places_ok (bc N : Nat) (w : World) :
    Calls Try.prog 19 #[.slice (some ⟨bc, 0, none⟩) N N, .int .i64 3] w fun e w' => e = .returned (.func (.func 24) #[] #[.pointer (some ⟨w.heap.size, 0, none⟩), .pointer (some ⟨w.heap.size + 1, 0, none⟩)]) ∧ w' = (w.alloc (.cells #[.slice (some ⟨bc, 0, none⟩) N N] 29)).alloc (.cells #[.int .i64 3] 3) := by
  go_enter Try.func19, Try.ntmps19
  go_wp2
  go_ret
  exact ⟨rfl, rfl⟩
/-- At place i the row holds 3. -/
def Mt2 (I : Nat → World → Prop) (bc N : Nat) (i x : Nat) (W : World) : Prop := x = i ∧ i < N ∧ W.cell? ⟨bc, i, none⟩ = some (.int .i64 3) ∧ I i W
set_option maxRecDepth 100000 in
set_option maxHeartbeats 2000000 in
theorem places_joint {I : Nat → World → Prop} {N bc b1 b2 : Nat} (hN : N ≤ 4096) (hbox : ∀ i W, I i W → W.cell? ⟨b1, 0, none⟩ = some (.slice (some ⟨bc, 0, none⟩) N N) ∧ W.cell? ⟨b2, 0, none⟩ = some (.int .i64 3))
    (hrd : ∀ i W, I i W → i < N → ∃ v : Int, W.cell? ⟨bc, i, none⟩ = some (.int .i64 v) ∧ (v ≠ 3 → I (i + 1) W)) (n : Nat) (hn : 1 ≤ n) :
    Joint Fence.wide n Try.prog 24 #[.pointer (some ⟨b1, 0, none⟩), .pointer (some ⟨b2, 0, none⟩)] (fun x : Nat => #[Value.int .i64 (x : Int)]) I (Mt2 I bc N) (fun i _ => i + 1) (fun i => i = N) 0 := by
  intro l Bk W hBk hY h0 hb0
  have c1 := (hbox 0 W h0).1
  have HY : Hid _ := hY
  have HB : Hid _ := hbox
  have HR : Hid _ := hrd
  have H0 : Hid (I 0 W ∧ Bk W) := ⟨h0, hb0⟩
  clear hY hbox hrd h0 hb0
  refine callsIn_of_wp Try.func24 rfl trivial ?_ rfl
  simp only [Try.ntmps24, List.size_toArray, List.length_cons, List.length_nil, Nat.reduceAdd, Nat.reduceSub, Array.replicate_succ, Array.replicate_zero, List.push_toArray, List.append_toArray, List.nil_append, List.cons_append]
  gi_wp2
  clear c1
  gi_loopg [4, 5, 8] N (fun k s4 s5 v8 wr => ∃ i : Nat, v8 = .int .i64 i ∧ i ≤ N ∧ N - i = k ∧ Hid (I i wr ∧ Bk wr))
  case atStart => exact ⟨0, rfl, by omega, rfl, H0⟩
  case round =>
    clear H0
    obtain ⟨i, rfl, hi, hk, h⟩ := hrel
    by_cases hlt : i < N
    · have hlt' : (i : Int) < (N : Int) := by omega
      obtain ⟨v, hv, hgo⟩ := HR.out i wr h.out.1 hlt
      have c2 := (HB.out i wr h.out.1).2
      by_cases h3 : v = 3
      · subst h3
        obtain ⟨fn, tmps, assign, body, hy, hRd⟩ := HY.out i i wr ⟨rfl, hlt, hv, h.out.1⟩ h.out.2
        clear hgo h
        gi_wp2
        refine hRd.mono ?_
        rintro e W3 ⟨rfl, hi3, hk3⟩
        clear hy hRd hv c2
        have H3 : Hid (I (i + 1) W3 ∧ Bk W3) := ⟨hi3, hk3⟩
        clear hi3 hk3
        gi_wp2
        gi_roundg (N - (i + 1))
        case rel => exact ⟨i + 1, by go_num, by omega, rfl, H3⟩
        case measure => omega
      · have e3 : (v == 3) = false := by simp [h3]
        have H3 : Hid (I (i + 1) wr ∧ Bk wr) := ⟨hgo h3, h.out.2⟩
        clear hgo h
        gi_wp2
        refine ⟨fun _ h => (by cases h), ?_⟩
        gi_wp2
        gi_roundg (N - (i + 1))
        case rel => exact ⟨i + 1, by go_num, by omega, rfl, H3⟩
        case measure => omega
    · obtain rfl : i = N := by omega
      have hlt' : ¬ (i : Int) < (i : Int) := by omega
      gi_wp2
      go_end0
      exact ⟨⟨_, rfl⟩, h.out⟩
end Go.Proofs.Ytcafmloinmdeeaa
