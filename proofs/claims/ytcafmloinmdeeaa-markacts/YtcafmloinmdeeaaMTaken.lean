/- The grey ones, each taken off as it is gone over: taken. -/
import Derived.Test.YtcafmloinmdeeaaMJoin
import Derived.Test.YtcafmloinmdeeaaMCol
import Derived.Sort.LoopGhostIn
namespace Go.Proofs.Ytcafmloinmdeeaa
open Go.RowKit Go.Shelf
attribute [local go_sem] Oper.semAt_some
theorem taken_ok (s : Nat) (w : World) :
    Calls Try.prog 18 #[.pointer (some ⟨s, 1, none⟩)] w fun e w' => e = .returned (.func (.func 23) #[] #[.pointer (some ⟨w.heap.size, 0, none⟩)]) ∧ w' = w.alloc (.cells #[.pointer (some ⟨s, 1, none⟩)] 58) := by
  go_enter Try.func18, Try.ntmps18
  go_wp2
  go_ret
  exact ⟨rfl, rfl⟩
/-- Between two rounds: the grey ones q are left. R: whatever else is told. -/
def It1 (R : World → Prop) (s bc bi N : Nat) (q : List Nat) (W : World) : Prop := (∃ c, Mk W s bc bi N c q) ∧ R W
/-- x has been taken off, and still has its colour. -/
def Mt1 (R : World → Prop) (s bc bi N : Nat) (q : List Nat) (x : Nat) (W : World) : Prop := (∃ t c r fi, q = x :: t ∧ Wk W s bc bi N c r ((fi + 1) % N) t.length ∧ MInv N c (x :: t) r fi) ∧ R W
/-- What take has told of the row q: the number v, and whether there was one. -/
def Hd1 (R : World → Prop) (s bc bi N : Nat) (q : List Nat) (v : Int) (b : Bool) (W : World) : Prop :=
  (b = false ∧ q = [] ∧ It1 R s bc bi N [] W) ∨ (b = true ∧ ∃ (x : Nat) (t : List Nat), q = x :: t ∧ v = x ∧ Mt1 R s bc bi N q x W)
def TakePost (R : World → Prop) (s bc bi N : Nat) (q : List Nat) (Bk : World → Prop) (e : Ending) (W : World) : Prop :=
  ∃ v b, e = .returned (.tuple #[.int .i64 v, .bool b]) ∧ Hd1 R s bc bi N q v b W ∧ Bk W
theorem bk_of {Bk : World → Prop} (hBk : Book Bk) {P : Nat → Prop} {A B : World} (h : Bk A) (hb : Bt P A B) (hp : ∀ k, P k → ∃ x y z, A.heap[k]? = some (.cells x y z)) : Bk B :=
  hBk A B h fun k o hk ho => by
    refine (hb.block k (Array.getElem?_eq_some_iff.1 hk).1 fun q => ?_).trans hk
    obtain ⟨x, y, z, e⟩ := hp k q
    rw [e] at hk; cases hk; cases ho
theorem Wk.cells {w : World} {s bc bi N : Nat} {c r : Nat → Int} {fi k : Nat} (h : Wk w s bc bi N c r fi k) : ∀ j, Mb s bc bi j → ∃ x y z, w.heap[j]? = some (.cells x y z) := by
  rintro j (rfl | rfl | rfl)
  · exact ⟨_, _, _, h.here⟩
  · obtain ⟨x, hx, _⟩ := h.col; exact ⟨_, _, _, hx⟩
  · obtain ⟨x, hx, _⟩ := h.itm; exact ⟨_, _, _, hx⟩
theorem take_any {R : World → Prop} {s bc bi N : Nat} (hR : ∀ A B, R A → Bt (Mb s bc bi) A B → R B) {q : List Nat} {Bk : World → Prop} (hBk : Book Bk) {W : World} (h : It1 R s bc bi N q W) (hb : Bk W) :
    Calls Try.prog 17 #[.pointer (some ⟨s, 1, none⟩)] W (TakePost R s bc bi N q Bk) := by
  obtain ⟨⟨c, r, fi, hW, hI⟩, hr⟩ := h
  cases q with
  | nil =>
    refine (mtake_none hW).mono ?_
    rintro e w' ⟨rfl, rfl⟩
    exact ⟨_, _, rfl, .inl ⟨rfl, rfl, ⟨c, r, fi, hW, hI⟩, hr⟩, hb⟩
  | cons x t =>
    have ht := mtake_ok hW hI.fi_lt (by have := hI.few; simp at this; omega)
    rw [hI.head.1] at ht
    refine ht.mono ?_
    rintro e w' ⟨rfl, hW2, hB⟩
    exact ⟨_, _, rfl, .inr ⟨rfl, x, t, rfl, rfl, ⟨t, c, r, fi, rfl, hW2, hI⟩, hR _ _ hr hB⟩, bk_of hBk hb hB hW.cells⟩
set_option maxRecDepth 100000 in
set_option maxHeartbeats 2000000 in
theorem taken_joint {R : World → Prop} {s bc bi N : Nat} (hR : ∀ A B, R A → Bt (Mb s bc bi) A B → R B) (Bn : Nat) (hBn : ∀ W, R W → W.cell? ⟨Bn, 0, none⟩ = some (.pointer (some ⟨s, 1, none⟩))) (n : Nat) (hn : 1 ≤ n) (q0 : List Nat) :
    Joint Fence.wide n Try.prog 23 #[.pointer (some ⟨Bn, 0, none⟩)] (fun x : Nat => #[Value.int .i64 (x : Int)]) (It1 R s bc bi N) (Mt1 R s bc bi N) (fun q _ => q.tail) (fun q => q = []) q0 := by
  intro l Bk W hBk hY h0 hb0
  have b0 := hBn W h0.2
  have hT := take_any hR hBk h0 hb0
  have HY : Hid _ := hY
  have HB : Hid _ := hBn
  clear hY hBn
  refine callsIn_of_wp Try.func23 rfl trivial ?_ rfl
  simp only [Try.ntmps23, List.size_toArray, List.length_cons, List.length_nil, Nat.reduceAdd, Nat.reduceSub, Array.replicate_succ, Array.replicate_zero, List.push_toArray, List.append_toArray, List.nil_append, List.cons_append]
  gi_wp2_with (refine ⟨trivial, ?_⟩; gi_at_call 17; refine (callsIn_wide.2 hT).mono ?_; clear hT; rintro e w2 ⟨v2, b2, rfl, hd2, hk2⟩)
  have HD2 : Hid (Hd1 R s bc bi N q0 v2 b2 w2) := hd2
  have HK2 : Hid (Bk w2) := hk2
  clear hd2 hk2 b0 h0 hb0
  gi_loopg [3, 4] q0.length (fun k v3 v4 wr => ∃ (q : List Nat) (v : Int) (b : Bool), v3 = .int .i64 v ∧ v4 = .bool b ∧ q.length = k ∧ Hid (Hd1 R s bc bi N q v b wr) ∧ Hid (Bk wr))
  case atStart => exact ⟨q0, v2, b2, rfl, rfl, rfl, HD2, HK2⟩
  case round =>
    clear HD2 HK2
    obtain ⟨q, v, b, rfl, rfl, hlen, hd, hk⟩ := hrel
    rcases hd.out with ⟨rfl, rfl, hi⟩ | ⟨rfl, x, t, rfl, rfl, hm⟩
    · clear hd
      gi_wp2
      refine ⟨fun _ h => (by cases h), ?_⟩
      gi_wp2
      go_end0
      exact ⟨⟨_, rfl⟩, [], rfl, hi, hk.out⟩
    · clear hd
      obtain ⟨fn, tmps, assign, body, hy, hRd⟩ := HY.out _ x _ hm hk.out
      gi_wp2
      refine hRd.mono ?_
      rintro e W3 ⟨rfl, hi3, hk3⟩
      have b3 := HB.out W3 hi3.2
      have hT3 := take_any hR hBk hi3 hk3
      clear hy hRd hm hk hi3 hk3
      gi_wp2_with (refine ⟨trivial, ?_⟩; gi_at_call 17; refine (callsIn_wide.2 hT3).mono ?_; clear hT3; rintro e w5 ⟨v5, b5, rfl, hd5, hk5⟩)
      gi_roundg t.length
      case rel => exact ⟨t, v5, b5, rfl, rfl, rfl, hd5, hk5⟩
      case measure => simp at hlen; omega
end Go.Proofs.Ytcafmloinmdeeaa
