/- A range over an iterator, where the assignment of a round makes memory. -/
import Derived.Test.YtbbmgjcabmjjdaaGreatDoorMY23
namespace Go.Proofs.YtbbmgjcabmjjdaaGreatDoor
open Go.RowKit Go.Shelf
attribute [local go_sem] Oper.semAt_some
/-- An append, by a name that the walk does not open. -/
def apQ (ats : Array TypeId) (ty : TypeId) (args : Array Value) : Sem Value := Builtin.append_ ats ty args
theorem ap_Q (ats : Array TypeId) (ty : TypeId) (args : Array Value) : Builtin.append_ ats ty args = apQ ats ty args := rfl
attribute [local go_sem ↓] ap_Q

/-- The iterator hands over these, whatever is made meanwhile. -/
def GivesQ {α : Type} (w : World) (g : Nat) (lb : Array Value) (encs : α → Array Value) (U : List α) : Prop :=
  ∀ I : Nat → World → Prop, (∀ i W, I i W → Below w.heap.size w W) → (∀ i W o, I i W → I i (W.alloc o)) → JointQ Fence.wide 4 Tryz.prog g lb encs I (fun i x W => U[i]? = some x ∧ I i W) (fun i _ => i + 1) (fun i => i = U.length) 0
/-- A line. -/
def lnQ (p : Pg) : Nat → Int → List Int
  | 0, _ => []
  | n + 1, c => c :: if c = 0 then [] else lnQ p n (nxQ p c)
theorem itQ_next (p : Pg) (c : Int) (i : Nat) : itQ p c (i + 1) = itQ p (nxQ p c) i := by
  rw [Nat.add_comm, itQ_shift]; rfl
theorem lnQ_get {p : Pg} : ∀ (n : Nat) (c : Int) (i : Nat) (x : Int), (lnQ p n c)[i]? = some x → x = itQ p c i ∧ i < n ∧ hasQ p c i = true
  | 0, _, i, x, h => by simp [lnQ] at h
  | n + 1, c, 0, x, h => by
    simp [lnQ] at h
    exact ⟨h.symm, by omega, rfl⟩
  | n + 1, c, i + 1, x, h => by
    rw [lnQ, List.getElem?_cons_succ] at h
    by_cases h0 : c = 0
    · rw [if_pos h0] at h; simp at h
    · rw [if_neg h0] at h
      obtain ⟨a, b, d⟩ := lnQ_get n (nxQ p c) i x h
      refine ⟨by rw [itQ_next]; exact a, by omega, ?_⟩
      cases i with
      | zero => simpa [hasQ, itQ] using h0
      | succ i => show (itQ p c (i + 1) != 0) = true; rw [itQ_next]; exact d
theorem lnQ_len {p : Pg} : ∀ (n : Nat) (c : Int), (lnQ p n c).length ≤ n ∧ ((lnQ p n c).length < n → hasQ p c (lnQ p n c).length = false)
  | 0, c => ⟨Nat.le_refl _, fun h => by simp [lnQ] at h⟩
  | n + 1, c => by
    by_cases h0 : c = 0
    · rw [lnQ, if_pos h0]
      refine ⟨by simp, fun _ => ?_⟩
      show (itQ p c 0 != 0) = false
      simp [itQ, h0]
    · rw [lnQ, if_neg h0]
      obtain ⟨a, b⟩ := lnQ_len n (nxQ p c)
      refine ⟨by simp; exact a, fun h => ?_⟩
      have hl : (lnQ p n (nxQ p c)).length < n := by simpa using h
      have := b hl
      rw [List.length_cons]
      generalize (lnQ p n (nxQ p c)).length = m at *
      cases m with
      | zero => simp [hasQ] at this
      | succ m => show (itQ p c (m + 1) != 0) = false; rw [itQ_next]; exact this
theorem lnQ_at {p : Pg} {n : Nat} {c : Int} {i : Nat} (hl : i ≤ (lnQ p n c).length) (hi : i < n) (hh : hasQ p c i = true) : (lnQ p n c)[i]? = some (itQ p c i) := by
  by_cases h : i < (lnQ p n c).length
  · obtain ⟨x, hx⟩ : ∃ x, (lnQ p n c)[i]? = some x := ⟨_, List.getElem?_eq_getElem h⟩
    rw [hx, (lnQ_get n c i x hx).1]
  · have he : i = (lnQ p n c).length := by omega
    have := (lnQ_len (p := p) n c).2 (by omega)
    rw [← he, hh] at this
    cases this
/-- A field's, a method's cells. -/
def encF (x : Fd) : List Value := [.string x.nm, .int .i64 x.ty]
structure MdA where
  m : Md
  p1 : Option Addr
  p2 : Option Addr
  p3 : Option Addr
  p4 : Option Addr
  c1 : Nat
  c2 : Nat
  c3 : Nat
  c4 : Nat
def encM (x : MdA) : List Value := [.string x.m.nm, .bool x.m.stc, .slice x.p1 x.m.args.length x.c1, .int .i64 x.m.ret, .int .i64 x.m.lo, .int .i64 x.m.st, .slice x.p2 x.m.code.length x.c2, .slice x.p3 x.m.tab.length x.c3, .slice x.p4 x.m.maps.length x.c4]
theorem up_gives {S : Nat → Prop} {v : Value} {p : Pg} {c : Int} {B N : Nat} {w : World} (hN : N ≤ 1073741824) (hp : UpOk p) (hc : isJ p c = true) (hU : UpB w S v p c B N) :
    GivesQ w 116 #[.pointer (some ⟨B + 1, 0, none⟩), .pointer (some ⟨B + 3, 0, none⟩), .pointer (some ⟨B + 2, 0, none⟩)] (fun x : Int => #[Value.int .i64 x]) (lnQ p N c) := by
  intro I hI hIa l Bk St W hBk hY h0 hb0
  have hJ := up_joint (I := fun i W => i ≤ (lnQ p N c).length ∧ I i W) hN hp hc (fun i W h => hU.go (hI i W h.2)) 4 (by decide) l Bk St W hBk
    (fun s x W1 hm hb => by
      obtain ⟨⟨rfl, hs, hh⟩, hl, hi⟩ := hm
      have hx := lnQ_at hl hs hh
      obtain ⟨fn, tmps, assign, body, hy, hr⟩ := hY s _ W1 ⟨hx, hi⟩ hb
      refine ⟨fn, tmps, assign, body, hy, hr.mono ?_⟩
      rintro e W' (⟨h1, h2, h3⟩ | h4)
      · exact .inl ⟨h1, ⟨(List.getElem?_eq_some_iff.1 hx).1, h2⟩, h3⟩
      · exact .inr h4) ⟨Nat.zero_le _, h0⟩ hb0
  refine hJ.mono ?_
  rintro e W' ⟨hv, ⟨s, hE, hi, hk⟩ | hst⟩
  · refine ⟨hv, .inl ⟨s, ?_, hi.2, hk⟩⟩
    obtain ⟨hs, hE⟩ := hE
    show s = _
    apply Nat.le_antisymm hi.1
    apply Nat.not_lt.1
    intro hlt
    obtain ⟨_, b, d⟩ := lnQ_get N c s _ (List.getElem?_eq_getElem hlt)
    rcases hE with hE | hE
    · omega
    · rw [d] at hE; cases hE
  · exact ⟨hv, .inr hst⟩

theorem valsF_ok (ao : Option Addr) (n cap : Nat) (w : World) :
    Calls Tryz.prog 101 #[.slice ao n cap] w fun e w' => e = .returned (.func (.func 121) #[] #[.pointer (some ⟨w.heap.size, 0, none⟩)]) ∧ w' = w.alloc (.cells #[.slice ao n cap] 32) := by
  go_enter Tryz.func101, Tryz.ntmps101
  go_wp2
  go_ret
  exact ⟨rfl, rfl⟩
set_option maxRecDepth 100000 in
set_option maxHeartbeats 4000000 in
theorem valsF_gives {U : List Fd} {p o cap b1 : Nat} {w : World} (hN : U.length ≤ 1073741824) (hb : w.cell? ⟨b1, 0, none⟩ = some (.slice (some ⟨p, o, none⟩) U.length cap))
    (hrd : ∀ i x, U[i]? = some x → ∀ j u, (encF x)[j]? = some u → w.cell? ⟨p, o + (i * 2 + j), none⟩ = some u) :
    GivesQ w 121 #[.pointer (some ⟨b1, 0, none⟩)] (fun x : Fd => #[Value.agg (encF x).toArray]) U := by
  intro I hI hIa l Bk St W hBk hY h0 hb0
  have c1 := cell_keep hb (hI 0 W h0)
  have HY : Hid _ := hY
  have HI : Hid _ := hI
  have HIA : Hid _ := hIa
  have HR : Hid _ := hrd
  have H0 : Hid (I 0 W ∧ Bk W) := ⟨h0, hb0⟩
  have HL : Hid (∀ i, i < U.length → ∃ x, U[i]? = some x) := fun i hi => ⟨U[i], List.getElem?_eq_getElem hi⟩
  clear hY hI hIa hrd h0 hb0 hb
  generalize U.length = N at *
  refine callsIn_of_wp Tryz.func121 rfl trivial ?_ rfl
  simp only [Tryz.ntmps121, List.size_toArray, List.length_cons, List.length_nil, Nat.reduceAdd, Nat.reduceSub, Array.replicate_succ, Array.replicate_zero, List.push_toArray, List.append_toArray, List.nil_append, List.cons_append]
  gi_wp2
  clear c1
  gi_loopg [4, 7] N (fun k s4 v7 wr => ∃ i : Nat, v7 = .int .i64 i ∧ i ≤ N ∧ N - i = k ∧ Hid (I i wr ∧ Bk wr))
  case atStart => exact ⟨0, rfl, by omega, rfl, H0⟩
  case round =>
    clear H0
    obtain ⟨i, rfl, hi, hk, h⟩ := hrel
    by_cases hlt : i < N
    · have hlt' : (i : Int) < (N : Int) := by omega
      obtain ⟨x, hx⟩ := HL.out i hlt
      have hrr := HR.out i x hx
      have hbel := HI.out i wr h.out.1
      have HX : Hid (U[i]? = some x) := hx
      ·
        have a0 := cell_keep (hrr 0 _ rfl) hbel
        rw [show o + (i * 2 + 0) = o + i * 2 by omega] at a0
        have a1 := cell_keep (hrr 1 _ rfl) hbel
        rw [show o + (i * 2 + 1) = o + i * 2 + 1 by omega] at a1
        obtain ⟨fn, tmps, assign, body, hy, hRd⟩ := HY.out i x (wr.alloc (.cells #[.string x.nm, .int .i64 x.ty] 71)) ⟨hx, HIA.out _ _ _ h.out.1⟩ (hBk _ _ h.out.2 fun k o hk _ => (Below.heap_alloc _ _ _ (Array.getElem?_eq_some_iff.1 hk).1).trans hk)
        change (Instr.yield l #[Value.agg #[.string x.nm, .int .i64 x.ty]]).run Tryz.prog _ = _ at hy
        clear hx hrr hbel HL h
        gi_wp2
        refine hRd.mono ?_
        rintro e W3 (⟨rfl, hi3, hk3⟩ | ⟨rfl, hst⟩)
        · clear hy hRd a0 a1
          have H3 : Hid (I (i + 1) W3 ∧ Bk W3) := ⟨hi3, hk3⟩
          clear hi3 hk3
          gi_wp2
          gi_roundg (N - (i + 1))
          case rel => exact ⟨i + 1, by go_num, by omega, rfl, H3⟩
          case measure => omega
        · clear hy hRd a0 a1
          gi_wp2
          refine bodyPost_ret (results_none rfl _ _ _) rfl ?_
          exact ⟨⟨_, rfl⟩, .inr hst⟩
    · obtain rfl : i = N := by omega
      have hlt' : ¬ (i : Int) < (i : Int) := by omega
      gi_wp2
      go_end0
      exact ⟨⟨_, rfl⟩, .inl (by first | exact ⟨i, rfl, h.out⟩ | exact h.out)⟩

theorem valsM_ok (ao : Option Addr) (n cap : Nat) (w : World) :
    Calls Tryz.prog 103 #[.slice ao n cap] w fun e w' => e = .returned (.func (.func 124) #[] #[.pointer (some ⟨w.heap.size, 0, none⟩)]) ∧ w' = w.alloc (.cells #[.slice ao n cap] 31) := by
  go_enter Tryz.func103, Tryz.ntmps103
  go_wp2
  go_ret
  exact ⟨rfl, rfl⟩
set_option maxRecDepth 100000 in
set_option maxHeartbeats 4000000 in
theorem valsM_gives {U : List MdA} {p o cap b1 : Nat} {w : World} (hN : U.length ≤ 1073741824) (hb : w.cell? ⟨b1, 0, none⟩ = some (.slice (some ⟨p, o, none⟩) U.length cap))
    (hrd : ∀ i x, U[i]? = some x → ∀ j u, (encM x)[j]? = some u → w.cell? ⟨p, o + (i * 9 + j), none⟩ = some u) :
    GivesQ w 124 #[.pointer (some ⟨b1, 0, none⟩)] (fun x : MdA => #[Value.agg (encM x).toArray]) U := by
  intro I hI hIa l Bk St W hBk hY h0 hb0
  have c1 := cell_keep hb (hI 0 W h0)
  have HY : Hid _ := hY
  have HI : Hid _ := hI
  have HIA : Hid _ := hIa
  have HR : Hid _ := hrd
  have H0 : Hid (I 0 W ∧ Bk W) := ⟨h0, hb0⟩
  have HL : Hid (∀ i, i < U.length → ∃ x, U[i]? = some x) := fun i hi => ⟨U[i], List.getElem?_eq_getElem hi⟩
  clear hY hI hIa hrd h0 hb0 hb
  generalize U.length = N at *
  refine callsIn_of_wp Tryz.func124 rfl trivial ?_ rfl
  simp only [Tryz.ntmps124, List.size_toArray, List.length_cons, List.length_nil, Nat.reduceAdd, Nat.reduceSub, Array.replicate_succ, Array.replicate_zero, List.push_toArray, List.append_toArray, List.nil_append, List.cons_append]
  gi_wp2
  clear c1
  gi_loopg [4, 7] N (fun k s4 v7 wr => ∃ i : Nat, v7 = .int .i64 i ∧ i ≤ N ∧ N - i = k ∧ Hid (I i wr ∧ Bk wr))
  case atStart => exact ⟨0, rfl, by omega, rfl, H0⟩
  case round =>
    clear H0
    obtain ⟨i, rfl, hi, hk, h⟩ := hrel
    by_cases hlt : i < N
    · have hlt' : (i : Int) < (N : Int) := by omega
      obtain ⟨x, hx⟩ := HL.out i hlt
      have hrr := HR.out i x hx
      have hbel := HI.out i wr h.out.1
      have HX : Hid (U[i]? = some x) := hx
      ·
        have a0 := cell_keep (hrr 0 _ rfl) hbel
        rw [show o + (i * 9 + 0) = o + i * 9 by omega] at a0
        have a1 := cell_keep (hrr 1 _ rfl) hbel
        rw [show o + (i * 9 + 1) = o + i * 9 + 1 by omega] at a1
        have a2 := cell_keep (hrr 2 _ rfl) hbel
        rw [show o + (i * 9 + 2) = o + i * 9 + 2 by omega] at a2
        have a3 := cell_keep (hrr 3 _ rfl) hbel
        rw [show o + (i * 9 + 3) = o + i * 9 + 3 by omega] at a3
        have a4 := cell_keep (hrr 4 _ rfl) hbel
        rw [show o + (i * 9 + 4) = o + i * 9 + 4 by omega] at a4
        have a5 := cell_keep (hrr 5 _ rfl) hbel
        rw [show o + (i * 9 + 5) = o + i * 9 + 5 by omega] at a5
        have a6 := cell_keep (hrr 6 _ rfl) hbel
        rw [show o + (i * 9 + 6) = o + i * 9 + 6 by omega] at a6
        have a7 := cell_keep (hrr 7 _ rfl) hbel
        rw [show o + (i * 9 + 7) = o + i * 9 + 7 by omega] at a7
        have a8 := cell_keep (hrr 8 _ rfl) hbel
        rw [show o + (i * 9 + 8) = o + i * 9 + 8 by omega] at a8
        obtain ⟨fn, tmps, assign, body, hy, hRd⟩ := HY.out i x (wr.alloc (.cells #[.string x.m.nm, .bool x.m.stc, .slice x.p1 x.m.args.length x.c1, .int .i64 x.m.ret, .int .i64 x.m.lo, .int .i64 x.m.st, .slice x.p2 x.m.code.length x.c2, .slice x.p3 x.m.tab.length x.c3, .slice x.p4 x.m.maps.length x.c4] 30)) ⟨hx, HIA.out _ _ _ h.out.1⟩ (hBk _ _ h.out.2 fun k o hk _ => (Below.heap_alloc _ _ _ (Array.getElem?_eq_some_iff.1 hk).1).trans hk)
        change (Instr.yield l #[Value.agg #[.string x.m.nm, .bool x.m.stc, .slice x.p1 x.m.args.length x.c1, .int .i64 x.m.ret, .int .i64 x.m.lo, .int .i64 x.m.st, .slice x.p2 x.m.code.length x.c2, .slice x.p3 x.m.tab.length x.c3, .slice x.p4 x.m.maps.length x.c4]]).run Tryz.prog _ = _ at hy
        clear hx hrr hbel HL h
        gi_wp2
        refine hRd.mono ?_
        rintro e W3 (⟨rfl, hi3, hk3⟩ | ⟨rfl, hst⟩)
        · clear hy hRd a0 a1 a2 a3 a4 a5 a6 a7 a8
          have H3 : Hid (I (i + 1) W3 ∧ Bk W3) := ⟨hi3, hk3⟩
          clear hi3 hk3
          gi_wp2
          gi_roundg (N - (i + 1))
          case rel => exact ⟨i + 1, by go_num, by omega, rfl, H3⟩
          case measure => omega
        · clear hy hRd a0 a1 a2 a3 a4 a5 a6 a7 a8
          gi_wp2
          refine bodyPost_ret (results_none rfl _ _ _) rfl ?_
          exact ⟨⟨_, rfl⟩, .inr hst⟩
    · obtain rfl : i = N := by omega
      have hlt' : ¬ (i : Int) < (i : Int) := by omega
      gi_wp2
      go_end0
      exact ⟨⟨_, rfl⟩, .inl (by first | exact ⟨i, rfl, h.out⟩ | exact h.out)⟩
end Go.Proofs.YtbbmgjcabmjjdaaGreatDoor
namespace Go.Proofs.YtbbmgjcabmjjdaaGreatDoor
open Go.RowKit Go.Shelf
/-- The same, where the assignment of a round makes memory. -/
theorem range_jointR {F : Fence} {n : Nat} {P : Program} {α σ : Type} {g : Operand} {ps : Array Tmp} {assign body : Code} {Q : Exit → Act → World → Prop} {a : Act} {w : World}
    (hro : F.round = none) (h1 : 1 ≤ n) {gf : Nat} {lb : Array Value} (hg : a.eval g = .func (.func gf) #[] lb) (hFg : F.fn gf) (eg : ∀ args w, (callFunc gf args).run P w = .ok (.enter gf args) w)
    {encs : α → Array Value} {I : σ → World → Prop} {M : σ → α → World → Prop} {nx : σ → α → σ} {E : σ → Prop} {s0 : σ} (X : World → Prop) (hseq : JointQ F (n - 1) P gf lb encs I M nx E s0) (hps : ∀ x, (encs x).size = ps.size)
    (hI : OwnFrom w.heap.size I) (hX : OwnFrom w.heap.size (fun _ : Unit => X)) (h0 : I s0 w) (Ax : σ → α → Act → World → Prop) (hAx : ∀ x a', OwnFrom w.heap.size (fun s => Ax s x a'))
    (hassign : ∀ (l : Nat) (s : σ) (x : α) (W : World) (K : Act → World → Prop), M s x W → (∀ a' W', KeepsFrom w.heap.size W W' → Ax s x a' W' → K a' W') →
      assign.wpIn (F.inRound l) (n - 1 - 1) P (Exit.then K (fun _ _ _ => False)) { tmps := (ps.zip (encs x)).foldl (fun t (p, v) => t.setIfInBounds p v) a.tmps, defers := [] } W)
    (hbody : ∀ (l : Nat) (s : σ) (x : α) (a' : Act) (W : World), Ax s x a' W → body.wpIn (F.inRound l) (n - 1 - 1) P (goesQ w.heap.size (I (nx s x)) X W) a' W)
    (hdone : ∀ (D : Nat) (s : σ) (W : World), w.heap.size ≤ D → E s → I s W → W.heap[D]? = some (.deferred (some [])) → Q .normal { a with defers := { target := .collected D, args := #[] } :: a.defers } W)
    (hstop : ∀ (D : Nat) (W : World), w.heap.size ≤ D → X W → W.heap[D]? = some (.deferred (some [])) → Code.ret.wpIn F n P Q { a with defers := { target := .collected D, args := #[] } :: a.defers } W) :
    (Code.rangeFunc g ps assign body).wpIn F n P Q a w := by
  refine wpIn_rangeFunc fun fn hfn => ?_
  rw [hro]
  -- the record in its states
  let rec_ : LoopState → Option Code → Loop := fun st pe => { state := st, pending := pe, fn := fn, tmps := a.tmps, params := ps, assign := assign, body := body, defers := w.heap.size }
  let W1 := (w.alloc (.deferred (some []))).alloc (.loop (rec_ .ready none))
  have hL : W1.heap[w.heap.size + 1]? = some (.loop (rec_ .ready none)) := by
    have := World.alloc_heap_new (w.alloc (.deferred (some []))) (.loop (rec_ .ready none)); rwa [World.size_alloc] at this
  have hD : W1.heap[w.heap.size]? = some (.deferred (some [])) := (Below.heap_alloc _ _ _ (by simp)).trans (World.alloc_heap_new w _)
  refine ⟨w.heap.size + 1, [{ target := .collected w.heap.size, args := #[] }], W1, { target := .fn (.func gf) lb, args := #[.func (.yield (w.heap.size + 1)) #[] #[]] }, W1, gf, #[.func (.yield (w.heap.size + 1)) #[] #[]] ++ lb, W1,
    run_enterLoop_outer _ _ _ _ _, by simp only [resolve, hg]; simp [go_sem], fun f' hf' => by simp [Target.leads] at hf'; subst hf'; exact hFg, by simp [invoke, go_sem, eg], fun _ => h1, ?_⟩
  refine (hseq (w.heap.size + 1) (fun W => W.heap[w.heap.size + 1]? = some (.loop (rec_ .ready none)) ∧ W.heap[w.heap.size]? = some (.deferred (some [])))
    (fun W => X W ∧ W.heap[w.heap.size + 1]? = some (.loop (rec_ .done (some .ret))) ∧ W.heap[w.heap.size]? = some (.deferred (some []))) W1
    (fun A B hA k => ⟨k _ _ hA.1 rfl, k _ _ hA.2 rfl⟩) (fun s x W hm hb => ?_) (hI.alloc _ (hI.alloc _ h0)) ⟨hL, hD⟩).mono ?_
  · obtain ⟨hl, hd⟩ := hb
    have hy := run_yield (P := P) (args := encs x) hl (hps x)
    refine ⟨fn, _, assign, body, hy, roundIn_of_wpIn hfn (hassign _ s x W _ hm fun a' W' hkw hax => ⟨_, run_beginRound (hkw.same _ _ (by omega) hl rfl) rfl, ?_⟩)⟩
    replace hl := hkw.same _ _ (by omega) hl rfl
    replace hd := hkw.same _ _ (Nat.le_refl _) hd rfl
    clear hm hy hkw
    have hl2 : (W'.putObj (w.heap.size + 1) (.loop (rec_ .busy none))).heap[w.heap.size + 1]? = some (.loop (rec_ .busy none)) := World.putObj_heap_same (Array.getElem?_eq_some_iff.1 hl).1
    have hd2 : (W'.putObj (w.heap.size + 1) (.loop (rec_ .busy none))).heap[w.heap.size]? = some (.deferred (some [])) := (World.putObj_heap_other (by omega)).trans hd
    refine wpIn_mono (hbody _ s x a' _ ((hAx x a').putObj _ hax (by omega) hl rfl)) ?_
    rintro e a3 W3 hp
    cases e with
    | normal =>
      obtain ⟨hk, _, hi⟩ := hp
      have hl3 := hk.same _ _ (by omega) hl2 rfl
      exact ⟨_, _, run_endRound (P := P) none hl3, .inl ⟨rfl, hI.putObj _ hi (by omega) hl3 rfl, World.putObj_heap_same (Array.getElem?_eq_some_iff.1 hl3).1, (World.putObj_heap_other (by omega)).trans (hk.same _ _ (Nat.le_refl _) hd2 rfl)⟩⟩
    | ret =>
      obtain ⟨hk, _, hx⟩ := hp
      have hl3 := hk.same _ _ (by omega) hl2 rfl
      exact ⟨_, _, run_endRound (P := P) (some .ret) hl3, .inr ⟨rfl, hX.putObj (s := ()) _ hx (by omega) hl3 rfl, World.putObj_heap_same (Array.getElem?_eq_some_iff.1 hl3).1, (World.putObj_heap_other (by omega)).trans (hk.same _ _ (Nat.le_refl _) hd2 rfl)⟩⟩
    | exit id => exact Code.noConfusion hp.2.1
    | goto t => exact Code.noConfusion hp.2.1
    | panic ch => exact hp.elim
    | outgrown => exact hp.elim
  · rintro e W2 ⟨⟨v, rfl⟩, ⟨s, hE, hi, hl, hd⟩ | ⟨hx, hl, hd⟩⟩
    · exact ⟨none, _, run_endLoop (P := P) hl (by simp [rec_]), hdone _ s _ (Nat.le_refl _) hE (hI.putObj _ hi (by omega) hl rfl) ((World.putObj_heap_other (by omega)).trans hd)⟩
    · exact ⟨some .ret, _, run_endLoop (P := P) hl (by simp [rec_]), hstop _ _ (Nat.le_refl _) (hX.putObj (s := ()) _ hx (by omega) hl rfl) ((World.putObj_heap_other (by omega)).trans hd)⟩
end Go.Proofs.YtbbmgjcabmjjdaaGreatDoor
