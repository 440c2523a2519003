/- A stack and what stands in it, told once: its calls; an operation of one agent alone. -/
import Derived.Test.YtojblddfggoecaaGreatSNew
namespace Go.Proofs.YtojblddfggoecaaGreat
open Go.RowKit

/-- Where a stack lies: the arena's block, its words, the first of the stack's; what the words held ahead of it. -/
structure Zone where
  b : Nat
  W : Nat
  base : Nat
  old : Nat → Int
/-- The stack at block s, over the arena of b, of G agents: xs stands in it, from the top down; the words that are none of its own stand. -/
def Good (w : World) (P : Nat → Prop) (s : Nat) (b : Zone) (G cap : Nat) (cs : Nat → Int) (ops : Nat → Op) (T : Int) (xs : List Int) : Prop :=
  ∃ (bw bs bt bu bl : Nat) (ws : Nat → Int) (ob : Nat → Nat), Stk w P s b.b bw bs bt bu bl b.W G b.base cap ws cs ops ob ∧ Inv b.base cap ws ops T xs ∧ ∀ a, a < b.base ∨ b.base + cap < a → ws a = b.old a

theorem Good.lt {w : World} {P : Nat → Prop} {s : Nat} {b : Zone} {G cap : Nat} {cs : Nat → Int} {ops : Nat → Op} {T : Int} {xs : List Int} (h : Good w P s b G cap cs ops T xs) : ∀ k, P k → k < w.heap.size := by obtain ⟨_, _, _, _, _, _, _, hS, _⟩ := h; exact hS.lt
theorem Good.keep {w' : World} {w : World} {P : Nat → Prop} {s : Nat} {b : Zone} {G cap : Nat} {cs : Nat → Int} {ops : Nat → Op} {T : Int} {xs : List Int} (h : Good w P s b G cap cs ops T xs) (e : ∀ k, P k → w'.heap[k]? = w.heap[k]?) (hs : w.heap.size ≤ w'.heap.size) : Good w' P s b G cap cs ops T xs := by
  obtain ⟨bw, bs, bt, bu, bl, ws, ob, hS, hI, hO⟩ := h
  exact ⟨bw, bs, bt, bu, bl, ws, ob, hS.keep e hs, hI, hO⟩
theorem Good.below {w' : World} {w : World} {P : Nat → Prop} {s : Nat} {b : Zone} {G cap : Nat} {cs : Nat → Int} {ops : Nat → Op} {T : Int} {xs : List Int} (h : Good w P s b G cap cs ops T xs) (e : Below w.heap.size w w') : Good w' P s b G cap cs ops T xs := h.keep (fun k hk => e.block k (h.lt k hk)) e.size
theorem Good.put {w : World} {P : Nat → Prop} {s : Nat} {b : Zone} {G cap : Nat} {cs : Nat → Int} {ops : Nat → Op} {T : Int} {xs : List Int} (h : Good w P s b G cap cs ops T xs) {r : Nat} (hr : ¬ P r) (i : Nat) (v : Value) : Good (w.setCell ⟨r, i, none⟩ v) P s b G cap cs ops T xs :=
  h.keep (fun k hk => heap_put _ _ (by show k ≠ r; rintro rfl; exact hr hk)) (by simp [World.setCell])
theorem Good.alloc {w : World} {P : Nat → Prop} {s : Nat} {b : Zone} {G cap : Nat} {cs : Nat → Int} {ops : Nat → Op} {T : Int} {xs : List Int} (h : Good w P s b G cap cs ops T xs) (o : Obj) : Good (w.alloc o) P s b G cap cs ops T xs := h.below ((Below.refl _ _).alloc (Nat.le_refl _) o)
theorem Good.range {w : World} {P : Nat → Prop} {s : Nat} {b : Zone} {G cap : Nat} {cs : Nat → Int} {ops : Nat → Op} {T : Int} {xs : List Int} (h : Good w P s b G cap cs ops T xs) : (∀ x, x ∈ xs → 1 ≤ x ∧ x ≤ cap) ∧ cap ≤ 1000 ∧ xs.length ≤ cap ∧ xs.Nodup ∧ G ≤ 12 := by
  obtain ⟨bw, bs, bt, bu, bl, ws, ob, hS, hI, hO⟩ := h
  exact ⟨hI.range, hS.cap2, length_le hI.range hI.nodup, hI.nodup, hS.few⟩
theorem Good.ok_push {w : World} {P : Nat → Prop} {s : Nat} {b : Zone} {G cap : Nat} {cs : Nat → Int} {ops : Nat → Op} {T : Int} {xs : List Int} (h : Good w P s b G cap cs ops T xs) {g : Nat} {item n t i : Int} (ho : ops g = .push item n t i) : 1 ≤ item ∧ item ≤ cap ∧ item ∉ xs := by
  obtain ⟨bw, bs, bt, bu, bl, ws, ob, hS, hI, hO⟩ := h
  have := hI.op g
  rw [ho] at this
  exact ⟨this.1, this.2.1, this.2.2.1⟩

theorem diff_new {ops : Nat → Op} {g : Nat} {op : Op} (h : ∀ g h, g ≠ h → 0 < (ops g).link → (ops g).link ≠ (ops h).link) (hn : ∀ j, (ops j).link ≠ op.link) : ∀ i j, i ≠ j → 0 < (updOp ops g op i).link → (updOp ops g op i).link ≠ (updOp ops g op j).link := by
  intro i j hij hp
  by_cases e1 : i = g
  · have e2 : j ≠ g := fun e => hij (e1.trans e.symm)
    subst e1
    rw [updOp_at, updOp_else _ _ e2]
    exact fun q => hn j q.symm
  · rw [updOp_else _ _ e1] at hp ⊢
    by_cases e2 : j = g
    · subst e2; rw [updOp_at]; exact hn i
    · rw [updOp_else _ _ e2]; exact h i j hij hp
theorem Inv.began {base cap : Nat} {ws : Nat → Int} {ops : Nat → Op} {T : Int} {xs : List Int} (h : Inv base cap ws ops T xs) {g : Nat} {v : Int} (hm : May cap ops xs v) : Inv base cap ws (updOp ops g (.push (v + 1) 0 0 0)) T xs :=
  ⟨h.t0, h.top, h.chain, h.range, h.nodup, fun j => upd_op ⟨by have := hm.1; omega, by have := hm.2.1; omega, hm.2.2.2, .inl rfl⟩ (fun _ => h.op j), diff_new h.diff hm.2.2.1⟩

/-- Begin and New hand on a stack whose blocks are those that were its own, and new ones. -/
def Wider (P P' : Nat → Prop) (w : World) : Prop := ∀ k, P' k → P k ∨ w.heap.size ≤ k
theorem Wider.refl (P : Nat → Prop) (w : World) : Wider P P w := fun _ hk => .inl hk
theorem Wider.trans {P Q R : Nat → Prop} {w w' : World} (h : Wider P Q w) (k : Wider Q R w') (hs : w.heap.size ≤ w'.heap.size) : Wider P R w := fun j hj => (k j hj).elim (h j) (fun q => .inr (by omega))
/-- Two frames, one behind the other, seen from the first world. -/
theorem Bt.wide {P Q : Nat → Prop} {w w1 w2 : World} (h : Bt P w w1) (k : Bt Q w1 w2) (hw : Wider P Q w) : Bt P w w2 :=
  ⟨k.os.trans h.os, k.tape.trans h.tape, k.output.trans h.output, Nat.le_trans h.size k.size, fun j hj e => (k.block j (Nat.lt_of_lt_of_le hj h.size) (fun hq => (hw j hq).elim e (fun q => by omega))).trans (h.block j hj e)⟩

theorem g_begin_push {w : World} {P : Nat → Prop} {s : Nat} {b : Zone} {G cap : Nat} {cs : Nat → Int} {ops : Nat → Op} {T : Int} {xs : List Int} (h : Good w P s b G cap cs ops T xs) (hT : T ≤ 1000000000) (g : Nat) (v : Int) (hg : g < G) (hb : ops g = .idle) (hm : May cap ops xs v) :
    Calls Tryz.prog 95 #[.pointer (some ⟨s, 0, none⟩), .int .i64 g, .int .i64 0, .int .i64 v] w fun e w' => e = .returned (.int .i64 0) ∧ ∃ P', Good w' P' s b G cap cs (updOp ops g (.push (v + 1) 0 0 0)) T xs ∧ Bt P w w' ∧ Wider P P' w := by
  obtain ⟨bw, bs, bt, bu, bl, ws, ob, hS, hI, hO⟩ := h
  refine (begin_push hS hI hT g v hg hb hm).mono ?_
  rintro e w' ⟨P', ob', rfl, hS', hB, hw⟩
  exact ⟨rfl, P', ⟨_, _, _, _, _, _, _, hS', hI.began hm, hO⟩, hB, hw⟩
theorem g_begin_pop {w : World} {P : Nat → Prop} {s : Nat} {b : Zone} {G cap : Nat} {cs : Nat → Int} {ops : Nat → Op} {T : Int} {xs : List Int} (h : Good w P s b G cap cs ops T xs) (g : Nat) (v : Int) (hg : g < G) (hb : ops g = .idle) :
    Calls Tryz.prog 95 #[.pointer (some ⟨s, 0, none⟩), .int .i64 g, .int .i64 1, .int .i64 v] w fun e w' => e = .returned (.int .i64 0) ∧ ∃ P', Good w' P' s b G cap cs (updOp ops g (.pop 0 0 0 0)) T xs ∧ Bt P w w' ∧ Wider P P' w := by
  obtain ⟨bw, bs, bt, bu, bl, ws, ob, hS, hI, hO⟩ := h
  refine (begin_pop hS g v hg hb).mono ?_
  rintro e w' ⟨P', ob', rfl, hS', hB, hw⟩
  exact ⟨rfl, P', ⟨_, _, _, _, _, _, _, hS', hI.looked (.inl rfl) (.inl rfl), hO⟩, hB, hw⟩
theorem g_begin_value {w : World} {P : Nat → Prop} {s : Nat} {b : Zone} {G cap : Nat} {cs : Nat → Int} {ops : Nat → Op} {T : Int} {xs : List Int} (h : Good w P s b G cap cs ops T xs) (hT : T ≤ 1000000000) (g : Nat) (v : Int) (hg : g < G) (hb : ops g = .idle) (hm : ¬ May cap ops xs v) :
    Calls Tryz.prog 95 #[.pointer (some ⟨s, 0, none⟩), .int .i64 g, .int .i64 0, .int .i64 v] w fun e w' => e = .returned (.int .i64 504) ∧ Below w.heap.size w w' := by
  obtain ⟨bw, bs, bt, bu, bl, ws, ob, hS, hI, hO⟩ := h
  exact begin_value hS hI hT g v hg hb hm
theorem g_begin_busy {w : World} {P : Nat → Prop} {s : Nat} {b : Zone} {G cap : Nat} {cs : Nat → Int} {ops : Nat → Op} {T : Int} {xs : List Int} (h : Good w P s b G cap cs ops T xs) (g : Nat) (op v : Int) (hg : g < G) (hb : ops g ≠ .idle) :
    Calls Tryz.prog 95 #[.pointer (some ⟨s, 0, none⟩), .int .i64 g, .int .i64 op, .int .i64 v] w fun e w' => e = .returned (.int .i64 502) ∧ w' = w := by
  obtain ⟨bw, bs, bt, bu, bl, ws, ob, hS, hI, hO⟩ := h
  exact begin_busy hS g op v hg hb
theorem g_begin_agent {w : World} {P : Nat → Prop} {s : Nat} {b : Zone} {G cap : Nat} {cs : Nat → Int} {ops : Nat → Op} {T : Int} {xs : List Int} (h : Good w P s b G cap cs ops T xs) (g op v : Int) (hg : ¬ (0 ≤ g ∧ g < G)) :
    Calls Tryz.prog 95 #[.pointer (some ⟨s, 0, none⟩), .int .i64 g, .int .i64 op, .int .i64 v] w fun e w' => e = .returned (.int .i64 501) ∧ w' = w := by
  obtain ⟨bw, bs, bt, bu, bl, ws, ob, hS, hI, hO⟩ := h
  exact begin_agent hS g op v hg
theorem g_step {w : World} {P : Nat → Prop} {s : Nat} {b : Zone} {G cap : Nat} {cs : Nat → Int} {ops : Nat → Op} {T : Int} {xs : List Int} (h : Good w P s b G cap cs ops T xs) (hT : T ≤ 1000000000) (g : Nat) (hg : g < G) (hb : ops g ≠ .idle) :
    Calls Tryz.prog 96 #[.pointer (some ⟨s, 0, none⟩), .int .i64 g] w fun e w' => ∃ (done : Bool) (v : Int) (ok : Bool) (op' : Op) (T' : Int) (xs' : List Int), e = .returned (.tuple #[.bool done, .int .i64 v, .bool ok, .int .i64 0]) ∧
      Good w' P s b G cap (upd cs g (wrap64 (cs g + 1))) (updOp ops g op') T' xs' ∧ Bt P w w' ∧ Eff T xs (ops g) done v ok op' T' xs' := by
  obtain ⟨bw, bs, bt, bu, bl, ws, ob, hS, hI, hO⟩ := h
  refine (step_any hS hI hT g hg hb).mono ?_
  rintro e w' ⟨done, v, ok, ws', op', T', xs', rfl, hS', hB, hI', hE, hO'⟩
  exact ⟨done, v, ok, op', T', xs', rfl, ⟨_, _, _, _, _, _, _, hS', hI', fun a ha => (hO' a ha).trans (hO a ha)⟩, hB, hE⟩
theorem g_step_idle {w : World} {P : Nat → Prop} {s : Nat} {b : Zone} {G cap : Nat} {cs : Nat → Int} {ops : Nat → Op} {T : Int} {xs : List Int} (h : Good w P s b G cap cs ops T xs) (g : Nat) (hg : g < G) (hb : ops g = .idle) :
    Calls Tryz.prog 96 #[.pointer (some ⟨s, 0, none⟩), .int .i64 g] w fun e w' => e = .returned (.tuple #[.bool false, .int .i64 0, .bool false, .int .i64 503]) ∧ w' = w := by
  obtain ⟨bw, bs, bt, bu, bl, ws, ob, hS, hI, hO⟩ := h
  exact step_idle hS g hg hb
theorem g_step_agent {w : World} {P : Nat → Prop} {s : Nat} {b : Zone} {G cap : Nat} {cs : Nat → Int} {ops : Nat → Op} {T : Int} {xs : List Int} (h : Good w P s b G cap cs ops T xs) (g : Int) (hg : ¬ (0 ≤ g ∧ g < G)) :
    Calls Tryz.prog 96 #[.pointer (some ⟨s, 0, none⟩), .int .i64 g] w fun e w' => e = .returned (.tuple #[.bool false, .int .i64 0, .bool false, .int .i64 501]) ∧ w' = w := by
  obtain ⟨bw, bs, bt, bu, bl, ws, ob, hS, hI, hO⟩ := h
  exact step_agent_bad hS g hg
theorem updOp_idle {ops : Nat → Op} {g : Nat} (h : ops g = .idle) : updOp ops g .idle = ops := by funext j; unfold updOp; split <;> simp_all

/-- What 'alone' leaves: the blocks are the stack's, or new. -/
def Left (w : World) (P : Nat → Prop) (s : Nat) (b : Zone) (G cap : Nat) (ops : Nat → Op) (T : Int) (xs : List Int) (w' : World) : Prop :=
  ∃ (P' : Nat → Prop) (cs' : Nat → Int) (T' : Int), Good w' P' s b G cap cs' ops T' xs ∧ Bt P w w' ∧ Wider P P' w ∧ T' ≤ T + 1
def AlonePop (w : World) (P : Nat → Prop) (s : Nat) (b : Zone) (G cap : Nat) (ops : Nat → Op) (T : Int) (xs : List Int) (e : Ending) (w' : World) : Prop :=
  ∃ i : Int, (xs = [] ∧ e = .returned (.tuple #[.int .i64 0, .bool false, .int .i64 i, .bool true]) ∧ Left w P s b G cap ops T [] w') ∨ ∃ x r, xs = x :: r ∧ e = .returned (.tuple #[.int .i64 (x - 1), .bool true, .int .i64 i, .bool true]) ∧ Left w P s b G cap ops T r w'
theorem new_at (x y : Int) (W G : Nat) (w : World) (hx : x = W) (hy : y = G) (hW : 1 ≤ W) (hW' : W ≤ 65536) (hG : 1 ≤ G) (hG' : G ≤ 12) :
    Calls Tryz.prog 17 #[.int .i64 x, .int .i64 y] w fun e w' => ∃ b bw bs, e = .returned (.tuple #[.pointer (some ⟨b, 0, none⟩), .int .i64 0]) ∧ Ar w' b bw bs W G (fun _ => 0) (fun _ => 0) ∧ Below w.heap.size w w' ∧ w.heap.size ≤ b ∧ w.heap.size ≤ bw ∧ w.heap.size ≤ bs := by
  subst hx hy; exact new_ok W G w hW hW' hG hG'
end Go.Proofs.YtojblddfggoecaaGreat
