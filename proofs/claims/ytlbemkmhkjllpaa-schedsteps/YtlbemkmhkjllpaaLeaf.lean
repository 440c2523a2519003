/- The script's object as it lies in memory; the select of a feed; small functions: whatever they are asked, what they answer. -/
import Derived.Test.YtlbemkmhkjllpaaRows
import Derived.WalkKit
import Derived.ProofKit
import Derived.BigQuiet
import Derived.Deep.OwnRows
import Derived.Deep.RegionWith
import Derived.Laws.Rows
import Derived.Deep.Draws
import Derived.Deep.DeepCutAuto
import Derived.Conc.LoneSelect
namespace Go.Proofs.Ytlbemkmhkjllpaa
open Go.RowKit Go.Conc

/-- A communication, whatever the frame is. -/
theorem stepG_comm_any {P : Program} {main : Bool} {b : Frame} {a : Act} {k : List Item} {cs : List Frame} {w w' : World} {ops : Array Oper} {i : Nat} {rest : List Nat} {o : Oper} {cases : Array CommCase} {blocking : Bool} {shape : CommShape}
    (ho : ops[i]? = some o) (hw : Region.wanted o (yielded ops a.tmps) = true) (hr : (execOp a.eval o).run P w = .ok (.comm cases blocking shape) w') :
    ∃ es, stepG P main (G (b.at a (.inRegion ops (i :: rest) :: k)) cs) w = .comm (G (b.at a (.inRegion ops (i :: rest) :: k)) cs) cases blocking shape w' es := by
  rw [stepG_oper ho hw]
  simp [stepG.apply, hr, G, Frame.at, GStep.after]

/-- A region whose first operation is a communication that ends by v. -/
theorem wp_region_comm {P : Program} {id : Nat} {ops : Array Oper} {Q : Exit → Act → World → Prop} {a : Act} {w w' : World} {v : Value} {o : Oper} {l : List Oper}
    (hl : ops.toList = o :: l)
    (hs : ∀ (b : Frame) (k : List Item) (cs : List Frame) (rest : List Nat), step P (solo (G (b.at a (.inRegion ops (0 :: rest) :: k)) cs) w) = .next (solo (G ((b.at a (.inRegion ops (0 :: rest) :: k)).finish v) cs) w'))
    (h : wpList P ops Q l (a.put o.dst v) w') : (Code.region id ops false).wp P Q a w := by
  intro b k cs
  have ho : ops[0]? = some o := by rw [← Array.getElem?_toList, hl]; rfl
  have hz : ops.size = l.length + 1 := by rw [← Array.length_toList, hl]; rfl
  have hr : List.range ops.size = 0 :: List.range' 1 l.length := by rw [hz, List.range_eq_range', List.range'_succ]
  rw [← wpOps_eq_wpList (P := P) (ops := ops) (Q := Q) l 1 (fun j => by rw [← Array.getElem?_toList, hl, Nat.add_comm]; rfl)] at h
  obtain ⟨e, a', w2, q, r⟩ := wp_ops _ _ _ h b k cs
  refine ⟨e, a', w2, q, .of_steps (Steps.head step_region ?_) r⟩
  rw [hr]
  refine .one ?_
  have hf := Frame.finish_at b a ops 0 (List.range' 1 l.length) k v
  rw [ho] at hf
  exact hf ▸ hs b k cs (List.range' 1 l.length)

/-- A select of one receive with a default, over an open channel: the default. -/
theorem wp_select_default {P : Program} {id : Nat} {ops : Array Oper} {Q : Exit → Act → World → Prop} {a : Act} {w : World} {o : Oper} {l : List Oper} {c cap s r : Nat} {z : Value} {tm : Bool}
    (hl : ops.toList = o :: l) (hw : Region.wanted o (yielded ops a.tmps) = true)
    (hr : (execOp a.eval o).run P w = .ok (.comm #[rcase c z] false .select) w) (hc : w.heap[c]? = some (.chan cap #[] false s r tm))
    (h : wpList P ops Q l (a.put o.dst (.tuple #[.int .i64 (-1), .bool false, z])) w) : (Code.region id ops false).wp P Q a w := by
  refine wp_region_comm hl (fun b k cs rest => ?_) h
  obtain ⟨es, he⟩ := stepG_comm_any (main := true) (b := b) (k := k) (cs := cs) (rest := rest) (i := 0) (show ops[0]? = some o by rw [← Array.getElem?_toList, hl]; rfl) hw hr
  exact step_lone_select_default he hc
/-- The same over a closed channel: the case. -/
theorem wp_select_shut {P : Program} {id : Nat} {ops : Array Oper} {Q : Exit → Act → World → Prop} {a : Act} {w : World} {o : Oper} {l : List Oper} {c cap s r : Nat} {z : Value} {tm : Bool}
    (hl : ops.toList = o :: l) (hw : Region.wanted o (yielded ops a.tmps) = true)
    (hr : (execOp a.eval o).run P w = .ok (.comm #[rcase c z] false .select) w) (hc : w.heap[c]? = some (.chan cap #[] true s r tm))
    (h : wpList P ops Q l (a.put o.dst (.tuple #[.int .i64 0, .bool false, z])) w) : (Code.region id ops false).wp P Q a w := by
  refine wp_region_comm hl (fun b k cs rest => ?_) h
  obtain ⟨es, he⟩ := stepG_comm_any (main := true) (b := b) (k := k) (cs := cs) (rest := rest) (i := 0) (show ops[0]? = some o by rw [← Array.getElem?_toList, hl]; rfl) hw hr
  exact step_lone_select_recv_shut he hc


theorem bytes69 : ∃ i, Try.prog.info? 69 = some i ∧ i.bytes = 0 := by
  have h : (Try.prog.info? 69).map (·.bytes) = some 0 := by kernel_rfl
  obtain ⟨i, hi, hb⟩ := Option.map_eq_some_iff.1 h
  exact ⟨i, hi, hb⟩
theorem mk0 (w : World) : (Instr.makeChan 68 (.int .i64 0)).run Try.prog w = .ok (.chan (some w.heap.size)) (w.alloc (.chan 0 #[] false 0 0 false)) := by
  obtain ⟨i, hi, hb⟩ := bytes69
  simpa using run_makeChan (P := Try.prog) (w := w) Try.underlying68 hi .i64 0 (by omega) (by rw [hb]; omega)

/-- f, but v at place i. -/
def upd (f : Nat → Int) (i : Nat) (v : Int) : Nat → Int := fun j => if j = i then v else f j
theorem upd_at (f : Nat → Int) (i : Nat) (v : Int) : upd f i v i = v := by simp [upd]
theorem upd_else (f : Nat → Int) {i j : Nat} (v : Int) (h : j ≠ i) : upd f i v j = f j := by simp [upd, h]
theorem below_drewN (w : World) (n B : Nat) : Below B w (w.drewN n) := ⟨rfl, rfl, rfl, Nat.le_refl _, fun _ _ => rfl⟩

/-- The object at block b: its agents' row at ba (state and picks, two cells an agent), its script's places at bp, of which t are taken, its inputs at bi, of which u are. -/
structure Sc (w : World) (b ba bp bi G N M : Nat) (cs : Nat → Int) (sc : Nat → Nat) (t : Nat) (inp : Nat → Int) (u : Nat) : Prop where
  here : w.heap[b]? = some (.cells #[.slice (some ⟨ba, 0, none⟩) G G, .slice (some ⟨bp, 0, none⟩) N N, .int .i64 t, .slice (some ⟨bi, 0, none⟩) M M, .int .i64 u] 60 (0, 0))
  ags : w.rowIs ba 65 (G * 2) (fun i => .int .i64 (cs i))
  plc : w.rowIs bp 53 N (fun i => .int .u8 (sc i))
  ins : w.rowIs bi 3 M (fun i => .int .i64 (inp i))

section
variable {w : World} {b ba bp bi G N M : Nat} {cs : Nat → Int} {sc : Nat → Nat} {t : Nat} {inp : Nat → Int} {u : Nat}
theorem Sc.c0 (h : Sc w b ba bp bi G N M cs sc t inp u) : w.cell? ⟨b, 0, none⟩ = some (.slice (some ⟨ba, 0, none⟩) G G) := by simp [World.cell?, h.here]
theorem Sc.c1 (h : Sc w b ba bp bi G N M cs sc t inp u) : w.cell? ⟨b, 1, none⟩ = some (.slice (some ⟨bp, 0, none⟩) N N) := by simp [World.cell?, h.here]
theorem Sc.c2 (h : Sc w b ba bp bi G N M cs sc t inp u) : w.cell? ⟨b, 2, none⟩ = some (.int .i64 t) := by simp [World.cell?, h.here]
theorem Sc.c3 (h : Sc w b ba bp bi G N M cs sc t inp u) : w.cell? ⟨b, 3, none⟩ = some (.slice (some ⟨bi, 0, none⟩) M M) := by simp [World.cell?, h.here]
theorem Sc.c4 (h : Sc w b ba bp bi G N M cs sc t inp u) : w.cell? ⟨b, 4, none⟩ = some (.int .i64 u) := by simp [World.cell?, h.here]
theorem Sc.fz (h : Sc w b ba bp bi G N M cs sc t inp u) (i : Nat) : w.frozen? ⟨b, i, none⟩ = false := by simp [World.frozen?, h.here]
theorem row_ne {x y : Nat} {c : Array Value} {z : Nat × Nat} {e e' : TypeId} {n : Nat} {f : Nat → Value} (h : w.heap[x]? = some (.cells c e' z)) (hr : w.rowIs y e n f) (hn : e ≠ e') : x ≠ y := by
  rintro rfl
  obtain ⟨c, hc, _⟩ := hr
  rw [h] at hc; simp at hc; exact hn hc.2.1.symm
theorem rows_ne {x y : Nat} {e e' : TypeId} {n n' : Nat} {f f' : Nat → Value} (h : w.rowIs x e' n' f') (hr : w.rowIs y e n f) (hn : e ≠ e') : x ≠ y := by
  obtain ⟨c, hc, _⟩ := h
  exact row_ne hc hr hn
theorem Sc.b_ba (h : Sc w b ba bp bi G N M cs sc t inp u) : b ≠ ba := row_ne h.here h.ags (by decide)
theorem Sc.b_bp (h : Sc w b ba bp bi G N M cs sc t inp u) : b ≠ bp := row_ne h.here h.plc (by decide)
theorem Sc.b_bi (h : Sc w b ba bp bi G N M cs sc t inp u) : b ≠ bi := row_ne h.here h.ins (by decide)
theorem Sc.lt (h : Sc w b ba bp bi G N M cs sc t inp u) : b < w.heap.size := (Array.getElem?_eq_some_iff.1 h.here).1
theorem Sc.of_blocks {w' : World} (h : Sc w b ba bp bi G N M cs sc t inp u) (e : ∀ k, k < w.heap.size → w'.heap[k]? = w.heap[k]?) : Sc w' b ba bp bi G N M cs sc t inp u :=
  ⟨by rw [e b h.lt]; exact h.here, h.ags.of_block (e _ h.ags.lt), h.plc.of_block (e _ h.plc.lt), h.ins.of_block (e _ h.ins.lt)⟩
theorem Sc.below {w' : World} (h : Sc w b ba bp bi G N M cs sc t inp u) (e : Below w.heap.size w w') : Sc w' b ba bp bi G N M cs sc t inp u := h.of_blocks e.block
/-- A store into the agents' row. -/
theorem Sc.set (h : Sc w b ba bp bi G N M cs sc t inp u) (i : Nat) (v : Int) : Sc (w.setCell ⟨ba, i, none⟩ (.int .i64 v)) b ba bp bi G N M (upd cs i v) sc t inp u := by
  refine ⟨by rw [Below.heap_setCell _ _ _ _ h.b_ba]; exact h.here, (h.ags.set i (.int .i64 v)).congr fun j _ => ?_, h.plc.setOther (rows_ne h.plc h.ags (by decide)) _, h.ins.setOther (rows_ne h.ins h.ags (by decide)) _⟩
  unfold upd; split <;> rfl
theorem setCell_block {w : World} {b i : Nat} {c : Array Value} {e : TypeId} {z : Nat × Nat} (h : w.heap[b]? = some (.cells c e z)) (v : Value) : (w.setCell ⟨b, i, none⟩ v).heap[b]? = some (.cells (c.setIfInBounds i v) e z) := by
  simp [World.setCell, Array.getElem?_modify, h]
/-- A word is taken. -/
theorem Sc.word (h : Sc w b ba bp bi G N M cs sc t inp u) (v : Nat) : Sc (w.setCell ⟨b, 2, none⟩ (.int .i64 v)) b ba bp bi G N M cs sc v inp u :=
  ⟨by rw [setCell_block h.here]; rfl, h.ags.setOther (fun e => h.b_ba e.symm) _, h.plc.setOther (fun e => h.b_bp e.symm) _, h.ins.setOther (fun e => h.b_bi e.symm) _⟩
/-- An input is taken. -/
theorem Sc.input (h : Sc w b ba bp bi G N M cs sc t inp u) (v : Nat) : Sc (w.setCell ⟨b, 4, none⟩ (.int .i64 v)) b ba bp bi G N M cs sc t inp v :=
  ⟨by rw [setCell_block h.here]; rfl, h.ags.setOther (fun e => h.b_ba e.symm) _, h.plc.setOther (fun e => h.b_bp e.symm) _, h.ins.setOther (fun e => h.b_bi e.symm) _⟩
end

/-- Of what w held nothing has turned but two blocks. -/
structure But (x y : Nat) (w w' : World) : Prop where
  os : w'.os = w.os
  tape : w'.tape = w.tape
  output : w'.output = w.output
  size : w.heap.size ≤ w'.heap.size
  block : ∀ k, k < w.heap.size → k ≠ x → k ≠ y → w'.heap[k]? = w.heap[k]?
theorem But.refl (x y : Nat) (w : World) : But x y w w := ⟨rfl, rfl, rfl, Nat.le_refl _, fun _ _ _ _ => rfl⟩
theorem But.trans {x y : Nat} {a b c : World} (h : But x y a b) (k : But x y b c) : But x y a c :=
  ⟨k.os.trans h.os, k.tape.trans h.tape, k.output.trans h.output, Nat.le_trans h.size k.size, fun i hi e1 e2 => (k.block i (Nat.lt_of_lt_of_le hi h.size) e1 e2).trans (h.block i hi e1 e2)⟩
theorem But.of_below {x y : Nat} {w w' : World} (h : Below w.heap.size w w') : But x y w w' := ⟨h.os, h.tape, h.output, h.size, fun k hk _ _ => h.block k hk⟩
theorem But.set1 {x y : Nat} {a w : World} (h : But x y a w) (i : Nat) (v : Value) : But x y a (w.setCell ⟨x, i, none⟩ v) :=
  h.trans ⟨rfl, rfl, rfl, by simp [World.setCell], fun k _ e _ => Below.heap_setCell _ _ _ _ e⟩
theorem But.set2 {x y : Nat} {a w : World} (h : But x y a w) (i : Nat) (v : Value) : But x y a (w.setCell ⟨y, i, none⟩ v) :=
  h.trans ⟨rfl, rfl, rfl, by simp [World.setCell], fun k _ _ e => Below.heap_setCell _ _ _ _ e⟩
/-- What lies below B lies there still, if the two blocks lie from B on. -/
theorem But.under {x y B : Nat} {w0 w w' : World} (h : Below B w0 w) (hB : B ≤ w.heap.size) (h1 : B ≤ x) (h2 : B ≤ y) (k : But x y w w') : Below B w0 w' :=
  h.trans ⟨k.os, k.tape, k.output, k.size, fun i hi => k.block i (by omega) (by omega) (by omega)⟩

theorem num_any (x : Int) (w : World) : Calls Try.prog 9 #[.int .i64 x] w fun e w' => e = .returned (.int .i64 x) ∧ w' = w := by
  go_enter Try.func9, Try.ntmps9
  go_wp2
  go_ret
  exact ⟨rfl, rfl⟩
theorem asItIs_any (x : Int) (w : World) : Calls Try.prog 26 #[.int .i64 x] w fun e w' => e = .returned (.int .i64 x) ∧ w' = w := by
  go_enter Try.func26, Try.ntmps26
  go_wp2
  go_ret
  exact ⟨rfl, rfl⟩

section
variable {w : World} {b ba bp bi G N M : Nat} {cs : Nat → Int} {sc : Nat → Nat} {t : Nat} {inp : Nat → Int} {u : Nat}

/-- The next word, where there is one. -/
theorem next_word (h : Sc w b ba bp bi G N M cs sc t inp u) (ht : t < N) (hN : N ≤ 35184372088832) :
    Calls Try.prog 27 #[.pointer (some ⟨b, 1, none⟩)] w fun e w' => e = .returned (.tuple #[.int .u8 (sc t), .bool true]) ∧ Sc w' b ba bp bi G N M cs sc (t + 1) inp u ∧ But b ba w w' := by
  have hmc := mk0
  have hb : ∀ o n, Below w.heap.size w ((w.alloc o).drewN n) := fun o n => ((Below.refl _ _).alloc (Nat.le_refl _) _).trans (below_drewN _ _ _)
  have h1 : ∀ o, (w.alloc o).cell? ⟨b, 1, none⟩ = some (.slice (some ⟨bp, 0, none⟩) N N) := fun o => (h.below (hb o 0)).c1
  have h2 : ∀ o, (w.alloc o).cell? ⟨b, 2, none⟩ = some (.int .i64 t) := fun o => (h.below (hb o 0)).c2
  have hz : ∀ o, (w.alloc o).frozen? ⟨b, 2, none⟩ = false := fun o => (h.below (hb o 0)).fz 2
  have h3 : ∀ o, (w.alloc o).cell? ⟨bp, t, none⟩ = some (.int .u8 (sc t)) := fun o => (h.below (hb o 0)).plc.cell ht
  go_enter Try.func27, Try.ntmps27
  go_upto_region 2 with fail
  go_quiet (fail)
  go_upto_region 5 with fail
  refine wp_select_default (c := w.heap.size) (z := .agg #[]) (cap := 0) (s := 0) (r := 0) (tm := false) rfl rfl (by simp [go_sem, execOp, rcase, Act.eval]) (heap_alloc_new _ _) ?_
  go_wp2
  go_quiet (fail)
  go_wp2
  go_ret2
  rename_i nq0 _
  have hB : Below w.heap.size w ((w.alloc (Obj.chan 0 #[] false 0 0 false)).drewN (nq0 + nq)) := hb _ _
  exact ⟨rfl, (h.below hB).word (t + 1), (But.of_below hB).set1 2 _⟩
/-- There is no next word. -/
theorem no_word (h : Sc w b ba bp bi G N M cs sc t inp u) (ht : t = N) :
    Calls Try.prog 27 #[.pointer (some ⟨b, 1, none⟩)] w fun e w' => e = .returned (.tuple #[.int .u8 0, .bool false]) ∧ Sc w' b ba bp bi G N M cs sc t inp u ∧ But b ba w w' := by
  subst ht
  have hmc := mk0
  have hb : ∀ o n, Below w.heap.size w ((w.alloc o).drewN n) := fun o n => ((Below.refl _ _).alloc (Nat.le_refl _) _).trans (below_drewN _ _ _)
  have h1 : ∀ o, (w.alloc o).cell? ⟨b, 1, none⟩ = some (.slice (some ⟨bp, 0, none⟩) t t) := fun o => (h.below (hb o 0)).c1
  have h2 : ∀ o, (w.alloc o).cell? ⟨b, 2, none⟩ = some (.int .i64 t) := fun o => (h.below (hb o 0)).c2
  go_enter Try.func27, Try.ntmps27
  go_upto_region 2 with fail
  go_quiet (fail)
  have hcl := fun ats ty => run_close_open (P := Try.prog) (w := (w.alloc (.chan 0 #[] false 0 0 false)).drewN nq) ats ty (heap_alloc_new w (.chan 0 #[] false 0 0 false))
  go_upto_region 5 with fail
  refine wp_select_shut (c := w.heap.size) (z := .agg #[]) (cap := 0) (s := 0) (r := 0) (tm := false) rfl rfl (by simp [go_sem, execOp, rcase, Act.eval]) (heap_setChan ((w.alloc (.chan 0 #[] false 0 0 false)).drewN nq) w.heap.size 0 #[] true 0 0 false (by simp)) ?_
  go_wp2
  go_ret2
  have hB : Below w.heap.size w (((w.alloc (Obj.chan 0 #[] false 0 0 false)).drewN nq).setChan w.heap.size 0 #[] true 0 0 false) := below_setChan (hb _ nq) (Nat.le_refl _) _ _ _ _ _ _
  exact ⟨rfl, h.below hB, But.of_below hB⟩
/-- The next input, where there is one. -/
theorem next_input (h : Sc w b ba bp bi G N M cs sc t inp u) (ht : u < M) (hN : M ≤ 35184372088832) :
    Calls Try.prog 28 #[.pointer (some ⟨b, 3, none⟩)] w fun e w' => e = .returned (.tuple #[.int .i64 (inp u), .bool true]) ∧ Sc w' b ba bp bi G N M cs sc t inp (u + 1) ∧ But b ba w w' := by
  have hmc := mk0
  have hb : ∀ o n, Below w.heap.size w ((w.alloc o).drewN n) := fun o n => ((Below.refl _ _).alloc (Nat.le_refl _) _).trans (below_drewN _ _ _)
  have h1 : ∀ o, (w.alloc o).cell? ⟨b, 3, none⟩ = some (.slice (some ⟨bi, 0, none⟩) M M) := fun o => (h.below (hb o 0)).c3
  have h2 : ∀ o, (w.alloc o).cell? ⟨b, 4, none⟩ = some (.int .i64 u) := fun o => (h.below (hb o 0)).c4
  have hz : ∀ o, (w.alloc o).frozen? ⟨b, 4, none⟩ = false := fun o => (h.below (hb o 0)).fz 4
  have h3 : ∀ o, (w.alloc o).cell? ⟨bi, u, none⟩ = some (.int .i64 (inp u)) := fun o => (h.below (hb o 0)).ins.cell ht
  go_enter Try.func28, Try.ntmps28
  go_upto_region 2 with fail
  go_quiet (fail)
  go_upto_region 5 with fail
  refine wp_select_default (c := w.heap.size) (z := .agg #[]) (cap := 0) (s := 0) (r := 0) (tm := false) rfl rfl (by simp [go_sem, execOp, rcase, Act.eval]) (heap_alloc_new _ _) ?_
  go_wp2
  go_quiet (fail)
  go_wp2
  go_ret2
  rename_i nq0 _
  have hB : Below w.heap.size w ((w.alloc (Obj.chan 0 #[] false 0 0 false)).drewN (nq0 + nq)) := hb _ _
  exact ⟨rfl, (h.below hB).input (u + 1), (But.of_below hB).set1 4 _⟩
/-- There is no next input. -/
theorem no_input (h : Sc w b ba bp bi G N M cs sc t inp u) (ht : u = M) :
    Calls Try.prog 28 #[.pointer (some ⟨b, 3, none⟩)] w fun e w' => e = .returned (.tuple #[.int .i64 0, .bool false]) ∧ Sc w' b ba bp bi G N M cs sc t inp u ∧ But b ba w w' := by
  subst ht
  have hmc := mk0
  have hb : ∀ o n, Below w.heap.size w ((w.alloc o).drewN n) := fun o n => ((Below.refl _ _).alloc (Nat.le_refl _) _).trans (below_drewN _ _ _)
  have h1 : ∀ o, (w.alloc o).cell? ⟨b, 3, none⟩ = some (.slice (some ⟨bi, 0, none⟩) u u) := fun o => (h.below (hb o 0)).c3
  have h2 : ∀ o, (w.alloc o).cell? ⟨b, 4, none⟩ = some (.int .i64 u) := fun o => (h.below (hb o 0)).c4
  go_enter Try.func28, Try.ntmps28
  go_upto_region 2 with fail
  go_quiet (fail)
  have hcl := fun ats ty => run_close_open (P := Try.prog) (w := (w.alloc (.chan 0 #[] false 0 0 false)).drewN nq) ats ty (heap_alloc_new w (.chan 0 #[] false 0 0 false))
  go_upto_region 5 with fail
  refine wp_select_shut (c := w.heap.size) (z := .agg #[]) (cap := 0) (s := 0) (r := 0) (tm := false) rfl rfl (by simp [go_sem, execOp, rcase, Act.eval]) (heap_setChan ((w.alloc (.chan 0 #[] false 0 0 false)).drewN nq) w.heap.size 0 #[] true 0 0 false (by simp)) ?_
  go_wp2
  go_ret2
  have hB : Below w.heap.size w (((w.alloc (Obj.chan 0 #[] false 0 0 false)).drewN nq).setChan w.heap.size 0 #[] true 0 0 false) := below_setChan (hb _ nq) (Nat.le_refl _) _ _ _ _ _ _
  exact ⟨rfl, h.below hB, But.of_below hB⟩

theorem at_any (h : Sc w b ba bp bi G N M cs sc t inp u) : Calls Try.prog 17 #[.pointer (some ⟨b, 0, none⟩)] w fun e w' => e = .returned (.int .i64 t) ∧ w' = w := by
  have c2 := h.c2
  go_enter Try.func17, Try.ntmps17
  go_wp2
  go_ret
  exact ⟨rfl, rfl⟩
theorem has_yes (h : Sc w b ba bp bi G N M cs sc t inp u) (x : Int) (h0 : 0 ≤ x) (h1 : x < G) : Calls Try.prog 29 #[.pointer (some ⟨b, 0, none⟩), .int .i64 x] w fun e w' => e = .returned (.bool true) ∧ w' = w := by
  have c0 := h.c0
  go_enter Try.func29, Try.ntmps29
  go_wp2
  go_ret
  exact ⟨rfl, rfl⟩
theorem has_no (h : Sc w b ba bp bi G N M cs sc t inp u) (x : Int) (hx : ¬ (0 ≤ x ∧ x < G)) : Calls Try.prog 29 #[.pointer (some ⟨b, 0, none⟩), .int .i64 x] w fun e w' => e = .returned (.bool false) ∧ w' = w := by
  have c0 := h.c0
  by_cases h0 : 0 ≤ x
  · have h1 : decide (x < G) = false := by simp; omega
    clear hx
    go_enter Try.func29, Try.ntmps29
    go_wp2
    go_ret
    exact ⟨rfl, rfl⟩
  · have h1 : x < 0 := by omega
    clear hx h0
    go_enter Try.func29, Try.ntmps29
    go_wp2
    go_ret
    exact ⟨rfl, rfl⟩
theorem isState_yes (x : Int) (w : World) (hx : 0 ≤ x ∧ x ≤ 2) : Calls Try.prog 30 #[.int .i64 x] w fun e w' => e = .returned (.bool true) ∧ w' = w := by
  have : x = 0 ∨ x = 1 ∨ x = 2 := by omega
  rcases this with rfl | rfl | rfl <;>
  · clear hx
    go_enter Try.func30, Try.ntmps30
    go_wp2
    go_ret
    exact ⟨rfl, rfl⟩
theorem isState_no (x : Int) (w : World) (hx : ¬ (0 ≤ x ∧ x ≤ 2)) : Calls Try.prog 30 #[.int .i64 x] w fun e w' => e = .returned (.bool false) ∧ w' = w := by
  have e0 : (x == 0) = false := by simp; omega
  have e1 : (x == 1) = false := by simp; omega
  have e2 : (x == 2) = false := by simp; omega
  clear hx
  go_enter Try.func30, Try.ntmps30
  go_wp2
  go_ret
  exact ⟨rfl, rfl⟩
theorem picks_in (h : Sc w b ba bp bi G N M cs sc t inp u) (g : Nat) (hg : g < G) : Calls Try.prog 20 #[.pointer (some ⟨b, 0, none⟩), .int .i64 g] w fun e w' => e = .returned (.int .i64 (cs (g * 2 + 1))) ∧ w' = w := by
  have c0 := h.c0
  have c1 := h.ags.cell (i := g * 2 + 1) (by omega)
  have hh := has_yes h g (by omega) (by omega)
  go_enter Try.func20, Try.ntmps20
  go_wp2_with (go_at_call 29; refine hh.mono ?_; rintro e w1 ⟨rfl, rfl⟩)
  go_ret
  exact ⟨rfl, rfl⟩
theorem picks_out (h : Sc w b ba bp bi G N M cs sc t inp u) (x : Int) (hx : ¬ (0 ≤ x ∧ x < G)) : Calls Try.prog 20 #[.pointer (some ⟨b, 0, none⟩), .int .i64 x] w fun e w' => e = .returned (.int .i64 0) ∧ w' = w := by
  have hh := has_no h x hx
  clear hx
  go_enter Try.func20, Try.ntmps20
  go_wp2_with (go_at_call 29; refine hh.mono ?_; rintro e w1 ⟨rfl, rfl⟩)
  go_ret
  exact ⟨rfl, rfl⟩

/-- Set: no such agent or state. -/
theorem set_bad (h : Sc w b ba bp bi G N M cs sc t inp u) (x s : Int) (hx : ¬ (0 ≤ x ∧ x < G ∧ 0 ≤ s ∧ s ≤ 2)) :
    Calls Try.prog 15 #[.pointer (some ⟨b, 0, none⟩), .int .i64 x, .int .i64 s] w fun e w' => e = .returned (.int .i64 401) ∧ w' = w := by
  by_cases hg : 0 ≤ x ∧ x < G
  · have hh := has_yes h x hg.1 hg.2
    have hs := isState_no s w (by omega)
    clear hx hg
    go_enter Try.func15, Try.ntmps15
    go_wp2_with (first | (go_at_call 29; refine hh.mono ?_; rintro e w1 ⟨rfl, rfl⟩) | (go_at_call 30; refine hs.mono ?_; rintro e w1 ⟨rfl, rfl⟩))
    go_ret
    exact ⟨rfl, rfl⟩
  · have hh := has_no h x hg
    clear hx hg
    go_enter Try.func15, Try.ntmps15
    go_wp2_with (go_at_call 29; refine hh.mono ?_; rintro e w1 ⟨rfl, rfl⟩)
    go_ret
    exact ⟨rfl, rfl⟩
/-- Set: one that is dead stays so. -/
theorem set_dead (h : Sc w b ba bp bi G N M cs sc t inp u) (g : Nat) (s : Int) (hg : g < G) (hs : 0 ≤ s ∧ s ≤ 2) (hd : (cs (g * 2) != 2) = false) :
    Calls Try.prog 15 #[.pointer (some ⟨b, 0, none⟩), .int .i64 g, .int .i64 s] w fun e w' => e = .returned (.int .i64 0) ∧ w' = w := by
  have c0 := h.c0
  have c1 := h.ags.cell (i := g * 2) (by omega)
  have hh := has_yes h g (by omega) (by omega)
  have hi := isState_yes s w hs
  clear hs
  go_enter Try.func15, Try.ntmps15
  go_wp2_with (first | (go_at_call 29; refine hh.mono ?_; rintro e w1 ⟨rfl, rfl⟩) | (go_at_call 30; refine hi.mono ?_; rintro e w1 ⟨rfl, rfl⟩))
  go_ret
  exact ⟨rfl, rfl⟩
/-- Set: one that is not dead. -/
theorem set_live (h : Sc w b ba bp bi G N M cs sc t inp u) (g : Nat) (s : Int) (hg : g < G) (hs : 0 ≤ s ∧ s ≤ 2) (hd : (cs (g * 2) != 2) = true) :
    Calls Try.prog 15 #[.pointer (some ⟨b, 0, none⟩), .int .i64 g, .int .i64 s] w fun e w' => e = .returned (.int .i64 0) ∧ Sc w' b ba bp bi G N M (upd cs (g * 2) s) sc t inp u ∧ But b ba w w' := by
  have c0 := h.c0
  have c1 := h.ags.cell (i := g * 2) (by omega)
  have f1 := h.ags.frozen (g * 2)
  have hh := has_yes h g (by omega) (by omega)
  have hi := isState_yes s w hs
  clear hs
  go_enter Try.func15, Try.ntmps15
  go_wp2_with (first | (go_at_call 29; refine hh.mono ?_; rintro e w1 ⟨rfl, rfl⟩) | (go_at_call 30; refine hi.mono ?_; rintro e w1 ⟨rfl, rfl⟩))
  go_ret
  exact ⟨rfl, h.set (g * 2) s, (But.refl _ _ _).set2 _ _⟩

/-- Pick: no word is left. -/
theorem pick_none (h : Sc w b ba bp bi G N M cs sc t inp u) (ht : t = N) :
    Calls Try.prog 12 #[.pointer (some ⟨b, 0, none⟩)] w fun e w' => e = .returned (.tuple #[.int .i64 (-1), .bool false]) ∧ Sc w' b ba bp bi G N M cs sc t inp u ∧ But b ba w w' := by
  have hn := no_word h ht
  clear ht
  go_enter Try.func12, Try.ntmps12
  go_wp2_with (go_at_call 27; refine hn.mono ?_; rintro e w1 ⟨rfl, hA, hB⟩)
  go_ret2
  exact ⟨rfl, hA, hB⟩
/-- Pick: its agent is ready. -/
theorem pick_ready (h : Sc w b ba bp bi G N M cs sc t inp u) (ht : t < N) (hN : N ≤ 35184372088832) (hs : sc t < G) (hG : G ≤ 12) (hr : (cs (sc t * 2) != 0) = false) :
    Calls Try.prog 12 #[.pointer (some ⟨b, 0, none⟩)] w fun e w' => e = .returned (.tuple #[.int .i64 (sc t), .bool true]) ∧ Sc w' b ba bp bi G N M (upd cs (sc t * 2 + 1) (wrap64 (cs (sc t * 2 + 1) + 1))) sc (t + 1) inp u ∧ But b ba w w' := by
  have hn := next_word h ht hN
  generalize sc t = g at *
  go_enter Try.func12, Try.ntmps12
  go_wp2_with (go_at_call 27; refine hn.mono ?_; rintro e w1 ⟨rfl, hA, hB⟩; have c0 := hA.c0; have c1 := hA.ags.cell (i := g * 2) (by omega); have c2 := hA.ags.cell (i := g * 2 + 1) (by omega); have f2 := hA.ags.frozen (g * 2 + 1))
  go_ret2
  exact ⟨rfl, hA.set _ _, hB.set2 _ _⟩
/-- Pick: its agent is not ready: a skip. -/
theorem pick_skip (h : Sc w b ba bp bi G N M cs sc t inp u) (ht : t < N) (hN : N ≤ 35184372088832) (hs : sc t < G) (hr : (cs (sc t * 2) != 0) = true) :
    Calls Try.prog 12 #[.pointer (some ⟨b, 0, none⟩)] w fun e w' => e = .returned (.tuple #[.int .i64 (-1), .bool true]) ∧ Sc w' b ba bp bi G N M cs sc (t + 1) inp u ∧ But b ba w w' := by
  have hn := next_word h ht hN
  generalize sc t = g at *
  go_enter Try.func12, Try.ntmps12
  go_wp2_with (go_at_call 27; refine hn.mono ?_; rintro e w1 ⟨rfl, hA, hB⟩; have c0 := hA.c0; have c1 := hA.ags.cell (i := g * 2) (by omega))
  go_ret2
  exact ⟨rfl, hA, hB⟩
theorem input_some (h : Sc w b ba bp bi G N M cs sc t inp u) (hu : u < M) (hM : M ≤ 35184372088832) :
    Calls Try.prog 14 #[.pointer (some ⟨b, 0, none⟩)] w fun e w' => e = .returned (.int .i64 (inp u)) ∧ Sc w' b ba bp bi G N M cs sc t inp (u + 1) ∧ But b ba w w' := by
  have hn := next_input h hu hM
  clear hu
  go_enter Try.func14, Try.ntmps14
  go_wp2_with (go_at_call 28; refine hn.mono ?_; rintro e w1 ⟨rfl, hA, hB⟩)
  go_ret
  exact ⟨rfl, hA, hB⟩
theorem input_none (h : Sc w b ba bp bi G N M cs sc t inp u) (hu : u = M) :
    Calls Try.prog 14 #[.pointer (some ⟨b, 0, none⟩)] w fun e w' => e = .returned (.int .i64 0) ∧ Sc w' b ba bp bi G N M cs sc t inp u ∧ But b ba w w' := by
  have hn := no_input h hu
  clear hu
  go_enter Try.func14, Try.ntmps14
  go_wp2_with (go_at_call 28; refine hn.mono ?_; rintro e w1 ⟨rfl, hA, hB⟩)
  go_ret
  exact ⟨rfl, hA, hB⟩

/-- How often the first k agents were picked, together. -/
def total (cs : Nat → Int) : Nat → Int
  | 0 => 0
  | k + 1 => total cs k + cs (k * 2 + 1)
theorem total_mono (cs : Nat → Int) (h : ∀ i, 0 ≤ cs (i * 2 + 1)) (k : Nat) : ∀ d, total cs k ≤ total cs (k + d) := by
  intro d
  induction d with
  | zero => exact Int.le_refl _
  | succ d ih => have := h (k + d); show total cs k ≤ total cs (k + d) + cs ((k + d) * 2 + 1); omega
theorem total_nonneg (cs : Nat → Int) (h : ∀ i, 0 ≤ cs (i * 2 + 1)) (k : Nat) : 0 ≤ total cs k := by
  have := total_mono cs h 0 k
  rw [Nat.zero_add] at this
  exact this

theorem info65 : (Try.prog.info? 65).map (fun i => (i.zero, i.size, i.bytes)) = some (some (.agg #[.int .i64 0, .int .i64 0]), 2, 16) := by kernel_rfl
set_option maxHeartbeats 1000000 in
theorem skips_any (h : Sc w b ba bp bi G N M cs sc t inp u) (hG : G ≤ 12) (ht : t ≤ 35184372088832) (hp : ∀ i, 0 ≤ cs (i * 2 + 1)) (ht' : total cs G ≤ t) :
    Calls Try.prog 16 #[.pointer (some ⟨b, 0, none⟩)] w fun e w' => e = .returned (.int .i64 (t - total cs G)) ∧ Below w.heap.size w w' := by
  have c0 := h.c0
  have c2 := h.c2
  go_enter Try.func16, Try.ntmps16
  go_wp2
  go_loopw [3, 18] (fun s k wr => ∃ n : Nat, n ≤ G ∧ s = .int .i64 (t - total cs n) ∧ k = .int .i64 n ∧ Below w.heap.size w wr) (fun _ k _ => G - (intOf k).toNat)
  case atStart => exact ⟨0, by omega, by simp [total], rfl, Below.refl _ _⟩
  case round =>
    obtain ⟨n, hn, rfl, rfl, hB⟩ := hrel
    by_cases hlt : n < G
    · have hA := h.below hB
      have d0 := hA.ags.cell (i := n * 2) (by omega)
      have d1 := hA.ags.cell (i := n * 2 + 1) (by omega)
      have hw : wrap64 (t - total cs n - cs (n * 2 + 1)) = t - total cs (n + 1) := by
        have e1 : total cs (n + 1) = total cs n + cs (n * 2 + 1) := rfl
        have e2 := total_mono cs hp (n + 1) (G - (n + 1))
        rw [show n + 1 + (G - (n + 1)) = G by omega] at e2
        have e3 := total_nonneg cs hp (n + 1)
        rw [e1] at e2 e3 ⊢
        rw [show (t : Int) - (total cs n + cs (n * 2 + 1)) = t - total cs n - cs (n * 2 + 1) by omega]
        exact IntWalk.wrap64_in _ (by omega)
      go_wp2
      go_roundw
      case rel => exact ⟨n + 1, by omega, by rw [hw], by go_num, hB.alloc hB.size _⟩
      case measure => simp [intOf]; omega
    · obtain rfl : n = G := by omega
      go_wp2
      go_ret
      exact ⟨rfl, hB⟩
end
end Go.Proofs.Ytlbemkmhkjllpaa
