/- encode: a program's bytes, or the fault that is thrown. -/
import Derived.Test.YtajghalljkphiaaGreatMLBld
import Derived.Test.YtajghalljkphiaaGreatMGL0
namespace Go.Proofs.YtajghalljkphiaaGreat
open Go.RowKit

theorem app_nil (p : Pt) : (#[ptV p] ++ #[] : Array Value) = #[ptV p] := by simp
theorem visC (N0 : Nat) : Vis (fun _ => True) N0 45 #[] stC (idle N0) none_ where
  keep := fun h hb => ⟨Nat.le_trans h hb.size, fun _ o => o.elim⟩
  fresh := fun _ _ o => o
  lt := fun _ o => o.elim
  low := fun h => h
  enters := enters_C
  call := fun _ w p h _ => by rw [app_nil]; exact chkC_any N0 p w h
theorem visT (N0 : Nat) : Vis (fun _ => True) N0 47 #[] stT (idle N0) none_ where
  keep := fun h hb => ⟨Nat.le_trans h hb.size, fun _ o => o.elim⟩
  fresh := fun _ _ o => o
  lt := fun _ o => o.elim
  low := fun h => h
  enters := enters_T
  call := fun _ w p h _ => by rw [app_nil]; exact chkT_any N0 p w h

set_option maxHeartbeats 1000000 in
set_option maxRecDepth 20000 in
theorem chkN_no (N0 : Nat) (p : Pt) (w : World) (h1 : (p.kd == 3) = true) (hm : p.nu < 0 ∨ p.mo < p.nu) : Calls Tryz.prog 48 #[ptV p] w (FdP none_ (idle N0) w (.error 1402)) := by
  have hb : Below w.heap.size w (w.alloc (.cells #[.int .i64 p.kd, .int .i64 p.nu, .int .i64 p.mo, .string p.nm] 109)) := (Below.refl _ _).alloc (Nat.le_refl _) _
  unfold ptV
  rcases hm with h2 | h2
  · go_enter Tryz.func48, Tryz.ntmps48
    go_wp2_with (go_at_call 36; refine (throw_any _ _ _).mono ?_; rintro e w8 ⟨rfl, hw⟩; replace hw := hw.symm; subst hw)
    exact ⟨rfl, FdP.err rfl (idle_fb hb)⟩
  · by_cases h3 : p.nu < 0
    · go_enter Tryz.func48, Tryz.ntmps48
      go_wp2_with (go_at_call 36; refine (throw_any _ _ _).mono ?_; rintro e w8 ⟨rfl, hw⟩; replace hw := hw.symm; subst hw)
      exact ⟨rfl, FdP.err rfl (idle_fb hb)⟩
    · go_enter Tryz.func48, Tryz.ntmps48
      go_wp2_with (go_at_call 36; refine (throw_any _ _ _).mono ?_; rintro e w8 ⟨rfl, hw⟩; replace hw := hw.symm; subst hw)
      exact ⟨rfl, FdP.err rfl (idle_fb hb)⟩
theorem chkN_any (N0 : Nat) (p : Pt) (w : World) (h : N0 ≤ w.heap.size) : Calls Tryz.prog 48 #[ptV p] w (FdP none_ (idle N0) w (stN () p)) := by
  by_cases h1 : p.kd = 3
  · have h1b : (p.kd == 3) = true := by simp [h1]
    by_cases h2 : p.nu < 0 ∨ p.mo < p.nu
    · have : stN () p = .error 1402 := by
        unfold stN okN
        rcases h2 with h2 | h2 <;> simp [h1, h2]
      rw [this]; exact chkN_no N0 p w h1b h2
    · have h3 : ¬ p.nu < 0 := fun q => h2 (.inl q)
      have h4 : ¬ p.mo < p.nu := fun q => h2 (.inr q)
      have : stN () p = if inR p.nu = true then .ok () else .error 1402 := by
        unfold stN okN; simp [h3, h4]
      rw [this]; exact chkN_put N0 p w h (.inr ⟨h1b, h3, h4⟩) _ rfl
  · have h1b : (p.kd == 3) = false := by simp [h1]
    have : stN () p = if inR p.nu = true then .ok () else .error 1402 := by
      unfold stN okN; simp [h1b]
    rw [this]; exact chkN_put N0 p w h (.inl h1b) _ rfl
theorem visN (N0 : Nat) : Vis (fun _ => True) N0 48 #[] stN (idle N0) none_ where
  keep := fun h hb => ⟨Nat.le_trans h hb.size, fun _ o => o.elim⟩
  fresh := fun _ _ o => o
  lt := fun _ o => o.elim
  low := fun h => h
  enters := enters_N
  call := fun _ w p h _ => by rw [app_nil]; exact chkN_any N0 p w h

theorem feed_chk (ok : Pt → Bool) (c : Int) (st : Unit → Pt → Except Int Unit) (hst : ∀ x p, st x p = if ok p = true then .ok () else .error c) : ∀ (l : List Pt), feed st l () = if l.all ok = true then .ok () else .error c
  | [] => rfl
  | p :: l => by
    show fbnd (st () p) (feed st l) = _
    rw [hst, List.all_cons]
    cases h : ok p
    · rfl
    · show feed st l () = _
      rw [feed_chk ok c st hst l]; simp

/-- The bytes so far, and one part more. -/
def stB (l : List UInt8) (p : Pt) : Except Int (List UInt8) := if 32768 < (l ++ bts p).length then .error 1406 else .ok (l ++ bts p)
theorem feed_B : ∀ (ps : List Pt) (l : List UInt8), l.length ≤ 32768 → feed stB ps l = if 32768 < (l ++ byts ps).length then .error 1406 else .ok (l ++ byts ps)
  | [], l, h => by
    rw [byts_nil, List.append_nil, if_neg (by omega)]; rfl
  | p :: ps, l, h => by
    show fbnd (stB l p) (feed stB ps) = _
    rw [byts_cons, ← List.append_assoc]
    unfold stB
    by_cases c : 32768 < (l ++ bts p).length
    · rw [if_pos c, if_pos (by simp at c ⊢; omega)]; rfl
    · rw [if_neg c]
      exact feed_B ps (l ++ bts p) (by omega)
def IB (B hb : Nat) (l : List UInt8) (w : World) : Prop := Lib.IsBuilder 103 5 B hb (Lib.byteCells l) w ∧ B ≤ w.heap.size ∧ l.length ≤ 32768
theorem isB_below {B hb : Nat} {bs : List Value} {w w' : World} (h : Lib.IsBuilder 103 5 B hb bs w) (hb' : Below w.heap.size w w') : Lib.IsBuilder 103 5 B hb bs w' := by
  have key : ∀ p, Lib.BuilderAt 103 5 B hb p bs w → Lib.BuilderAt 103 5 B hb p bs w' := fun p ⟨h1, v, h2, h3, h4⟩ =>
    ⟨h1, v, by rw [hb'.block _ (Array.getElem?_eq_some_iff.1 h2).1]; exact h2, World.ownsRow.kept h3 (row := none) ⟨hb'.os, hb'.tape, hb'.output, hb'.size, fun i hi _ => hb'.block i hi⟩ (by cases h : v.ownBlock <;> simp), h4⟩
  exact h.imp (key _) (key _)
theorem own_keep {B hb : Nat} {w w' : World} (hb' : Below w.heap.size w w') (k : Nat) (o : ownB B hb w' k) : ownB B hb w k ∨ w.heap.size ≤ k := by
  by_cases hk : k < w.heap.size
  · left
    obtain ⟨h1, _, h3⟩ := o
    exact ⟨h1, hk, h3.imp_right fun ⟨c, fz, e⟩ => ⟨c, fz, by rw [← hb'.block k hk]; exact e⟩⟩
  · right; omega
theorem fb_below {B hb : Nat} {w w' : World} (h : Below w.heap.size w w') : Fb (ownB B hb) w w' := ⟨h.os, h.tape, h.output, h.size, fun k hk _ => h.block k hk, own_keep h⟩
theorem isB_lt {B hb : Nat} {bs : List Value} {w : World} (h : Lib.IsBuilder 103 5 B hb bs w) : B ≤ hb ∧ hb < w.heap.size := by
  rcases h with ⟨h1, v, h2, _⟩ | ⟨h1, v, h2, _⟩ <;> exact ⟨h1, (Array.getElem?_eq_some_iff.1 h2).1⟩

theorem bts_eq1 {p : Pt} (h : p.kd = 1) : (⟨(bts p).toArray⟩ : ByteArray) = txtB p.nm := by
  unfold bts; rw [if_pos h]
theorem bts_eq0 {p : Pt} (h : p.kd ≠ 1) : (⟨(bts p).toArray⟩ : ByteArray) = putB p.nu := by
  unfold bts; rw [if_neg h]
set_option maxHeartbeats 1000000 in
set_option maxRecDepth 20000 in
theorem bytesOf_any (p : Pt) (w : World) (hs : p.nm.size ≤ maxLen) : Calls Tryz.prog 51 #[ptV p] w fun e w' => e = .returned (.string ⟨(bts p).toArray⟩) ∧ Below w.heap.size w w' := by
  have hb : Below w.heap.size w (w.alloc (.cells #[.int .i64 p.kd, .int .i64 p.nu, .int .i64 p.mo, .string p.nm] 109)) := (Below.refl _ _).alloc (Nat.le_refl _) _
  have hz : (w.alloc (.cells #[.int .i64 p.kd, .int .i64 p.nu, .int .i64 p.mo, .string p.nm] 109)).heap.size = w.heap.size + 1 := by simp
  unfold ptV
  by_cases h1 : p.kd = 1
  · have h1b : (p.kd == 1) = true := by simp [h1]
    have hP := puttext_any (w0 := w) p.nm (w.alloc (.cells #[.int .i64 p.kd, .int .i64 p.nu, .int .i64 p.mo, .string p.nm] 109)) hs hb
    rw [bts_eq1 h1]
    clear h1 hb
    go_enter Tryz.func51, Tryz.ntmps51
    go_wp2_with (go_at_call 74; refine hP.mono ?_; rintro e w1 ⟨rfl, hb1⟩)
    go_ret
    exact ⟨rfl, hb1⟩
  · have h1b : (p.kd == 1) = false := by simp [h1]
    have hP := putnum_any p.nu (w.alloc (.cells #[.int .i64 p.kd, .int .i64 p.nu, .int .i64 p.mo, .string p.nm] 109))
    rw [bts_eq0 h1]
    have HB : Hid (∀ w1, Below (w.alloc (.cells #[.int .i64 p.kd, .int .i64 p.nu, .int .i64 p.mo, .string p.nm] 109)).heap.size (w.alloc (.cells #[.int .i64 p.kd, .int .i64 p.nu, .int .i64 p.mo, .string p.nm] 109)) w1 → Below w.heap.size w w1) := fun w1 h => hb.trans (h.mono (by omega))
    clear h1 hb hz
    go_enter Tryz.func51, Tryz.ntmps51
    go_wp2_with (go_at_call 72; refine hP.mono ?_; rintro e w1 ⟨rfl, hb1⟩)
    go_ret
    exact ⟨rfl, HB.out _ hb1⟩
end Go.Proofs.YtajghalljkphiaaGreat
/- The visit that gathers the bytes; encode. -/
namespace Go.Proofs.YtajghalljkphiaaGreat
open Go.RowKit

theorem enters_B (args : Array Value) (w : World) : (callFunc 50 args).run Tryz.prog w = .ok (.enter 50 args) w := by
  kernel_rfl
theorem bts_len {p : Pt} (hG : okP p = true) : p.nm.size ≤ 16 ∨ p.kd ≠ 1 := by
  by_cases h : p.kd = 1
  · left
    unfold okP okT at hG
    simp [h] at hG
    exact (isNm_size hG.1.2).2
  · exact .inr h
theorem bts_short {p : Pt} (hG : okP p = true) : (bts p).length ≤ 21 := by
  unfold bts
  split
  · rename_i h
    rcases bts_len hG with q | q
    · have := putB_size (p.nm.size : Int)
      show (txtB p.nm).data.toList.length ≤ 21
      unfold txtB
      rw [ByteArray.data_append]
      simp
      have e1 : (putB (p.nm.size : Int)).data.size = (putB (p.nm.size : Int)).size := rfl
      have e2 : p.nm.data.size = p.nm.size := rfl
      omega
    · exact absurd h q
  · have := putB_size p.nu
    show (putB p.nu).data.toList.length ≤ 21
    have e1 : (putB p.nu).data.size = (putB p.nu).size := rfl
    simp; omega
theorem strCells_bts (l : List UInt8) : Lib.strCells ⟨l.toArray⟩ = Lib.byteCells l := by
  simp [Lib.strCells, Lib.byteCells]

set_option maxHeartbeats 1000000 in
set_option maxRecDepth 20000 in
theorem gather_any (B hb : Nat) (l : List UInt8) (w : World) (p : Pt) (h : IB B hb l w) (hG : okP p = true ∧ p.nm.size ≤ maxLen) : Calls Tryz.prog 50 #[ptV p, .pointer (some ⟨hb, 0, none⟩)] w (FdP (ownB B hb) (IB B hb) w (stB l p)) := by
  obtain ⟨h1, h2, h3⟩ := h
  have hsh := bts_short hG.1
  have hb0 : Below w.heap.size w (w.alloc (.cells #[.int .i64 p.kd, .int .i64 p.nu, .int .i64 p.mo, .string p.nm] 109)) := (Below.refl _ _).alloc (Nat.le_refl _) _
  have hz : (w.alloc (.cells #[.int .i64 p.kd, .int .i64 p.nu, .int .i64 p.mo, .string p.nm] 109)).heap.size = w.heap.size + 1 := by simp
  have hO := bytesOf_any p (w.alloc (.cells #[.int .i64 p.kd, .int .i64 p.nu, .int .i64 p.mo, .string p.nm] 109)) hG.2
  have HB : Hid (∀ w1, Below (w.alloc (.cells #[.int .i64 p.kd, .int .i64 p.nu, .int .i64 p.mo, .string p.nm] 109)).heap.size (w.alloc (.cells #[.int .i64 p.kd, .int .i64 p.nu, .int .i64 p.mo, .string p.nm] 109)) w1 → Below w.heap.size w w1) := fun w1 h => hb0.trans (h.mono (by omega))
  have HW : Hid (∀ w1, Below w.heap.size w w1 → Calls Tryz.prog 49 #[.pointer (some ⟨hb, 0, none⟩), .string ⟨(bts p).toArray⟩] w1 fun e w' => e = .returned (.tuple #[.int .i64 (bts p).length, .nilIface]) ∧ Lib.IsBuilder 103 5 B hb (Lib.byteCells (l ++ bts p)) w' ∧ Fb (ownB B hb) w w' ∧ B ≤ w'.heap.size) := fun w1 hw1 => by
    have := write_ok B hb (Lib.byteCells l) ⟨(bts p).toArray⟩ w1 (isB_below h1 hw1) (by rw [Lib.byteCells_length]; show l.length + (bts p).toArray.size ≤ _; simp; omega) (Nat.le_trans h2 hw1.size)
    refine this.mono fun e w' hp => ⟨by have e1 := hp.1; rw [e1]; simp [ByteArray.size], ?_, (fb_below hw1).trans hp.2.2, Nat.le_trans h2 (Nat.le_trans hw1.size hp.2.2.size)⟩
    have := hp.2.1
    rw [strCells_bts, ← Lib.byteCells_append] at this
    exact this
  have HN : Hid (∀ w1, Lib.IsBuilder 103 5 B hb (Lib.byteCells (l ++ bts p)) w1 → Calls Tryz.prog 52 #[.pointer (some ⟨hb, 0, none⟩)] w1 fun e w' => e = .returned (.int .i64 ((l ++ bts p).length : Nat)) ∧ w' = w1) := fun w1 hw1 => by
    have := len_ok B hb _ w1 hw1
    rw [Lib.byteCells_length] at this; exact this
  obtain ⟨n, hn⟩ : ∃ n, (l ++ bts p).length = n := ⟨_, rfl⟩
  rw [hn] at HN
  obtain ⟨m, hm⟩ : ∃ m : Nat, (bts p).length = m := ⟨_, rfl⟩
  rw [hm] at HW
  unfold ptV
  by_cases hq : 32768 < n
  · have HE : Hid (stB l p = .error 1406) := by show _ = _; unfold stB; rw [if_pos (by omega)]
    clear h1 h2 hb0 hz hG hn hm
    go_enter Tryz.func50, Tryz.ntmps50
    go_wp2_with (first
      | (go_at_call 36; refine (throw_any _ _ _).mono ?_; rintro e w8 ⟨rfl, hw⟩; replace hw := hw.symm; subst hw)
      | (go_at_call 51; refine hO.mono ?_; rintro e w1 ⟨rfl, hb1⟩; have hW := HW.out w1 (HB.out w1 hb1); clear hO hb1)
      | (go_at_call 49; refine hW.mono ?_; rintro e w2 ⟨rfl, hi2, hf2, hs2⟩; have hL := HN.out w2 hi2; have H2 : Hid (Fb (ownB B hb) w w2) := hf2; clear hW hi2 hf2)
      | (go_at_call 52; refine hL.mono ?_; rintro e w3 ⟨rfl, hw⟩; replace hw := hw.symm; subst hw; clear hL))
    exact ⟨rfl, FdP.err HE.out H2.out⟩
  · have HE : Hid (stB l p = .ok (l ++ bts p)) := by show _ = _; unfold stB; rw [if_neg (by omega)]
    have HL : Hid ((l ++ bts p).length ≤ 32768) := by show _ ≤ _; omega
    clear h1 h2 hb0 hz hG hn hm
    go_enter Tryz.func50, Tryz.ntmps50
    go_wp2_with (first
      | (go_at_call 51; refine hO.mono ?_; rintro e w1 ⟨rfl, hb1⟩; have hW := HW.out w1 (HB.out w1 hb1); clear hO hb1)
      | (go_at_call 49; refine hW.mono ?_; rintro e w2 ⟨rfl, hi2, hf2, hs2⟩; have hL := HN.out w2 hi2; have H2 : Hid (Fb (ownB B hb) w w2 ∧ IB B hb (l ++ bts p) w2) := ⟨hf2, hi2, hs2, HL.out⟩; clear hW hi2 hf2)
      | (go_at_call 52; refine hL.mono ?_; rintro e w3 ⟨rfl, hw⟩; replace hw := hw.symm; subst hw; clear hL))
    go_end0
    exact FdP.ok HE.out H2.out.1 H2.out.2
theorem visB (B hb : Nat) : Vis (fun p => okP p = true ∧ p.nm.size ≤ maxLen) B 50 #[.pointer (some ⟨hb, 0, none⟩)] stB (IB B hb) (ownB B hb) where
  keep := fun h hb' => ⟨⟨isB_below h.1 hb', Nat.le_trans h.2.1 hb'.size, h.2.2⟩, own_keep hb'⟩
  fresh := fun {x w T cs} h hT o => by
    obtain ⟨_, _, o3⟩ := o
    rcases o3 with o3 | ⟨c, fz, o3⟩
    · have := (isB_lt h.1).2; omega
    · rw [heap_alloc_new] at o3
      injection o3 with o3
      injection o3 with _ o4 _
      exact hT o4
  lt := fun h o => ⟨o.1, o.2.1⟩
  low := fun h => h.2.1
  enters := enters_B
  call := fun l w p h hG => gather_any B hb l w p h hG

/-- What encode answers. -/
def EcP (p : Pg) (w : World) (e : Ending) (w' : World) : Prop := Below w.heap.size w w' ∧ match encP p with
  | .ok b => e = .returned (.string b)
  | .error c => e = Flt 0 c
theorem EcP.err {p : Pg} {w w' : World} {c : Int} (h : encP p = .error c) (hb : Below w.heap.size w w') : EcP p w (Flt 0 c) w' := by
  unfold EcP; rw [h]; exact ⟨hb, rfl⟩
end Go.Proofs.YtajghalljkphiaaGreat
