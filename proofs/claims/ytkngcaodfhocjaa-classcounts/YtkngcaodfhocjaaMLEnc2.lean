/- The visit that gathers the bytes; encode. -/
import Derived.Test.YtkngcaodfhocjaaMLEnc
namespace Go.Proofs.Ytkngcaodfhocjaa
open Go.RowKit

theorem enters_B (args : Array Value) (w : World) : (callFunc 34 args).run Try.prog w = .ok (.enter 34 args) w := by
  kernel_rfl
theorem bts_len {p : Pt} (hG : okP p = true) : p.nm.size ≤ 16 ∨ p.kd ≠ 1 := by
  by_cases h : p.kd = 1
  · left
    unfold okP okT at hG
    simp [h] at hG
    exact (isNm_size hG.1.2).2
  · exact .inr h
theorem bts_short {p : Pt} (hG : okP p = true) : (bts p).length ≤ 21 := by
  unfold bts
  split
  · rename_i h
    rcases bts_len hG with q | q
    · have := putB_size (p.nm.size : Int)
      show (txtB p.nm).data.toList.length ≤ 21
      unfold txtB
      rw [ByteArray.data_append]
      simp
      have e1 : (putB (p.nm.size : Int)).data.size = (putB (p.nm.size : Int)).size := rfl
      have e2 : p.nm.data.size = p.nm.size := rfl
      omega
    · exact absurd h q
  · have := putB_size p.nu
    show (putB p.nu).data.toList.length ≤ 21
    have e1 : (putB p.nu).data.size = (putB p.nu).size := rfl
    simp; omega
theorem strCells_bts (l : List UInt8) : Lib.strCells ⟨l.toArray⟩ = Lib.byteCells l := by
  simp [Lib.strCells, Lib.byteCells]

set_option maxHeartbeats 1000000 in
set_option maxRecDepth 20000 in
theorem gather_any (B hb : Nat) (l : List UInt8) (w : World) (p : Pt) (h : IB B hb l w) (hG : okP p = true ∧ p.nm.size ≤ maxLen) : Calls Try.prog 34 #[ptV p, .pointer (some ⟨hb, 0, none⟩)] w (FdP (ownB B hb) (IB B hb) w (stB l p)) := by
  obtain ⟨h1, h2, h3⟩ := h
  have hsh := bts_short hG.1
  have hb0 : Below w.heap.size w (w.alloc (.cells #[.int .i64 p.kd, .int .i64 p.nu, .int .i64 p.mo, .string p.nm] 84)) := (Below.refl _ _).alloc (Nat.le_refl _) _
  have hz : (w.alloc (.cells #[.int .i64 p.kd, .int .i64 p.nu, .int .i64 p.mo, .string p.nm] 84)).heap.size = w.heap.size + 1 := by simp
  have hO := bytesOf_any p (w.alloc (.cells #[.int .i64 p.kd, .int .i64 p.nu, .int .i64 p.mo, .string p.nm] 84)) hG.2
  have HB : Hid (∀ w1, Below (w.alloc (.cells #[.int .i64 p.kd, .int .i64 p.nu, .int .i64 p.mo, .string p.nm] 84)).heap.size (w.alloc (.cells #[.int .i64 p.kd, .int .i64 p.nu, .int .i64 p.mo, .string p.nm] 84)) w1 → Below w.heap.size w w1) := fun w1 h => hb0.trans (h.mono (by omega))
  have HW : Hid (∀ w1, Below w.heap.size w w1 → Calls Try.prog 33 #[.pointer (some ⟨hb, 0, none⟩), .string ⟨(bts p).toArray⟩] w1 fun e w' => e = .returned (.tuple #[.int .i64 (bts p).length, .nilIface]) ∧ Lib.IsBuilder 78 5 B hb (Lib.byteCells (l ++ bts p)) w' ∧ Fb (ownB B hb) w w' ∧ B ≤ w'.heap.size) := fun w1 hw1 => by
    have := write_ok B hb (Lib.byteCells l) ⟨(bts p).toArray⟩ w1 (isB_below h1 hw1) (by rw [Lib.byteCells_length]; show l.length + (bts p).toArray.size ≤ _; simp; omega) (Nat.le_trans h2 hw1.size)
    refine this.mono fun e w' hp => ⟨by have e1 := hp.1; rw [e1]; simp [ByteArray.size], ?_, (fb_below hw1).trans hp.2.2, Nat.le_trans h2 (Nat.le_trans hw1.size hp.2.2.size)⟩
    have := hp.2.1
    rw [strCells_bts, ← Lib.byteCells_append] at this
    exact this
  have HN : Hid (∀ w1, Lib.IsBuilder 78 5 B hb (Lib.byteCells (l ++ bts p)) w1 → Calls Try.prog 36 #[.pointer (some ⟨hb, 0, none⟩)] w1 fun e w' => e = .returned (.int .i64 ((l ++ bts p).length : Nat)) ∧ w' = w1) := fun w1 hw1 => by
    have := len_ok B hb _ w1 hw1
    rw [Lib.byteCells_length] at this; exact this
  obtain ⟨n, hn⟩ : ∃ n, (l ++ bts p).length = n := ⟨_, rfl⟩
  rw [hn] at HN
  obtain ⟨m, hm⟩ : ∃ m : Nat, (bts p).length = m := ⟨_, rfl⟩
  rw [hm] at HW
  unfold ptV
  by_cases hq : 32768 < n
  · have HE : Hid (stB l p = .error 1406) := by show _ = _; unfold stB; rw [if_pos (by omega)]
    clear h1 h2 hb0 hz hG hn hm
    go_enter Try.func34, Try.ntmps34
    go_wp2_with (first
      | (go_at_call 25; refine (throw_any _ _ _).mono ?_; rintro e w8 ⟨rfl, hw⟩; replace hw := hw.symm; subst hw)
      | (go_at_call 35; refine hO.mono ?_; rintro e w1 ⟨rfl, hb1⟩; have hW := HW.out w1 (HB.out w1 hb1); clear hO hb1)
      | (go_at_call 33; refine hW.mono ?_; rintro e w2 ⟨rfl, hi2, hf2, hs2⟩; have hL := HN.out w2 hi2; have H2 : Hid (Fb (ownB B hb) w w2) := hf2; clear hW hi2 hf2)
      | (go_at_call 36; refine hL.mono ?_; rintro e w3 ⟨rfl, hw⟩; replace hw := hw.symm; subst hw; clear hL))
    exact ⟨rfl, FdP.err HE.out H2.out⟩
  · have HE : Hid (stB l p = .ok (l ++ bts p)) := by show _ = _; unfold stB; rw [if_neg (by omega)]
    have HL : Hid ((l ++ bts p).length ≤ 32768) := by show _ ≤ _; omega
    clear h1 h2 hb0 hz hG hn hm
    go_enter Try.func34, Try.ntmps34
    go_wp2_with (first
      | (go_at_call 35; refine hO.mono ?_; rintro e w1 ⟨rfl, hb1⟩; have hW := HW.out w1 (HB.out w1 hb1); clear hO hb1)
      | (go_at_call 33; refine hW.mono ?_; rintro e w2 ⟨rfl, hi2, hf2, hs2⟩; have hL := HN.out w2 hi2; have H2 : Hid (Fb (ownB B hb) w w2 ∧ IB B hb (l ++ bts p) w2) := ⟨hf2, hi2, hs2, HL.out⟩; clear hW hi2 hf2)
      | (go_at_call 36; refine hL.mono ?_; rintro e w3 ⟨rfl, hw⟩; replace hw := hw.symm; subst hw; clear hL))
    go_end0
    exact FdP.ok HE.out H2.out.1 H2.out.2
theorem visB (B hb : Nat) : Vis (fun p => okP p = true ∧ p.nm.size ≤ maxLen) B 34 #[.pointer (some ⟨hb, 0, none⟩)] stB (IB B hb) (ownB B hb) where
  keep := fun h hb' => ⟨⟨isB_below h.1 hb', Nat.le_trans h.2.1 hb'.size, h.2.2⟩, own_keep hb'⟩
  fresh := fun {x w T cs} h hT o => by
    obtain ⟨_, _, o3⟩ := o
    rcases o3 with o3 | ⟨c, fz, o3⟩
    · have := (isB_lt h.1).2; omega
    · rw [heap_alloc_new] at o3
      injection o3 with o3
      injection o3 with _ o4 _
      exact hT o4
  lt := fun h o => ⟨o.1, o.2.1⟩
  low := fun h => h.2.1
  enters := enters_B
  call := fun l w p h hG => gather_any B hb l w p h hG

/-- What encode answers. -/
def EcP (p : Pg) (w : World) (e : Ending) (w' : World) : Prop := Below w.heap.size w w' ∧ match encP p with
  | .ok b => e = .returned (.string b)
  | .error c => e = Flt 0 c
theorem EcP.err {p : Pg} {w w' : World} {c : Int} (h : encP p = .error c) (hb : Below w.heap.size w w') : EcP p w (Flt 0 c) w' := by
  unfold EcP; rw [h]; exact ⟨hb, rfl⟩
end Go.Proofs.Ytkngcaodfhocjaa
