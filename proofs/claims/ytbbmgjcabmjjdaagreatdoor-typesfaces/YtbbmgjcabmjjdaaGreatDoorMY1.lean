/- Texts: wire.PutText and GetText, and the document's own, at every string, place and bound: the same answers; of what was there nothing turns. -/
import Derived.Test.YtbbmgjcabmjjdaaGreatDoorMGW1
import Derived.Lib.UnsafeStr
import Derived.Deep.AppendLies
import Derived.Test.YtbbmgjcabmjjdaaGreatDoorRows
import Derived.WalkKit
import Derived.WalkSpells
import Derived.WalkLawsBesides
import Derived.Shelf.Pu.Clone
namespace Go.Proofs.YtbbmgjcabmjjdaaGreatDoor
open Go.RowKit

theorem ret3 {a b c a' b' c' : Int} (h1 : a = a') (h2 : b = b') (h3 : c = c') : Ending.returned (.tuple #[.int .i64 a, .int .i64 b, .int .i64 c]) = .returned (.tuple #[.int .i64 a', .int .i64 b', .int .i64 c']) := by rw [h1, h2, h3]

/-- The bytes from place a on. -/
def from_ (s : ByteArray) (a : Nat) : List UInt8 := s.data.toList.drop a

theorem from_cons (s : ByteArray) (a : Nat) (h : a < s.size) : from_ s a = s[a] :: from_ s (a + 1) := by
  unfold from_
  rw [List.drop_eq_getElem_cons (by simpa using h)]
  rfl
theorem from_nil (s : ByteArray) (a : Nat) (h : s.size ≤ a) : from_ s a = [] := by
  unfold from_
  exact List.drop_of_length_le (by simpa using h)

/-- What is answered for what a reader found from place a on. -/
def nmOf (R : Nat × Nat × Int) : Int := zag R.1
def tlOf (a : Nat) (R : Nat × Nat × Int) : Int := if R.2.2 = 0 then (a : Int) + R.2.1 else 0
def cdOf (R : Nat × Nat × Int) : Int := R.2.2

theorem zag0 : zag 0 = 0 := rfl
theorem end_bad {s : ByteArray} {a k z : Nat} {R : Nat × Nat × Int} (h : rd (from_ s (a + k)) k z = R) (hlt : a + k < s.size) (hb : bad (s[a + k]).toNat k = true) : R = (0, 0, 201) := by
  rw [from_cons _ _ hlt, rd_bad hb] at h; exact h.symm
theorem end_cut {s : ByteArray} {a k z : Nat} {R : Nat × Nat × Int} (h : rd (from_ s (a + k)) k z = R) (hlt : ¬ a + k < s.size) : R = (0, 0, 200) := by
  rw [from_nil _ _ (by omega), rd_nil] at h; exact h.symm
theorem end_last {s : ByteArray} {a k z : Nat} {R : Nat × Nat × Int} (h : rd (from_ s (a + k)) k z = R) (hlt : a + k < s.size) (hb : bad (s[a + k]).toNat k = false) (hc : (s[a + k]).toNat < 128) : R = (z + (s[a + k]).toNat * 128 ^ k, k + 1, 0) := by
  rw [from_cons _ _ hlt, rd_last hb hc] at h; exact h.symm
theorem end_on {s : ByteArray} {a k z : Nat} {R : Nat × Nat × Int} (h : rd (from_ s (a + k)) k z = R) (hlt : a + k < s.size) (hb : bad (s[a + k]).toNat k = false) (hc : 128 ≤ (s[a + k]).toNat) : rd (from_ s (a + (k + 1))) (k + 1) (z + ((s[a + k]).toNat - 128) * 128 ^ k) = R := by
  rw [from_cons _ _ hlt, rd_on hb hc] at h; exact h

theorem word_eq {c k z : Nat} (hc : c < 256) (hk : k ≤ 4) (hz : z < 128 ^ k) (hb : bad c k = false) :
    bits BinOp.or IntKind.u32 (z : Int) (bits BinOp.andNot IntKind.u8 (c : Int) 128 % 4294967296 * 2 ^ (k * 7) % 4294967296) = ((z + c % 128 * 128 ^ k : Nat) : Int) ∧ z + c % 128 * 128 ^ k < 4294967296 := by
  have e0 : bits BinOp.andNot IntKind.u8 (c : Int) 128 = ((c % 128 : Nat) : Int) := by
    have := u8_andNot_nat c 128 hc (by omega)
    rw [show (255 - 128 : Nat) = 127 from rfl, nat_mask7] at this
    exact this
  have hb4 := (of_bad_false hb).2
  have key : ∀ K : Nat, 128 ^ k = K → (2 : Int) ^ (k * 7) = (K : Int) → K = 2 ^ (k * 7) → c % 128 * K < 4294967296 → z < K → c % 128 * K + K ≤ 4294967296 →
      bits BinOp.or IntKind.u32 (z : Int) (((c % 128 : Nat) : Int) % 4294967296 * 2 ^ (k * 7) % 4294967296) = ((z + c % 128 * K : Nat) : Int) ∧ z + c % 128 * K < 4294967296 := by
    intro K _ h2 h3 h4 h5 h6
    have e1 : ((c % 128 : Nat) : Int) % 4294967296 * 2 ^ (k * 7) % 4294967296 = ((c % 128 * K : Nat) : Int) := by
      have e2 : ((c % 128 : Nat) : Int) % 4294967296 = ((c % 128 : Nat) : Int) := by omega
      rw [h2, e2, ← Int.natCast_mul, Int.emod_eq_of_lt (by omega) (by omega)]
    rw [e1, u32_or_nat _ _ (by omega) h4, Nat.or_comm, nat_join (k * 7) _ _ (by rw [← h3]; exact Nat.mul_mod_left _ _) (by rw [← h3]; exact h5)]
    exact ⟨by rw [Nat.add_comm], by omega⟩
  rw [e0]
  rcases pow_le_4 hk with e | e | e | e | e <;> subst e
  · exact key 1 rfl rfl rfl (by omega) (by simpa using hz) (by omega)
  · exact key 128 rfl rfl rfl (by omega) hz (by omega)
  · exact key 16384 rfl rfl rfl (by omega) hz (by omega)
  · exact key 2097152 rfl rfl rfl (by omega) hz (by omega)
  · have := hb4 rfl
    exact key 268435456 rfl rfl rfl (by omega) hz (by omega)

theorem step_lt {c k z : Nat} (hz : z < 128 ^ k) : z + c % 128 * 128 ^ k < 128 ^ (k + 1) := by
  have h1 : (c % 128 + 1) * 128 ^ k ≤ 128 * 128 ^ k := Nat.mul_le_mul_right _ (by omega)
  rw [Nat.add_mul, Nat.one_mul] at h1
  rw [Nat.pow_succ, Nat.mul_comm (128 ^ k)]
  omega

end Go.Proofs.YtbbmgjcabmjjdaaGreatDoor
/- wire.GetNum and the document's Get, at every string and every place: the same answer; the world stays as it was. -/
namespace Go.Proofs.YtbbmgjcabmjjdaaGreatDoor
open Go.RowKit

def gN (s : ByteArray) (a : Int) : Int := if a < 0 ∨ (s.size : Int) < a then 0 else nmOf (rd (from_ s a.toNat) 0 0)
def gT (s : ByteArray) (a : Int) : Int := if a < 0 ∨ (s.size : Int) < a then 0 else tlOf a.toNat (rd (from_ s a.toNat) 0 0)
def gC (s : ByteArray) (a : Int) : Int := if a < 0 ∨ (s.size : Int) < a then 200 else cdOf (rd (from_ s a.toNat) 0 0)

theorem g_no {s : ByteArray} {a : Int} (h : a < 0 ∨ (s.size : Int) < a) : gN s a = 0 ∧ gT s a = 0 ∧ gC s a = 200 := by
  unfold gN gT gC; simp only [if_pos h]; exact ⟨trivial, trivial, trivial⟩
theorem g_yes {s : ByteArray} {a : Nat} (h : a ≤ s.size) : gN s a = nmOf (rd (from_ s a) 0 0) ∧ gT s a = tlOf a (rd (from_ s a) 0 0) ∧ gC s a = cdOf (rd (from_ s a) 0 0) := by
  have h' : ¬ ((a : Int) < 0 ∨ (s.size : Int) < a) := by omega
  unfold gN gT gC; simp only [if_neg h', Int.toNat_natCast]; exact ⟨trivial, trivial, trivial⟩

end Go.Proofs.YtbbmgjcabmjjdaaGreatDoor
/- Writing a number: what wire.PutNum and the document's Put answer, whatever the number; of what was there nothing turns. -/
namespace Go.Proofs.YtbbmgjcabmjjdaaGreatDoor
open Go.RowKit

theorem info5 : (Tryz.prog.info? 5).map (fun i => (i.zero, i.size, i.bytes)) = some (some (.int .u8 0), 1, 1) := by kernel_rfl

theorem news1 (w : World) (u : Value) : ∀ j x, [u][j]? = some x → (w.alloc (.cells #[u] 5)).cell? ((⟨w.heap.size, 0, none⟩ : Addr).add j) = some x := by
  have := World.news_of_block (w := w.alloc (.cells #[u] 5)) (B := w.heap.size) (cs := #[u]) (t := 5) (fr := (0, 0)) (heap_alloc_new w _)
  exact this
theorem one1 (n : Int) : ∀ u ∈ [Value.int .u8 n], u.oneCell' = true := by
  intro u hu; simp at hu; subst hu; rfl

/-- What the loop that gathers parts keeps. -/
def Gath (w : World) (z0 : Nat) (acc : List UInt8) (z : Nat) (v : Value) (wr : World) : Prop :=
  acc ++ parts z = parts z0 ∧ wr.ownsRow w.heap.size 5 1 v acc.length (Lib.byteCells acc) ∧ Below w.heap.size w wr

theorem Gath.len {w : World} {z0 : Nat} {acc : List UInt8} {z : Nat} {v : Value} {wr : World} (h : Gath w z0 acc z v wr) (h0 : z0 < 4294967296) : acc.length < 5 := by
  have h1 := parts_len5 h0
  rw [← h.1] at h1
  have := parts_pos z
  simp at h1; omega

theorem Gath.step {w : World} {z0 : Nat} {acc : List UInt8} {z : Nat} {v : Value} {wr : World} (h : Gath w z0 acc z v wr) (hz : 128 ≤ z) {g cap : Nat} {w1 : World} {o : Obj}
    (hown : w1.ownsRow w.heap.size 5 1 (.slice (some ⟨g, 0, none⟩) (acc.length + 1) cap) (acc.length + 1) (Lib.byteCells acc ++ [Value.int .u8 ((prt z).toNat : Int)])) (hg : (wr.alloc o).grownBy w1 v.ownBlock) :
    Gath w z0 (acc ++ [prt z]) (z / 128) (.slice (some ⟨g, 0, none⟩) (acc.length + 1) cap) w1 := by
  refine ⟨?_, ?_, ?_⟩
  · rw [← h.1, parts_ge hz]; simp
  · rw [Lib.byteCells_append, List.length_append]; exact hown
  · refine (h.2.2.alloc (h.2.2.size) _).grown hg (by have := h.2.2.size; simp; omega) (fun k hk => ?_)
    rcases h.2.1.2 with ⟨hv, _⟩ | ⟨g', cap', cur, hv, hb, _⟩
    · rw [hv] at hk; simp [Value.ownBlock] at hk
    · rw [hv] at hk; simp [Value.ownBlock] at hk; omega

theorem or128 {z : Nat} : bits BinOp.or IntKind.u8 ((z : Int) % 256) 128 = ((prt z).toNat : Int) := by
  have h1 : (z : Int) % 256 = ((z % 256 : Nat) : Int) := by omega
  rw [h1, prt_nat]
  have := u8_or_nat (z % 256) 128 (by omega) (by omega)
  rw [show ((128 : Nat) : Int) = 128 from rfl] at this
  rw [this]
  have e : z % 256 = z / 128 % 2 * 128 + z % 128 := by omega
  have h3 := nat_join 7 (z / 128 % 2 * 128) (z % 128) (by omega) (by omega)
  rw [e, ← h3]
  rcases Nat.mod_two_eq_zero_or_one (z / 128) with c | c
  · rw [c, Nat.zero_mul, Nat.zero_or, Nat.or_comm, nat_join 7 128 (z % 128) (by omega) (by omega)]
    omega
  · rw [c, Nat.one_mul, Nat.or_comm, ← Nat.or_assoc, Nat.or_self, nat_join 7 128 (z % 128) (by omega) (by omega)]
    omega

/-- Bytes that the call owns, as a string. -/
theorem to_string {w : World} {base g n cap : Nat} {l : List UInt8} (hn : n = l.length) (hown : w.ownsRow base 5 1 (.slice (some ⟨g, 0, none⟩) n cap) n (Lib.byteCells l)) :
    (convert 138 9 (.slice (some ⟨g, 0, none⟩) n cap)).run Tryz.prog w = .ok (.string ⟨l.toArray⟩) w := by
  subst hn
  refine run_convert_bytes_back (P := Tryz.prog) w 138 9 5 ⟨g, 0, none⟩ cap l Tryz.underlying138 Tryz.underlying5 Tryz.underlying9 ?_
  intro j hj
  have hadd : (⟨g, 0, none⟩ : Addr).add j = ⟨g, j, none⟩ := by unfold Addr.add; split <;> simp_all
  rw [hadd, hown.cellAt j (by omega)]
  simp [Lib.byteCells, hj]

theorem Gath.last {w : World} {z0 : Nat} {acc : List UInt8} {z : Nat} {v : Value} {wr : World} (h : Gath w z0 acc z v wr) (hz : ¬ 128 ≤ z) {g cap : Nat} {w1 : World} {o : Obj} {x : Int} (hx : x = ((lst z).toNat : Int))
    (hown : w1.ownsRow w.heap.size 5 1 (.slice (some ⟨g, 0, none⟩) (acc.length + 1) cap) (acc.length + 1) (Lib.byteCells acc ++ [Value.int .u8 x])) (hg : (wr.alloc o).grownBy w1 v.ownBlock) :
    (convert 138 9 (.slice (some ⟨g, 0, none⟩) (acc.length + 1) cap)).run Tryz.prog w1 = .ok (.string ⟨(parts z0).toArray⟩) w1 ∧ Below w.heap.size w w1 := by
  refine ⟨?_, ?_⟩
  · have e : parts z0 = acc ++ [lst z] := by rw [← h.1, parts_lt (by omega)]
    rw [e]
    refine to_string (base := w.heap.size) (by simp) ?_
    rw [Lib.byteCells_append]
    rw [hx] at hown
    exact hown
  · refine (h.2.2.alloc (h.2.2.size) _).grown hg (by have := h.2.2.size; simp; omega) (fun k hk => ?_)
    rcases h.2.1.2 with ⟨hv, _⟩ | ⟨g', cap', cur, hv, hb, _⟩
    · rw [hv] at hk; simp [Value.ownBlock] at hk
    · rw [hv] at hk; simp [Value.ownBlock] at hk; omega

def inR (x : Int) : Bool := decide (-2147483648 ≤ x) && decide (x ≤ 2147483647)
theorem inR_iff {x : Int} : inR x = true ↔ -2147483648 ≤ x ∧ x ≤ 2147483647 := by simp [inR]
theorem inR_not {x : Int} (h : inR x = false) : x < -2147483648 ∨ 2147483647 < x := by
  by_cases a : -2147483648 ≤ x
  · by_cases b : x ≤ 2147483647
    · rw [inR_iff.2 ⟨a, b⟩] at h; cases h
    · omega
  · omega

/-- A number's bytes. -/
def putB (x : Int) : ByteArray := if inR x = true then ⟨(parts (zig x)).toArray⟩ else ⟨#[]⟩
theorem putB_yes {x : Int} (h : inR x = true) : putB x = ⟨(parts (zig x)).toArray⟩ := by unfold putB; rw [if_pos h]
theorem putB_no {x : Int} (h : inR x = false) : putB x = ⟨#[]⟩ := by unfold putB; rw [if_neg (by rw [h]; decide)]
theorem putB_size (x : Int) : (putB x).size ≤ 5 := by
  unfold putB
  split
  · rename_i h
    obtain ⟨h1, h2⟩ := inR_iff.1 h
    have := parts_len5 (zig_lt h1 h2)
    show (parts (zig x)).toArray.size ≤ 5
    simpa using this
  · show (#[] : Array UInt8).size ≤ 5
    simp

theorem wrap32_id {x : Int} (h : -2147483648 ≤ x) (h' : x ≤ 2147483647) : wrap32 x = x := by unfold wrap32; omega

end Go.Proofs.YtbbmgjcabmjjdaaGreatDoor
/- The walk of the law WireNums: for every number, every string and every place it returns true, and of what was there nothing turns. -/
namespace Go.Proofs.YtbbmgjcabmjjdaaGreatDoor
open Go.RowKit

/-- Of what w0 held nothing has turned. -/
def Gr (w0 w : World) : Prop := Below w0.heap.size w0 w
theorem Gr.refl (w : World) : Gr w w := Below.refl _ _
theorem Gr.on {w0 w w' : World} (h : Gr w0 w) (h' : Below w.heap.size w w') : Gr w0 w' := Below.trans h (Below.mono h' h.size)

theorem num_g {w0 : World} (x : Int) (w : World) (hg : Gr w0 w) :
    Calls Tryz.prog 6 #[.int .i64 x] w fun e w' => e = .returned (.int .i64 x) ∧ Gr w0 w' :=
  (num_any x w).mono fun _ _ h => ⟨h.1, by rw [h.2]; exact hg⟩
end Go.Proofs.YtbbmgjcabmjjdaaGreatDoor
namespace Go.Proofs.YtbbmgjcabmjjdaaGreatDoor
open Go.RowKit Go.Shelf

/-- Where internal/stringslite.Clone and its types lie in this program. -/
def renC : Ren := ⟨fun _ => 141, fun t => if t = 37 then 138 else if t = 47 then 177 else t, fun x => x⟩

theorem laysC : LaysPu.n25 Tryz.prog renC :=
  { mixed := by kernel_rfl
    f25 := by kernel_rfl
    t0 := Tryz.underlying0, a0 := Tryz.isAgg0, z0 := Tryz.sizeOf0, v0 := Tryz.zeroValue0, i0 := by kernel_rfl
    t3 := Tryz.underlying3, a3 := Tryz.isAgg3, z3 := Tryz.sizeOf3, v3 := Tryz.zeroValue3, i3 := by kernel_rfl
    t4 := Tryz.underlying4, a4 := Tryz.isAgg4, z4 := Tryz.sizeOf4, v4 := Tryz.zeroValue4, i4 := by kernel_rfl
    t5 := Tryz.underlying5, a5 := Tryz.isAgg5, z5 := Tryz.sizeOf5, v5 := Tryz.zeroValue5, i5 := by kernel_rfl
    t9 := Tryz.underlying9, a9 := Tryz.isAgg9, z9 := Tryz.sizeOf9, v9 := Tryz.zeroValue9, i9 := by kernel_rfl
    t37 := Tryz.underlying138, a37 := Tryz.isAgg138, z37 := Tryz.sizeOf138, v37 := Tryz.zeroValue138, i37 := by kernel_rfl
    t47 := Tryz.underlying177, a47 := Tryz.isAgg177, z47 := Tryz.sizeOf177, v47 := Tryz.zeroValue177, i47 := by kernel_rfl }

theorem lite_any (s : ByteArray) (w : World) (hlim : s.size ≤ 281474976710656) :
    Calls Tryz.prog 141 #[.string s] w fun e w' => e = .returned (.string s) ∧ Below w.heap.size w w' :=
  AnyPu.stringslite_Clone laysC s w hlim

set_option maxHeartbeats 400000 in
/-- strings.Clone. -/
theorem clone_any (s : ByteArray) (w : World) (hlim : s.size ≤ 281474976710656) :
    Calls Tryz.prog 126 #[.string s] w fun e w' => e = .returned (.string s) ∧ Below w.heap.size w w' := by
  go_enter Tryz.func126, Tryz.ntmps126
  go_wp2_with (go_at_call 141; refine (lite_any _ _ hlim).mono ?_; rintro e w1 ⟨rfl, hb⟩)
  go_ret
  exact ⟨rfl, hb⟩
end Go.Proofs.YtbbmgjcabmjjdaaGreatDoor
namespace Go.Proofs.YtbbmgjcabmjjdaaGreatDoor
open Go.RowKit

/-- A text of most bytes at place a: the error. -/
def tC (s : ByteArray) (a most : Int) : Int :=
  if gC s a ≠ 0 then gC s a else if gN s a < 0 ∨ most < gN s a then 202 else if (s.size : Int) - gT s a < gN s a then 200 else 0
def tS (s : ByteArray) (a most : Int) : ByteArray := if tC s a most = 0 then s.extract (gT s a).toNat (gT s a + gN s a).toNat else ⟨#[]⟩
def tT (s : ByteArray) (a most : Int) : Int := if tC s a most = 0 then gT s a + gN s a else 0

theorem rd_len {l : List UInt8} {Z n : Nat} (h : rd l 0 0 = (Z, n, 0)) : n ≤ l.length := by
  obtain ⟨y, _, e2, e3, _, _⟩ := rd_taken l 0 0 Z n (by omega) h
  have : (l.take (parts y).length).length = (parts y).length := by rw [e3]
  rw [List.length_take] at this
  omega

theorem g_ok {s : ByteArray} {a : Int} (h : gC s a = 0) : 0 ≤ a ∧ a ≤ s.size ∧ -2147483648 ≤ gN s a ∧ gN s a ≤ 2147483647 ∧ 0 ≤ gT s a ∧ gT s a ≤ s.size := by
  by_cases c : a < 0 ∨ (s.size : Int) < a
  · rw [(g_no c).2.2] at h; cases h
  · obtain ⟨n, rfl⟩ : ∃ n : Nat, a = n := ⟨a.toNat, by omega⟩
    obtain ⟨e1, e2, e3⟩ := g_yes (s := s) (a := n) (by omega)
    rw [e3] at h
    rw [e1, e2]
    obtain ⟨⟨Z, m, cc⟩, hR⟩ : ∃ R, rd (from_ s n) 0 0 = R := ⟨_, rfl⟩
    rw [hR] at h ⊢
    have h0 : cc = 0 := h
    subst h0
    have hl := rd_len hR
    have hz := zag_range (rd_num_lt hR)
    have hf : (from_ s n).length = s.size - n := by unfold from_; rw [List.length_drop]; rfl
    refine ⟨by omega, by omega, hz.1, hz.2, ?_, ?_⟩
    · show 0 ≤ (if (0 : Int) = 0 then ((n : Int) + (m : Int)) else 0)
      rw [if_pos rfl]; omega
    · show (if (0 : Int) = 0 then ((n : Int) + (m : Int)) else 0) ≤ _
      rw [if_pos rfl]; omega

theorem t_err {s : ByteArray} {a most : Int} (h : gC s a ≠ 0) : tC s a most = gC s a ∧ tS s a most = ⟨#[]⟩ ∧ tT s a most = 0 := by
  have e : tC s a most = gC s a := by unfold tC; rw [if_pos h]
  refine ⟨e, ?_, ?_⟩
  · unfold tS; rw [e, if_neg h]
  · unfold tT; rw [e, if_neg h]
theorem t_long {s : ByteArray} {a most : Int} (h : gC s a = 0) (h1 : gN s a < 0 ∨ most < gN s a) : tC s a most = 202 ∧ tS s a most = ⟨#[]⟩ ∧ tT s a most = 0 := by
  have e : tC s a most = 202 := by unfold tC; rw [if_neg (by rw [h]; decide), if_pos h1]
  refine ⟨e, ?_, ?_⟩
  · unfold tS; rw [e, if_neg (by decide)]
  · unfold tT; rw [e, if_neg (by decide)]
theorem t_cut {s : ByteArray} {a most : Int} (h : gC s a = 0) (h1 : ¬ (gN s a < 0 ∨ most < gN s a)) (h2 : (s.size : Int) - gT s a < gN s a) : tC s a most = 200 ∧ tS s a most = ⟨#[]⟩ ∧ tT s a most = 0 := by
  have e : tC s a most = 200 := by unfold tC; rw [if_neg (by rw [h]; decide), if_neg h1, if_pos h2]
  refine ⟨e, ?_, ?_⟩
  · unfold tS; rw [e, if_neg (by decide)]
  · unfold tT; rw [e, if_neg (by decide)]
theorem t_ok {s : ByteArray} {a most : Int} (h : gC s a = 0) (h1 : ¬ (gN s a < 0 ∨ most < gN s a)) (h2 : ¬ (s.size : Int) - gT s a < gN s a) : tC s a most = 0 ∧ tS s a most = s.extract (gT s a).toNat (gT s a + gN s a).toNat ∧ tT s a most = gT s a + gN s a := by
  have e : tC s a most = 0 := by unfold tC; rw [if_neg (by rw [h]; decide), if_neg h1, if_neg h2]
  refine ⟨e, ?_, ?_⟩
  · unfold tS; rw [e, if_pos rfl]
  · unfold tT; rw [e, if_pos rfl]

theorem ret_txt {x x' : ByteArray} {a b a' b' : Int} (h1 : x = x') (h2 : a = a') (h3 : b = b') : Ending.returned (.tuple #[.string x, .int .i64 a, .int .i64 b]) = .returned (.tuple #[.string x', .int .i64 a', .int .i64 b']) := by rw [h1, h2, h3]

theorem Gr.size {w0 w : World} (h : Gr w0 w) : w0.heap.size ≤ w.heap.size := Below.size h

theorem ext_size (s : ByteArray) (x y : Nat) (h : (y : Int) - x ≤ 2147483647) : (s.extract x y).size ≤ 281474976710656 := by
  rw [ByteArray.size_extract]
  omega

theorem t_no {s : ByteArray} {a most : Int} (h : a < 0 ∨ (s.size : Int) < a) : tC s a most = 200 ∧ tS s a most = ⟨#[]⟩ ∧ tT s a most = 0 := by
  have e := (g_no h).2.2
  have := t_err (s := s) (a := a) (most := most) (by rw [e]; decide)
  rw [e] at this
  exact this

theorem alloc_cell (w : World) (most : Int) : (w.alloc (.cells #[.int .i64 most] 3)).cell? ⟨w.heap.size, 0, none⟩ = some (.int .i64 most) := by
  rw [cell_of_row _ w.heap.size 0 #[.int .i64 most] 3 (0, 0) (heap_alloc_new w _)]; rfl

theorem Gr.alloc {w0 w : World} (h : Gr w0 w) (o : Obj) : Gr w0 (w.alloc o) := Below.alloc h h.size o

/-- A text's bytes. -/
def txtB (s : ByteArray) : ByteArray := putB s.size ++ s

theorem put_sum (s : ByteArray) (hs : s.size ≤ maxLen) : (putB s.size).size + s.size ≤ 9223372036854775807 := by
  unfold maxLen at hs
  cases h : inR (s.size : Int)
  · rw [putB_no h]
    show 0 + s.size ≤ _
    omega
  · have := inR_iff.1 h
    have := putB_size s.size
    omega

end Go.Proofs.YtbbmgjcabmjjdaaGreatDoor
