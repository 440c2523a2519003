/- Writing a number: what wire.PutNum and the document's Put answer, whatever the number; of what was there nothing turns. -/
import Derived.Test.YtdigdpppcboclaaTake
import Derived.Lib.UnsafeStr
import Derived.Deep.AppendLies
namespace Go.Proofs.Ytdigdpppcboclaa
open Go.RowKit

theorem info5 : (Try.prog.info? 5).map (fun i => (i.zero, i.size, i.bytes)) = some (some (.int .u8 0), 1, 1) := by kernel_rfl

theorem news1 (w : World) (u : Value) : ∀ j x, [u][j]? = some x → (w.alloc (.cells #[u] 5)).cell? ((⟨w.heap.size, 0, none⟩ : Addr).add j) = some x := by
  have := World.news_of_block (w := w.alloc (.cells #[u] 5)) (B := w.heap.size) (cs := #[u]) (t := 5) (fr := (0, 0)) (heap_alloc_new w _)
  exact this
theorem one1 (n : Int) : ∀ u ∈ [Value.int .u8 n], u.oneCell' = true := by
  intro u hu; simp at hu; subst hu; rfl

/-- What the loop that gathers parts keeps. -/
def Gath (w : World) (z0 : Nat) (acc : List UInt8) (z : Nat) (v : Value) (wr : World) : Prop :=
  acc ++ parts z = parts z0 ∧ wr.ownsRow w.heap.size 5 1 v acc.length (Lib.byteCells acc) ∧ Below w.heap.size w wr

theorem Gath.len {w : World} {z0 : Nat} {acc : List UInt8} {z : Nat} {v : Value} {wr : World} (h : Gath w z0 acc z v wr) (h0 : z0 < 4294967296) : acc.length < 5 := by
  have h1 := parts_len5 h0
  rw [← h.1] at h1
  have := parts_pos z
  simp at h1; omega

theorem Gath.step {w : World} {z0 : Nat} {acc : List UInt8} {z : Nat} {v : Value} {wr : World} (h : Gath w z0 acc z v wr) (hz : 128 ≤ z) {g cap : Nat} {w1 : World} {o : Obj}
    (hown : w1.ownsRow w.heap.size 5 1 (.slice (some ⟨g, 0, none⟩) (acc.length + 1) cap) (acc.length + 1) (Lib.byteCells acc ++ [Value.int .u8 ((prt z).toNat : Int)])) (hg : (wr.alloc o).grownBy w1 v.ownBlock) :
    Gath w z0 (acc ++ [prt z]) (z / 128) (.slice (some ⟨g, 0, none⟩) (acc.length + 1) cap) w1 := by
  refine ⟨?_, ?_, ?_⟩
  · rw [← h.1, parts_ge hz]; simp
  · rw [Lib.byteCells_append, List.length_append]; exact hown
  · refine (h.2.2.alloc (h.2.2.size) _).grown hg (by have := h.2.2.size; simp; omega) (fun k hk => ?_)
    rcases h.2.1.2 with ⟨hv, _⟩ | ⟨g', cap', cur, hv, hb, _⟩
    · rw [hv] at hk; simp [Value.ownBlock] at hk
    · rw [hv] at hk; simp [Value.ownBlock] at hk; omega

theorem or128 {z : Nat} : bits BinOp.or IntKind.u8 ((z : Int) % 256) 128 = ((prt z).toNat : Int) := by
  have h1 : (z : Int) % 256 = ((z % 256 : Nat) : Int) := by omega
  rw [h1, prt_nat]
  have := u8_or_nat (z % 256) 128 (by omega) (by omega)
  rw [show ((128 : Nat) : Int) = 128 from rfl] at this
  rw [this]
  have e : z % 256 = z / 128 % 2 * 128 + z % 128 := by omega
  have h3 := nat_join 7 (z / 128 % 2 * 128) (z % 128) (by omega) (by omega)
  rw [e, ← h3]
  rcases Nat.mod_two_eq_zero_or_one (z / 128) with c | c
  · rw [c, Nat.zero_mul, Nat.zero_or, Nat.or_comm, nat_join 7 128 (z % 128) (by omega) (by omega)]
    omega
  · rw [c, Nat.one_mul, Nat.or_comm, ← Nat.or_assoc, Nat.or_self, nat_join 7 128 (z % 128) (by omega) (by omega)]
    omega

/-- Bytes that the call owns, as a string. -/
theorem to_string {w : World} {base g n cap : Nat} {l : List UInt8} (hn : n = l.length) (hown : w.ownsRow base 5 1 (.slice (some ⟨g, 0, none⟩) n cap) n (Lib.byteCells l)) :
    (convert 38 9 (.slice (some ⟨g, 0, none⟩) n cap)).run Try.prog w = .ok (.string ⟨l.toArray⟩) w := by
  subst hn
  refine run_convert_bytes_back (P := Try.prog) w 38 9 5 ⟨g, 0, none⟩ cap l Try.underlying38 Try.underlying5 Try.underlying9 ?_
  intro j hj
  have hadd : (⟨g, 0, none⟩ : Addr).add j = ⟨g, j, none⟩ := by unfold Addr.add; split <;> simp_all
  rw [hadd, hown.cellAt j (by omega)]
  simp [Lib.byteCells, hj]

theorem Gath.last {w : World} {z0 : Nat} {acc : List UInt8} {z : Nat} {v : Value} {wr : World} (h : Gath w z0 acc z v wr) (hz : ¬ 128 ≤ z) {g cap : Nat} {w1 : World} {o : Obj} {x : Int} (hx : x = ((lst z).toNat : Int))
    (hown : w1.ownsRow w.heap.size 5 1 (.slice (some ⟨g, 0, none⟩) (acc.length + 1) cap) (acc.length + 1) (Lib.byteCells acc ++ [Value.int .u8 x])) (hg : (wr.alloc o).grownBy w1 v.ownBlock) :
    (convert 38 9 (.slice (some ⟨g, 0, none⟩) (acc.length + 1) cap)).run Try.prog w1 = .ok (.string ⟨(parts z0).toArray⟩) w1 ∧ Below w.heap.size w w1 := by
  refine ⟨?_, ?_⟩
  · have e : parts z0 = acc ++ [lst z] := by rw [← h.1, parts_lt (by omega)]
    rw [e]
    refine to_string (base := w.heap.size) (by simp) ?_
    rw [Lib.byteCells_append]
    rw [hx] at hown
    exact hown
  · refine (h.2.2.alloc (h.2.2.size) _).grown hg (by have := h.2.2.size; simp; omega) (fun k hk => ?_)
    rcases h.2.1.2 with ⟨hv, _⟩ | ⟨g', cap', cur, hv, hb, _⟩
    · rw [hv] at hk; simp [Value.ownBlock] at hk
    · rw [hv] at hk; simp [Value.ownBlock] at hk; omega

set_option maxHeartbeats 1000000 in
set_option maxRecDepth 20000 in
theorem inParts_any (z0 : Nat) (w : World) (h : z0 < 4294967296) :
    Calls Try.prog 19 #[.int .u32 z0] w fun e w' => e = .returned (.string ⟨(parts z0).toArray⟩) ∧ Below w.heap.size w w' := by
  obtain ⟨i0, hi, hz0, hz1, hz2⟩ := info_parts info5
  go_enter Try.func19, Try.ntmps19
  go_wp2_with (at_make; refine wpList_make_own _ rfl _ _ 38 rfl w.heap.size 5 i0 (.int .u8 0) 1 Try.underlying38 hi hz0 hz1 _ _ _ 5 rfl rfl rfl (by rw [hz2]; decide) (by decide) (Nat.le_refl _) ?_; intro w1 hown1 hgrow1)
  go_loopw [0, 3] (fun x v wr => ∃ (acc : List UInt8) (z : Nat), x = .int .u32 z ∧ z < 4294967296 ∧ Gath w z0 acc z v wr) (fun x _ _ => (intOf x).toNat)
  case atStart => exact ⟨[], z0, rfl, h, rfl, hown1, (Below.refl _ _).grown hgrow1 (Nat.le_refl _) (fun k hk => by cases hk)⟩
  case round =>
    obtain ⟨acc, z, rfl, hz, HG⟩ := hrel
    have hlen := HG.len h
    by_cases hc : 128 ≤ z
    · go_wp2_with (at_builtin; refine wpList_append_lies _ rfl _ _ 38 rfl w.heap.size 5 i0 (.int .u8 0) 1 1 Try.underlying38 hi hz0 hz1 hz2 rfl (by decide) _ acc.length _ rfl (HG.2.1.alloc _) ⟨wr.heap.size, 0, none⟩ 1 1 [.int .u8 _] rfl rfl (news1 _ _) (one1 _) (by decide) (by unfold maxLen; omega) (by omega) (by have := HG.2.2.size; simp; omega) _ rfl ?_; intro g cap w1 hown hgrow hat hlt)
      rw [or128] at hown
      go_roundw
      case rel => exact ⟨acc ++ [prt z], z / 128, by go_num, by omega, HG.step hc hown hgrow⟩
      case measure => simp [intOf]; omega
    · go_wp2_with (at_builtin; refine wpList_append_lies _ rfl _ _ 38 rfl w.heap.size 5 i0 (.int .u8 0) 1 1 Try.underlying38 hi hz0 hz1 hz2 rfl (by decide) _ acc.length _ rfl (HG.2.1.alloc _) ⟨wr.heap.size, 0, none⟩ 1 1 [.int .u8 _] rfl rfl (news1 _ _) (one1 _) (by decide) (by unfold maxLen; omega) (by omega) (by have := HG.2.2.size; simp; omega) _ rfl ?_; intro g cap w1 hown hgrow hat hlt; have hl := HG.last hc (by rw [lst_nat (by omega)]) hown hgrow; have hcv := hl.1; have HB : Hid _ := hl.2; clear hl)
      go_ret
      exact ⟨rfl, HB.out⟩

def inR (x : Int) : Bool := decide (-2147483648 ≤ x) && decide (x ≤ 2147483647)
theorem inR_iff {x : Int} : inR x = true ↔ -2147483648 ≤ x ∧ x ≤ 2147483647 := by simp [inR]
theorem inR_not {x : Int} (h : inR x = false) : x < -2147483648 ∨ 2147483647 < x := by
  by_cases a : -2147483648 ≤ x
  · by_cases b : x ≤ 2147483647
    · rw [inR_iff.2 ⟨a, b⟩] at h; cases h
    · omega
  · omega

/-- A number's bytes. -/
def putB (x : Int) : ByteArray := if inR x = true then ⟨(parts (zig x)).toArray⟩ else ⟨#[]⟩
theorem putB_yes {x : Int} (h : inR x = true) : putB x = ⟨(parts (zig x)).toArray⟩ := by unfold putB; rw [if_pos h]
theorem putB_no {x : Int} (h : inR x = false) : putB x = ⟨#[]⟩ := by unfold putB; rw [if_neg (by rw [h]; decide)]
theorem putB_size (x : Int) : (putB x).size ≤ 5 := by
  unfold putB
  split
  · rename_i h
    obtain ⟨h1, h2⟩ := inR_iff.1 h
    have := parts_len5 (zig_lt h1 h2)
    show (parts (zig x)).toArray.size ≤ 5
    simpa using this
  · show (#[] : Array UInt8).size ≤ 5
    simp

set_option maxHeartbeats 400000 in
theorem putnum_no (x : Int) (w : World) (h : x < -2147483648 ∨ 2147483647 < x) :
    Calls Try.prog 9 #[.int .i64 x] w fun e w' => e = .returned (.string ⟨#[]⟩) ∧ Below w.heap.size w w' := by
  rcases h with h | h
  · go_enter Try.func9, Try.ntmps9
    go_wp2
    go_ret
    exact ⟨rfl, Below.refl _ _⟩
  · have h' : ¬ x < -2147483648 := by omega
    go_enter Try.func9, Try.ntmps9
    go_wp2
    go_ret
    exact ⟨rfl, Below.refl _ _⟩

theorem wrap32_id {x : Int} (h : -2147483648 ≤ x) (h' : x ≤ 2147483647) : wrap32 x = x := by unfold wrap32; omega

set_option maxHeartbeats 400000 in
theorem putnum_yes (x : Int) (w : World) (h : -2147483648 ≤ x) (h' : x ≤ 2147483647) :
    Calls Try.prog 9 #[.int .i64 x] w fun e w' => e = .returned (.string ⟨(parts (zig x)).toArray⟩) ∧ Below w.heap.size w w' := by
  have HZ : Hid _ := zig_lt h h'
  go_enter Try.func9, Try.ntmps9
  go_wp2_with (first | (go_at_call 20; refine (fold_any _ _ h h').mono ?_; rintro e w' ⟨rfl, rfl⟩) | (go_at_call 19; refine (inParts_any _ _ HZ.out).mono ?_; rintro e w1 ⟨rfl, hb⟩))
  go_ret
  exact ⟨rfl, hb⟩

/-- wire.PutNum. -/
theorem putnum_any (x : Int) (w : World) : Calls Try.prog 9 #[.int .i64 x] w fun e w' => e = .returned (.string (putB x)) ∧ Below w.heap.size w w' := by
  cases h : inR x
  · rw [putB_no h]; exact putnum_no x w (inR_not h)
  · rw [putB_yes h]; obtain ⟨h1, h2⟩ := inR_iff.1 h; exact putnum_yes x w h1 h2

set_option maxHeartbeats 400000 in
theorem number_no (x : Int) (w : World) (h : x < -2147483648 ∨ 2147483647 < x) :
    Calls Try.prog 21 #[.int .i64 x] w fun e w' => e = .returned (.bool false) ∧ w' = w := by
  rcases h with h | h
  · go_enter Try.func21, Try.ntmps21
    go_wp2
    go_ret
    exact ⟨rfl, rfl⟩
  · have h' : -2147483648 ≤ x := by omega
    have h2 : decide (x ≤ 2147483647) = false := by simp; omega
    go_enter Try.func21, Try.ntmps21
    go_wp2
    go_ret
    exact ⟨rfl, rfl⟩

set_option maxHeartbeats 400000 in
theorem number_yes (x : Int) (w : World) (h : -2147483648 ≤ x) (h' : x ≤ 2147483647) :
    Calls Try.prog 21 #[.int .i64 x] w fun e w' => e = .returned (.bool true) ∧ w' = w := by
  go_enter Try.func21, Try.ntmps21
  go_wp2
  go_ret
  exact ⟨rfl, rfl⟩

set_option maxHeartbeats 400000 in
theorem refput_no (x : Int) (w : World) (h : x < -2147483648 ∨ 2147483647 < x) :
    Calls Try.prog 10 #[.int .i64 x] w fun e w' => e = .returned (.string ⟨#[]⟩) ∧ Below w.heap.size w w' := by
  go_enter Try.func10, Try.ntmps10
  go_wp2_with (go_at_call 21; refine (number_no _ _ h).mono ?_; rintro e w' ⟨rfl, rfl⟩)
  go_ret
  exact ⟨rfl, Below.refl _ _⟩

theorem prt_int {z : Nat} : ((z : Int) % 128 + 128) = ((prt z).toNat : Int) := by rw [prt_nat]; omega

theorem zig_pos {x : Int} (h : 0 ≤ x) : Value.int .i64 (2 * x) = Value.int .i64 (zig x : Nat) := by
  have : (zig x : Int) = 2 * x := by unfold zig; rw [if_pos h]; omega
  rw [this]
theorem zig_neg {x : Int} (h : x < 0) : Value.int .i64 (-2 * x - 1) = Value.int .i64 (zig x : Nat) := by
  have : (zig x : Int) = -2 * x - 1 := by unfold zig; rw [if_neg (by omega)]; omega
  rw [this]

set_option maxHeartbeats 1000000 in
set_option maxRecDepth 20000 in
theorem refput_yes (x : Int) (w : World) (h : -2147483648 ≤ x) (h' : x ≤ 2147483647) :
    Calls Try.prog 10 #[.int .i64 x] w fun e w' => e = .returned (.string ⟨(parts (zig x)).toArray⟩) ∧ Below w.heap.size w w' := by
  obtain ⟨i0, hi, hz0, hz1, hz2⟩ := info_parts info5
  have hz4 := zig_lt h h'
  by_cases hx : 0 ≤ x
  all_goals
    go_enter Try.func10, Try.ntmps10
    go_wp2_with (go_at_call 21; refine (number_yes _ _ h h').mono ?_; rintro e w1 ⟨rfl, hw⟩; rw [hw]; clear hw)
    go_loopw [3, 4] (fun y v wr => ∃ (acc : List UInt8) (z : Nat), y = .int .i64 z ∧ z < 4294967296 ∧ Gath w (zig x) acc z v wr) (fun y _ _ => (intOf y).toNat)
    case atStart => exact ⟨[], zig x, by first | exact zig_pos hx | exact zig_neg hx | exact zig_neg (by omega), hz4, rfl, World.ownsRow_nil _ _ _ _, Below.refl _ _⟩
    case round =>
      obtain ⟨acc, z, rfl, hz, HG⟩ := hrel
      have hlen := HG.len hz4
      by_cases hc : 128 ≤ z
      · go_wp2_with (at_builtin; refine wpList_append_lies _ rfl _ _ 38 rfl w.heap.size 5 i0 (.int .u8 0) 1 1 Try.underlying38 hi hz0 hz1 hz2 rfl (by decide) _ acc.length _ rfl (HG.2.1.alloc _) ⟨wr.heap.size, 0, none⟩ 1 1 [.int .u8 _] rfl rfl (news1 _ _) (one1 _) (by decide) (by unfold maxLen; omega) (by omega) (by have := HG.2.2.size; simp; omega) _ rfl ?_; intro g cap w1 hown hgrow hat hlt)
        rw [prt_int] at hown
        go_roundw
        case rel => exact ⟨acc ++ [prt z], z / 128, by go_num, by omega, HG.step hc hown hgrow⟩
        case measure => simp [intOf]; omega
      · go_wp2_with (at_builtin; refine wpList_append_lies _ rfl _ _ 38 rfl w.heap.size 5 i0 (.int .u8 0) 1 1 Try.underlying38 hi hz0 hz1 hz2 rfl (by decide) _ acc.length _ rfl (HG.2.1.alloc _) ⟨wr.heap.size, 0, none⟩ 1 1 [.int .u8 _] rfl rfl (news1 _ _) (one1 _) (by decide) (by unfold maxLen; omega) (by omega) (by have := HG.2.2.size; simp; omega) _ rfl ?_; intro g cap w1 hown hgrow hat hlt; have hl := HG.last hc (by rw [lst_nat (by omega)]) hown hgrow; have hcv := hl.1; have HB : Hid _ := hl.2; clear hl)
        go_ret
        exact ⟨rfl, HB.out⟩

/-- The document's Put. -/
theorem refput_any (x : Int) (w : World) : Calls Try.prog 10 #[.int .i64 x] w fun e w' => e = .returned (.string (putB x)) ∧ Below w.heap.size w w' := by
  cases h : inR x
  · rw [putB_no h]; exact refput_no x w (inR_not h)
  · rw [putB_yes h]; obtain ⟨h1, h2⟩ := inR_iff.1 h; exact refput_yes x w h1 h2

end Go.Proofs.Ytdigdpppcboclaa
