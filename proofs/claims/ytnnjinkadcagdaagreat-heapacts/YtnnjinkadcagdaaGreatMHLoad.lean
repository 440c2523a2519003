/- Load and Put of a heap, walked. -/
import Derived.Test.YtnnjinkadcagdaaGreatMH3
namespace Go.Proofs.YtnnjinkadcagdaaGreat
open Go.RowKit
section
variable {w w' : World} {h W G m : Nat} {c : Int → Int} {S : List (Option Cel)} {F : Nat → Nat → Int} {X : Hx}
set_option maxRecDepth 20000 in
theorem hload_ob (H : HpC w h W G m c S F X) (hm : m ≤ 4000) {i : Nat} {cl : Cel} (hi : S[i]? = some (some cl)) (hc : cl.ob = true) (g j : Nat) (hg : g < G) (hj : j < cl.n) :
    Calls Tryz.prog 17 #[.pointer (some ⟨h, 0, none⟩), .int .i64 g, .int .i64 ((i : Int) + 1), .int .i64 j] w (LdPost w h W G m c S F X g (F i j)) := by
  have hW := hword_any (i := (j : Int)) g ((i : Int) + 1) (by omega) (H.acc hm hi g hg)
  have e1 : kty cl = 90 := if_pos hc
  have e2 : kvl X.so X.s cl = .pointer (some ⟨X.so, 0, none⟩) := if_pos hc
  rw [e1, e2] at hW
  have HS : Hid (∀ w2, Below w.heap.size w w2 → Calls Tryz.prog 111 #[.pointer (some ⟨X.so, 0, none⟩), .int .i64 g, .int .i64 cl.at_, .int .i64 j] w2 (LdPost w2 h W G m c S F X g (F i j))) := fun w2 hb => kload_ob (H.below hb) hm hi hc g j hg hj
  have m1 := inv_oLoad
  have m2 := inv_aLoad
  have m3 := inv_oPut
  have m4 := inv_aPut
  clear H hi hc hg e1 e2 hj
  go_enter Tryz.func17, Tryz.ntmps17
  go_wp2_with (first
    | (go_at_call 33; refine hW.mono ?_; rintro e w1 ⟨rfl, hb⟩; clear hW)
    | (go_at_call 111; refine (HS.out _ (below_one hb _)).mono ?_; rintro e w3 ⟨rfl, c', u1, u2, hT⟩; have HT : Hid (HpT w h W G (m + 1) c' S F X w3) := HpT.after (below_one hb _) hT; clear hT))
  go_ret2
  exact ⟨rfl, c', u1, u2, HT.out⟩
set_option maxRecDepth 20000 in
theorem hload_ar (H : HpC w h W G m c S F X) (hm : m ≤ 4000) {i : Nat} {cl : Cel} (hi : S[i]? = some (some cl)) (hc : cl.ob = false) (g j : Nat) (hg : g < G) (hj : j < cl.n) :
    Calls Tryz.prog 17 #[.pointer (some ⟨h, 0, none⟩), .int .i64 g, .int .i64 ((i : Int) + 1), .int .i64 j] w (LdPost w h W G m c S F X g (F i j)) := by
  have hW := hword_any (i := (j : Int)) g ((i : Int) + 1) (by omega) (H.acc hm hi g hg)
  have e1 : kty cl = 93 := if_neg (by rw [hc]; simp)
  have e2 : kvl X.so X.s cl = .agg #[.pointer (some ⟨X.s, 0, none⟩)] := if_neg (by rw [hc]; simp)
  rw [e1, e2] at hW
  have HS : Hid (∀ w2, Below w.heap.size w w2 → Calls Tryz.prog 175 #[.agg #[.pointer (some ⟨X.s, 0, none⟩)], .int .i64 g, .int .i64 cl.at_, .int .i64 j] w2 (LdPost w2 h W G m c S F X g (F i j))) := fun w2 hb => kload_ar (H.below hb) hm hi hc g j hg hj
  have m1 := inv_oLoad
  have m2 := inv_aLoad
  have m3 := inv_oPut
  have m4 := inv_aPut
  clear H hi hc hg e1 e2 hj
  go_enter Tryz.func17, Tryz.ntmps17
  go_wp2_with (first
    | (go_at_call 33; refine hW.mono ?_; rintro e w1 ⟨rfl, hb⟩; clear hW)
    | (go_at_call 175; refine (HS.out _ (below_one hb _)).mono ?_; rintro e w3 ⟨rfl, c', u1, u2, hT⟩; have HT : Hid (HpT w h W G (m + 1) c' S F X w3) := HpT.after (below_one hb _) hT; clear hT))
  go_ret2
  exact ⟨rfl, c', u1, u2, HT.out⟩
set_option maxRecDepth 20000 in
theorem hput_ob (H : HpC w h W G m c S F X) (hm : m ≤ 4000) {i : Nat} {cl : Cel} (hi : S[i]? = some (some cl)) (hc : cl.ob = true) (g j : Nat) (v : Int) (hg : g < G) (hj : j < cl.n) :
    Calls Tryz.prog 18 #[.pointer (some ⟨h, 0, none⟩), .int .i64 g, .int .i64 ((i : Int) + 1), .int .i64 j, .int .i64 v] w (PtPost w h W G m c S (setF F i (fun l => if l = j then v else F i l)) X g) := by
  have hW := hword_any (i := (j : Int)) g ((i : Int) + 1) (by omega) (H.acc hm hi g hg)
  have e1 : kty cl = 90 := if_pos hc
  have e2 : kvl X.so X.s cl = .pointer (some ⟨X.so, 0, none⟩) := if_pos hc
  rw [e1, e2] at hW
  have HS : Hid (∀ w2, Below w.heap.size w w2 → Calls Tryz.prog 113 #[.pointer (some ⟨X.so, 0, none⟩), .int .i64 g, .int .i64 cl.at_, .int .i64 j, .int .i64 v] w2 (PtPost w2 h W G m c S (setF F i (fun l => if l = j then v else F i l)) X g)) := fun w2 hb => kput_ob (H.below hb) hm hi hc g j v hg hj
  have m1 := inv_oLoad
  have m2 := inv_aLoad
  have m3 := inv_oPut
  have m4 := inv_aPut
  clear H hi hc hg e1 e2 hj
  go_enter Tryz.func18, Tryz.ntmps18
  go_wp2_with (first
    | (go_at_call 33; refine hW.mono ?_; rintro e w1 ⟨rfl, hb⟩; clear hW)
    | (go_at_call 113; refine (HS.out _ (below_one hb _)).mono ?_; rintro e w3 ⟨rfl, c', u1, u2, hT⟩; have HT : Hid (HpT w h W G (m + 1) c' S (setF F i (fun l => if l = j then v else F i l)) X w3) := HpT.after (below_one hb _) hT; clear hT))
  go_ret
  exact ⟨rfl, c', u1, u2, HT.out⟩
set_option maxRecDepth 20000 in
theorem hput_ar (H : HpC w h W G m c S F X) (hm : m ≤ 4000) {i : Nat} {cl : Cel} (hi : S[i]? = some (some cl)) (hc : cl.ob = false) (g j : Nat) (v : Int) (hg : g < G) (hj : j < cl.n) :
    Calls Tryz.prog 18 #[.pointer (some ⟨h, 0, none⟩), .int .i64 g, .int .i64 ((i : Int) + 1), .int .i64 j, .int .i64 v] w (PtPost w h W G m c S (setF F i (fun l => if l = j then v else F i l)) X g) := by
  have hW := hword_any (i := (j : Int)) g ((i : Int) + 1) (by omega) (H.acc hm hi g hg)
  have e1 : kty cl = 93 := if_neg (by rw [hc]; simp)
  have e2 : kvl X.so X.s cl = .agg #[.pointer (some ⟨X.s, 0, none⟩)] := if_neg (by rw [hc]; simp)
  rw [e1, e2] at hW
  have HS : Hid (∀ w2, Below w.heap.size w w2 → Calls Tryz.prog 177 #[.agg #[.pointer (some ⟨X.s, 0, none⟩)], .int .i64 g, .int .i64 cl.at_, .int .i64 j, .int .i64 v] w2 (PtPost w2 h W G m c S (setF F i (fun l => if l = j then v else F i l)) X g)) := fun w2 hb => kput_ar (H.below hb) hm hi hc g j v hg hj
  have m1 := inv_oLoad
  have m2 := inv_aLoad
  have m3 := inv_oPut
  have m4 := inv_aPut
  clear H hi hc hg e1 e2 hj
  go_enter Tryz.func18, Tryz.ntmps18
  go_wp2_with (first
    | (go_at_call 33; refine hW.mono ?_; rintro e w1 ⟨rfl, hb⟩; clear hW)
    | (go_at_call 177; refine (HS.out _ (below_one hb _)).mono ?_; rintro e w3 ⟨rfl, c', u1, u2, hT⟩; have HT : Hid (HpT w h W G (m + 1) c' S (setF F i (fun l => if l = j then v else F i l)) X w3) := HpT.after (below_one hb _) hT; clear hT))
  go_ret
  exact ⟨rfl, c', u1, u2, HT.out⟩
theorem hload_no (H : HpC w h W G m c S F X) (hm : m ≤ 4000) (g t i : Int) (hg : Gone G S g t) :
    Calls Tryz.prog 17 #[.pointer (some ⟨h, 0, none⟩), .int .i64 g, .int .i64 t, .int .i64 i] w fun e w' => e = .returned (.tuple #[.int .i64 0, .int .i64 904]) ∧ Below w.heap.size w w' := by
  have hW := hword_no g t i (H.acc_no hm g t hg)
  clear H hg
  go_enter Tryz.func17, Tryz.ntmps17
  go_wp2_with (go_at_call 33; refine hW.mono ?_; rintro e w1 ⟨rfl, hb⟩; clear hW)
  go_ret2
  exact ⟨rfl, below_one hb _⟩
theorem hput_no (H : HpC w h W G m c S F X) (hm : m ≤ 4000) (g t i : Int) (v : Int) (hg : Gone G S g t) :
    Calls Tryz.prog 18 #[.pointer (some ⟨h, 0, none⟩), .int .i64 g, .int .i64 t, .int .i64 i, .int .i64 v] w fun e w' => e = .returned (.int .i64 904) ∧ Below w.heap.size w w' := by
  have hW := hword_no g t i (H.acc_no hm g t hg)
  clear H hg
  go_enter Tryz.func18, Tryz.ntmps18
  go_wp2_with (go_at_call 33; refine hW.mono ?_; rintro e w1 ⟨rfl, hb⟩; clear hW)
  go_ret
  exact ⟨rfl, below_one hb _⟩
theorem hload_out (H : HpC w h W G m c S F X) (hm : m ≤ 4000) {k : Nat} {cl : Cel} (hk : S[k]? = some (some cl)) (g : Nat) (hg : g < G) (i : Int) (hi : ¬ (0 ≤ i ∧ i < cl.n)) :
    Calls Tryz.prog 17 #[.pointer (some ⟨h, 0, none⟩), .int .i64 g, .int .i64 ((k : Int) + 1), .int .i64 i] w fun e w' => e = .returned (.tuple #[.int .i64 0, .int .i64 903]) ∧ Below w.heap.size w w' := by
  have hW := hword_out g ((k : Int) + 1) i hi (H.acc hm hk g hg)
  clear H hk hg hi
  go_enter Tryz.func17, Tryz.ntmps17
  go_wp2_with (go_at_call 33; refine hW.mono ?_; rintro e w1 ⟨rfl, hb⟩; clear hW)
  go_ret2
  exact ⟨rfl, below_one hb _⟩
theorem hput_out (H : HpC w h W G m c S F X) (hm : m ≤ 4000) {k : Nat} {cl : Cel} (hk : S[k]? = some (some cl)) (g : Nat) (hg : g < G) (i : Int) (v : Int) (hi : ¬ (0 ≤ i ∧ i < cl.n)) :
    Calls Tryz.prog 18 #[.pointer (some ⟨h, 0, none⟩), .int .i64 g, .int .i64 ((k : Int) + 1), .int .i64 i, .int .i64 v] w fun e w' => e = .returned (.int .i64 903) ∧ Below w.heap.size w w' := by
  have hW := hword_out g ((k : Int) + 1) i hi (H.acc hm hk g hg)
  clear H hk hg hi
  go_enter Tryz.func18, Tryz.ntmps18
  go_wp2_with (go_at_call 33; refine hW.mono ?_; rintro e w1 ⟨rfl, hb⟩; clear hW)
  go_ret
  exact ⟨rfl, below_one hb _⟩
theorem hload_ok (H : HpC w h W G m c S F X) (hm : m ≤ 4000) {i : Nat} {cl : Cel} (hi : S[i]? = some (some cl)) (g j : Nat) (hg : g < G) (hj : j < cl.n) :
    Calls Tryz.prog 17 #[.pointer (some ⟨h, 0, none⟩), .int .i64 g, .int .i64 ((i : Int) + 1), .int .i64 j] w (LdPost w h W G m c S F X g (F i j)) := by
  cases hc : cl.ob with
  | true => exact hload_ob H hm hi hc g j hg hj
  | false => exact hload_ar H hm hi hc g j hg hj
theorem hput_ok (H : HpC w h W G m c S F X) (hm : m ≤ 4000) {i : Nat} {cl : Cel} (hi : S[i]? = some (some cl)) (g j : Nat) (v : Int) (hg : g < G) (hj : j < cl.n) :
    Calls Tryz.prog 18 #[.pointer (some ⟨h, 0, none⟩), .int .i64 g, .int .i64 ((i : Int) + 1), .int .i64 j, .int .i64 v] w (PtPost w h W G m c S (setF F i (fun l => if l = j then v else F i l)) X g) := by
  cases hc : cl.ob with
  | true => exact hput_ob H hm hi hc g j v hg hj
  | false => exact hput_ar H hm hi hc g j v hg hj
end
end Go.Proofs.YtnnjinkadcagdaaGreat
