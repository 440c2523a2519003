/- What is written of a program that is small enough is short; no list of it is long. -/
import Derived.Test.YtajghalljkphiaaGreatMGOX
import Derived.Test.YtajghalljkphiaaGreatMGWX
import Derived.Test.YtajghalljkphiaaGreatMLCpp
import Derived.Test.YtajghalljkphiaaGreatMLAwk
namespace Go.Proofs.YtajghalljkphiaaGreat
open Go.RowKit

theorem put_len (x : Int) : (putB x).data.toList.length ≤ 5 := by
  cases h : inR x
  · rw [putB_no h]; simp
  · rw [putB_yes h]
    obtain ⟨h1, h2⟩ := inR_iff.1 h
    have := parts_len5 (zig_lt h1 h2)
    simpa using this
theorem txt_bytes (s : ByteArray) : (txtB s).data.toList.length ≤ 5 + s.size := by
  have h := put_len s.size
  have e1 : (txtB s).data.toList.length = (txtB s).size := Array.length_toList
  have e2 : (putB s.size).data.toList.length = (putB s.size).size := Array.length_toList
  have e3 : (txtB s).size = (putB s.size).size + s.size := by unfold txtB; rw [ByteArray.size_append]
  omega
theorem bl_N (x : Int) (l : List Pt) : (byts (ptN x :: l)).length ≤ 5 + (byts l).length := by
  rw [byts_cons, List.length_append, bts_N]; have := put_len x; omega
theorem bl_S (x m : Int) (l : List Pt) : (byts (ptS x m :: l)).length ≤ 5 + (byts l).length := by
  rw [byts_cons, List.length_append, bts_S, bts_N]; have := put_len x; omega
theorem bl_C (k : Nat) (m : Int) (l : List Pt) : (byts (ptC k m :: l)).length ≤ 5 + (byts l).length := by
  rw [byts_cons, List.length_append, bts_C]; have := put_len k; omega
theorem bl_T (s : ByteArray) (l : List Pt) : (byts (ptT s :: l)).length ≤ 5 + s.size + (byts l).length := by
  rw [byts_cons, List.length_append, bts_T]; have := txt_bytes s; omega
theorem bl_A (l m : List Pt) : (byts (l ++ m)).length = (byts l).length + (byts m).length := by rw [byts_append, List.length_append]
theorem bl_L {α : Type} (g : α → List Pt) (f : α → Nat) (most : Int) (h : ∀ x, (byts (g x)).length ≤ 20 * f x) (xs : List α) : (byts (ptL most g xs)).length + 15 ≤ 20 * wL f xs := by
  have key : ∀ ys : List α, (byts (ys.flatMap g)).length ≤ 20 * (ys.map f).sum := by
    intro ys
    induction ys with
    | nil => simp [byts]
    | cons y ys ih =>
      rw [List.flatMap_cons, bl_A, List.map_cons, List.sum_cons]
      have := h y; omega
  unfold ptL wL
  have h1 := bl_C xs.length most (xs.flatMap g)
  have h2 := key xs
  omega
theorem bl_I (x : Int) : (byts (gN1 x)).length ≤ 20 * wI x := by
  have := bl_N x []; unfold gN1 wI; simp only [byts_nil, List.length_nil] at this; omega
theorem bl_Fd (f : Fd) : (byts (gFd f)).length ≤ 20 * wFd f := by
  have h1 := bl_T f.nm [ptN f.ty]; have h2 := bl_N f.ty []
  unfold gFd wFd; simp only [byts_nil, List.length_nil] at h2; omega
theorem bl_Is (i : Is) : (byts (gIs i)).length ≤ 20 * wIs i := by
  have h1 := bl_N i.op [ptN i.a, ptN i.b]; have h2 := bl_N i.a [ptN i.b]; have h3 := bl_N i.b []
  unfold gIs wIs; simp only [byts_nil, List.length_nil] at h3; omega
theorem bl_Hd (i : Hd) : (byts (gHd i)).length ≤ 20 * wHd i := by
  have h1 := bl_N i.fr [ptN i.to, ptN i.at_, ptN i.cl]; have h2 := bl_N i.to [ptN i.at_, ptN i.cl]; have h3 := bl_N i.at_ [ptN i.cl]; have h4 := bl_N i.cl []
  unfold gHd wHd; simp only [byts_nil, List.length_nil] at h4; omega
theorem bl_Mp (m : Mp) : (byts (gMp m)).length ≤ 20 * wMp m := by
  have h1 := bl_N m.at_ (ptL 24 gN1 m.lo ++ ptL 24 gN1 m.st)
  have h2 := bl_L gN1 wI 24 bl_I m.lo
  have h3 := bl_L gN1 wI 24 bl_I m.st
  rw [bl_A] at h1
  unfold gMp wMp; omega
theorem bl_Md (m : Md) : (byts (gMd m)).length ≤ 20 * wMd m := by
  unfold gMd wMd
  have h1 := bl_L gN1 wI 8 bl_I m.args
  have h2 := bl_L gIs wIs 300 bl_Is m.code
  have h3 := bl_L gHd wHd 16 bl_Hd m.tab
  have h4 := bl_L gMp wMp 64 bl_Mp m.maps
  have k1 := bl_T m.nm (ptN (fl m.stc 1) :: (ptL 8 gN1 m.args ++ (ptN m.ret :: ptS m.lo 24 :: ptS m.st 24 :: (ptL 300 gIs m.code ++ (ptL 16 gHd m.tab ++ ptL 64 gMp m.maps)))))
  have k2 := bl_N (fl m.stc 1) (ptL 8 gN1 m.args ++ (ptN m.ret :: ptS m.lo 24 :: ptS m.st 24 :: (ptL 300 gIs m.code ++ (ptL 16 gHd m.tab ++ ptL 64 gMp m.maps))))
  have k3 := bl_N m.ret (ptS m.lo 24 :: ptS m.st 24 :: (ptL 300 gIs m.code ++ (ptL 16 gHd m.tab ++ ptL 64 gMp m.maps)))
  have k4 := bl_S m.lo 24 (ptS m.st 24 :: (ptL 300 gIs m.code ++ (ptL 16 gHd m.tab ++ ptL 64 gMp m.maps)))
  have k5 := bl_S m.st 24 (ptL 300 gIs m.code ++ (ptL 16 gHd m.tab ++ ptL 64 gMp m.maps))
  rw [bl_A] at k2
  rw [bl_A, bl_A] at k5
  omega
theorem bl_Cs (c : Cs) : (byts (gCs c)).length ≤ 20 * wCs c := by
  unfold gCs wCs
  have h1 := bl_L gN1 wI 8 bl_I c.faces
  have h2 := bl_L gFd wFd 24 bl_Fd c.flds
  have h3 := bl_L gFd wFd 24 bl_Fd c.stcs
  have h4 := bl_L gMd wMd 24 bl_Md c.mds
  have k1 := bl_T c.nm (ptN (fl c.face 1 + fl c.fin 2) :: ptN c.sup :: (ptL 8 gN1 c.faces ++ (ptL 24 gFd c.flds ++ (ptL 24 gFd c.stcs ++ ptL 24 gMd c.mds))))
  have k2 := bl_N (fl c.face 1 + fl c.fin 2) (ptN c.sup :: (ptL 8 gN1 c.faces ++ (ptL 24 gFd c.flds ++ (ptL 24 gFd c.stcs ++ ptL 24 gMd c.mds))))
  have k3 := bl_N c.sup (ptL 8 gN1 c.faces ++ (ptL 24 gFd c.flds ++ (ptL 24 gFd c.stcs ++ ptL 24 gMd c.mds)))
  rw [bl_A, bl_A, bl_A] at k3
  omega
theorem shr_wt {p : Pg} (h : wPg p ≤ 1048576) : Shr (gPg p) := by
  have h1 := bl_N p.main (ptL 40 gCs p.cls)
  have h2 := bl_L gCs wCs 40 bl_Cs p.cls
  unfold wPg at h
  unfold Shr gPg
  rw [List.length_append]
  have : mag.length = 4 := rfl
  omega
theorem le_wL {α : Type} {f : α → Nat} {xs : List α} {x : α} (h : x ∈ xs) : f x ≤ wL f xs := by
  unfold wL
  have key : ∀ ys : List α, x ∈ ys → f x ≤ (ys.map f).sum := by
    intro ys
    induction ys with
    | nil => intro h; simp at h
    | cons y ys ih =>
      intro h
      rw [List.map_cons, List.sum_cons]
      rcases List.mem_cons.1 h with rfl | h
      · omega
      · have := ih h; omega
  have := key xs h; omega
theorem len_wL {α : Type} {f : α → Nat} (h : ∀ x, 1 ≤ f x) (xs : List α) : xs.length ≤ wL f xs := by
  unfold wL
  have key : ∀ ys : List α, ys.length ≤ (ys.map f).sum := by
    intro ys
    induction ys with
    | nil => simp
    | cons y ys ih => rw [List.map_cons, List.sum_cons, List.length_cons]; have := h y; omega
  have := key xs; omega
theorem lim_wt {p : Pg} (h : wPg p ≤ 1048576) : Lim p := by
  unfold wPg at h
  have h0 := len_wL (f := wCs) (fun c => by unfold wCs; omega) p.cls
  refine ⟨by omega, fun c hc => ?_⟩
  have h1 := le_wL (f := wCs) hc
  have e1 : wCs c = c.nm.size + 1 + wL wI c.faces + wL wFd c.flds + wL wFd c.stcs + wL wMd c.mds := rfl
  have a1 := len_wL (f := wI) (fun _ => Nat.le_refl _) c.faces
  have a2 := len_wL (f := wFd) (fun f => by unfold wFd; omega) c.flds
  have a3 := len_wL (f := wFd) (fun f => by unfold wFd; omega) c.stcs
  have a4 := len_wL (f := wMd) (fun f => by unfold wMd; omega) c.mds
  refine ⟨by omega, by omega, by omega, by omega, fun m hm => ?_⟩
  have h2 := le_wL (f := wMd) hm
  have e2 : wMd m = m.nm.size + 1 + wL wI m.args + wL wIs m.code + wL wHd m.tab + wL wMp m.maps := rfl
  have b1 := len_wL (f := wI) (fun _ => Nat.le_refl _) m.args
  have b2 := len_wL (f := wIs) (fun _ => Nat.le_refl _) m.code
  have b3 := len_wL (f := wHd) (fun _ => Nat.le_refl _) m.tab
  have b4 := len_wL (f := wMp) (fun x => by unfold wMp wL; omega) m.maps
  refine ⟨by omega, by omega, by omega, by omega, fun x hx => ?_⟩
  have h3 := le_wL (f := wMp) hx
  have e3 : wMp x = wL wI x.lo + wL wI x.st := rfl
  have d1 := len_wL (f := wI) (fun _ => Nat.le_refl _) x.lo
  have d2 := len_wL (f := wI) (fun _ => Nat.le_refl _) x.st
  exact ⟨by omega, by omega⟩
end Go.Proofs.YtajghalljkphiaaGreat
/- ClassWrites: the walk. -/
namespace Go.Proofs.YtajghalljkphiaaGreat
open Go.RowKit

def wrS (p : Pg) : ByteArray := match encP p with
  | .ok b => b
  | .error _ => ⟨#[]⟩
def wrE (p : Pg) : Int := match encP p with
  | .ok _ => 0
  | .error c => c
theorem enp2 {p : Pg} {w : World} {e : Ending} {w' : World} (h : EnP p w e w') : e = .returned (.tuple #[.string (wrS p), .int .i64 (wrE p)]) ∧ Below w.heap.size w w' := by
  unfold EnP at h
  unfold wrS wrE
  rcases hd : encP p with c | b
  · rw [hd] at h; exact ⟨h.2, h.1⟩
  · rw [hd] at h; exact ⟨h.2, h.1⟩
/-- The program's box and its copy's. -/
structure Wp (w : World) (S : Nat → Prop) (p : Pg) (pa xa : Option Addr) (pc xc bx : Nat) (u : World) : Prop where
  bel : Below w.heap.size w u
  prg : u.heap[w.heap.size]? = some (.cells #[.int .i64 p.main, .slice pa p.cls.length pc] 24 (0, 0))
  cpy : u.heap[bx]? = some (.cells #[.int .i64 p.main, .slice xa p.cls.length xc] 24 (0, 0))
  dat : kPg.R u S p [.int .i64 p.main, .slice pa p.cls.length pc]
  cdt : kPg.R u (fun k => w.heap.size + 1 ≤ k ∧ k < bx) p [.int .i64 p.main, .slice xa p.cls.length xc]
  lo : w.heap.size < bx
theorem Wp.call {w : World} {S : Nat → Prop} {p : Pg} {pa xa : Option Addr} {pc xc bx : Nat} {u u' : World} (h : Wp w S p pa xa pc xc bx u) (hS : ∀ k, S k → k < w.heap.size) (hb : Below u.heap.size u u') : Wp w S p pa xa pc xc bx u' := by
  have h1 := h.bel.size
  have h2 : bx < u.heap.size := (Array.getElem?_eq_some_iff.1 h.cpy).1
  have h3 := h.lo
  exact ⟨h.bel.trans (hb.mono h1), (hb.block _ (by omega)).trans h.prg, (hb.block _ h2).trans h.cpy, kPg.keep (fun k hk => hb.block k (by have := hS k hk; omega)) h.dat, kPg.keep (fun k hk => hb.block k (by omega)) h.cdt, h3⟩
set_option maxHeartbeats 4000000 in
set_option maxRecDepth 20000 in
theorem writes_walk {S : Nat → Prop} {p : Pg} {cs : List Value} (w : World) (hS : ∀ k, S k → k < w.heap.size) (hR : kPg.R w S p cs) (hl : wPg p ≤ 1048576) : Calls Tryz.prog 4 #[.agg cs.toArray] w fun e w' => e = .returned (.bool true) ∧ Below w.heap.size w w' := by
  have hR2 := hR
  obtain ⟨y, rfl, pa, pc, rfl, -⟩ := hR2
  have hz : (w.alloc (.cells #[.int .i64 p.main, .slice pa p.cls.length pc] 24)).heap.size = w.heap.size + 1 := by simp
  have hR0 : kPg.R (w.alloc (.cells #[.int .i64 p.main, .slice pa p.cls.length pc] 24)) S p [.int .i64 p.main, .slice pa p.cls.length pc] := kPg.keep (fun k hk => Below.heap_alloc _ _ _ (hS k hk)) hR
  have hC1 := copyP_ok (w := (w.alloc (.cells #[.int .i64 p.main, .slice pa p.cls.length pc] 24))) (fun k hk => by have := hS k hk; rw [hz]; omega) hR0 (lim_wt hl)
  rw [hz] at hC1
  have HR0 : Hid (kPg.R (w.alloc (.cells #[.int .i64 p.main, .slice pa p.cls.length pc] 24)) S p [.int .i64 p.main, .slice pa p.cls.length pc]) := hR0
  have HB0 : Hid ((w.alloc (.cells #[.int .i64 p.main, .slice pa p.cls.length pc] 24)).heap[w.heap.size]? = some (.cells #[.int .i64 p.main, .slice pa p.cls.length pc] 24 (0, 0))) := heap_alloc_new _ _
  have HS : Hid (∀ k, S k → k < w.heap.size) := hS
  have HSH : Hid (Shr (gPg p)) := shr_wt hl
  have HZ : Hid ((w.alloc (.cells #[.int .i64 p.main, .slice pa p.cls.length pc] 24)).heap.size = w.heap.size + 1) := hz
  have HB : Hid (Below w.heap.size w (w.alloc (.cells #[.int .i64 p.main, .slice pa p.cls.length pc] 24))) := (Below.refl _ _).alloc (Nat.le_refl _) _
  have q1 : ((wrS p).toList == (wrS p).toList) = true := by simp
  have q2 : (wrE p == wrE p) = true := by simp
  clear hz hR0 hR hS hl
  go_enter Tryz.func4, Tryz.ntmps4
  go_wp2_with (first
    | (go_at_call 11; refine hC1.mono ?_; rintro e u1 ⟨xa, xc, rfl, hb, hR1⟩; have HN1 : Hid ((u1.alloc (.cells #[.int .i64 0, .slice none 0 0] 24)).heap[u1.heap.size]? = some (.cells #[.int .i64 0, .slice none 0 0] 24 (0, 0))) := heap_alloc_new _ _; have HC1 : Hid (Below (w.heap.size + 1) (w.alloc (.cells #[.int .i64 p.main, .slice pa p.cls.length pc] 24)) u1 ∧ kPgU.R u1 (fun k => w.heap.size + 1 ≤ k ∧ k < u1.heap.size) p [.int .i64 p.main, .slice xa p.cls.length xc]) := ⟨hb, hR1⟩; clear hC1 hb hR1)
    | (refine wpList_store_row rfl 24 _ _ rfl u1.heap.size _ rfl rfl 24 _ HN1.out infoRPg rfl (by simp [Value.oneCell']) ?_; have hx := boxed u1 #[.int .i64 0, .slice none 0 0] #[.int .i64 p.main, .slice xa p.cls.length xc] 24; generalize ((u1.alloc (.cells #[.int .i64 0, .slice none 0 0] 24)).setRow u1.heap.size #[.int .i64 p.main, .slice xa p.cls.length xc]) = v1 at hx ⊢; obtain ⟨bx, hbx⟩ : ∃ bx, bx = u1.heap.size := ⟨_, rfl⟩; have hbl := HC1.out.1; have hbs := hbl.size; rw [HZ.out] at hbs; have HW1 : Hid (Wp w S p pa xa pc xc bx v1) := ⟨⟨(hx.2.2.2.1.trans hbl.os).trans HB.out.os, (hx.2.2.2.2.1.trans hbl.tape).trans HB.out.tape, (hx.2.2.2.2.2.trans hbl.output).trans HB.out.output, by rw [hx.2.1]; omega, fun k hk => by rw [hx.2.2.1 k (by omega), hbl.block k (by omega)]; exact HB.out.block k hk⟩, by rw [hx.2.2.1 _ (by omega), hbl.block _ (by omega)]; exact HB0.out, by rw [hbx]; exact hx.1, kPg.keep (fun k hk => by have := HS.out k hk; rw [hx.2.2.1 k (by omega), hbl.block k (by omega)]) HR0.out, kPg.mono (fun k hk => ⟨hk.1, by rw [hbx]; exact hk.2⟩) (kPg.keep (fun k hk => hx.2.2.1 k hk.2) (soft_Pg HC1.out.2)), by omega⟩; rw [← hbx]; have hC2 := Encode_any v1 (fun k hk => Nat.lt_trans hk.2 (Array.getElem?_eq_some_iff.1 HW1.out.cpy).1) HW1.out.cdt; clear hx hbl hbs hbx HN1)
    | (refine wpList_load_row rfl 24 _ rfl w.heap.size rfl 24 _ (0, 0) _ HW2.out.prg Tryz.underlying24 rfl infoRPg ?_)
    | (refine wpList_load_row rfl 24 _ rfl bx rfl 24 _ (0, 0) _ HW1.out.cpy Tryz.underlying24 rfl infoRPg ?_)
    | (refine wpList_load_row rfl 24 _ rfl w.heap.size rfl 24 _ (0, 0) _ HB0.out Tryz.underlying24 rfl infoRPg ?_)
    | (go_at_call 12; refine hC2.mono ?_; intro e u2 hE; obtain ⟨rfl, hb⟩ := enp2 hE; have HW2 : Hid (Wp w S p pa xa pc xc bx u2) := HW1.out.call HS.out hb; have hC3 := qEncode_any u2 (fun k hk => by have := HS.out k hk; have := HW2.out.bel.size; omega) HW2.out.dat HSH.out; clear hC2 hE hb HW1)
    | (go_at_call 13; refine hC3.mono ?_; intro e u3 hE; obtain ⟨rfl, hb⟩ := enp2 hE; have HW3 : Hid (Wp w S p pa xa pc xc bx u3) := HW2.out.call HS.out hb; have hC4 := SameProgram_eq (w := u3) (fun k hk => Nat.lt_trans hk.2 (Array.getElem?_eq_some_iff.1 HW3.out.cpy).1) (fun k hk => by have := HS.out k hk; have := HW3.out.bel.size; omega) HW3.out.cdt HW3.out.dat; have c0 := cell_of_box (j := 0) HW3.out.prg rfl; have c1 := cell_of_box (j := 1) HW3.out.prg rfl; have c2 := cell_of_box (j := 0) HW3.out.cpy rfl; have c3 := cell_of_box (j := 1) HW3.out.cpy rfl; clear hC3 hE hb HW2)
    | (go_at_call 8; refine (num_any _ _).mono ?_; rintro e w9 ⟨rfl, hw9⟩; replace hw9 := hw9.symm; subst hw9)
    | (go_at_call 7; refine hC4.mono ?_; rintro e u4 ⟨rfl, hb⟩; have HB4 : Hid (Below w.heap.size w u4) := HW3.out.bel.trans (hb.mono HW3.out.bel.size); have hC5 := awake14 u4; clear hC4 hb)
    | (go_at_call 10; refine hC5.mono ?_; rintro e u5 ⟨rfl, hb⟩; have HB5 : Hid (Below w.heap.size w u5) := HB4.out.trans (hb.mono HB4.out.size); clear hC5 hb))
  go_ret
  exact ⟨rfl, HB5.out⟩
end Go.Proofs.YtajghalljkphiaaGreat
