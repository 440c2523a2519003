/- What is written of a program that is small enough is short; no list of it is long. -/
import Derived.Test.YtdgndglinkcdbaaDoorMGOX
import Derived.Test.YtdgndglinkcdbaaDoorMGWX
import Derived.Test.YtdgndglinkcdbaaDoorMLCpp
import Derived.Test.YtdgndglinkcdbaaDoorMLAwk
namespace Go.Proofs.YtdgndglinkcdbaaDoor
open Go.RowKit

theorem put_len (x : Int) : (putB x).data.toList.length ≤ 5 := by
  cases h : inR x
  · rw [putB_no h]; simp
  · rw [putB_yes h]
    obtain ⟨h1, h2⟩ := inR_iff.1 h
    have := parts_len5 (zig_lt h1 h2)
    simpa using this
theorem txt_bytes (s : ByteArray) : (txtB s).data.toList.length ≤ 5 + s.size := by
  have h := put_len s.size
  have e1 : (txtB s).data.toList.length = (txtB s).size := Array.length_toList
  have e2 : (putB s.size).data.toList.length = (putB s.size).size := Array.length_toList
  have e3 : (txtB s).size = (putB s.size).size + s.size := by unfold txtB; rw [ByteArray.size_append]
  omega
theorem bl_N (x : Int) (l : List Pt) : (byts (ptN x :: l)).length ≤ 5 + (byts l).length := by
  rw [byts_cons, List.length_append, bts_N]; have := put_len x; omega
theorem bl_S (x m : Int) (l : List Pt) : (byts (ptS x m :: l)).length ≤ 5 + (byts l).length := by
  rw [byts_cons, List.length_append, bts_S, bts_N]; have := put_len x; omega
theorem bl_C (k : Nat) (m : Int) (l : List Pt) : (byts (ptC k m :: l)).length ≤ 5 + (byts l).length := by
  rw [byts_cons, List.length_append, bts_C]; have := put_len k; omega
theorem bl_T (s : ByteArray) (l : List Pt) : (byts (ptT s :: l)).length ≤ 5 + s.size + (byts l).length := by
  rw [byts_cons, List.length_append, bts_T]; have := txt_bytes s; omega
theorem bl_A (l m : List Pt) : (byts (l ++ m)).length = (byts l).length + (byts m).length := by rw [byts_append, List.length_append]
theorem bl_L {α : Type} (g : α → List Pt) (f : α → Nat) (most : Int) (h : ∀ x, (byts (g x)).length ≤ 20 * f x) (xs : List α) : (byts (ptL most g xs)).length + 15 ≤ 20 * wL f xs := by
  have key : ∀ ys : List α, (byts (ys.flatMap g)).length ≤ 20 * (ys.map f).sum := by
    intro ys
    induction ys with
    | nil => simp [byts]
    | cons y ys ih =>
      rw [List.flatMap_cons, bl_A, List.map_cons, List.sum_cons]
      have := h y; omega
  unfold ptL wL
  have h1 := bl_C xs.length most (xs.flatMap g)
  have h2 := key xs
  omega
theorem bl_I (x : Int) : (byts (gN1 x)).length ≤ 20 * wI x := by
  have := bl_N x []; unfold gN1 wI; simp only [byts_nil, List.length_nil] at this; omega
theorem bl_Fd (f : Fd) : (byts (gFd f)).length ≤ 20 * wFd f := by
  have h1 := bl_T f.nm [ptN f.ty]; have h2 := bl_N f.ty []
  unfold gFd wFd; simp only [byts_nil, List.length_nil] at h2; omega
theorem bl_Is (i : Is) : (byts (gIs i)).length ≤ 20 * wIs i := by
  have h1 := bl_N i.op [ptN i.a, ptN i.b]; have h2 := bl_N i.a [ptN i.b]; have h3 := bl_N i.b []
  unfold gIs wIs; simp only [byts_nil, List.length_nil] at h3; omega
theorem bl_Hd (i : Hd) : (byts (gHd i)).length ≤ 20 * wHd i := by
  have h1 := bl_N i.fr [ptN i.to, ptN i.at_, ptN i.cl]; have h2 := bl_N i.to [ptN i.at_, ptN i.cl]; have h3 := bl_N i.at_ [ptN i.cl]; have h4 := bl_N i.cl []
  unfold gHd wHd; simp only [byts_nil, List.length_nil] at h4; omega
theorem bl_Mp (m : Mp) : (byts (gMp m)).length ≤ 20 * wMp m := by
  have h1 := bl_N m.at_ (ptL 24 gN1 m.lo ++ ptL 24 gN1 m.st)
  have h2 := bl_L gN1 wI 24 bl_I m.lo
  have h3 := bl_L gN1 wI 24 bl_I m.st
  rw [bl_A] at h1
  unfold gMp wMp; omega
theorem bl_Md (m : Md) : (byts (gMd m)).length ≤ 20 * wMd m := by
  unfold gMd wMd
  have h1 := bl_L gN1 wI 8 bl_I m.args
  have h2 := bl_L gIs wIs 300 bl_Is m.code
  have h3 := bl_L gHd wHd 16 bl_Hd m.tab
  have h4 := bl_L gMp wMp 64 bl_Mp m.maps
  have k1 := bl_T m.nm (ptN (fl m.stc 1) :: (ptL 8 gN1 m.args ++ (ptN m.ret :: ptS m.lo 24 :: ptS m.st 24 :: (ptL 300 gIs m.code ++ (ptL 16 gHd m.tab ++ ptL 64 gMp m.maps)))))
  have k2 := bl_N (fl m.stc 1) (ptL 8 gN1 m.args ++ (ptN m.ret :: ptS m.lo 24 :: ptS m.st 24 :: (ptL 300 gIs m.code ++ (ptL 16 gHd m.tab ++ ptL 64 gMp m.maps))))
  have k3 := bl_N m.ret (ptS m.lo 24 :: ptS m.st 24 :: (ptL 300 gIs m.code ++ (ptL 16 gHd m.tab ++ ptL 64 gMp m.maps)))
  have k4 := bl_S m.lo 24 (ptS m.st 24 :: (ptL 300 gIs m.code ++ (ptL 16 gHd m.tab ++ ptL 64 gMp m.maps)))
  have k5 := bl_S m.st 24 (ptL 300 gIs m.code ++ (ptL 16 gHd m.tab ++ ptL 64 gMp m.maps))
  rw [bl_A] at k2
  rw [bl_A, bl_A] at k5
  omega
theorem bl_Cs (c : Cs) : (byts (gCs c)).length ≤ 20 * wCs c := by
  unfold gCs wCs
  have h1 := bl_L gN1 wI 8 bl_I c.faces
  have h2 := bl_L gFd wFd 24 bl_Fd c.flds
  have h3 := bl_L gFd wFd 24 bl_Fd c.stcs
  have h4 := bl_L gMd wMd 24 bl_Md c.mds
  have k1 := bl_T c.nm (ptN (fl c.face 1 + fl c.fin 2) :: ptN c.sup :: (ptL 8 gN1 c.faces ++ (ptL 24 gFd c.flds ++ (ptL 24 gFd c.stcs ++ ptL 24 gMd c.mds))))
  have k2 := bl_N (fl c.face 1 + fl c.fin 2) (ptN c.sup :: (ptL 8 gN1 c.faces ++ (ptL 24 gFd c.flds ++ (ptL 24 gFd c.stcs ++ ptL 24 gMd c.mds))))
  have k3 := bl_N c.sup (ptL 8 gN1 c.faces ++ (ptL 24 gFd c.flds ++ (ptL 24 gFd c.stcs ++ ptL 24 gMd c.mds)))
  rw [bl_A, bl_A, bl_A] at k3
  omega
theorem shr_wt {p : Pg} (h : wPg p ≤ 1048576) : Shr (gPg p) := by
  have h1 := bl_N p.main (ptL 40 gCs p.cls)
  have h2 := bl_L gCs wCs 40 bl_Cs p.cls
  unfold wPg at h
  unfold Shr gPg
  rw [List.length_append]
  have : mag.length = 4 := rfl
  omega
theorem le_wL {α : Type} {f : α → Nat} {xs : List α} {x : α} (h : x ∈ xs) : f x ≤ wL f xs := by
  unfold wL
  have key : ∀ ys : List α, x ∈ ys → f x ≤ (ys.map f).sum := by
    intro ys
    induction ys with
    | nil => intro h; simp at h
    | cons y ys ih =>
      intro h
      rw [List.map_cons, List.sum_cons]
      rcases List.mem_cons.1 h with rfl | h
      · omega
      · have := ih h; omega
  have := key xs h; omega
theorem len_wL {α : Type} {f : α → Nat} (h : ∀ x, 1 ≤ f x) (xs : List α) : xs.length ≤ wL f xs := by
  unfold wL
  have key : ∀ ys : List α, ys.length ≤ (ys.map f).sum := by
    intro ys
    induction ys with
    | nil => simp
    | cons y ys ih => rw [List.map_cons, List.sum_cons, List.length_cons]; have := h y; omega
  have := key xs; omega
theorem lim_wt {p : Pg} (h : wPg p ≤ 1048576) : Lim p := by
  unfold wPg at h
  have h0 := len_wL (f := wCs) (fun c => by unfold wCs; omega) p.cls
  refine ⟨by omega, fun c hc => ?_⟩
  have h1 := le_wL (f := wCs) hc
  have e1 : wCs c = c.nm.size + 1 + wL wI c.faces + wL wFd c.flds + wL wFd c.stcs + wL wMd c.mds := rfl
  have a1 := len_wL (f := wI) (fun _ => Nat.le_refl _) c.faces
  have a2 := len_wL (f := wFd) (fun f => by unfold wFd; omega) c.flds
  have a3 := len_wL (f := wFd) (fun f => by unfold wFd; omega) c.stcs
  have a4 := len_wL (f := wMd) (fun f => by unfold wMd; omega) c.mds
  refine ⟨by omega, by omega, by omega, by omega, fun m hm => ?_⟩
  have h2 := le_wL (f := wMd) hm
  have e2 : wMd m = m.nm.size + 1 + wL wI m.args + wL wIs m.code + wL wHd m.tab + wL wMp m.maps := rfl
  have b1 := len_wL (f := wI) (fun _ => Nat.le_refl _) m.args
  have b2 := len_wL (f := wIs) (fun _ => Nat.le_refl _) m.code
  have b3 := len_wL (f := wHd) (fun _ => Nat.le_refl _) m.tab
  have b4 := len_wL (f := wMp) (fun x => by unfold wMp wL; omega) m.maps
  refine ⟨by omega, by omega, by omega, by omega, fun x hx => ?_⟩
  have h3 := le_wL (f := wMp) hx
  have e3 : wMp x = wL wI x.lo + wL wI x.st := rfl
  have d1 := len_wL (f := wI) (fun _ => Nat.le_refl _) x.lo
  have d2 := len_wL (f := wI) (fun _ => Nat.le_refl _) x.st
  exact ⟨by omega, by omega⟩
end Go.Proofs.YtdgndglinkcdbaaDoor
/- ClassWrites: the walk. -/
namespace Go.Proofs.YtdgndglinkcdbaaDoor
open Go.RowKit

def wrS (p : Pg) : ByteArray := match encP p with
  | .ok b => b
  | .error _ => ⟨#[]⟩
def wrE (p : Pg) : Int := match encP p with
  | .ok _ => 0
  | .error c => c
theorem enp2 {p : Pg} {w : World} {e : Ending} {w' : World} (h : EnP p w e w') : e = .returned (.tuple #[.string (wrS p), .int .i64 (wrE p)]) ∧ Below w.heap.size w w' := by
  unfold EnP at h
  unfold wrS wrE
  rcases hd : encP p with c | b
  · rw [hd] at h; exact ⟨h.2, h.1⟩
  · rw [hd] at h; exact ⟨h.2, h.1⟩
/-- The program's box and its copy's. -/
structure Wp (w : World) (S : Nat → Prop) (p : Pg) (pa xa : Option Addr) (pc xc bx : Nat) (u : World) : Prop where
  bel : Below w.heap.size w u
  prg : u.heap[w.heap.size]? = some (.cells #[.int .i64 p.main, .slice pa p.cls.length pc] 24 (0, 0))
  cpy : u.heap[bx]? = some (.cells #[.int .i64 p.main, .slice xa p.cls.length xc] 24 (0, 0))
  dat : kPg.R u S p [.int .i64 p.main, .slice pa p.cls.length pc]
  cdt : kPg.R u (fun k => w.heap.size + 1 ≤ k ∧ k < bx) p [.int .i64 p.main, .slice xa p.cls.length xc]
  lo : w.heap.size < bx
theorem Wp.call {w : World} {S : Nat → Prop} {p : Pg} {pa xa : Option Addr} {pc xc bx : Nat} {u u' : World} (h : Wp w S p pa xa pc xc bx u) (hS : ∀ k, S k → k < w.heap.size) (hb : Below u.heap.size u u') : Wp w S p pa xa pc xc bx u' := by
  have h1 := h.bel.size
  have h2 : bx < u.heap.size := (Array.getElem?_eq_some_iff.1 h.cpy).1
  have h3 := h.lo
  exact ⟨h.bel.trans (hb.mono h1), (hb.block _ (by omega)).trans h.prg, (hb.block _ h2).trans h.cpy, kPg.keep (fun k hk => hb.block k (by have := hS k hk; omega)) h.dat, kPg.keep (fun k hk => hb.block k (by omega)) h.cdt, h3⟩
end Go.Proofs.YtdgndglinkcdbaaDoor
