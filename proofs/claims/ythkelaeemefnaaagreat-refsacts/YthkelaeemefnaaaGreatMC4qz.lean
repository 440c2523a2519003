import Derived.Test.YthkelaeemefnaaaGreatMC3qz
set_option maxRecDepth 20000
set_option maxHeartbeats 8000000
namespace Go.Proofs.YthkelaeemefnaaaGreat
open Go.RowKit
theorem zfS:(Tryz.prog.info? 83).map (·.size)=some 8:=by kernel_rfl
theorem zgf {w:World}{z ty:Nat}{a b c d e f g h:Value}(q:w.heap[z]?=some (.cells #[a,b,c,d,e,f,g,h] ty (0,0))):(w.cell? ⟨z,0,none⟩=some a∧w.cell? ⟨z,1,none⟩=some b∧w.cell? ⟨z,2,none⟩=some c∧w.cell? ⟨z,3,none⟩=some d∧w.cell? ⟨z,4,none⟩=some e∧w.cell? ⟨z,5,none⟩=some f∧w.cell? ⟨z,6,none⟩=some g∧w.cell? ⟨z,7,none⟩=some h)∧∀ j,w.frozen? ⟨z,j,none⟩=false:=by
 simp[World.cell?,World.frozen?,q]
def zg0 (w:World) (h T N:Nat) (e:Ending) (w':World):Prop:=∃ k bc bi,e=.returned (.agg #[.pointer (some ⟨h,0,none⟩),.int .i64 T,.slice none 0 0,.pointer (some ⟨k,0,none⟩),.int .i64 0,.int .i64 0,.int .i64 0,.int .i64 0])∧Mk w' k bc bi N (fun _=>1) []∧Below w.heap.size w w'∧∀ j,Mb k bc bi j→w.heap.size≤j
theorem z6w (h T N:Nat) (w:World) (h1:1≤N) (h2:N≤4096):
  Calls Tryz.prog 55 #[.pointer (some ⟨h,0,none⟩),.int .i64 T,.int .i64 N] w (zg0 w h T N):=by
 have hb0:=(Below.refl w.heap.size w).alloc (Nat.le_refl _) (.cells #[.pointer none,.int .i64 0,.slice none 0 0,.pointer none,.int .i64 0,.int .i64 0,.int .i64 0,.int .i64 0] 83)
 have hz0:=heap_alloc_new w (.cells #[.pointer none,.int .i64 0,.slice none 0 0,.pointer none,.int .i64 0,.int .i64 0,.int .i64 0,.int .i64 0] 83)
 have hM:=zeC N (w.alloc (.cells #[.pointer none,.int .i64 0,.slice none 0 0,.pointer none,.int .i64 0,.int .i64 0,.int .i64 0,.int .i64 0] 83)) h1 h2
 rw[Go.Deep.nblk_alloc] at hM
 have HB:Hid (Below w.heap.size w (w.alloc (.cells #[.pointer none,.int .i64 0,.slice none 0 0,.pointer none,.int .i64 0,.int .i64 0,.int .i64 0,.int .i64 0] 83))∧(w.alloc (.cells #[.pointer none,.int .i64 0,.slice none 0 0,.pointer none,.int .i64 0,.int .i64 0,.int .i64 0,.int .i64 0] 83)).heap[w.heap.size]?=some (.cells #[.pointer none,.int .i64 0,.slice none 0 0,.pointer none,.int .i64 0,.int .i64 0,.int .i64 0,.int .i64 0] 83 (0,0))):=⟨hb0,hz0⟩
 clear hb0 hz0
 go_enter Tryz.func55,Tryz.ntmps55
 go_wp2_with (go_at_call 92;refine hM.mono ?_;rintro e w1 ⟨k,bc,bi,rfl,hK,hb1,hl1⟩;have hz1:=(hb1.block w.heap.size (by omega)).trans HB.out.2;obtain⟨⟨z0,z1,z2,z3,z4,z5,z6,z7⟩,zf⟩:=zgf hz1;have zl:=z02 hz1;clear hM)
 have hb2:Below w.heap.size w w1:=HB.out.1.trans (hb1.mono (by omega))
 refine bodyPost_ret (results_cell_row rfl _ _ w.heap.size 83 _ (0,0) _ rfl (z05 (z05 (z05 (z05 (z05 (z05 (z05 (z05 hz1 0 _) 1 _) 2 _) 3 _) 4 _) 5 _) 6 _) 7 _) Tryz.underlying83 rfl zfS) rfl ⟨k,bc,bi,rfl,hK.of_blocks fun j hj=>?_,?_,fun j hj=>by have:=hl1 j hj;omega⟩
 ·have hn:j≠w.heap.size:=by have:=hl1 j hj;omega
  exact (z03 _ _ hn).trans ((z03 _ _ hn).trans ((z03 _ _ hn).trans ((z03 _ _ hn).trans ((z03 _ _ hn).trans ((z03 _ _ hn).trans ((z03 _ _ hn).trans (z03 _ _ hn)))))))
 ·exact (((((((hb2.setCell (p:=⟨w.heap.size,0,none⟩) (Nat.le_refl _) _).setCell (p:=⟨w.heap.size,1,none⟩) (Nat.le_refl _) _).setCell (p:=⟨w.heap.size,2,none⟩) (Nat.le_refl _) _).setCell (p:=⟨w.heap.size,3,none⟩) (Nat.le_refl _) _).setCell (p:=⟨w.heap.size,4,none⟩) (Nat.le_refl _) _).setCell (p:=⟨w.heap.size,5,none⟩) (Nat.le_refl _) _).setCell (p:=⟨w.heap.size,6,none⟩) (Nat.le_refl _) _).setCell (p:=⟨w.heap.size,7,none⟩) (Nat.le_refl _) _
theorem Hv.lower {B B1:Nat}{w0 w1 w:World}{P:Nat→Prop}{h W G m:Nat}{c:Int→Int}{S:List (Option Cel)}{F:Nat→Nat→Int}(H:Hv B1 w1 w P h W G m c S F) (hB:B≤B1) (hb:Below B w0 w1):Hv B w0 w P h W G m c S F :=
 ⟨H.cur,fun k hk=>Nat.le_trans hB (H.own k hk),hb.trans (H.bel.mono hB),Nat.le_trans hB H.size⟩
def cm0 (W T:Nat):Cm:=⟨W,T,0,[],fun _ _=>0,fun _=>0,fun _=>[],fun _=>true,0,0,⟨[],fun _=>1,[],0,0,0,0⟩,0,0⟩
def cx0 (P:Nat→Prop) (h s ms k bc bi rb:Nat):Cx:=⟨P,h,s,ms,k,bc,bi,rb,fun _=>.slice none 0 0,.slice none 0 0⟩
theorem z8D {B n1 n2:Nat}{w0 w:World}{P:Nat→Prop}{h s ms k bc bi rb W T:Nat}(hW:1024≤W∧W≤20000) (hT:1≤T∧T≤8) (hv:Hv B w0 w P h W (T+1) 0 (fun _=>0) [] (fun _ _=>0)) (sk:Sk w s ms T (fun _=>true) 0 0) (wk:Mk w k bc bi (z06 W/16) (fun _=>1) []) (rts:w.rowIs rb 102 T (fun _=>.slice none 0 0))
  (hs:∀ j,Sb s ms j→B≤j∧j<n1) (hp:∀ j,P j→n1≤j∧j<n2) (hk:∀ j,Mb k bc bi j→n2≤j) (hr:n2≤rb) (hne:∀ j,Mb k bc bi j→j≠rb) (hn:B≤n1∧n1≤n2∧n2≤w.heap.size):
  CvC B w0 (w.alloc (.cells (cst (cm0 W T) (cx0 P h s ms k bc bi rb)) 86)) w.heap.size (cm0 W T) (cx0 P h s ms k bc bi rb):=by
 have b:=(Below.refl w.heap.size w).alloc (Nat.le_refl _) (.cells (cst (cm0 W T) (cx0 P h s ms k bc bi rb)) 86)
 have tag:∀ i j,(cx0 P h s ms k bc bi rb).own w.heap.size T i j→(i=0∧n1≤j∧j<n2)∨(i=1∧B≤j∧j<n1)∨(i=2∧n2≤j∧j<w.heap.size∧j≠rb)∨(i=3∧j=w.heap.size)∨(i=4∧j=rb):=fun i j hj=>by
  match i,hj with
  | 0,hj=>exact .inl ⟨rfl,hp j hj⟩
  | 1,hj=>exact .inr (.inl ⟨rfl,hs j hj⟩)
  | 2,hj=>exact .inr (.inr (.inl ⟨rfl,hk j hj,wk.mb_lt j hj,hne j hj⟩))
  | 3,hj=>exact .inr (.inr (.inr (.inl ⟨rfl,hj⟩)))
  | 4,hj=>exact .inr (.inr (.inr (.inr ⟨rfl,hj⟩)))
  | 5,hj=>simp[Cx.own,cx0,Value.ownBlock] at hj
  | t+6,hj=>simp[Cx.own,cx0,Value.ownBlock] at hj
 have hrl:=rts.lt
 refine⟨hv.below b,sk.below b,wk.below b,heap_alloc_new w _,rts.of_block (Below.heap_alloc _ _ _ hrl),fun t _=>Ri.nil _ _,Ri.nil _ _,fun i j x h1 h2=>?_,fun i x h1=>?_,⟨List.Pairwise.nil,Nat.zero_le _,fun p hp=>by simp[cm0] at hp,Nat.le_refl _,⟨Int.le_refl _,Int.le_refl _,by show (0:Int)≤100000;omega⟩⟩,⟨hW,hT⟩,fun t _=>Nat.zero_le _,Nat.zero_le _⟩
 ·have a1:=tag i x h1
  have a2:=tag j x h2
  omega
 ·have a1:=tag i x h1
  omega
theorem zfW:(Tryz.prog.info? 102).map (fun i=>(i.zero,i.size,i.bytes))=some (some (.agg #[.slice none 0 0]),1,24):=by kernel_rfl
theorem z8j (n:Nat) (hn:n≤8):∃ C:Array Value,(∀ u:World,(Instr.makeSlice 78 (.int .i64 n) (.int .i64 n)).run Tryz.prog u=.ok (.slice (some ⟨u.heap.size,0,none⟩) n n) (u.alloc (.cells C 102)))∧C.size=n∧∀ i,i<n→C[i]?=some (.slice none 0 0):=by
 obtain⟨i,hi,hzz⟩:=Option.map_eq_some_iff.1 zfW
 simp only[Prod.mk.injEq] at hzz
 obtain⟨hz,hs,hb⟩:=hzz
 refine⟨madeCells #[.slice none 0 0] (n*1),fun u=>?_,by rw[size_madeCells];omega,fun j hj=>?_⟩
 ·have:=run_make (P:=Tryz.prog) u 78 102 i _ Tryz.underlying78 hi hz .i64 .i64 n n (by omega) (Int.le_refl _) (by rw[hb];omega) (by omega)
  rw[hs] at this
  simpa [Value.cells] using this
 ·unfold madeCells
  simp only[Array.getElem?_map]
  rw[show (Array.range (n*1))[j]?=some j by simp[hj]]
  simp[Nat.mod_one]
theorem bd1 (w:World):Below w.heap.size w w.drew:=(Below.refl _ _).drew
theorem bd2 (w:World) (o:Obj):Below w.heap.size w (w.alloc o).drew:=((Below.refl _ _).alloc (Nat.le_refl _) o).drew
theorem bt1 {w w5:World}(h:Below w.drew.heap.size w.drew w5):Below w.heap.size w w5:=(bd1 w).trans h
theorem bt2 {w w5:World}{o:Obj}(h:Below (w.alloc o).drew.heap.size (w.alloc o).drew w5):Below w.heap.size w w5:=(bd2 w o).trans (h.mono (bd2 w o).size)
def zdi (w:World) (W T:Nat) (e:Ending) (w':World):Prop:=∃ hb Z,e=.returned (.tuple #[.pointer (some ⟨hb,0,none⟩),.int .i64 0])∧CvC w.heap.size w w' hb (cm0 W T) Z
theorem z7S {w w1 w2 w6:World}{P:Nat→Prop}{h s ms k bc bi rb W T:Nat}(hW:1024≤W∧W≤20000) (hT:1≤T∧T≤8) (hA:Hv w1.heap.size w1 w2 P h W (T+1) 0 (fun _=>0) [] (fun _ _=>0)∧Sk w1 s ms T (fun _=>true) 0 0∧Below w.heap.size w w1∧w.heap.size≤s∧w.heap.size≤ms) (hb:Below w2.heap.size w2 w6) (wk:Mk w6 k bc bi (z06 W/16) (fun _=>1) []) (rts:w6.rowIs rb 102 T (fun _=>.slice none 0 0))
  (hk:∀ j,Mb k bc bi j→w2.heap.size≤j) (hr:w2.heap.size≤rb) (hne:∀ j,Mb k bc bi j→j≠rb):CvC w.heap.size w (w6.alloc (.cells (cst (cm0 W T) (cx0 P h s ms k bc bi rb)) 86)) w6.heap.size (cm0 W T) (cx0 P h s ms k bc bi rb):=by
 obtain⟨hV,hS,hb1,ls,lm⟩:=hA
 have b12:Below w1.heap.size w1 w2:=hV.bel
 have b16:Below w1.heap.size w1 w6:=b12.trans (hb.mono b12.size)
 refine z8D (n1:=w1.heap.size) (n2:=w2.heap.size) hW hT ((hV.below hb).lower hb1.size hb1) (hS.below b16) wk rts (fun j hj=>?_) (fun j hj=>⟨hV.own j hj,hV.lt j hj⟩) hk hr hne ⟨hb1.size,b12.size,hb.size⟩
 rcases hj with rfl|rfl
 ·exact⟨ls,hS.lt⟩
 ·exact⟨lm,hS.set.lt⟩
theorem ze8 {w2 w5:World}{C:Array Value}{k bc bi T:Nat}(hC:C.size=T∧∀ i,i<T→C[i]?=some (.slice none 0 0)) (hb5:Below (w2.alloc (.cells C 102)).drew.heap.size (w2.alloc (.cells C 102)).drew w5) (hl5:∀ j,Mb k bc bi j→(w2.alloc (.cells C 102)).drew.heap.size≤j):
  w5.rowIs w2.heap.size 102 T (fun _=>.slice none 0 0)∧(∀ j,Mb k bc bi j→w2.heap.size≤j)∧∀ j,Mb k bc bi j→j≠w2.heap.size:=by
 have hz:(w2.alloc (.cells C 102)).drew.heap[w2.heap.size]?=some (.cells C 102 (0,0)):=heap_alloc_new w2 _
 have hsz:(w2.alloc (.cells C 102)).drew.heap.size=w2.heap.size+1:=Go.Deep.nblk_alloc w2 _
 rw[hsz] at hl5
 refine⟨⟨C,(hb5.block _ (by rw[hsz];omega)).trans hz,hC.1,hC.2⟩,fun j hj=>by have:=hl5 j hj;omega,fun j hj=>by have:=hl5 j hj;omega⟩
theorem zeL {w2 w5:World}{C:Array Value}{k bc bi N T:Nat}(hC:C.size=T∧∀ i,i<T→C[i]?=some (.slice none 0 0)) (hb5:Below w2.drew.heap.size w2.drew w5) (hl5:∀ j,Mb k bc bi j→w2.drew.heap.size≤j) (hK:Mk w5 k bc bi N (fun _=>1) []):
  (w5.alloc (.cells C 102)).rowIs w5.heap.size 102 T (fun _=>.slice none 0 0)∧Mk (w5.alloc (.cells C 102)) k bc bi N (fun _=>1) []∧(∀ j,Mb k bc bi j→w2.heap.size≤j)∧(∀ j,Mb k bc bi j→j≠w5.heap.size)∧w2.heap.size≤w5.heap.size∧Below w2.heap.size w2 (w5.alloc (.cells C 102)):=by
 refine⟨⟨C,heap_alloc_new w5 _,hC.1,hC.2⟩,hK.below ((Below.refl _ _).alloc (Nat.le_refl _) _),hl5,fun j hj=>by have:=hK.mb_lt j hj;omega,hb5.size,(bt1 hb5).alloc hb5.size _⟩
theorem zeM (W T:Nat) (w:World) (hW:1024≤W∧W≤20000) (hT:1≤T∧T≤8):Calls Tryz.prog 23 #[.int .i64 W,.int .i64 T] w (zdi w W T):=by
 have hN:=ze3 T w (by omega) (by omega)
 have h3:decide ((W:Int)<1024)=false:=by simp;omega
 have h4:decide (65536<(W:Int))=false:=by simp;omega
 obtain⟨C,hmk,hC1,hC2⟩:=z8j T (by omega)
 have hch:∀ u,Calls Tryz.prog 56 #[.int .i64 0] u fun e w'=>e=.returned (.int .i64 16)∧w'=u:=fun u=>z0U 0 (by omega) u
 have HH:Hid (∀ w1,Calls Tryz.prog 53 #[.int .i64 W,.int .i64 ((T:Int)+1)] w1 (ZNew w1 W (T+1))):=fun w1=>zgb W ((T:Int)+1) W (T+1) w1 rfl (by omega) (by omega) (by omega)
 have HW:Hid ((1024≤W∧W≤20000)∧1≤T∧T≤8):=⟨hW,hT⟩
 have HC:Hid (C.size=T∧∀ i,i<T→C[i]?=some (.slice none 0 0)):=⟨hC1,hC2⟩
 have hTT:=fun h u=>z6w h T (z06 W/16) u (by unfold z06;omega) (by unfold z06;omega)
 have ew:IntKind.i64.wrap ((T:Int)+1)=(T:Int)+1:=by rw[IntKind.wrap_i64];omega
 have e1:(W:Int).tdiv 4=((W/4:Nat):Int):=by rw[Int.tdiv_eq_ediv_of_nonneg (by omega)];rfl
 have e2:((z06 W:Nat):Int).tdiv 16=((z06 W/16:Nat):Int):=by rw[Int.tdiv_eq_ediv_of_nonneg (by omega)];rfl
 have e3:Hid ((z06 W:Int)-((W/4:Nat):Int)=z2g W):=(by rfl:_=_)
 have hrm:(z06 W:Int)≤6000:=by unfold z06;omega
 clear hC1 hC2
 go_enter Tryz.func23,Tryz.ntmps23
 go_wp2_with (first
  | (go_at_call 52;refine hN.mono ?_;rintro e w1 ⟨s,ms,rfl,hS,hb1,ls,lm⟩;have hH:=HH.out w1;clear hN HH)
  | (go_at_call 53;refine hH.mono ?_;rintro e w2 ⟨h,P,rfl,hV⟩;clear hH))
 have HV:Hid (∀ w3,Below w2.heap.size w2 w3→Calls Tryz.prog 54 #[.pointer (some ⟨h,0,none⟩)] w3 fun e w'=>e=.returned (.int .i64 (z06 W:Nat))∧w'=w3):=fun w3 b3=>(zai (hV.below b3)).mono fun e w' q=>⟨by rw[q.1];simp[sumS],q.2⟩
 have HA:Hid (Hv w1.heap.size w1 w2 P h W (T+1) 0 (fun _=>0) [] (fun _ _=>0)∧Sk w1 s ms T (fun _=>true) 0 0∧Below w.heap.size w w1∧w.heap.size≤s∧w.heap.size≤ms):=⟨hV,hS,hb1,ls,lm⟩
 have hQb:W/4≤20000:=by omega
 clear hV hS hb1 ls lm hT hW h3 h4 ew
 generalize hR:z06 W/16=N at *
 generalize hQ:W/4=Q at *
 generalize hRo:z06 W=R at *
 have HeQ:Hid (IntKind.i64.wrap (Q:Int)=Q∧IntKind.i64.wrap ((R:Int)-Q)=z2g W):=⟨by rw[IntKind.wrap_i64];omega,by rw[← e3.out,IntKind.wrap_i64];omega⟩
 have HwN:Hid (IntKind.i64.wrap (N:Int)=N):=(by rw[IntKind.wrap_i64];omega:_=_)
 go_region_held3 (fun _=>True) (trivial) ((first
  | (go_at_call 54;refine (HV.out _ (by with_reducible first|exact bd1 _|exact bd2 _ _|exact hc5|exact hc5.alloc hc5.size _)).mono ?_;rintro e w9 ⟨rfl,hw9⟩;replace hw9:=hw9.symm;subst hw9)
  | (go_at_call 56;refine (hch _).mono ?_;rintro e w9 ⟨rfl,hw9⟩;replace hw9:=hw9.symm;subst hw9)
  | (go_at_call 55;rw[HwN.out];refine (hTT h _).mono ?_;rintro e w5 ⟨k,bc,bi,rfl,hK,hb5,hl5⟩;have hc5:Below w2.heap.size w2 w5:=(by with_reducible first|exact bt1 hb5|exact bt2 hb5))))
 all_goals
  rw[HeQ.out.1,HeQ.out.2]
  go_wp2
  go_ret2
  subst hR hQ hRo
  first
  | (obtain⟨r1,r2,r3⟩:=ze8 HC.out hb5 hl5
     exact⟨_,cx0 P h s ms k bc bi w2.heap.size,rfl,z7S HW.out.1 HW.out.2 HA.out hc5 hK r1 r2 (Nat.le_refl _) r3⟩)
  | (obtain⟨r1,r2,r3,r4,r5,r6⟩:=zeL HC.out hb5 hl5 hK
     have e:=z7S HW.out.1 HW.out.2 HA.out r6 r2 r1 r3 r5 r4
     rw[Go.Deep.nblk_alloc] at e
     exact⟨_,cx0 P h s ms k bc bi w5.heap.size,rfl,e⟩)
theorem zcg {cls:Int}{n:Nat}(h1:n≤64) (h2:0≤cls):Fits 1 cls n:=⟨by omega,⟨by unfold kmin;rw[if_neg (by omega)];omega,by unfold kmax;rw[if_pos rfl];omega⟩,h2⟩
theorem zeS (x y:Int) (W T:Nat) (w:World) (hx:x=W) (hy:y=T) (hW:1024≤W∧W≤20000) (hT:1≤T∧T≤8):Calls Tryz.prog 23 #[.int .i64 x,.int .i64 y] w (zdi w W T):=by subst hx hy;exact zeM W T w hW hT
def ans1 (X:Cm) (t:Nat):Cm:=if X.A t=true then X else { X with A:=setB X.A t true,tr:=z0z X.tr (X.rt t) }
def ansN (X:Cm):Nat→Cm
 | 0=>X
 | t+1=>ans1 (ansN X t) t
theorem z3K (X:Cm) (t:Nat):(ans1 X t).T=X.T∧(ans1 X t).W=X.W∧(ans1 X t).m=X.m∧(ans1 X t).S=X.S∧(ans1 X t).F=X.F∧(ans1 X t).rt=X.rt∧(ans1 X t).ph=X.ph∧(ans1 X t).cy=X.cy∧(ans1 X t).c=X.c:=by
 unfold ans1;split<;>exact⟨rfl,rfl,rfl,rfl,rfl,rfl,rfl,rfl,rfl⟩
theorem z21 (X:Cm):∀ t,(ansN X t).T=X.T∧(ansN X t).W=X.W∧(ansN X t).m=X.m∧(ansN X t).S=X.S∧(ansN X t).F=X.F∧(ansN X t).rt=X.rt∧(ansN X t).ph=X.ph∧(ansN X t).cy=X.cy∧(ansN X t).c=X.c
 | 0=>⟨rfl,rfl,rfl,rfl,rfl,rfl,rfl,rfl,rfl⟩
 | t+1=>by
  obtain⟨a1,a2,a3,a4,a5,a6,a7,a8,a9⟩:=z21 X t
  obtain⟨b1,b2,b3,b4,b5,b6,b7,b8,b9⟩:=z3K (ansN X t) t
  exact⟨b1.trans a1,b2.trans a2,b3.trans a3,b4.trans a4,b5.trans a5,b6.trans a6,b7.trans a7,b8.trans a8,b9.trans a9⟩
theorem z5q (X:Cm):∀ t i,(ansN X t).A i=true↔(i<t∨X.A i=true)
 | 0,i=>by show X.A i=true↔_;simp
 | t+1,i=>by
  have h:=z5q X t i
  show (ans1 (ansN X t) t).A i=true↔_
  unfold ans1
  split
  ·rename_i e
   have ht:=z5q X t t
   rw[h]
   constructor
   ·rintro (q|q)
    ·exact .inl (by omega)
    ·exact .inr q
   ·rintro (q|q)
    ·by_cases e2:i=t
     ·subst e2
      exact h.1 e
     ·exact .inl (by omega)
    ·exact .inr q
  ·show setB (ansN X t).A t true i=true↔_
   unfold setB
   by_cases e2:i=t
   ·rw[if_pos e2];simp;omega
   ·rw[if_neg e2,h]
    constructor
    ·rintro (q|q)
     ·exact .inl (by omega)
     ·exact .inr q
    ·rintro (q|q)
     ·exact .inl (by omega)
     ·exact .inr q
theorem zcz (X:Cm):allB X.T (ansN X X.T).A=true:=by
 unfold allB
 have h:∀ n,n≤X.T→cntB n (ansN X X.T).A=n:=by
  intro n
  induction n with
  | zero=>intro _;rfl
  | succ k ih =>
   intro hk
   have e:=(z5q X X.T k).2 (.inl (by omega))
   have:=ih (by omega)
   unfold cntB
   simp[e,this]
 simp[h X.T (Nat.le_refl _)]
section
variable {B:Nat}{w0 w w':World}{hb:Nat}{X:Cm}{Z:Cx}
theorem z6t (H:CvC B w0 w hb X Z) (t:Nat) (ht:t<X.T):
  Calls Tryz.prog 73 #[.pointer (some ⟨hb,0,none⟩),.int .i64 t] w fun e w'=>e=.returned (.int .i64 0)∧CcT B w0 w hb Z (ans1 X t) w':=by
 cases ha:X.A t with
 | true =>
  have e:ans1 X t=X:=by unfold ans1;rw[if_pos ha]
  rw[e]
  exact z7c H t ht ha
 | false =>
  have e:ans1 X t={ X with A:=setB X.A t true,tr:=z0z X.tr (X.rt t) }:=by unfold ans1;rw[if_neg (by rw[ha];decide)]
  rw[e]
  exact z8S H t ht ha
theorem Stp.T {X X':Cm}(h:Stp X X'):X'.T=X.T:=by
 rcases h with ⟨_,_,c',rfl⟩|⟨_,_,_,rfl⟩|⟨_,_,p,t,r,_,_,rfl⟩|⟨_,_,r,c',_,rfl⟩|⟨_,_,rfl⟩|⟨_,rfl⟩|⟨_,_,_,rfl⟩<;>rfl
end
end Go.Proofs.YthkelaeemefnaaaGreat
