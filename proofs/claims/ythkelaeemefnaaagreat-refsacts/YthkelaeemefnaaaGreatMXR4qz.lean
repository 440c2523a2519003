import Derived.Test.YthkelaeemefnaaaGreatMXR3qz
set_option maxRecDepth 20000
set_option maxHeartbeats 4000000
namespace Go.Proofs.YthkelaeemefnaaaGreat
open Go.RowKit
theorem zdq (g q c:Nat) (v:Int) (w:World) (h1:w.cell? ⟨g,0,none⟩=some (.int .i64 v)) (h2:w.cell? ⟨q,0,none⟩=some (.int .i64 v)):
  Calls Tryz.prog 31 #[.slice (some ⟨g,0,none⟩) 1 c,.slice (some ⟨q,0,none⟩) 1 1] w fun e w'=>e=.returned (.bool true)∧Below w.heap.size w w':=by
 have hv:(v != v)=false:=by simp
 go_enter Tryz.func31,Tryz.ntmps31
 go_wp2
 go_loopg [5] 2 (fun kx s5 wr=>∃ i:Nat,s5=.int .i64 i∧i≤1∧1-i≤kx∧∃ n,wr=w.drewN n)
 case atStart=>exact⟨0,rfl,by omega,by omega,0,rfl⟩
 case round =>
  obtain⟨i,rfl,hi,hk,n,rfl⟩:=hrel
  by_cases h0:i=0
  ·subst h0
   have e1:(w.drewN n).cell? ⟨g,0,none⟩=some (.int .i64 v):=h1
   have e2:(w.drewN n).cell? ⟨q,0,none⟩=some (.int .i64 v):=h2
   go_wp2
   go_quiet (fail)
   go_wp2
   go_roundg 0
   case rel=>exact⟨1,rfl,by omega,by omega,_,rfl⟩
   case measure=>omega
  ·obtain rfl:i=1:=by omega
   go_wp2
   go_ret
   exact⟨rfl,z00 _ _ _⟩
structure Aw13 (c n:Nat) (y:Int) (R0 R1:List Int) (X:Cm):Prop where
 T:X.T=2
 W:X.W=4000
 ph:X.ph=0
 all:allB X.T X.A=true
 lk:¬ X.tr.ln<X.tr.lw
 cy:0≤X.cy∧X.cy≤c
 S:∃ a b,X.S=if n=1 then [some ⟨1,3,1,a⟩] else [some ⟨1,3,1,a⟩,some ⟨4,10,1,b⟩]
 f0:X.F 0 0=0
 f1:n=2→X.F 1 0=y
 r0:X.rt 0=R0
 r1:X.rt 1=R1
 m:X.m≤c
section
variable {B:Nat}{w0 w w':World}{rh hb:Nat}{X X':Cm}{Z:Cx}{vf vq:Value}{fs qs R0 R1:List Int}{y:Int}{c:Nat}
theorem Aw13.two (h:Aw13 c 2 y R0 R1 X):∃ a b,X.S=[some ⟨1,3,1,a⟩,some ⟨4,10,1,b⟩]:=by
 obtain⟨a,b,e⟩:=h.S
 exact⟨a,b,by rw[e];simp⟩
theorem Aw13.rq (h:Aw13 c 2 1 [] [2] X):Rq X [1] []:=by
 obtain⟨a,b,e⟩:=h.two
 have hn:nums 0 X.S=[1,2]:=by rw[e];rfl
 refine⟨h.ph,h.all,h.lk,⟨fun t ht r hr=>?_,fun r hr j hj=>?_⟩,fun r hr=>?_,fun r hr=>by simp at hr,fun r c' hc h4=>?_⟩
 ·rw[h.T] at ht
  have:t=0∨t=1:=by omega
  rcases this with rfl|rfl
  ·rw[h.r0] at hr;simp at hr
  ·rw[h.r1] at hr;simp at hr;subst hr
   exact .inr (by rw[hn];simp)
 ·rw[hn] at hr
  simp at hr
  rcases hr with rfl|rfl
  ·have hj2:j<rfs X.S 1:=hj
   rw[e] at hj2
   have:j<1:=hj2
   obtain rfl:j=0:=by omega
   exact .inl h.f0
  ·have hj2:j<rfs X.S 2:=hj
   rw[e] at hj2
   exact absurd hj2 (Nat.not_lt_zero _)
 ·simp at hr;subst hr;rw[hn];simp
 ·obtain⟨i,rfl,hi⟩:=z0d hc
  rw[e] at hi
  match i,hi with
  | 0,hi=>simp at hi;subst hi;simp
  | 1,hi=>simp at hi;subst hi;simp
  | i+2,hi=>simp at hi
theorem Aw13.reach (h:Aw13 c 2 1 [] [2] X) (U:List Int) (hU:U=[]∨U=[1]) (r:Int):RchQ X U r↔r=2∨r∈U:=by
 obtain⟨a,b,e⟩:=h.two
 constructor
 ·intro hr
  refine hr.least (P:=fun r=>r=2∨r∈U) (fun t ht x hx h0=>?_) (fun x hx _=>.inr hx) (fun x _ hx j hj h0=>?_)
  ·rw[h.T] at ht
   have:t=0∨t=1:=by omega
   rcases this with rfl|rfl
   ·rw[h.r0] at hx;simp at hx
   ·rw[h.r1] at hx;simp at hx;exact .inl hx
  ·have hx1:x=2∨x=1:=hx.imp id (fun q=>by rcases hU with rfl|rfl<;>simp at q;exact q)
   rcases hx1 with rfl|rfl
   ·have hj2:j<rfs X.S 2:=hj
    rw[e] at hj2
    exact absurd hj2 (Nat.not_lt_zero _)
   ·have hj2:j<rfs X.S 1:=hj
    rw[e] at hj2
    have:j<1:=hj2
    obtain rfl:j=0:=by omega
    exact absurd h.f0 h0
 ·rintro (rfl|q)
  ·exact RchQ.root (t:=1) (by rw[h.T];omega) (by rw[h.r1];simp) (by decide)
  ·exact RchQ.from q (by rcases hU with rfl|rfl<;>simp at q;rw[q];decide)
theorem Aw13.cyc (h:Aw13 c 2 1 [] [2] X) {u1 u2:Int→Bool}(hc:Cyd X X' [1] [] u1 u2):clrd X u1 (nums 0 X.S)=[2]∧[1].filter u1=[1]∧([1].filter fun r=>!u1 r)=[]∧Aw13 (c+200) 2 0 [] [2] X':=by
 obtain⟨a,b,e⟩:=h.two
 have hn:nums 0 X.S=[1,2]:=by rw[e];rfl
 have h1:u1 1=true:=(hc.h1 1).2 ⟨by rw[hn];simp,fun q=>by
  have:=(h.reach [] (.inl rfl) 1).1 q
  simp at this⟩
 have hf:[1].filter u1=[1]:=by simp[h1]
 have hK:∀ r∈nums 0 X.S,u2 r=true:=fun r hr=>by
  refine (hc.h2 r hr).2 ?_
  rw[hf,List.nil_append,h.reach [1] (.inr rfl)]
  rw[hn] at hr
  simp at hr ⊢
  omega
 have hns:nums 0 X'.S=nums 0 X.S:=by rw[hc.ns,List.filter_eq_self];exact hK
 have i1:isw X 1=false:=by unfold isw;rw[e];rfl
 have i2:isw X 2=true:=by unfold isw;rw[e];rfl
 have hw:wd X 2 0=1:=h.f1 rfl
 have hcl:clrd X u1 (nums 0 X.S)=[2]:=by
  unfold clrd
  rw[hn]
  simp[i1,i2,hw,h1]
 have hS:X'.S=X.S:=by
  have hl:X'.S.length=2:=by rw[hc.len,e];rfl
  have g1:=hc.cel 1 (by rw[hns,hn];simp)
  have g2:=hc.cel 2 (by rw[hns,hn];simp)
  rw[e] at g1 g2 ⊢
  match hX:X'.S,hl with
  | [o1,o2],_ =>
   rw[hX] at g1 g2
   have a1:o1=some ⟨1,3,1,a⟩:=g1
   have a2:o2=some ⟨4,10,1,b⟩:=g2
   rw[a1,a2]
 have hcost:=hc.cost
 rw[hS] at hcost
 have hsum:sumS X.S=34:=by rw[e];rfl
 have hF:X'.F=clrF X.F [2]:=by rw[hc.F,hcl]
 have hm:=h.m
 refine⟨hcl,hf,by simp[h1],⟨hc.T.trans h.T,hc.W.trans h.W,hc.ph,hc.all,hc.lk,by rw[hc.cy];have:=h.cy;omega,⟨a,b,by rw[hS,e];simp⟩,?_,fun _=>?_,by rw[hc.rt];exact h.r0,by rw[hc.rt];exact h.r1,?_⟩⟩
 ·rw[hF];unfold clrF;simp[h.f0]
 ·rw[hF];unfold clrF;simp
 ·omega
end
end Go.Proofs.YthkelaeemefnaaaGreat
namespace Go.Proofs.YthkelaeemefnaaaGreat
open Go.RowKit
def AwE (w:World) (rh p1 p2:Nat) (w8:World):Prop:=∀ u,Below w8.heap.size w8 u→(u.cell? ⟨p1,0,none⟩=some (.int .i64 2)∧u.cell? ⟨p2,0,none⟩=some (.int .i64 1))∧Below w.heap.size w u∧Calls Tryz.prog 18 #[.pointer (some ⟨rh,0,none⟩)] u fun e w'=>∃ a c,e=.returned (.slice a 2 c)∧Below w.heap.size w w'
theorem Ri.one {w:World}{B:Nat}{v:Value}{x:Int}(h:Ri w B v [x]):∃ p cap,v=.slice (some ⟨p,0,none⟩) 1 cap∧v.ownBlock=some p∧w.cell? ⟨p,0,none⟩=some (.int .i64 x):=by
 obtain⟨ao,cap,rfl⟩:=h.form
 obtain⟨p,rfl,_,_,_,hc⟩:=h.cells (by simp)
 exact⟨p,cap,rfl,rfl,hc 0 x rfl⟩
theorem z78 (w:World):Calls Tryz.prog 8 #[.int .i64 4000,.int .i64 2] w fun e w1=>∃ rh:Nat,e=.returned (.tuple #[.pointer (some ⟨rh,0,none⟩),.int .i64 0]) ∧
  Calls Tryz.prog 13 #[.pointer (some ⟨rh,0,none⟩),.int .i64 0,.int .i64 1,.int .i64 3,.int .i64 1,.bool true] w1 fun e w2=>e=.returned (.tuple #[.int .i64 1,.int .i64 0]) ∧
  Calls Tryz.prog 14 #[.pointer (some ⟨rh,0,none⟩),.int .i64 1,.int .i64 1] w2 fun e w3=>e=.returned (.tuple #[.int .i64 2,.int .i64 0]) ∧
  Calls Tryz.prog 15 #[.pointer (some ⟨rh,0,none⟩),.int .i64 0] w3 fun e w4=>e=.returned (.tuple #[.int .i64 1,.int .i64 0]) ∧
  Calls Tryz.prog 16 #[.pointer (some ⟨rh,0,none⟩)] w4 fun e w5=>∃ p1 c1 p2 c2:Nat,e=.returned (.tuple #[.slice (some ⟨p1,0,none⟩) 1 c1,.slice (some ⟨p2,0,none⟩) 1 c2,.int .i64 0]) ∧
  Calls Tryz.prog 22 #[.pointer (some ⟨rh,0,none⟩),.int .i64 1,.int .i64 2] w5 fun e w6=>e=.returned (.tuple #[.int .i64 0,.int .i64 0]) ∧
  Calls Tryz.prog 17 #[.pointer (some ⟨rh,0,none⟩)] w6 fun e w7=>e=.returned (.tuple #[.int .i64 1,.bool true]) ∧
  Calls Tryz.prog 17 #[.pointer (some ⟨rh,0,none⟩)] w7 fun e w8=>e=.returned (.tuple #[.int .i64 0,.bool false])∧AwE w rh p1 p2 w8:=by
 refine (z9o 4000 2 4000 2 w rfl rfl (by omega) (by omega)).mono ?_
 rintro e w1 ⟨rh,hb,Z,rfl,H1⟩
 refine⟨rh,rfl,?_⟩
 refine (z5r H1 (by simp) 0 1 3 1 (R:=fun x u=>x=1∧∃ X Z vf vq,Rv w.heap.size w u rh hb X Z vf vq [1] []∧Aw13 600 1 0 [1] [] X) ?_).mono ?_
 ·refine (z4I H1.cv (by show 0≤2000000;omega) 0 1 3 1 (show 0<2 by omega) (zcg (by omega) (by omega)) (show 0<64 by omega) (by show 0+(1+16)≤4000/4;omega)).mono ?_
  rintro e w' ⟨i,S',a,c',rfl,hAd,hT⟩
  have hi:i=0:=by rw[hAd.at_];rfl
  subst hi
  have hSe:S'=[some ⟨1,3,1,a⟩]:=by rw[hAd.eq];rfl
  subst hSe
  obtain⟨Z',H2,_,_⟩:=H1.heap hT rfl
  refine⟨_,rfl,⟨_,Z',H2⟩,fun u hu=>⟨rfl,?_⟩⟩
  obtain⟨Z3,vf3,vq3,k1,_,_⟩:=hu _ Z' H2
  exact⟨_,Z3,vf3,vq3,k1,rfl,rfl,rfl,rfl,by show ¬ (0:Int)<0;omega,⟨by show (0:Int)≤0;omega,by show (0:Int)≤((600:Nat):Int);omega⟩,⟨a,0,rfl⟩,rfl,fun q=>by omega,rfl,rfl,by show 0+500≤600;omega⟩
 rintro e w2 ⟨x,rfl,rfl,X2,Z2,vf2,vq2,H2,hA2⟩
 refine⟨rfl,?_⟩
 obtain⟨a2,b2,eS2⟩:=hA2.S
 have eS2':X2.S=[some ⟨1,3,1,a2⟩]:=by rw[eS2];simp
 have hm2:=hA2.m
 refine (z4R H2 1 1 (R:=fun x c w'=>x=2∧c=0∧∃ X Z vf vq,Rv w.heap.size w w' rh hb X Z vf vq [1] []∧Aw13 1200 2 1 [1] [2] X) ?_).mono ?_
 ·refine (z7j H2.cv (by omega) 1 1 (by rw[hA2.T];omega) (k:=0) (cl:=⟨1,3,1,a2⟩) (by rw[eS2'];rfl) rfl (by rw[hA2.r1];simp) (by rw[eS2',hA2.W];show 17+0+(1+16)≤4000/4;omega)).mono ?_
  rintro e w' ⟨i,S',a,c',rfl,hAd,hT⟩
  have hi:i=1:=by rw[hAd.at_,eS2'];rfl
  subst hi
  have hSe:S'=[some ⟨1,3,1,a2⟩,some ⟨4,10,1,a⟩]:=by rw[hAd.eq,eS2'];rfl
  subst hSe
  obtain⟨Z',H3,_,_⟩:=H2.heap hT rfl
  refine⟨_,_,rfl,rfl,rfl,_,Z',vf2,vq2,H3,hA2.T,hA2.W,hA2.ph,hA2.all,hA2.lk,⟨hA2.cy.1,by show X2.cy≤((1200:Nat):Int);have:=hA2.cy.2;omega⟩,⟨a2,a,rfl⟩,?_,fun _=>rfl,?_,?_,by show X2.m+501≤1200;omega⟩
  ·exact hA2.f0
  ·show setL X2.rt 1 (X2.rt 1++[((1:Nat):Int)+1]) 0=_
   rw[← hA2.r0];rfl
  ·show setL X2.rt 1 (X2.rt 1++[((1:Nat):Int)+1]) 1=_
   rw[hA2.r1];rfl
 rintro e w3 ⟨x,c,rfl,rfl,rfl,X3,Z3,vf3,vq3,H3,hA3⟩
 refine⟨rfl,?_⟩
 have et:X3.popTr 1=X3.tr:=if_neg (by rw[hA3.ph];omega)
 have hP:=za4 H3.cv 0 (by rw[hA3.T];omega) (U:=[]) (r:=1) (by rw[hA3.r0];rfl)
 rw[et] at hP
 refine (z77 H3 0 1 0 (X':={ X3 with rt:=setL X3.rt 0 [] }) rfl hP).mono ?_
 rintro e w4 ⟨rfl,Z4,vf4,vq4,H4,_,_⟩
 refine⟨rfl,?_⟩
 have hA4:Aw13 1200 2 1 [] [2] { X3 with rt:=setL X3.rt 0 [] }:=⟨hA3.T,hA3.W,hA3.ph,hA3.all,hA3.lk,hA3.cy,hA3.S,hA3.f0,hA3.f1,rfl,hA3.r1,hA3.m⟩
 generalize ({ X3 with rt:=setL X3.rt 0 [] }:Cm)=X4 at *
 obtain⟨a4,b4,eS4⟩:=hA4.two
 have hm4:=hA4.m
 refine (z6k H4 hA4.rq (by rw[eS4];show X4.m+500*2+3*34≤1999999;omega) ⟨hA4.cy.1,by have:=hA4.cy.2;omega⟩ (by simp)).mono ?_
 rintro e w5 ⟨X5,u1,u2,vc,vd,rfl,hcd,hO,hvc,hvd,_⟩
 obtain⟨q1,q2,q3,hA5⟩:=hA4.cyc hcd
 rw[q1] at hvc
 rw[q2] at hvd hO
 rw[q3] at hO
 obtain⟨p1,k1,rfl,o1,g1⟩:=hvc.one
 obtain⟨p2,k2,rfl,o2,g2⟩:=hvd.one
 refine⟨p1,k1,p2,k2,rfl,?_⟩
 obtain⟨Z5,vf5,vq5,S5,_,_,_⟩:=hO
 obtain⟨a5,b5,eS5⟩:=hA5.two
 have hm5:=hA5.m
 refine (z5n S5.rv (by omega) 1 (by rw[hA5.T];omega) (k:=1) (cl:=⟨4,10,1,b5⟩) (by rw[eS5];rfl) rfl (Nat.le_refl 1) 2 rfl).mono ?_
 rintro e w6 ⟨rfl,c6,hT6⟩
 refine⟨by rw[hA5.f1 rfl],?_⟩
 obtain⟨⟨Z6,vf6,vq6,S6⟩,st6⟩:=S5.call hT6 rfl
 refine (z7P S6.rv (by show 0<X5.T;rw[hA5.T];omega) (by show (X5.rt 0).length<64;rw[hA5.r0];simp)).mono ?_
 rintro e w7 ⟨rfl,hT7⟩
 refine⟨rfl,?_⟩
 obtain⟨⟨Z7,vf7,vq7,S7⟩,st7⟩:=S6.call hT7 rfl
 refine (z4c S7.rv).mono ?_
 rintro e w8 ⟨rfl,rfl⟩
 refine⟨rfl,fun u bu=>?_⟩
 obtain⟨S9,st9⟩:=S7.below bu
 have hst:∀ k,((Value.slice (some ⟨p1,0,none⟩) 1 k1).ownBlock=some k∨(Value.slice (some ⟨p2,0,none⟩) 1 k2).ownBlock=some k)→u.heap[k]?=w5.heap[k]?:=fun k hk=>(st9 k hk).trans ((st7 k hk).trans (st6 k hk))
 refine⟨⟨(World.cell?_of_block (a:=⟨p1,0,none⟩) (hst p1 (.inl o1))).trans g1,(World.cell?_of_block (a:=⟨p2,0,none⟩) (hst p2 (.inr o2))).trans g2⟩,S9.rv.cv.hv.bel,(z86 S9.rv (by show X5.m+1≤2000000;omega)).mono ?_⟩
 rintro e w9 ⟨vr,rfl,hr,hb1⟩
 have hn:nums 0 X5.S=[1,2]:=by rw[eS5];rfl
 have hr2:Ri w9 u.heap.size vr (nums 0 X5.S):=hr
 rw[hn] at hr2
 obtain⟨a9,c9,rfl⟩:=hr2.form
 exact⟨a9,c9,rfl,S9.rv.cv.hv.bel.trans (hb1.mono S9.rv.cv.hv.size)⟩
theorem zdH (w:World):Calls Tryz.prog 12 #[] w fun e w'=>e=.returned (.bool true)∧Below w.heap.size w w':=by
 have hC:=z78 w
 go_enter Tryz.func12,Tryz.ntmps12
 go_wp2_with (first
  | (go_at_call 8;refine hC.mono ?_;clear hC;rintro e w1 ⟨rh,rfl,hC⟩)
  | (go_at_call 13;refine hC.mono ?_;clear hC;rintro e w2 ⟨rfl,hC⟩)
  | (go_at_call 14;refine hC.mono ?_;clear hC;rintro e w3 ⟨rfl,hC⟩)
  | (go_at_call 15;refine hC.mono ?_;clear hC;rintro e w4 ⟨rfl,hC⟩)
  | (go_at_call 16;refine hC.mono ?_;clear hC;rintro e w5 ⟨p1,c1,p2,c2,rfl,hC⟩)
  | (go_at_call 22;refine hC.mono ?_;clear hC;rintro e w6 ⟨rfl,hC⟩)
  | (go_at_call 17;refine hC.mono ?_;clear hC;rintro e w7 ⟨rfl,hC⟩)
  | (go_at_call 9;refine (z04 _ _).mono ?_;rintro e w9 ⟨rfl,hw9⟩;replace hw9:=hw9.symm;subst hw9)
  | (go_at_call_of 31 (Value.slice (some ⟨p1,0,none⟩) 1 c1);have bA:Below w7.heap.size w7 (w7.alloc (.cells #[.int .i64 2] 3)):=(Below.refl _ _).alloc (Nat.le_refl _) _;refine (zdq _ _ _ 2 _ (hC _ bA).1.1 (z08 (heap_alloc_new _ _))).mono ?_;rintro e wA ⟨rfl,hbA⟩;have bB:Below w7.heap.size w7 wA:=bA.trans (hbA.mono bA.size))
  | (go_at_call_of 31 (Value.slice (some ⟨p2,0,none⟩) 1 c2);have bC:Below w7.heap.size w7 (wA.alloc (.cells #[.int .i64 1] 3)):=bB.alloc bB.size _;refine (zdq _ _ _ 1 _ (hC _ bC).1.2 (z08 (heap_alloc_new _ _))).mono ?_;rintro e wB ⟨rfl,hbB⟩;have bD:Below w7.heap.size w7 wB:=bC.trans (hbB.mono bC.size))
  | (go_at_call 18;refine (hC _ bD).2.2.mono ?_;rintro e wE ⟨aE,cE,rfl,hbE⟩;clear hC))
 go_ret
 exact⟨rfl,hbE⟩
end Go.Proofs.YthkelaeemefnaaaGreat
