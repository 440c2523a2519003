import Derived.Test.YthkelaeemefnaaaGreatMXR1qz
set_option maxRecDepth 20000
set_option maxHeartbeats 1000000
namespace Go.Proofs.YthkelaeemefnaaaGreat
open Go.RowKit
structure Rq (X:Cm) (fs qs:List Int):Prop where
 ph:X.ph=0
 all:allB X.T X.A=true
 lk:¬ X.tr.ln<X.tr.lw
 clo:Clo (fun r=>r∈nums 0 X.S) X
 fin:∀ r∈fs,r∈nums 0 X.S
 que:∀ r∈qs,r∈nums 0 X.S
 weak:∀ r c,z0a X.S r=some c→c.kind=4→1≤c.n
structure Bg (X X1:Cm):Prop where
 S:X1.S=X.S
 F:X1.F=X.F
 rt:X1.rt=X.rt
 T:X1.T=X.T
 W:X1.W=X.W
 cy:X1.cy=X.cy
 row:X1.tr.row=nums 0 X.S
 sw:X1.tr.sw=0
def isw (X:Cm) (r:Int):Bool:=match z0a X.S r with
 | some c=>c.kind == 4
 | none=>false
def clrd (X:Cm) (u:Int→Bool) (U:List Int):List Int:=U.filter fun r=>isw X r&&u (wd X r 0)
def clrF (F:Nat→Nat→Int) (L:List Int):Nat→Nat→Int:=fun k l=>if ((k:Int)+1)∈L∧l=0 then 0 else F k l
section
variable {X X0 X1 X2 X3:Cm}{fs qs V L:List Int}
theorem zcl (F:Nat→Nat→Int):clrF F []=F:=by funext k l;simp[clrF]
theorem zaC (F:Nat→Nat→Int) (L:List Int) (k:Nat):setF (clrF F L) k (fun l=>if l=0 then 0 else clrF F L k l)=clrF F (L++[(k:Int)+1]):=by
 funext a l
 by_cases e:a=k
 ·subst e
  rw[z0L]
  unfold clrF
  by_cases hl:l=0<;>simp[hl]
 ·rw[z0n _ _ e]
  unfold clrF
  have:((a:Int)+1∈L++[(k:Int)+1])↔(a:Int)+1∈L:=by
   rw[List.mem_append,List.mem_singleton]
   exact⟨fun h=>h.resolve_right (fun q=>e (by omega)),.inl⟩
  simp only[this]
theorem z11 {S:List (Option Cel)}{r:Int}{j:Nat}(h:j<rfs S r):1≤r∧∃ c,z0a S r=some c∧(c.kind=1∨c.kind=3)∧rfs S r=c.n:=by
 unfold rfs at h ⊢
 cases hc:z0a S r with
 | none=>rw[hc] at h;simp at h
 | some c =>
  rw[hc] at h
  obtain⟨i,rfl,_⟩:=z0d hc
  refine⟨by omega,c,rfl,?_⟩
  by_cases hk:c.kind=1∨c.kind=3
  ·exact⟨hk,by simp only;rw[if_pos hk]⟩
  ·simp only[if_neg hk] at h;omega
theorem z7z (hL:∀ r∈L,isw X r=true) {r:Int}{j:Nat}(hj:j<rfs X.S r):clrF X.F L (r-1).toNat j=wd X r j:=by
 obtain⟨h1,c,hc,hk,_⟩:=z11 hj
 unfold clrF
 rw[if_neg]
 ·rfl
 ·rintro⟨q,_⟩
  rw[show (((r-1).toNat:Nat):Int)+1=r by omega] at q
  have:=hL r q
  unfold isw at this
  rw[hc] at this
  simp at this
  omega
theorem zav {u:Int→Bool}{U:List Int}:∀ r∈clrd X u U,isw X r=true:=fun r hr=>by
 have:=(List.mem_filter.1 hr).2
 simp at this
 exact this.1
theorem Rq.k_there (h:Rq X fs qs) (hV:∀ r∈V,r∈nums 0 X.S) {r:Int}(hr:RchQ X V r):r∈nums 0 X.S:=hr.there h.clo hV
theorem zdn (hl:¬ X.tr.ln<X.tr.lw) (hr:X.tr.row=nums 0 X.S):mu X≤sumS X.S:=by
 unfold mu
 rw[if_neg hl]
 have:=zb3 hr X.tr.row.length (Nat.le_refl _)
 omega
theorem zam (h:Rq X fs qs) (x0 r0:Int) (hX:X1=ansN { X with A:=fun _=>false,x:=x0,r:=r0,tr:=X.tr.begun X.S,ph:=1 } X.T):Mkp (RchQ X qs) (wd X) X.rt X1 X1∧X1.m=X.m∧mu X1≤sumS X.S∧Bg X X1:=by
 subst hX
 have hroot:∀ t,t<X.T→∀ r∈X.rt t,r=0∨RchQ X qs r:=fun t ht r hr=>by
  by_cases e:r=0
  ·exact .inl e
  ·exact .inr (RchQ.root ht hr e)
 have h0:=za0 (X:=X) (K:=RchQ X qs) hroot (fun r hr=>h.k_there h.que hr) (fun r hr j hj=>by
  by_cases e:wd X r j=0
  ·exact .inl e
  ·exact .inr (hr.word hj e)) h.lk x0 r0
 have hne:∀ r∈nums 0 X.S,r≠0:=fun r hr=>z2r hr
 have h1:=z7n h0 hne hroot X.T (Nat.le_refl _)
 obtain⟨a1,a2,a3,a4,a5,a6,a7,a8,a9⟩:=z21 { X with A:=fun _=>false,x:=x0,r:=r0,tr:=X.tr.begun X.S,ph:=1 } X.T
 obtain⟨t1,t2,t3,t4,t5,_⟩:=z6q { X with A:=fun _=>false,x:=x0,r:=r0,tr:=X.tr.begun X.S,ph:=1 } X.T
 have hall:=zcz { X with A:=fun _=>false,x:=x0,r:=r0,tr:=X.tr.begun X.S,ph:=1 }
 refine⟨⟨h1,Sm.refl _,by rw[a1];exact hall,.inl a7,Nat.le_refl _,by rw[t1];exact hne⟩,a3,?_,a4,a5,a6,a1,a2,a8,t1,t5⟩
 have hmu:=zdn (X:=ansN { X with A:=fun _=>false,x:=x0,r:=r0,tr:=X.tr.begun X.S,ph:=1 } X.T) (by rw[t3,t4];exact h.lk) (by rw[t1,a4];rfl)
 rw[a4] at hmu
 exact hmu
theorem Mkp.known (h:Mkp (RchQ X V) (wd X) X.rt X0 X2) (eT:X2.T=X.T) (eS:X2.S=X.S) (hp:X2.ph=2) (hm:∀ x∈V,x≠0→Mkd X2.tr x):∀ r∈X2.tr.row,(Mkd X2.tr r↔RchQ X V r):=by
 obtain⟨hq,hl⟩:X2.tr.q=[]∧¬ X2.tr.ln<X2.tr.lw:=h.st.elim (fun q=>by omega) (fun q=>q.2)
 refine h.mrk.over hq hl h.all (Ex:=fun x=>x∈V∧x≠0) (fun r hr=>hm r hr.1 hr.2) (fun P h1 h2 h3 r hr=>?_)
 exact hr.least (fun t ht x hx h0=>h1 t (by rw[eT];exact ht) x hx h0) (fun x hx h0=>h2 x ⟨hx,h0⟩) (fun x hx hP j hj h0=>h3 x hx hP j (by rw[eS];exact hj) h0)
theorem zfH (hb:Bg X X1) (h:Mkp (RchQ X qs) (wd X) X.rt X1 X2) (hp:X2.ph=2) (hm:∀ x∈qs,Mkd X2.tr x):∀ r,X2.unr r=true↔r∈nums 0 X.S∧¬ RchQ X qs r:=fun r=>by
 have e:X2.tr.row=nums 0 X.S:=h.sm.row.trans hb.row
 rw[← e]
 exact zez h.mrk.rise hp (fun r hr=>h.known (h.sm.T.trans hb.T) (h.sm.S.trans hb.S) hp (fun x hx _=>hm x hx) r hr) r
theorem zdk (hq:Rq X fs qs) (hV:∀ r∈V,r∈nums 0 X.S) (hb:Bg X X1) (h:Mkp (RchQ X qs) (wd X) X.rt X1 X2) (hp:X2.ph=2) {m:Nat}{c:Int→Int}(hL:∀ r∈L,isw X r=true) (hX:X3={ X2 with m:=m,c:=c,F:=clrF X.F L }):Mkp (RchQ X (qs++V)) (wd X) X.rt X3 X3∧mu X3≤sumS X.S:=by
 subst hX
 obtain⟨hqq,hl⟩:X2.tr.q=[]∧¬ X2.tr.ln<X2.tr.lw:=h.st.elim (fun q=>by omega) (fun q=>q.2)
 have eS:X2.S=X.S:=h.sm.S.trans hb.S
 have eF:X2.F=X.F:=h.sm.F.trans hb.F
 have er:X2.tr.row=nums 0 X.S:=h.sm.row.trans hb.row
 have ew:∀ r j,wd X2 r j=wd X r j:=fun r j=>by unfold wd;rw[eF]
 have eref:∀ r j,j<rfs X2.S r→clrF X.F L (r-1).toNat j=wd X r j:=fun r j hj=>z7z hL (by rw[← eS];exact hj)
 have hV2:∀ r∈qs++V,r∈nums 0 X.S:=fun r hr=>(List.mem_append.1 hr).elim (hq.que r) (hV r)
 have h1:=h.mrk.words m c (F:=clrF X.F L) (fun r j hj=>by rw[ew];exact eref r j hj)
 have h2:=h1.wider (K2:=RchQ X (qs++V)) hqq hl h.all (fun r hr=>hr.more) (fun r hr=>by show r∈X2.tr.row;rw[er];exact hq.k_there hV2 hr) (fun r _ j hj=>eref r j hj) (fun r hr j hj=>by
  by_cases e:wd X r j=0
  ·exact .inl e
  ·exact .inr (hr.word (by rw[← eS];exact hj) e))
 refine⟨⟨h2,Sm.refl _,h.all,.inr ⟨hp,hqq,hl⟩,Nat.le_refl _,h.ne0⟩,?_⟩
 rw[← eS]
 exact zdn (X:={ X2 with m:=m,c:=c,F:=clrF X.F L }) hl (by show X2.tr.row=nums 0 X2.S;rw[er,eS])
theorem Ss.refl {K0:Int→Prop}{N:List Int}(h:SwN K0 N X):Ss K0 N X X:=⟨rfl,rfl,rfl,rfl,rfl,rfl,fun _ _=>rfl,fun _ _ h=>h,h.1,h.2.1,rfl⟩
theorem Ss.trans {K0:Int→Prop}{N:List Int}(h:Ss K0 N X X1) (k:Ss K0 N X1 X2):Ss K0 N X X2:=⟨k.F.trans h.F,k.rt.trans h.rt,k.A.trans h.A,k.T.trans h.T,k.W.trans h.W,k.row.trans h.row,fun r hr=>(k.cel r hr).trans (h.cel r hr),fun r c q=>h.sub r c (k.sub r c q),k.all,k.lk,k.len.trans h.len⟩
def Swp (K:Int→Prop) (X4 X5:Cm):Prop:=(X5=X4∧X4.ph=2∧X4.tr.sw=0∧SwN K [] X4)∨(X5.ph=3∧SwN K [] X5∧Ss K [] X4 X5∧X5.cy=X4.cy∧X5.m+500*cntS X5.S≤X4.m+500*cntS X4.S)∨(X5.ph=0∧Ss K [] X4 X5∧X5.cy=X4.cy+1∧X5.m+500*cntS X5.S≤X4.m+500*cntS X4.S∧∃ f:Int→Bool,(∀ x∈X4.tr.row,f x=true↔K x)∧nums 0 X5.S=X4.tr.row.filter f)
def spN (X:Cm):Nat:=if X.ph=2 then X.tr.row.length+3 else if X.ph=3 then X.tr.row.length-X.tr.sw+1 else 0
theorem Swp.stp {K:Int→Prop}{X4 X5 X6:Cm}(hs:z0g X4.tr.row) (hbase:∀ r,K r→r∈X4.tr.row) (h:Swp K X4 X5) (hp:X5.ph≠0) (st:Stp X5 X6):Swp K X4 X6∧spN X6<spN X5:=by
 rcases h with ⟨rfl,p2,hw,hS⟩|⟨p3,hS,hs2,hcy,hm⟩|⟨p0,_⟩
 ·rcases st with ⟨q,_⟩|⟨q,_⟩|⟨q,_⟩|⟨q,_⟩|⟨q,_⟩|⟨_,rfl⟩|⟨_,_,q,_⟩
  ·omega
  ·omega
  ·omega
  ·omega
  ·omega
  ·refine⟨.inr (.inl ⟨rfl,hS,⟨rfl,rfl,rfl,rfl,rfl,rfl,fun _ _=>rfl,fun _ _ h=>h,hS.1,hS.2.1,rfl⟩,rfl,Nat.le_refl _⟩),?_⟩
   unfold spN
   rw[if_pos p2,if_neg (by show (3:Int)≠2;decide),if_pos rfl]
   show X5.tr.row.length-X5.tr.sw+1<_
   omega
  ·exact absurd p2 q
 ·have hf:=st.free (by omega)
  obtain⟨k1,k2⟩:=SwN.stp (N:=[]) (by rw[hs2.row];exact hs) (by rw[hs2.row];exact hbase) (fun r hr=>by simp at hr) p3 hS st
  have e5:spN X5=X5.tr.row.length-X5.tr.sw+1:=by unfold spN;rw[if_neg (by omega),if_pos p3]
  rcases k2 with ⟨g1,g2,g3,g4,g5⟩|⟨g1,g2,f,g3,g4⟩
  ·refine⟨.inr (.inl ⟨g1,g2,hs2.trans k1,g4.trans hcy,by omega⟩),?_⟩
   have e6:spN X6=X6.tr.row.length-X6.tr.sw+1:=by unfold spN;rw[if_neg (by omega),if_pos g1]
   rw[e5,e6,k1.row,g3];omega
  ·refine⟨.inr (.inr ⟨g1,hs2.trans k1,by rw[g2,hcy],by omega,f,fun x hx=>g3 x (by rw[hs2.row];exact hx),by rw[g4,hs2.row];simp⟩),?_⟩
   have e6:spN X6=0:=by unfold spN;rw[if_neg (by omega),if_neg (by omega)]
   omega
 ·exact absurd p0 hp
structure Cyd (X X':Cm) (fs qs:List Int) (u1 u2:Int→Bool):Prop where
 h1:∀ r,u1 r=true↔r∈nums 0 X.S∧¬ RchQ X qs r
 h2:∀ r∈nums 0 X.S,(u2 r=true↔RchQ X (qs++fs.filter u1) r)
 T:X'.T=X.T
 W:X'.W=X.W
 rt:X'.rt=X.rt
 F:X'.F=clrF X.F (clrd X u1 (nums 0 X.S))
 ns:nums 0 X'.S=(nums 0 X.S).filter u2
 cel:∀ r∈nums 0 X'.S,z0a X'.S r=z0a X.S r
 len:X'.S.length=X.S.length
 ph:X'.ph=0
 all:allB X'.T X'.A=true
 lk:¬ X'.tr.ln<X'.tr.lw
 cy:X'.cy=X.cy+1
 cost:X'.m+500*cntS X'.S≤X.m+500*cntS X.S+3*sumS X.S
theorem zfX (hq:Rq X fs qs) (hb:Bg X X1) (hm1:X1.m=X.m) (hmu:mu X1≤sumS X.S) (h:Mkp (RchQ X qs) (wd X) X.rt X1 X2) (hp:X2.ph=2) (hm:∀ x∈qs,Mkd X2.tr x) {m:Nat}{c:Int→Int}(hX:X3={ X2 with m:=m,c:=c,F:=clrF X.F (clrd X X2.unr (nums 0 X.S)) }) (hmm:m≤X2.m+2*(nums 0 X.S).length)
  {X4 X5:Cm} (h4:Mkp (RchQ X (qs++fs.filter X2.unr)) (wd X) X.rt X3 X4) (hp4:X4.ph=2) (hm4:∀ y,Mkd X3.tr y→Mkd X4.tr y) (hm5:∀ x∈fs.filter X2.unr,Mkd X4.tr x) (hs:Swp (RchQ X (qs++fs.filter X2.unr)) X4 X5) (hp5:X5.ph=0):∃ u2,Cyd X X5 fs qs X2.unr u2:=by
 have hk1:=zfH hb h hp hm
 have hV:∀ r∈fs.filter X2.unr,r∈nums 0 X.S:=fun r hr=>hq.fin r (List.mem_filter.1 hr).1
 have hmu3:=(zdk hq hV hb h hp (L:=clrd X X2.unr (nums 0 X.S)) zav hX).2
 have hc1:=h.cost
 have hc4:=h4.cost
 have hnl:(nums 0 X.S).length=cntS X.S:=z1o 0 X.S
 have hcs:=z2L X.S
 have e4:X4.S=X.S∧X4.T=X.T∧X4.W=X.W∧X4.rt=X.rt∧X4.cy=X.cy∧X4.tr.row=nums 0 X.S∧X4.F=clrF X.F (clrd X X2.unr (nums 0 X.S))∧X3.m=m:=by
  have s:=h4.sm
  subst hX
  exact⟨s.S.trans (h.sm.S.trans hb.S),s.T.trans (h.sm.T.trans hb.T),s.W.trans (h.sm.W.trans hb.W),s.rt.trans (h.sm.rt.trans hb.rt),s.cy.trans (h.sm.cy.trans hb.cy),s.row.trans (h.sm.row.trans hb.row),s.F,rfl⟩
 obtain⟨eS,eT,eW,ert,ecy,erow,eF,e3m⟩:=e4
 rcases hs with ⟨rfl,q,_⟩|⟨q,_⟩|⟨_,ss,scy,sm,f,hf,hn⟩
 ·omega
 ·omega
 ·rw[erow] at hf hn
  refine⟨f,hk1,hf,ss.T.trans eT,ss.W.trans eW,ss.rt.trans ert,ss.F.trans eF,hn,fun r hr=>?_,by rw[ss.len,eS],hp5,ss.all,ss.lk,by rw[scy,ecy],?_⟩
  ·rw[hn] at hr
   obtain⟨z1,z2⟩:=List.mem_filter.1 hr
   rw[ss.cel r (.inl ((hf r z1).1 z2)),eS]
  ·rw[eS] at sm
   omega
theorem Cyd.next {X':Cm}{u1 u2:Int→Bool}(hq:Rq X fs qs) (h:Cyd X X' fs qs u1 u2):Rq X' (fs.filter fun r=>!u1 r) (qs++fs.filter u1):=by
 have hV2:∀ r∈qs++fs.filter u1,r∈nums 0 X.S:=fun r hr=>(List.mem_append.1 hr).elim (hq.que r) (fun q=>hq.fin r (List.mem_filter.1 q).1)
 have hin:∀ r,RchQ X (qs++fs.filter u1) r→r∈nums 0 X'.S:=fun r hr=>by
  have hn:=hq.k_there hV2 hr
  rw[h.ns]
  exact List.mem_filter.2 ⟨hn,(h.h2 r hn).2 hr⟩
 have hout:∀ r,r∈nums 0 X'.S→r∈nums 0 X.S∧RchQ X (qs++fs.filter u1) r:=fun r hr=>by
  have hr':=hr
  rw[h.ns] at hr'
  obtain⟨z1,z2⟩:=List.mem_filter.1 hr'
  exact⟨z1,(h.h2 r z1).1 z2⟩
 refine⟨h.ph,h.all,h.lk,⟨fun t ht r hr=>?_,fun r hr j hj=>?_⟩,fun r hr=>?_,fun r hr=>?_,fun r c hc hk=>?_⟩
 ·by_cases e:r=0
  ·exact .inl e
  ·exact .inr (hin r (RchQ.root (by rw[← h.T];exact ht) (by rw[← h.rt];exact hr) e))
 ·rw[z4O (h.cel r hr)] at hj
  have ew:wd X' r j=wd X r j:=by
   show X'.F (r-1).toNat j=_
   rw[h.F]
   exact z7z zav hj
  rw[ew]
  by_cases e:wd X r j=0
  ·exact .inl e
  ·exact .inr (hin _ ((hout r hr).2.word hj e))
 ·obtain⟨z1,z2⟩:=List.mem_filter.1 hr
  have hn:=hq.fin r z1
  refine hin r ?_
  by_cases e:RchQ X qs r
  ·exact e.more
  ·have:=(h.h1 r).2 ⟨hn,e⟩
   rw[this] at z2;simp at z2
 ·exact hin r (RchQ.from hr (z2r (hV2 r hr)))
 ·have hr:=nums_cel.2 ⟨c,hc⟩
  rw[h.cel r hr] at hc
  exact hq.weak r c hc hk
end
end Go.Proofs.YthkelaeemefnaaaGreat
namespace Go.Proofs.YthkelaeemefnaaaGreat
open Go.RowKit
section
variable {B:Nat}{w0 w w1 w2 w':World}{rh hb:Nat}{X X1 X2 X':Cm}{Z Z1:Cx}{vf vq vf1 vq1:Value}{fs qs fs1 qs1 fs2 qs2:List Int}{O O0:Nat→Prop}
def RvO (B:Nat) (w0 w:World) (rh hb:Nat) (Z:Cx) (vf vq:Value) (X':Cm) (fs qs:List Int) (O:Nat→Prop) (w':World):Prop:=∃ Z' vf' vq',Sr B w0 w' rh hb X' Z' vf' vq' fs qs O∧Bt (Rown rh hb X'.T Z vf vq) w w'∧Wider (Rown rh hb X'.T Z vf vq) (Rown rh hb X'.T Z' vf' vq') w∧∀ k,O k→w.heap.size≤k
theorem RvT.o (h:RvT B w0 w rh hb Z vf vq X' fs qs w'):RvO B w0 w rh hb Z vf vq X' fs qs (fun _=>False) w':=by
 obtain⟨Z',vf',vq',h1,h2,h3⟩:=h
 exact⟨Z',vf',vq',h1.sr,h2,h3,fun _ q=>q.elim⟩
theorem RvO.t (h:RvO B w0 w rh hb Z vf vq X' fs qs O w'):RvT B w0 w rh hb Z vf vq X' fs qs w':=by
 obtain⟨Z',vf',vq',h1,h2,h3,_⟩:=h
 exact⟨Z',vf',vq',h1.rv,h2,h3⟩
theorem RvO.less (h:RvO B w0 w rh hb Z vf vq X' fs qs O w') {O':Nat→Prop}(hO:∀ k,O' k→O k):RvO B w0 w rh hb Z vf vq X' fs qs O' w':=by
 obtain⟨Z',vf',vq',h1,h2,h3,h4⟩:=h
 exact⟨Z',vf',vq',h1.less hO,h2,h3,fun k hk=>h4 k (hO k hk)⟩
theorem RvO.step (hS:Sr B w0 w1 rh hb X1 Z1 vf1 vq1 fs1 qs1 O) (b:Bt (Rown rh hb X1.T Z vf vq) w w1) (d:Wider (Rown rh hb X1.T Z vf vq) (Rown rh hb X1.T Z1 vf1 vq1) w) (n:∀ k,O k→w.heap.size≤k) (hT:RvT B w0 w1 rh hb Z1 vf1 vq1 X2 fs2 qs2 w2) (e:X2.T=X1.T):RvO B w0 w rh hb Z vf vq X2 fs2 qs2 O w2∧∀ k,O k→w2.heap[k]?=w1.heap[k]?:=by
 obtain⟨⟨Z2,vf2,vq2,k1⟩,k2⟩:=hS.call hT e
 obtain⟨Z3,vf3,vq3,j1,j2,j3⟩:=hT
 have hout:∀ k,O k→¬ Rown rh hb X2.T Z3 vf3 vq3 k:=fun k hk r=>by
  rcases j3 k r with q|q
  ·rw[e] at q;exact (hS.out k hk).1 q
  ·have:=(hS.out k hk).2.1;omega
 rw[← e] at b d
 exact⟨⟨Z3,vf3,vq3,⟨j1,fun k hk=>⟨hout k hk,Nat.lt_of_lt_of_le (hS.out k hk).2.1 j2.size,(hS.out k hk).2.2⟩⟩,b.wide j2 d,d.trans j3 b.size,n⟩,k2⟩
theorem Sr.callO (H:Sr B w0 w rh hb X Z vf vq fs qs O0) (hT:RvO B w0 w rh hb Z vf vq X' fs1 qs1 O w') (e:X'.T=X.T):(∃ Z' vf' vq',Sr B w0 w' rh hb X' Z' vf' vq' fs1 qs1 (fun k=>O0 k∨O k))∧∀ k,O0 k→w'.heap[k]?=w.heap[k]?:=by
 obtain⟨Z',vf',vq',h1,h2,h3,h4⟩:=hT
 rw[e] at h2 h3
 refine⟨⟨Z',vf',vq',h1.rv,fun k hk=>?_⟩,fun k hk=>h2.block k (H.out k hk).2.1 (H.out k hk).1⟩
 rcases hk with q|q
 ·exact⟨by rw[e];exact fun r=>(h3 k r).elim (H.out k q).1 (fun z=>by have:=(H.out k q).2.1;omega),Nat.lt_of_lt_of_le (H.out k q).2.1 h2.size,(H.out k q).2.2⟩
 ·exact h1.out k q
theorem RvO.app (h:RvO B w0 w rh hb Z vf vq X' fs qs O w1) {v:Value}{U:List Int}(hU:Ri w1 B v U) (hv:∀ k,v.ownBlock=some k→O k) (hl:U.length≤100000) (x:Int):
  ∃ ao cap ao' cap' w3,v=.slice ao U.length cap∧(appC #[32,32] 32 #[.slice ao U.length cap,.slice (some ⟨w1.heap.size,0,none⟩) 1 1]).run Tryz.prog (w1.alloc (.cells #[.int .i64 x] 3))=.ok (.slice ao' (U.length+1) cap') w3 ∧
   Ri w3 B (.slice ao' (U.length+1) cap') (U++[x])∧RvO B w0 w rh hb Z vf vq X' fs qs (fun k=>O k∨(Value.slice ao' (U.length+1) cap').ownBlock=some k) w3∧(∀ k,O k→v.ownBlock≠some k→w3.heap[k]?=w1.heap[k]?)∧((Value.slice ao' (U.length+1) cap').ownBlock=v.ownBlock∨∃ j,(Value.slice ao' (U.length+1) cap').ownBlock=some j∧w1.heap.size≤j):=by
 obtain⟨Z',vf',vq',H,h2,h3,h4⟩:=h
 obtain⟨ao,cap,rfl⟩:=hU.form
 obtain⟨ao',cap',w3,hrun,hU3,hg,hat⟩:=hU.more x H.rv.cv.hv.size hl (heap_alloc_new w1 (.cells #[.int .i64 x] 3)) ((Below.refl _ _).alloc (Nat.le_refl _) _)
 have hB:Bt O w1 w3:=⟨hg.os,hg.tape,hg.output,hg.size,fun k hk q=>hg.block k hk (fun z=>q (hv k z.symm))⟩
 have hnew:∀ k,(Value.slice ao' (U.length+1) cap').ownBlock=some k→O k∨(w1.heap.size≤k∧k<w3.heap.size):=fun k q=>by
  rcases hat with z|⟨j,z1,z2⟩
  ·rw[z] at q;exact .inl (hv k q)
  ·rw[z1] at q;simp at q;subst q
   exact .inr ⟨z2,(hU3.lt z1).2⟩
 refine⟨ao,cap,ao',cap',w3,rfl,hrun,hU3,⟨Z',vf',vq',H.mine hB (fun k hk=>hk.elim .inl (hnew k)),⟨hB.os.trans h2.os,hB.tape.trans h2.tape,hB.output.trans h2.output,Nat.le_trans h2.size hB.size,fun k hk hq=>(hB.block k (Nat.lt_of_lt_of_le hk h2.size) (fun z=>by have:=h4 k z;omega)).trans (h2.block k hk hq)⟩,h3,fun k hk=>?_⟩,fun k hk hne=>hg.block k (H.out k hk).2.1 (fun z=>hne z.symm),hat⟩
 rcases hk with q|q
 ·exact h4 k q
 ·rcases hnew k q with z|z
  ·exact h4 k z
  ·exact Nat.le_trans h2.size z.1
theorem z9O (H:Rv B w0 w rh hb X Z vf vq fs qs) (hm:X.m≤2000000) (hp:X.ph=0) (ha:allB X.T X.A=true):
  Calls Tryz.prog 36 #[.pointer (some ⟨rh,0,none⟩)] w fun e w'=>e=.returned (.tuple #[])∧∃ r0,RvT B w0 w rh hb Z vf vq (ansN { X with A:=fun _=>false,x:=1,r:=r0,tr:=X.tr.begun X.S,ph:=1 } X.T) fs qs w':=by
 obtain⟨⟨c0,c1,_⟩,hlt,_⟩:=H.cells4
 obtain⟨f,hf⟩:∃ f:Int→Cm,f=fun r0=>{ X with A:=fun _=>false,x:=1,r:=r0,tr:=X.tr.begun X.S,ph:=1 }:=⟨_,rfl⟩
 have HF:Hid (f=fun r0=>{ X with A:=fun _=>false,x:=1,r:=r0,tr:=X.tr.begun X.S,ph:=1 }):=hf
 clear hf
 have HX:Hid (Calls Tryz.prog 72 #[.pointer (some ⟨hb,0,none⟩)] w fun e w1=>e=.returned (.int .i64 0)∧(w1.cell? ⟨rh,1,none⟩=some (.int .i64 X.T)∧rh<w1.heap.size)∧∃ r0,RvT B w0 w rh hb Z vf vq (f r0) fs qs w1):=(z6p H.cv hm hp ha).mono fun e w1 q=>by
  obtain⟨rfl,r0,hT⟩:=q
  have h1:=H.heapT hT rfl
  have h2:=h1
  obtain⟨_,_,_,k1,_,_⟩:=h2
  refine⟨rfl,⟨k1.cells4.1.2.1,k1.hlt⟩,r0,?_⟩
  rw[HF.out]
  exact h1
 have h8:X.T≤8:=H.cv.lim.2.2
 have HA:Hid (∀ (X1:Cm) (j:Nat) (wr:World),X1.T=X.T→j<X.T→RvT B w0 w rh hb Z vf vq (ansN X1 j) fs qs wr→(wr.cell? ⟨rh,0,none⟩=some (.pointer (some ⟨hb,0,none⟩))∧rh<wr.heap.size)∧Calls Tryz.prog 73 #[.pointer (some ⟨hb,0,none⟩),.int .i64 j] wr fun e w'=>e=.returned (.int .i64 0)∧RvT B w0 w rh hb Z vf vq (ansN X1 (j+1)) fs qs w'):=fun X1 j wr hT1 hj h=>by
  obtain⟨Z2,vf2,vq2,H2,b2,d2⟩:=h
  refine⟨⟨H2.cells4.1.1,H2.hlt⟩,(z6t H2.cv j (by rw[(z21 X1 j).1,hT1];exact hj)).mono ?_⟩
  rintro e w' ⟨q1,q2⟩
  have e1:=(z3K (ansN X1 j) j).1
  have hT:=H2.heapT q2 e1
  rw[← e1] at b2 d2
  exact⟨q1,RvT.then b2 d2 hT⟩
 have HFT:Hid (∀ r0,(f r0).T=X.T):=fun r0=>by rw[HF.out]
 have hBg:=HX.out
 clear HX H hm hp ha
 obtain⟨T,hTn⟩:∃ T,T=X.T:=⟨_,rfl⟩
 rw[← hTn] at c1 h8 hBg HA HFT
 have HTT:Hid (T=X.T):=hTn
 clear hTn
 go_enter Tryz.func36,Tryz.ntmps36
 go_wp2_with (go_at_call 72;refine hBg.mono ?_;rintro e w1 ⟨rfl,⟨k1,k2⟩,r0,hT⟩;have HT:Hid (RvT B w0 w rh hb Z vf vq (f r0) fs qs w1):=hT;clear hBg hT)
 go_loopg [2,12] (T+1) (fun kx s2 s12 wr=>∃ (j:Nat),s12=.int .i64 j∧j≤T∧T-j≤kx∧Hid (RvT B w0 w rh hb Z vf vq (ansN (f r0) j) fs qs wr))
 case atStart=>exact⟨0,rfl,by omega,by omega,HT⟩
 case round =>
  obtain⟨j,rfl,hj,hk,HI⟩:=hrel
  by_cases hlt2:j<T
  ·have hl:(j:Int)<(T:Int):=by omega
   obtain⟨⟨k3,k4⟩,hA⟩:=HA.out _ j wr (HFT.out r0) hlt2 HI.out
   clear HI
   go_wp2_with (go_at_call 73;refine hA.mono ?_;rintro e w2 ⟨rfl,hT2⟩;have HT2:Hid (RvT B w0 w rh hb Z vf vq (ansN (f r0) (j+1)) fs qs w2):=hT2;clear hA hT2)
   go_roundg (T-(j+1))
   case measure=>omega
   case rel=>exact⟨j+1,by go_num,by omega,by omega,HT2⟩
  ·obtain rfl:j=T:=by omega
   have hl:¬ (j:Int)<(j:Int):=by omega
   go_wp2
   go_end0
   refine⟨rfl,r0,?_⟩
   have:=HI.out
   rw[HF.out,HTT.out] at this
   exact this
theorem zb0 {K:Int→Prop}(H:Rv B w0 w rh hb X Z vf vq fs qs) (hs:z0g X.tr.row) (hbase:∀ r,K r→r∈X.tr.row) (hw:Swp K X X) (hp:X.ph=2) (hm:X.m+500*cntS X.S≤1999999) (hc:0≤X.cy∧X.cy≤999999):
  Calls Tryz.prog 43 #[.pointer (some ⟨rh,0,none⟩)] w fun e w'=>e=.returned (.tuple #[])∧∃ X',Swp K X X'∧X'.ph=0∧RvT B w0 w rh hb Z vf vq X' fs qs w':=by
 have HA:Hid (∀ (X1:Cm) (wr:World),Swp K X X1→X1.ph≠0→RvT B w0 w rh hb Z vf vq X1 fs qs wr→(wr.cell? ⟨rh,0,none⟩=some (.pointer (some ⟨hb,0,none⟩))∧rh<wr.heap.size)∧Calls Tryz.prog 76 #[.pointer (some ⟨hb,0,none⟩)] wr fun e w'=>∃ X2 b,e=.returned (.tuple #[.bool b,.int .i64 0])∧b=(X2.ph != 0)∧(Swp K X X2∧spN X2<spN X1)∧RvT B w0 w rh hb Z vf vq X2 fs qs w'):=fun X1 wr h1 hp1 h=>by
  obtain⟨Z2,vf2,vq2,H2,b2,d2⟩:=h
  have hm1:X1.m+500*cntS X1.S≤X.m+500*cntS X.S∧X1.phs∧0≤X1.cy∧X1.cy≤1000000:=by
   rcases h1 with ⟨rfl,q,_⟩|⟨q1,_,_,q2,q3⟩|⟨q,_⟩
   ·exact⟨Nat.le_refl _,.inr (.inr (.inl q)),by omega,by omega⟩
   ·exact⟨q3,.inr (.inr (.inr q1)),by omega,by omega⟩
   ·exact absurd q hp1
  refine⟨⟨H2.cells4.1.1,H2.hlt⟩,(z7y H2.cv (by omega) hm1.2.1 hm1.2.2).mono ?_⟩
  rintro e w' ⟨X2,st,rfl,q2⟩
  obtain⟨g1,g2⟩:=h1.stp hs hbase hp1 st
  have hT:=H2.heapT q2 st.T
  rw[← st.T] at b2 d2
  exact⟨X2,_,rfl,rfl,⟨g1,g2⟩,RvT.then b2 d2 hT⟩
 have H0:Hid (Swp K X X∧RvT B w0 w rh hb Z vf vq X fs qs w):=⟨hw,H.same⟩
 have hb0:Hid (true=(X.ph != 0)):=by rw[hp];rfl
 clear H hs hbase hw hm hc hp
 go_enter Tryz.func43,Tryz.ntmps43
 go_wp2
 go_loopg [2] (spN X+1) (fun kx s2 wr=>∃ (X1:Cm) (b:Bool),s2=.bool b∧Hid (b=(X1.ph != 0))∧spN X1+1≤kx∧Hid (Swp K X X1∧RvT B w0 w rh hb Z vf vq X1 fs qs wr))
 case atStart=>exact⟨X,true,rfl,hb0,Nat.le_refl _,H0⟩
 case round =>
  obtain⟨X1,b,rfl,HB,hk,HI⟩:=hrel
  cases b with
  | true =>
   have hp1:X1.ph≠0:=by have:=HB.out;simpa using this.symm
   obtain⟨⟨k3,k4⟩,hA⟩:=HA.out X1 wr HI.out.1 hp1 HI.out.2
   clear HI HB hp1
   go_wp2_with (go_at_call 76;refine hA.mono ?_;rintro e w2 ⟨X2,b2,rfl,hb2,⟨g1,g2⟩,hT2⟩;have HB2:Hid (b2=(X2.ph != 0)):=hb2;have HG2:Hid (spN X2<spN X1):=g2;have HT2:Hid (Swp K X X2∧RvT B w0 w rh hb Z vf vq X2 fs qs w2):=⟨g1,hT2⟩;clear hA hT2 g1 g2 hb2)
   go_roundg (spN X2+1)
   case measure=>have:=HG2.out;omega
   case rel=>exact⟨X2,b2,rfl,HB2,Nat.le_refl _,HT2⟩
  | false =>
   have hp1:X1.ph=0:=by have:=HB.out;simpa using this.symm
   have HP:Hid (X1.ph=0):=hp1
   clear hp1 HB
   go_wp2
   go_end0
   exact⟨rfl,X1,HI.out.1,HP.out,HI.out.2⟩
end
end Go.Proofs.YthkelaeemefnaaaGreat
namespace Go.Proofs.YthkelaeemefnaaaGreat
open Go.RowKit
section
variable {B:Nat}{w0 w wr w':World}{rh hb:Nat}{X Xj:Cm}{Z:Cx}{vf vq v vr:Value}{fs qs:List Int}{j:Nat}{r:Int}
theorem Ri.lower {w:World}{A B:Nat}{v:Value}{U:List Int}(h:Ri w A v U) (hB:B≤A):Ri w B v U:=by
 refine⟨h.1,?_⟩
 rcases h.2 with q|⟨g,cap,cur,e,h1,h2⟩
 ·exact .inl q
 ·exact .inr ⟨g,cap,cur,e,Nat.le_trans hB h1,h2⟩
theorem z5N {X:Cm}{u:Int→Bool}{U:List Int}(hr:U[j]?=some r):clrd X u (U.take (j+1))=clrd X u (U.take j)++(if (isw X r&&u (wd X r 0))=true then [r] else []):=by
 unfold clrd
 rw[List.take_add_one,hr,List.filter_append]
 simp only[Option.toList_some,List.filter_cons,List.filter_nil]
theorem zfL {m1:Nat}{c1:Int→Int}(H:Rv B w0 wr rh hb Xj Z vf vq fs qs) (hX:Xj={ X with m:=m1,c:=c1,F:=clrF X.F (clrd X X.unr ((nums 0 X.S).take j)) }) (hr:(nums 0 X.S)[j]?=some r) (hw:∀ r c,z0a X.S r=some c→c.kind=4→1≤c.n) (hm:m1≤1999999):
  Calls Tryz.prog 77 #[.pointer (some ⟨hb,0,none⟩),.int .i64 r] wr fun e w'=>∃ m' c',e=.returned (.bool (isw X r&&X.unr (wd X r 0)))∧m'≤m1+2∧RvT B w0 wr rh hb Z vf vq { X with m:=m',c:=c',F:=clrF X.F (clrd X X.unr ((nums 0 X.S).take (j+1))) } fs qs w':=by
 subst hX
 have hnext:=z5N (X:=X) (u:=X.unr) hr
 have hmem:r∈nums 0 X.S:=List.mem_of_getElem? hr
 obtain⟨cl,hc⟩:=nums_cel.1 hmem
 have hnot:r ∉ clrd X X.unr ((nums 0 X.S).take j):=fun q=>by
  have q2:r∈(nums 0 X.S).take j:=(List.mem_filter.1 q).1
  obtain⟨k,hk,e⟩:=List.getElem_of_mem q2
  have hk2:k<j:=by rw[List.length_take] at hk;omega
  have hs:=z0r 0 X.S
  obtain⟨hj,e2⟩:=List.getElem?_eq_some_iff.1 hr
  have hlt:=List.pairwise_iff_getElem.1 hs k j (by omega) hj hk2
  rw[List.getElem_take] at e
  omega
 obtain⟨i,rfl,hi⟩:=z0d hc
 have ewd:wd X ((i:Int)+1) 0=X.F i 0:=by unfold wd;rw[show ((i:Int)+1-1).toNat=i by omega]
 by_cases h4:cl.kind=4
 ·have hisw:isw X ((i:Int)+1)=true:=by unfold isw;rw[hc];simp[h4]
  rw[hisw,Bool.true_and,ewd] at hnext ⊢
  have eF:clrF X.F (clrd X X.unr ((nums 0 X.S).take j)) i 0=X.F i 0:=by unfold clrF;rw[if_neg (fun q=>hnot q.1)]
  refine (z9x H.cv hm hi h4 (hw _ cl hc h4) _ rfl).mono ?_
  rintro e w' (⟨q1,rfl,c',hT⟩|⟨q1,rfl,c',hT⟩)
  ·have q2:X.unr (X.F i 0)=false:=by rw[← eF];exact q1
   rw[q2] at hnext ⊢
   rw[if_neg (by decide),List.append_nil] at hnext
   rw[hnext]
   exact⟨m1+1,c',rfl,by omega,H.heapT hT rfl⟩
  ·have q2:X.unr (X.F i 0)=true:=by rw[← eF];exact q1
   rw[q2] at hnext ⊢
   rw[if_pos rfl] at hnext
   rw[hnext]
   refine⟨m1+2,c',rfl,by omega,?_⟩
   have hT2:=H.heapT hT rfl
   have e:=zaC X.F (clrd X X.unr ((nums 0 X.S).take j)) i
   rw[e] at hT2
   exact hT2
 ·have hisw:isw X ((i:Int)+1)=false:=by unfold isw;rw[hc];simp[h4]
  rw[hisw,Bool.false_and] at hnext ⊢
  rw[if_neg (by decide),List.append_nil] at hnext
  rw[hnext]
  refine (zaa H.cv (by show m1≤2000000;omega) _ (fun c' hc'=>?_)).mono ?_
  ·have hc2:z0a X.S ((i:Int)+1)=some c':=hc'
   rw[hc] at hc2;cases hc2;exact h4
  ·rintro e w' ⟨rfl,hb1⟩
   exact⟨m1,c1,rfl,by omega,H.same.later hb1⟩
def Ckl (B:Nat) (w0 w:World) (rh hb:Nat) (Z:Cx) (vf vq:Value) (fs qs:List Int) (X:Cm) (vr:Value) (j:Nat) (v:Value) (wr:World):Prop :=
 ∃ m' c',m'≤X.m+2*j∧RvO B w0 w rh hb Z vf vq { X with m:=m',c:=c',F:=clrF X.F (clrd X X.unr ((nums 0 X.S).take j)) } fs qs (fun k=>vr.ownBlock=some k∨v.ownBlock=some k) wr∧Ri wr B vr (nums 0 X.S)∧Ri wr B v (clrd X X.unr ((nums 0 X.S).take j))∧∀ k,vr.ownBlock=some k→v.ownBlock≠some k
theorem Ckl.next {aor ao:Option Addr}{capr n cap:Nat}(h:Ckl B w0 w rh hb Z vf vq fs qs X (.slice aor (nums 0 X.S).length capr) j (.slice ao n cap) wr) (hj:j<(nums 0 X.S).length) (hw:∀ r c,z0a X.S r=some c→c.kind=4→1≤c.n) (hm:X.m+2*(nums 0 X.S).length≤1999999):
  (wr.cell? ⟨rh,0,none⟩=some (.pointer (some ⟨hb,0,none⟩))∧rh<wr.heap.size)∧∃ (p:Nat) (r:Int),aor=some ⟨p,0,none⟩∧wr.cell? ⟨p,j,none⟩=some (.int .i64 r)∧Calls Tryz.prog 77 #[.pointer (some ⟨hb,0,none⟩),.int .i64 r] wr fun e w'=>∃ b,e=.returned (.bool b)∧(b=false→Ckl B w0 w rh hb Z vf vq fs qs X (.slice aor (nums 0 X.S).length capr) (j+1) (.slice ao n cap) w')∧(b=true→∃ ao' cap' w3,(appC #[32,32] 32 #[.slice ao n cap,.slice (some ⟨w'.heap.size,0,none⟩) 1 1]).run Tryz.prog (w'.alloc (.cells #[.int .i64 r] 3))=.ok (.slice ao' (n+1) cap') w3∧Ckl B w0 w rh hb Z vf vq fs qs X (.slice aor (nums 0 X.S).length capr) (j+1) (.slice ao' (n+1) cap') w3):=by
 obtain⟨m1,c1,hm1,⟨Z1,vf1,vq1,hS,b1,d1,n1⟩,hR,hV,hd⟩:=h
 have hrr:(nums 0 X.S)[j]?=some (nums 0 X.S)[j]:=List.getElem?_eq_getElem hj
 obtain⟨p,e,_,_,_,hcell⟩:=hR.cells (by omega)
 refine⟨⟨hS.rv.cells4.1.1,hS.rv.hlt⟩,p,_,e,hcell j _ hrr,(zfL hS.rv rfl hrr hw (by omega)).mono ?_⟩
 rintro e w' ⟨m',c',rfl,hm',hT⟩
 obtain⟨k1,k2⟩:=RvO.step hS b1 d1 n1 hT rfl
 have hR':Ri w' B (.slice aor (nums 0 X.S).length capr) (nums 0 X.S):=hR.of_block (fun k hk=>k2 k (.inl hk))
 have hV':Ri w' B (.slice ao n cap) (clrd X X.unr ((nums 0 X.S).take j)):=hV.of_block (fun k hk=>k2 k (.inr hk))
 have hnext:=z5N (X:=X) (u:=X.unr) hrr
 have hlen:(clrd X X.unr ((nums 0 X.S).take j)).length≤100000:=by
  have h1:(clrd X X.unr ((nums 0 X.S).take j)).length≤((nums 0 X.S).take j).length:=List.length_filter_le _ _
  rw[List.length_take] at h1
  have:=hS.rv.cv.fit
  have h3:=hS.rv.cv.lim.1.2
  have h4:sumS X.S≤X.W/4:=this
  have h5:X.W≤20000:=h3
  have h6:=z2L X.S
  have h7:=z1o 0 X.S
  omega
 have hn:n=(clrd X X.unr ((nums 0 X.S).take j)).length:=by
  obtain⟨ao2,cap2,q⟩:=hV.form
  simp at q;exact q.2.1
 refine⟨_,rfl,fun hf=>?_,fun ht=>?_⟩
 ·rw[hf,if_neg (by decide),List.append_nil] at hnext
  refine⟨m',c',by omega,k1,hR',by rw[hnext];exact hV',hd⟩
 ·rw[ht,if_pos rfl] at hnext
  obtain⟨ao1,cap1,ao',cap',w3,q0,hrun,hU3,hO3,hst,hat⟩:=k1.app hV' (fun k hk=>.inr hk) hlen ((nums 0 X.S)[j])
  rw[← hn] at q0 hrun hU3 hO3 hat
  simp at q0
  obtain⟨rfl,rfl⟩:=q0
  refine⟨ao',cap',w3,hrun,m',c',by omega,hO3.less (fun k hk=>hk.elim (fun q=>.inl (.inl q)) .inr),hR'.of_block (fun k hk=>hst k (.inl hk) (hd k hk)),by rw[hnext];exact hU3,fun k hk hq=>?_⟩
  rcases hat with z|⟨i,z1,z2⟩
  ·rw[z] at hq;exact hd k hk hq
  ·rw[z1] at hq
   have h1:=(hR'.lt hk).2
   simp at hq;omega
def zdR (B:Nat) (w0 w:World) (rh hb:Nat) (Z:Cx) (vf vq:Value) (fs qs:List Int) (X:Cm) (e:Ending) (w':World):Prop:=∃ v m' c',e=.returned v∧m'≤X.m+2*(nums 0 X.S).length∧RvO B w0 w rh hb Z vf vq { X with m:=m',c:=c',F:=clrF X.F (clrd X X.unr (nums 0 X.S)) } fs qs (fun k=>v.ownBlock=some k) w'∧Ri w' B v (clrd X X.unr (nums 0 X.S))
attribute [local go_sem ↓] z1I
theorem z9S (H:Rv B w0 w rh hb X Z vf vq fs qs) (hw:∀ r c,z0a X.S r=some c→c.kind=4→1≤c.n) (hm:X.m+2*(nums 0 X.S).length≤1999999):
  Calls Tryz.prog 39 #[.pointer (some ⟨rh,0,none⟩)] w (zdR B w0 w rh hb Z vf vq fs qs X):=by
 obtain⟨⟨c0,_⟩,hlt,_⟩:=H.cells4
 have HR:Hid (Calls Tryz.prog 47 #[.pointer (some ⟨hb,0,none⟩)] w fun e w1=>∃ ao cap,e=.returned (.slice ao (nums 0 X.S).length cap)∧Ckl B w0 w rh hb Z vf vq fs qs X (.slice ao (nums 0 X.S).length cap) 0 (.slice none 0 0) w1):=(z7w H.cv (by omega)).mono fun e w1 q=>by
  obtain⟨v,rfl,hv,hb1⟩:=q
  obtain⟨ao,cap,rfl⟩:=hv.form
  have e0:clrd X X.unr ((nums 0 X.S).take 0)=[]:=by simp[clrd]
  refine⟨ao,cap,rfl,X.m,X.c,by omega,?_,hv.lower H.cv.hv.size,by rw[e0];exact Ri.nil _ _,fun k _ q=>by simp[Value.ownBlock] at q⟩
  rw[e0,zcl]
  refine⟨Z,vf,vq,⟨H.below hb1,fun k hk=>?_⟩,Bt.of_below hb1,Wider.refl _ _,fun k hk=>?_⟩
  ·rcases hk with hk|hk
   ·exact⟨fun q=>by have:=H.own_lt q;have:=(hv.lt hk).1;omega,(hv.lt hk).2,Nat.le_trans H.cv.hv.size (hv.lt hk).1⟩
   ·simp[Value.ownBlock] at hk
  ·rcases hk with hk|hk
   ·exact (hv.lt hk).1
   ·simp[Value.ownBlock] at hk
 have hNl:(nums 0 X.S).length≤1000000:=by omega
 have HN:Hid (∀ aor capr ao n cap j wr,Ckl B w0 w rh hb Z vf vq fs qs X (.slice aor (nums 0 X.S).length capr) j (.slice ao n cap) wr→j<(nums 0 X.S).length→_):=fun aor capr ao n cap j wr h hj=>Ckl.next h hj hw hm
 have HE:Hid (∀ vr v wr,Ckl B w0 w rh hb Z vf vq fs qs X vr (nums 0 X.S).length v wr→∃ m' c',m'≤X.m+2*(nums 0 X.S).length∧RvO B w0 w rh hb Z vf vq { X with m:=m',c:=c',F:=clrF X.F (clrd X X.unr (nums 0 X.S)) } fs qs (fun k=>v.ownBlock=some k) wr∧Ri wr B v (clrd X X.unr (nums 0 X.S))):=fun vr v wr h=>by
  obtain⟨m',c',h1,h2,_,h3,_⟩:=h
  rw[List.take_length] at h2 h3
  exact⟨m',c',h1,h2.less (fun k hk=>.inr hk),h3⟩
 have hR:=HR.out
 clear HR H hw hm
 generalize hN:(nums 0 X.S).length=N at *
 have HNN:Hid ((nums 0 X.S).length=N):=hN
 clear hN
 go_enter Tryz.func39,Tryz.ntmps39
 go_wp2_with (go_at_call 47;refine hR.mono ?_;rintro e w1 ⟨aor,capr,rfl,h0⟩;have H0:Hid (Ckl B w0 w rh hb Z vf vq fs qs X (.slice aor N capr) 0 (.slice none 0 0) w1):=h0;clear hR h0)
 go_loopg [3,5,12] (N+1) (fun kx s3 s5 s12 wr=>∃ (i:Nat) (ao:Option Addr) (n cap:Nat),s3=.slice ao n cap∧s12=.int .i64 i∧i≤N∧N-i≤kx∧Hid (Ckl B w0 w rh hb Z vf vq fs qs X (.slice aor N capr) i (.slice ao n cap) wr))
 case atStart=>exact⟨0,none,0,0,rfl,rfl,by omega,by omega,H0⟩
 case round =>
  clear H0
  obtain⟨i,ao,n,cap,rfl,rfl,hi,hk,HI⟩:=hrel
  by_cases hlt2:i<N
  ·have hl:(i:Int)<(N:Int):=by omega
   obtain⟨⟨k1,k2⟩,p,r,rfl,k3,hC⟩:=HN.out aor capr ao n cap i wr HI.out hlt2
   clear HI
   go_wp2_with fail
   refine hC.mono ?_
   rintro e w2 ⟨b,rfl,hF,hT⟩
   cases b with
   | false =>
    have HF:Hid _:=hF rfl
    clear hF hT hC
    go_wp2
    go_roundg (N-(i+1))
    case measure=>omega
    case rel=>exact⟨i+1,ao,n,cap,rfl,by go_num,by omega,by omega,HF⟩
   | true =>
    obtain⟨ao',cap',w3,hrun,h3⟩:=hT rfl
    have H3:Hid _:=h3
    clear hF hT hC h3
    go_wp2
    go_roundg (N-(i+1))
    case measure=>omega
    case rel=>exact⟨i+1,ao',n+1,cap',rfl,by go_num,by omega,by omega,H3⟩
  ·obtain rfl:i=N:=by omega
   have hl:¬ (i:Int)<(i:Int):=by omega
   go_wp2
   go_ret
   obtain⟨m',c',q⟩:=HE.out _ _ _ HI.out
   exact⟨.slice ao n cap,m',c',rfl,by rw[HNN.out];exact q.1,q.2⟩
end
end Go.Proofs.YthkelaeemefnaaaGreat
namespace Go.Proofs.YthkelaeemefnaaaGreat
open Go.RowKit
section
variable {B:Nat}{w0 w wr w':World}{rh hb:Nat}{X:Cm}{Z:Cx}{vf vq v:Value}{fs qs:List Int}{j:Nat}{r:Int}
structure Tkl (w wr:World) (D L:List Int) (d l:Value):Prop where
 bel:Below w.heap.size w wr
 dead:Ri wr w.heap.size d D
 left:Ri wr w.heap.size l L
 dis:∀ k,d.ownBlock=some k→l.ownBlock≠some k
theorem Tkl.app {D L:List Int}{ao:Option Addr}{n cap:Nat}{l:Value}(h:Tkl w wr D L (.slice ao n cap) l) (hD:D.length≤100000) (x:Int):∃ ao' cap' w3,(appC #[32,32] 32 #[.slice ao n cap,.slice (some ⟨wr.heap.size,0,none⟩) 1 1]).run Tryz.prog (wr.alloc (.cells #[.int .i64 x] 3))=.ok (.slice ao' (n+1) cap') w3∧Tkl w w3 (D++[x]) L (.slice ao' (n+1) cap') l:=by
 have hs:=h.bel.size
 have hn:n=D.length:=by
  obtain⟨ao2,cap2,q⟩:=h.dead.form
  simp at q;exact q.2.1
 subst hn
 obtain⟨ao',cap',w3,hrun,hU3,hg,hat⟩:=h.dead.more x hs hD (heap_alloc_new wr (.cells #[.int .i64 x] 3)) ((Below.refl _ _).alloc (Nat.le_refl _) _)
 refine⟨ao',cap',w3,hrun,⟨hg.os.trans h.bel.os,hg.tape.trans h.bel.tape,hg.output.trans h.bel.output,Nat.le_trans hs hg.size,fun k hk=>(hg.block k (by omega) (fun z=>by have:=(h.dead.lt z.symm).1;omega)).trans (h.bel.block k hk)⟩,hU3,h.left.of_block (fun k hk=>hg.block k (h.left.lt hk).2 (fun z=>h.dis k z.symm hk)),fun k hk hq=>?_⟩
 rcases hat with z|⟨i,z1,z2⟩
 ·rw[z] at hk;exact h.dis k hk hq
 ·rw[z1] at hk
  have:=(h.left.lt hq).2
  simp at hk;omega
theorem Tkl.swap {D L:List Int}{d l:Value}(h:Tkl w wr D L d l):Tkl w wr L D l d:=⟨h.bel,h.left,h.dead,fun k hk hq=>h.dis k hq hk⟩
theorem z5U {u:Int→Bool}{U:List Int}(hr:U[j]?=some r):(U.take (j+1)).filter u=(U.take j).filter u++(if u r=true then [r] else []):=by
 rw[List.take_add_one,hr,List.filter_append]
 simp only[Option.toList_some,List.filter_cons,List.filter_nil]
def z6K (B:Nat) (w0 w:World) (rh hb:Nat) (Z:Cx) (vf vq:Value) (fs qs:List Int) (X:Cm) (e:Ending) (w':World):Prop :=
 ∃ v,e=.returned v∧RvO B w0 w rh hb Z vf vq X (fs.filter fun r=>!X.unr r) qs (fun k=>v.ownBlock=some k) w'∧Ri w' B v (fs.filter X.unr)
attribute [local go_sem ↓] z1I
theorem zcn (H:Rv B w0 w rh hb X Z vf vq fs qs):Calls Tryz.prog 40 #[.pointer (some ⟨rh,0,none⟩)] w (z6K B w0 w rh hb Z vf vq fs qs X):=by
 obtain⟨⟨c0,_,c2,_⟩,hlt,_⟩:=H.cells4
 obtain⟨aof,capf,hvf⟩:=H.fin.form
 rw[hvf] at c2
 have hfew:=H.few.1
 have HN:Hid (∀ (i:Nat) (d l:Value) wr,Tkl w wr ((fs.take i).filter X.unr) ((fs.take i).filter fun r=>!X.unr r) d l→i<fs.length→(wr.cell? ⟨rh,0,none⟩=some (.pointer (some ⟨hb,0,none⟩))∧rh<wr.heap.size)∧∃ (p:Nat) (r:Int) (b:Bool),aof=some ⟨p,0,none⟩∧wr.cell? ⟨p,i,none⟩=some (.int .i64 r)∧(Calls Tryz.prog 78 #[.pointer (some ⟨hb,0,none⟩),.int .i64 r] wr fun e w'=>e=.returned (.bool b)∧w'=wr)∧(b=true→∀ ao n cap,d=.slice ao n cap→∃ ao' cap' w3,(appC #[32,32] 32 #[.slice ao n cap,.slice (some ⟨wr.heap.size,0,none⟩) 1 1]).run Tryz.prog (wr.alloc (.cells #[.int .i64 r] 3))=.ok (.slice ao' (n+1) cap') w3∧Tkl w w3 ((fs.take (i+1)).filter X.unr) ((fs.take (i+1)).filter fun r=>!X.unr r) (.slice ao' (n+1) cap') l)∧(b=false→∀ ao n cap,l=.slice ao n cap→∃ ao' cap' w3,(appC #[32,32] 32 #[.slice ao n cap,.slice (some ⟨wr.heap.size,0,none⟩) 1 1]).run Tryz.prog (wr.alloc (.cells #[.int .i64 r] 3))=.ok (.slice ao' (n+1) cap') w3∧Tkl w w3 ((fs.take (i+1)).filter X.unr) ((fs.take (i+1)).filter fun r=>!X.unr r) d (.slice ao' (n+1) cap'))):=fun i d l wr h hi=>by
  have H1:=H.below h.bel
  have hrr:fs[i]?=some fs[i]:=List.getElem?_eq_getElem hi
  have hF:=H1.fin
  rw[hvf] at hF
  obtain⟨p,e,_,_,_,hcell⟩:=hF.cells (by omega)
  have e1:=z5U (u:=X.unr) hrr
  have e2:=z5U (u:=fun r=>!X.unr r) hrr
  have l1:∀ u:Int→Bool,((fs.take i).filter u).length≤100000:=fun u=>by
   have h1:=List.length_filter_le u (fs.take i)
   rw[List.length_take] at h1;omega
  refine⟨⟨H1.cells4.1.1,H1.hlt⟩,p,fs[i],X.unr fs[i],e,hcell i _ hrr,zaU H1.cv _,fun hb=>?_,fun hb=>?_⟩
  ·rintro ao n cap rfl
   rw[hb,if_pos rfl] at e1
   simp only[hb,Bool.not_true,if_neg (show ¬ (false=true) by decide),List.append_nil] at e2
   obtain⟨ao',cap',w3,q1,q2⟩:=h.app (l1 _) fs[i]
   exact⟨ao',cap',w3,q1,by rw[e1,e2];exact q2⟩
  ·rintro ao n cap rfl
   rw[hb,if_neg (by decide),List.append_nil] at e1
   simp only[hb,Bool.not_false,if_true] at e2
   obtain⟨ao',cap',w3,q1,q2⟩:=h.swap.app (l1 _) fs[i]
   exact⟨ao',cap',w3,q1,by rw[e1,e2];exact q2.swap⟩
 have HE:Hid (∀ (d l:Value) wr,Tkl w wr ((fs.take fs.length).filter X.unr) ((fs.take fs.length).filter fun r=>!X.unr r) d l→((∃ u,wr.cell? ⟨rh,2,none⟩=some u)∧rh<wr.heap.size∧wr.frozen? ⟨rh,2,none⟩=false)∧z6K B w0 w rh hb Z vf vq fs qs X (.returned d) (wr.setCell ⟨rh,2,none⟩ l)):=fun d l wr h=>by
  rw[List.take_length] at h
  have H1:=H.below h.bel
  have hl4:(fs.filter fun r=>!X.unr r).length≤4000:=Nat.le_trans (List.length_filter_le _ _) hfew
  obtain⟨k1,k2,k3⟩:=H.setf0 (w1:=wr) ((Bt.of_below h.bel).mono (fun _ _ q=>q)) (h.left.lower H.cv.hv.size) hl4 (.inr (fun k hk=>(h.left.lt hk).1))
  refine⟨⟨⟨_,H1.cells4.1.2.2.1⟩,H1.hlt,H1.cells4.2.2 2⟩,d,rfl,⟨Z,l,vq,⟨k1,fun k hk=>⟨fun q=>?_,?_,Nat.le_trans H.cv.hv.size (h.dead.lt hk).1⟩⟩,k2,k3,fun k hk=>(h.dead.lt hk).1⟩,(h.dead.lower H.cv.hv.size).of_block (fun k hk=>z03 _ _ (fun q=>?_))⟩
  ·have hk1:=(h.dead.lt hk).1
   rcases q with q|q|q|q
   ·have:=H.cv.all_lt q;omega
   ·have:=H.hlt;omega
   ·exact h.dis k hk q
   ·have:=(H.que.lt q).2;omega
  ·have:(wr.setCell ⟨rh,2,none⟩ l).heap.size=wr.heap.size:=by simp[World.setCell]
   rw[this];exact (h.dead.lt hk).2
  ·have:=(h.dead.lt hk).1
   have:=H.hlt
   have:k=rh:=q
   omega
 have H0:Hid (Tkl w w ((fs.take 0).filter X.unr) ((fs.take 0).filter fun r=>!X.unr r) (.slice none 0 0) (.slice none 0 0)):=⟨Below.refl _ _,by simpa using Ri.nil w w.heap.size,by simpa using Ri.nil w w.heap.size,fun k hk=>by simp[Value.ownBlock] at hk⟩
 clear H hvf
 generalize hN:fs.length=N at *
 clear hN
 go_enter Tryz.func40,Tryz.ntmps40
 go_wp2
 go_loopg [3,4,6,12] (N+1) (fun kx s3 s4 s6 s12 wr=>∃ (i:Nat) (ao:Option Addr) (n cap:Nat) (ao2:Option Addr) (n2 cap2:Nat),s3=.slice ao n cap∧s4=.slice ao2 n2 cap2∧s12=.int .i64 i∧i≤N∧N-i≤kx∧Hid (Tkl w wr ((fs.take i).filter X.unr) ((fs.take i).filter fun r=>!X.unr r) (.slice ao n cap) (.slice ao2 n2 cap2)))
 case atStart=>exact⟨0,none,0,0,none,0,0,rfl,rfl,rfl,by omega,by omega,H0⟩
 case round =>
  clear H0
  obtain⟨i,ao,n,cap,ao2,n2,cap2,rfl,rfl,rfl,hi,hk,HI⟩:=hrel
  by_cases hlt2:i<N
  ·have hl:(i:Int)<(N:Int):=by omega
   obtain⟨⟨k1,k2⟩,p,r,b,rfl,k3,hC,hT,hF⟩:=HN.out i _ _ wr HI.out hlt2
   clear HI
   cases b with
   | true =>
    obtain⟨ao',cap',w3,hrun,h3⟩:=hT rfl ao n cap rfl
    have H3:Hid _:=h3
    clear hF hT h3
    go_wp2_with (go_at_call 78;refine hC.mono ?_;rintro e w9 ⟨rfl,hw9⟩;replace hw9:=hw9.symm;subst hw9)
    go_roundg (N-(i+1))
    case measure=>omega
    case rel=>exact⟨i+1,ao',n+1,cap',ao2,n2,cap2,rfl,rfl,by go_num,by omega,by omega,H3⟩
   | false =>
    obtain⟨ao',cap',w3,hrun,h3⟩:=hF rfl ao2 n2 cap2 rfl
    have H3:Hid _:=h3
    clear hF hT h3
    go_wp2_with (go_at_call 78;refine hC.mono ?_;rintro e w9 ⟨rfl,hw9⟩;replace hw9:=hw9.symm;subst hw9)
    go_roundg (N-(i+1))
    case measure=>omega
    case rel=>exact⟨i+1,ao,n,cap,ao',n2+1,cap',rfl,rfl,by go_num,by omega,by omega,H3⟩
  ·obtain rfl:i=N:=by omega
   have hl:¬ (i:Int)<(i:Int):=by omega
   obtain⟨⟨⟨u1,k1⟩,k2,k3⟩,hP⟩:=HE.out _ _ _ HI.out
   have HP:Hid (z6K B w0 w rh hb Z vf vq fs qs X (.returned (.slice ao n cap)) (wr.setCell ⟨rh,2,none⟩ (.slice ao2 n2 cap2))):=hP
   clear hP HI
   go_wp2
   go_ret
   exact HP.out
end
end Go.Proofs.YthkelaeemefnaaaGreat
namespace Go.Proofs.YthkelaeemefnaaaGreat
open Go.RowKit
section
variable {B C:Nat}{w0 w wr w' w1 w2:World}{rh hb:Nat}{X X1 X2:Cm}{Z Z1:Cx}{vf vq v v2 vf1 vq1:Value}{fs qs fs1 qs1 fs2 qs2 U L:List Int}{O O0:Nat→Prop}
theorem ze5 {ao:Option Addr}{n cap:Nat}(h:n≤cap) (w:World):(appC #[32,32] 32 #[.slice ao n cap,.slice none 0 0]).run Tryz.prog w=.ok (.slice ao n cap) w:=by
 obtain⟨i0,hi0,hzz⟩:=Option.map_eq_some_iff.1 z8C
 unfold appC
 cases ao with
 | none=>simp[Builtin.append_,run_underlying Tryz.underlying32,sizeOf,typeInfo,hi0,Builtin.lenOf,h,run_firstCells_none]
 | some a=>simp[Builtin.append_,run_underlying Tryz.underlying32,sizeOf,typeInfo,hi0,Builtin.lenOf,h,run_firstCells_none,storeCells]
theorem Ri.adds (h:Ri w B v U) (hB:B≤w.heap.size) (h2:Ri w C v2 L) (hl:U.length+L.length≤10000):∃ ao cap w',(appC #[32,32] 32 #[v,v2]).run Tryz.prog w=.ok (.slice ao (U.length+L.length) cap) w'∧Ri w' B (.slice ao (U.length+L.length) cap) (U++L)∧w.grownBy w' v.ownBlock∧((Value.slice ao (U.length+L.length) cap).ownBlock=v.ownBlock∨∃ j,(Value.slice ao (U.length+L.length) cap).ownBlock=some j∧w.heap.size≤j):=by
 obtain⟨ao2,cap2,rfl⟩:=h2.form
 cases ao2 with
 | none =>
  have hL:L=[]:=by
   cases L with
   | nil=>rfl
   | cons a r=>obtain⟨p,e,_⟩:=h2.cells (by simp);simp at e
  subst hL
  obtain⟨ao,cap,rfl⟩:=h.form
  have hc:U.length≤cap:=by
   cases U with
   | nil=>simp
   | cons a r=>obtain⟨p,e,_,q,_⟩:=h.cells (by simp);exact q.1
  have hz:cap2=0:=by
   rcases h2.2 with ⟨e,_⟩|⟨g,cap',cur,e,_⟩
   ·simp at e;exact e
   ·simp at e
  subst hz
  rw[List.append_nil]
  exact⟨ao,cap,w,ze5 hc w,h,⟨rfl,rfl,rfl,Nat.le_refl _,fun _ _ _=>rfl⟩,.inl rfl⟩
 | some a =>
  obtain⟨i0,hi0,hzz⟩:=Option.map_eq_some_iff.1 z8C
  simp only[Prod.mk.injEq] at hzz
  obtain⟨hz0,hz1,hz2⟩:=hzz
  have hnew:∀ j u,(L.map fun u=>Value.int .i64 u)[j]?=some u→w.cell? (a.add j)=some u:=by
   intro j u hu
   rw[List.getElem?_map] at hu
   obtain⟨x,hx,rfl⟩:=Option.map_eq_some_iff.1 hu
   obtain⟨p,e,_,_,_,k⟩:=h2.cells (by have:=(List.getElem?_eq_some_iff.1 hx).1;omega)
   simp at e;subst e
   rw[z1D,Nat.zero_add]
   exact k j x hx
  obtain⟨v',w',hrun,hown,hg,_,hat⟩:=run_append_own_at (P:=Tryz.prog) w B 32 32 3 i0 _ 1 8 Tryz.underlying32 hi0 hz0 hz1 hz2 rfl (by decide) v U.length _ h a L.length cap2 (L.map fun u=>Value.int .i64 u) (by simp) hnew (by
   intro u hu
   obtain⟨x,_,rfl⟩:=List.mem_map.1 hu
   simp[Value.oneCell']) (by unfold maxLen;omega) (by omega) hB
  have hR:Ri w' B v' (U++L):=by unfold Ri;rw[List.map_append,List.length_append];exact hown
  obtain⟨ao,cap,e⟩:=hR.form
  rw[List.length_append] at e
  subst e
  exact⟨ao,cap,w',hrun,hR,hg,hat.imp id (fun q=>⟨_,q,Nat.le_refl _⟩)⟩
attribute [local go_sem ↓] z1I
theorem zdJ (H:Rv B w0 w rh hb X Z vf vq fs qs) (h2:Ri w C v2 L) (hl:qs.length+L.length≤4000):Calls Tryz.prog 41 #[.pointer (some ⟨rh,3,none⟩),v2] w fun e w'=>e=.returned (.tuple #[])∧RvT B w0 w rh hb Z vf vq X fs (qs++L) w':=by
 obtain⟨⟨_,_,_,c3⟩,hlt,_⟩:=H.cells4
 obtain⟨ao,cap,w3,hrun,hU,hg,hat⟩:=H.que.adds H.cv.hv.size h2 (by omega)
 have hB:Bt (fun k=>vq.ownBlock=some k) w w3:=⟨hg.os,hg.tape,hg.output,hg.size,fun k hk q=>hg.block k hk (fun z=>q z.symm)⟩
 have hh:=(hB.block rh H.hlt H.ne_rh.2).trans H.here
 have HT:Hid (RvT B w0 w rh hb Z vf vq X fs (qs++L) (w3.setCell ⟨rh,3,none⟩ (.slice ao (qs.length+L.length) cap))):=H.setq hB hU (by rw[List.length_append];omega) (by
  rcases hat with q|⟨j,q1,q2⟩
  ·exact .inl q
  ·exact .inr (fun k hk=>by rw[q1] at hk;simp at hk;omega))
 have k1:w3.cell? ⟨rh,3,none⟩=some vq:=by simp[World.cell?,hh]
 have k2:rh<w3.heap.size:=z02 hh
 have k3:w3.frozen? ⟨rh,3,none⟩=false:=frz hh 3
 obtain⟨aoq,capq,e1⟩:=H.que.form
 obtain⟨ao2,cap2,e2⟩:=h2.form
 rw[e1] at c3 hrun k1
 rw[e2] at hrun ⊢
 generalize qs.length+L.length=nn at *
 generalize qs.length=nq at *
 generalize L.length=nl at *
 clear H h2 hU hg hat hB hh e1 e2
 go_enter Tryz.func41,Tryz.ntmps41
 go_wp2
 go_end0
 exact⟨rfl,HT.out⟩
theorem z5B (eS:X2.S=X.S) (eF:X2.F=X.F) (u:Int→Bool) (U:List Int):clrd X2 u U=clrd X u U:=by
 unfold clrd isw wd
 rw[eS,eF]
theorem RvO.then (h2:Bt (Rown rh hb X1.T Z vf vq) w w1) (h3:Wider (Rown rh hb X1.T Z vf vq) (Rown rh hb X1.T Z1 vf1 vq1) w) (h:RvO B w0 w1 rh hb Z1 vf1 vq1 X1 fs qs O w'):RvO B w0 w rh hb Z vf vq X1 fs qs O w':=by
 obtain⟨Z',vf',vq',k1,k2,k3,k4⟩:=h
 exact⟨Z',vf',vq',k1,h2.wide k2 h3,h3.trans k3 h2.size,fun k hk=>Nat.le_trans h2.size (k4 k hk)⟩
theorem RvO.stepO (hS:Sr B w0 w1 rh hb X1 Z1 vf1 vq1 fs1 qs1 O) (b:Bt (Rown rh hb X1.T Z vf vq) w w1) (d:Wider (Rown rh hb X1.T Z vf vq) (Rown rh hb X1.T Z1 vf1 vq1) w) (n:∀ k,O k→w.heap.size≤k) (hT:RvO B w0 w1 rh hb Z1 vf1 vq1 X2 fs2 qs2 O0 w2) (e:X2.T=X1.T):RvO B w0 w rh hb Z vf vq X2 fs2 qs2 (fun k=>O k∨O0 k) w2∧∀ k,O k→w2.heap[k]?=w1.heap[k]?:=by
 obtain⟨Z3,vf3,vq3,j1,j2,j3,j4⟩:=hT
 have hout:∀ k,O k→¬ Rown rh hb X2.T Z3 vf3 vq3 k:=fun k hk r=>by
  rcases j3 k r with q|q
  ·rw[e] at q;exact (hS.out k hk).1 q
  ·have:=(hS.out k hk).2.1;omega
 have st:∀ k,O k→w2.heap[k]?=w1.heap[k]?:=fun k hk=>j2.block k (hS.out k hk).2.1 (by rw[e];exact (hS.out k hk).1)
 rw[← e] at b d
 refine⟨⟨Z3,vf3,vq3,⟨j1.rv,fun k hk=>?_⟩,b.wide j2 d,d.trans j3 b.size,fun k hk=>?_⟩,st⟩
 ·rcases hk with q|q
  ·exact⟨hout k q,Nat.lt_of_lt_of_le (hS.out k q).2.1 j2.size,(hS.out k q).2.2⟩
  ·exact j1.out k q
 ·rcases hk with q|q
  ·exact n k q
  ·exact Nat.le_trans b.size (j4 k q)
def zd9 (B:Nat) (w0 w:World) (rh hb:Nat) (Z:Cx) (vf vq:Value) (fs qs:List Int) (X:Cm) (e:Ending) (w':World):Prop :=
 ∃ X' u1 u2 vc vd,e=.returned (.tuple #[vc,vd,.int .i64 0])∧Cyd X X' fs qs u1 u2∧RvO B w0 w rh hb Z vf vq X' (fs.filter fun r=>!u1 r) (qs++fs.filter u1) (fun k=>vc.ownBlock=some k∨vd.ownBlock=some k) w'∧Ri w' B vc (clrd X u1 (nums 0 X.S))∧Ri w' B vd (fs.filter u1)∧∀ k,vc.ownBlock=some k→vd.ownBlock≠some k
theorem z6r (H:Rv B w0 w rh hb X Z vf vq fs qs) (hq:Rq X fs qs) (hm:X.m+500*cntS X.S+3*sumS X.S≤1999999) (hc:0≤X.cy∧X.cy≤999999) (hl:fs.length+qs.length≤4000):
  Calls Tryz.prog 36 #[.pointer (some ⟨rh,0,none⟩)] w fun e w1=>e=.returned (.tuple #[]) ∧
  Calls Tryz.prog 38 #[.pointer (some ⟨rh,3,none⟩)] w1 fun e w2=>∃ b1:Nat,e=.returned (.func (.func 79) #[] #[.pointer (some ⟨b1,0,none⟩)]) ∧
  Calls Tryz.prog 37 #[.pointer (some ⟨rh,0,none⟩),.func (.func 79) #[] #[.pointer (some ⟨b1,0,none⟩)]] w2 fun e w3=>e=.returned (.tuple #[]) ∧
  Calls Tryz.prog 39 #[.pointer (some ⟨rh,0,none⟩)] w3 fun e w4=>∃ aoc nc cc,e=.returned (.slice aoc nc cc) ∧
  Calls Tryz.prog 40 #[.pointer (some ⟨rh,0,none⟩)] w4 fun e w5=>∃ aod nd cd,e=.returned (.slice aod nd cd) ∧
  Calls Tryz.prog 41 #[.pointer (some ⟨rh,3,none⟩),.slice aod nd cd] w5 fun e w6=>e=.returned (.tuple #[]) ∧
  Calls Tryz.prog 42 #[.slice aod nd cd] w6 fun e w7=>∃ b2:Nat,e=.returned (.func (.func 79) #[] #[.pointer (some ⟨b2,0,none⟩)]) ∧
  Calls Tryz.prog 37 #[.pointer (some ⟨rh,0,none⟩),.func (.func 79) #[] #[.pointer (some ⟨b2,0,none⟩)]] w7 fun e w8=>e=.returned (.tuple #[]) ∧
  Calls Tryz.prog 43 #[.pointer (some ⟨rh,0,none⟩)] w8 fun e w9=>e=.returned (.tuple #[])∧zd9 B w0 w rh hb Z vf vq fs qs X (.returned (.tuple #[.slice aoc nc cc,.slice aod nd cd,.int .i64 0])) w9:=by
 have hnl:(nums 0 X.S).length=cntS X.S:=z1o 0 X.S
 have hcs:=z2L X.S
 refine (z9O H (by omega) hq.ph hq.all).mono ?_
 rintro e w1 ⟨rfl,r0,hT1⟩
 refine⟨rfl,?_⟩
 obtain⟨hM1,hm1,hmu1,hbg⟩:=zam hq 1 r0 rfl
 generalize ansN { X with A:=fun _=>false,x:=1,r:=r0,tr:=X.tr.begun X.S,ph:=1 } X.T=X1 at *
 obtain⟨Z1,vf1,vq1,H1,b1,d1⟩:=hT1
 obtain⟨aoq,capq,eq1⟩:=H1.que.form
 refine (ze0 (ao:=aoq) (n:=qs.length) (cap:=capq) (by rw[H1.cells4.1.2.2.2,eq1])).mono ?_
 rintro e w2 ⟨rfl,hw2⟩
 refine⟨w1.heap.size,rfl,?_⟩
 have bb2:Below w1.heap.size w1 w2:=by rw[hw2];exact (Below.refl _ _).alloc (Nat.le_refl _) _
 have H2:=H1.below bb2
 have hbox2:w2.heap[w1.heap.size]?=some (.cells #[vq1] 32 (0,0)):=by rw[hw2,eq1];exact heap_alloc_new _ _
 have hK1:∀ x∈qs,x∈X1.tr.row∧RchQ X qs x:=fun x hx=>⟨by rw[hbg.row];exact hq.que x hx,RchQ.from hx (z2r (hq.que x hx))⟩
 refine (z7Y H2.cv hM1 (by omega) (by rw[hbg.cy];omega) (rh:=rh) (b1:=w1.heap.size) (C:=B) (v:=vq1) ⟨⟨_,_,_,H2.here⟩,hbox2,H2.que,H2.off.1,fun q=>by have:=H1.cv.all_lt q;omega,H2.off.2.2⟩ hK1 (by have:=H2.few.2;omega)).mono ?_
 rintro e w3 ⟨rfl,X2,hM2,hp2,_,hqm,hT2,hcc3⟩
 refine⟨rfl,?_⟩
 have hT3:=RvT.after bb2 (H2.heapT hcc3 hT2)
 rw[← hT2] at b1 d1
 obtain⟨Z3,vf3,vq3,H3,b3,d3⟩:=RvT.then b1 d1 hT3
 have eS2:X2.S=X.S:=hM2.sm.S.trans hbg.S
 have eF2:X2.F=X.F:=hM2.sm.F.trans hbg.F
 have hc2:=hM2.cost
 refine (z9S H3 (by rw[eS2];exact hq.weak) (by rw[eS2];omega)).mono ?_
 rintro e w4 ⟨vc,m3,c3,rfl,hm3,hO4,hvc4⟩
 rw[eS2,z5B eS2 eF2] at hvc4
 rw[eS2] at hm3
 have hO4':=RvO.then (X1:={ X2 with m:=m3,c:=c3,F:=clrF X2.F (clrd X2 X2.unr (nums 0 X2.S)) }) b3 d3 hO4
 obtain⟨X3,hX3⟩:∃ X3:Cm,X3={ X2 with m:=m3,c:=c3,F:=clrF X.F (clrd X X2.unr (nums 0 X.S)) }:=⟨_,rfl⟩
 have hX3':({ X2 with m:=m3,c:=c3,F:=clrF X2.F (clrd X2 X2.unr (nums 0 X2.S)) }:Cm)=X3:=by rw[hX3,z5B eS2 eF2,eF2];simp only[eS2]
 rw[hX3'] at hO4'
 have hT3':X3.T=X2.T:=by rw[hX3]
 have hu3:X3.unr=X2.unr:=by rw[hX3];rfl
 have hm3':X3.m=m3:=by rw[hX3]
 obtain⟨aoc,cc,evc⟩:=hvc4.form
 refine⟨aoc,_,cc,by rw[evc],?_⟩
 obtain⟨Z4,vf4,vq4,S4,b4,d4,n4⟩:=hO4'
 refine (zcn S4.rv).mono ?_
 rintro e w5 ⟨vd,rfl,hO5,hvd5⟩
 rw[hu3] at hO5 hvd5
 obtain⟨aod,cd,evd⟩:=hvd5.form
 refine⟨aod,_,cd,by rw[evd],?_⟩
 rw[← evd]
 have hdis:∀ k,vc.ownBlock=some k→vd.ownBlock≠some k:=fun k hk q=>by
  obtain⟨_,_,_,_,_,_,n9⟩:=hO5
  have:=n9 k q
  have:=(hvc4.lt hk).2
  omega
 obtain⟨hO5',st5⟩:=RvO.stepO S4 b4 d4 n4 hO5 rfl
 have hvc5:Ri w5 B vc (clrd X X2.unr (nums 0 X.S)):=hvc4.of_block st5
 obtain⟨Z5,vf5,vq5,S5,b5,d5,n5⟩:=hO5'
 have hfl:(fs.filter X2.unr).length≤fs.length:=List.length_filter_le _ _
 refine (zdJ S5.rv hvd5 (by omega)).mono ?_
 rintro e w6 ⟨rfl,hT6⟩
 refine⟨rfl,?_⟩
 obtain⟨hO6,st6⟩:=RvO.step S5 b5 d5 n5 hT6 rfl
 have hvc6:Ri w6 B vc _:=hvc5.of_block (fun k hk=>st6 k (.inl hk))
 have hvd6:Ri w6 B vd _:=hvd5.of_block (fun k hk=>st6 k (.inr hk))
 obtain⟨Z6,vf6,vq6,S6,b6,d6,n6⟩:=hO6
 rw[evd]
 refine (z9N aod _ cd w6).mono ?_
 rintro e w7 ⟨rfl,hw7⟩
 refine⟨w6.heap.size,rfl,?_⟩
 rw[← evd] at hw7
 have bb7:Below w6.heap.size w6 w7:=by rw[hw7];exact (Below.refl _ _).alloc (Nat.le_refl _) _
 obtain⟨S7,st7⟩:=S6.below bb7
 have hbox7:w7.heap[w6.heap.size]?=some (.cells #[vd] 32 (0,0)):=by rw[hw7];exact heap_alloc_new _ _
 have hV:∀ r∈fs.filter X2.unr,r∈nums 0 X.S:=fun r hr=>hq.fin r (List.mem_filter.1 hr).1
 obtain⟨hM3,hmu3⟩:=zdk hq hV hbg hM2 hp2 zav hX3
 have er3:X3.tr.row=nums 0 X.S:=by rw[hX3];exact hM2.sm.row.trans hbg.row
 have ecy3:X3.cy=X.cy:=by rw[hX3];exact hM2.sm.cy.trans hbg.cy
 have hK2:∀ x∈fs.filter X2.unr,x∈X3.tr.row∧RchQ X (qs++fs.filter X2.unr) x:=fun x hx=>⟨by rw[er3];exact hV x hx,RchQ.from (List.mem_append_right _ hx) (z2r (hV x hx))⟩
 refine (z7Y S7.rv.cv hM3 (by omega) (by omega) (rh:=rh) (b1:=w6.heap.size) (C:=B) (v:=vd) ⟨⟨_,_,_,S7.rv.here⟩,hbox7,hvd6.of_block (fun k hk=>st7 k (.inr hk)),S7.rv.off.1,fun q=>by have:=S6.rv.cv.all_lt q;omega,fun k hk q=>(S6.out k (.inr hk)).1 (.inl q)⟩ hK2 (by have:=H.few.1;omega)).mono ?_
 rintro e w8 ⟨rfl,X4,hM4,hp4,hmk4,hqm4,hT4,hcc8⟩
 refine⟨rfl,?_⟩
 have hT8:=RvT.after bb7 (S7.rv.heapT hcc8 hT4)
 obtain⟨hO8,st8⟩:=RvO.step S6 b6 d6 n6 hT8 hT4
 have hvc8:Ri w8 B vc _:=hvc6.of_block (fun k hk=>st8 k (.inl hk))
 have hvd8:Ri w8 B vd _:=hvd6.of_block (fun k hk=>st8 k (.inr hk))
 obtain⟨Z8,vf8,vq8,S8,b8,d8,n8⟩:=hO8
 have hc4:=hM4.cost
 have er4:X4.tr.row=nums 0 X.S:=hM4.sm.row.trans er3
 have eS4:X4.S=X.S:=hM4.sm.S.trans (by rw[hX3];exact eS2)
 have eT4:X4.T=X.T:=hT4.trans (hT3'.trans (hT2.trans hbg.T))
 obtain⟨hq4,hl4⟩:X4.tr.q=[]∧¬ X4.tr.ln<X4.tr.lw:=hM4.st.elim (fun q=>by omega) (fun q=>q.2)
 have hsw4:X4.tr.sw=0:=by
  rw[hM4.sm.sw,hX3]
  exact hM2.sm.sw.trans hbg.sw
 have hmkd:∀ x∈qs++fs.filter X2.unr,x≠0→Mkd X4.tr x:=fun x hx _=>by
  rcases List.mem_append.1 hx with q|q
  ·exact hmk4 x (by rw[hX3];exact hqm x q)
  ·exact hqm4 x q
 have hkn4:=hM4.known eT4 eS4 hp4 hmkd
 have hSw:Swp (RchQ X (qs++fs.filter X2.unr)) X4 X4:=.inl ⟨rfl,hp4,hsw4,hM4.all,hl4,hkn4,by rw[hsw4,eS4,er4];simp[kept],by omega⟩
 have hcnt4:cntS X4.S=cntS X.S:=by rw[eS4]
 have hV2:∀ r∈qs++fs.filter X2.unr,r∈nums 0 X.S:=fun r hr=>(List.mem_append.1 hr).elim (hq.que r) (hV r)
 refine (zb0 S8.rv (by rw[er4];exact z0r 0 X.S) (fun r hr=>by rw[er4];exact hq.k_there hV2 hr) hSw hp4 (by omega) (by rw[hM4.sm.cy,ecy3];exact hc)).mono ?_
 rintro e w9 ⟨rfl,X5,hs5,hp5,hT9⟩
 refine⟨rfl,?_⟩
 have hT5:X5.T=X4.T:=by
  rcases hs5 with ⟨rfl,_⟩|⟨_,_,q,_⟩|⟨_,q,_⟩
  ·rfl
  ·exact q.T
  ·exact q.T
 obtain⟨hO9,st9⟩:=RvO.step S8 b8 d8 n8 hT9 hT5
 obtain⟨u2,hcy⟩:=zfX hq hbg hm1 hmu1 hM2 hp2 hqm hX3 hm3 hM4 hp4 hmk4 hqm4 hs5 hp5
 refine⟨X5,X2.unr,u2,vc,vd,by rw[evc,evd],hcy,hO9,hvc8.of_block (fun k hk=>st9 k (.inl hk)),hvd8.of_block (fun k hk=>st9 k (.inr hk)),hdis⟩
theorem z6k (H:Rv B w0 w rh hb X Z vf vq fs qs) (hq:Rq X fs qs) (hm:X.m+500*cntS X.S+3*sumS X.S≤1999999) (hc:0≤X.cy∧X.cy≤999999) (hl:fs.length+qs.length≤4000):Calls Tryz.prog 16 #[.pointer (some ⟨rh,0,none⟩)] w (zd9 B w0 w rh hb Z vf vq fs qs X):=by
 have hC:=z6r H hq hm hc hl
 have hlt:=H.hlt
 clear H hq hm hc hl
 go_enter Tryz.func16,Tryz.ntmps16
 go_wp2_with (first
  | (go_at_call 36;refine hC.mono ?_;clear hC;rintro e w1 ⟨rfl,hC⟩)
  | (go_at_call 38;refine hC.mono ?_;clear hC;rintro e w2 ⟨b1,rfl,hC⟩)
  | (go_at_call 37;refine hC.mono ?_;clear hC;rintro e w3 ⟨rfl,hC⟩)
  | (go_at_call 39;refine hC.mono ?_;clear hC;rintro e w4 ⟨aoc,nc,cc,rfl,hC⟩)
  | (go_at_call 40;refine hC.mono ?_;clear hC;rintro e w5 ⟨aod,nd,cd,rfl,hC⟩)
  | (go_at_call 41;refine hC.mono ?_;clear hC;rintro e w6 ⟨rfl,hC⟩)
  | (go_at_call 42;refine hC.mono ?_;clear hC;rintro e w7 ⟨b2,rfl,hC⟩)
  | (go_at_call 43;refine hC.mono ?_;clear hC;rintro e w9 ⟨rfl,hP⟩;have HP:Hid _:=hP;clear hP))
 go_ret3
 exact HP.out
end
end Go.Proofs.YthkelaeemefnaaaGreat
