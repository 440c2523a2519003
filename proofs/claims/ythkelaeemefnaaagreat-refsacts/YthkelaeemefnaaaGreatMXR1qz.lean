import Derived.Test.YthkelaeemefnaaaGreatMC6qz
import Derived.Test.YthkelaeemefnaaaGreatMC9qz
set_option maxRecDepth 100000
set_option maxHeartbeats 4000000
namespace Go.Proofs.YthkelaeemefnaaaGreat
open Go.RowKit
def RchQ (X:Cm) (U:List Int) (r:Int):Prop:=∀ P:Int→Prop,(∀ t,t<X.T→∀ x∈X.rt t,x≠0→P x)→(∀ x∈U,x≠0→P x)→(∀ x,P x→∀ j,j<rfs X.S x→wd X x j≠0→P (wd X x j))→P r
section
variable {X X1:Cm}{U V:List Int}
theorem RchQ.root {t:Nat}(ht:t<X.T) {x:Int}(hx:x∈X.rt t) (h0:x≠0):RchQ X U x:=fun _ h1 _ _=>h1 t ht x hx h0
theorem RchQ.from {x:Int}(hx:x∈U) (h0:x≠0):RchQ X U x:=fun _ _ h1 _=>h1 x hx h0
theorem RchQ.word {x:Int}(h:RchQ X U x) {j:Nat}(hj:j<rfs X.S x) (h0:wd X x j≠0):RchQ X U (wd X x j):=fun P h1 h2 h3=>h3 x (h P h1 h2 h3) j hj h0
theorem RchQ.more {x:Int}(h:RchQ X U x):RchQ X (U++V) x:=fun P h1 h2 h3=>h P h1 (fun y hy=>h2 y (List.mem_append_left _ hy)) h3
theorem RchQ.least {x:Int}(h:RchQ X U x) {P:Int→Prop}(h1:∀ t,t<X.T→∀ x∈X.rt t,x≠0→P x) (h2:∀ x∈U,x≠0→P x) (h3:∀ x,RchQ X U x→P x→∀ j,j<rfs X.S x→wd X x j≠0→P (wd X x j)):P x :=
 (h (fun y=>RchQ X U y∧P y) (fun t ht y hy h0=>⟨RchQ.root ht hy h0,h1 t ht y hy h0⟩) (fun y hy h0=>⟨RchQ.from hy h0,h2 y hy h0⟩) (fun y hy j hj h0=>⟨hy.1.word hj h0,h3 y hy.1 hy.2 j hj h0⟩)).2
theorem RchQ.there (hc:Clo (fun r=>r∈nums 0 X.S) X) (hU:∀ x∈U,x∈nums 0 X.S) {r:Int}(h:RchQ X U r):r∈nums 0 X.S :=
 h _ (fun t ht x hx h0=>(hc.kroot t ht x hx).resolve_left h0) (fun x hx _=>hU x hx) (fun x hx j hj h0=>(hc.kword x hx j hj).resolve_left h0)
theorem za0 {K:Int→Prop}(h1:∀ t,t<X.T→∀ r∈X.rt t,r=0∨K r) (h2:∀ r,K r→r∈nums 0 X.S) (h3:∀ r,K r→∀ j,j<rfs X.S r→wd X r j=0∨K (wd X r j)) (hl:¬ X.tr.ln<X.tr.lw) (x0 r0:Int):Mrk K (wd X) X.rt K { X with A:=fun _=>false,x:=x0,r:=r0,tr:=X.tr.begun X.S,ph:=1 }:=by
 refine⟨z0r 0 X.S,h2,fun r hr _=>hr,h3,h1,h3,fun r ⟨p,_,h2⟩=>absurd rfl h2,fun r hr j hj=>?_,fun t ht r hr=>.inr (.inr ⟨rfl,hr⟩),fun h=>absurd h hl,fun p h _=>?_,fun p _=>.inl rfl,fun p hp=>?_⟩
 ·right;right
  obtain⟨p,hp,e⟩:=List.getElem_of_mem (h2 r hr)
  exact⟨rfl,.inl ⟨p,by show (nums 0 X.S)[p]?=some r;rw[List.getElem?_eq_getElem hp,e],by show (1:Int)≠3;decide⟩⟩
 ·have:(1:Int)=2:=h
  omega
 ·have:p∈([]:List Nat):=hp
  simp at this
theorem zeI (X:Cm) (x p:Int):mu { X with tr:=X.tr.mark x,ph:=p }=mu X:=by
 obtain⟨e1,e2,e3,e4,_⟩:=z0V X.tr x
 have hms:z1B (X.tr.mark x) X.S X.tr.row.length=z1B X.tr X.S X.tr.row.length:=z28 e1 _ (fun p _=>z2Q _ _ _)
 show (if (X.tr.mark x).ln<(X.tr.mark x).lw then ((X.tr.mark x).lw-(X.tr.mark x).ln).toNat else 0)+z1B (X.tr.mark x) X.S (X.tr.mark x).row.length=_
 rw[e1,e3,e4,hms]
 rfl
structure Mkp (K:Int→Prop) (G:Int→Nat→Int) (R0:Nat→List Int) (X0 X:Cm):Prop where
 mrk:Mrk K G R0 K X
 sm:Sm X0 X
 all:allB X.T X.A=true
 st:X.ph=1∨(X.ph=2∧X.tr.q=[]∧¬ X.tr.ln<X.tr.lw)
 cost:X.m+mu X≤X0.m+mu X0
 ne0:∀ r∈X.tr.row,r≠0
variable {K:Int→Prop}{G:Int→Nat→Int}{R0:Nat→List Int}{X0:Cm}
theorem Mkp.keep (h:Mkp K G R0 X0 X) {x:Int}(hx:x=0∨K x):Mkp K G R0 X0 { X with tr:=X.tr.mark x,ph:=1 }∧(∀ y,Mkd X.tr y→Mkd (X.tr.mark x) y)∧(x∈X.tr.row→Mkd (X.tr.mark x) x):=by
 obtain⟨e1,e2,e3,e4,e5⟩:=z0V X.tr x
 have hM:=h.mrk.mark hx h.ne0
 refine⟨⟨⟨hM.rise,hM.base,hM.knew,hM.gk,hM.kroot,hM.kword,hM.kmark,hM.snap,hM.roots,hM.look,hM.greys,hM.cols,hM.queue⟩,⟨h.sm.S,h.sm.F,h.sm.rt,h.sm.A,h.sm.T,h.sm.W,e1.trans h.sm.row,e5.trans h.sm.sw,h.sm.cy⟩,h.all,.inl rfl,?_,by show ∀ r∈(X.tr.mark x).row,r≠0;rw[e1];exact h.ne0⟩,fun y hy=>hy.mark x,fun hx=>z2F h.mrk.rise hx⟩
 have:=h.cost
 rw[zeI]
 exact this
theorem Sm.trans {X2:Cm}(h:Sm X0 X) (k:Sm X X2):Sm X0 X2:=⟨k.S.trans h.S,k.F.trans h.F,k.rt.trans h.rt,k.A.trans h.A,k.T.trans h.T,k.W.trans h.W,k.row.trans h.row,k.sw.trans h.sw,k.cy.trans h.cy⟩
theorem Sm.refl (X:Cm):Sm X X:=⟨rfl,rfl,rfl,rfl,rfl,rfl,rfl,rfl,rfl⟩
theorem Mkp.step (h:Mkp K G R0 X0 X) (hnd:X.tr.q.Nodup) (hgq:∀ p∈X.tr.q,X.tr.col p=2) (hp:X.ph=1) (hs:Stp X X1):Mkp K G R0 X0 X1∧(∀ y,Mkd X.tr y→Mkd X1.tr y)∧(X1.ph=1→mu X1<mu X):=by
 rcases h.mrk.stp h.ne0 hnd hgq hp hs with ⟨q1,q2,q3,q4,q5⟩|⟨rfl,hq,hl,ha⟩
 ·rcases q5 with q5|⟨_,q5⟩
  ·refine⟨⟨q2,h.sm.trans q3,by rw[q3.T,q3.A];exact h.all,.inl q1,?_,by rw[q3.row];exact h.ne0⟩,q4,fun _=>q5⟩
   have hc:=hs.cost.1
   rw[q3.S] at hc
   have:=h.cost
   omega
  ·rw[h.all] at q5;simp at q5
 ·exact⟨⟨⟨h.mrk.rise,h.mrk.base,h.mrk.knew,h.mrk.gk,h.mrk.kroot,h.mrk.kword,h.mrk.kmark,h.mrk.snap,h.mrk.roots,h.mrk.look,h.mrk.greys,h.mrk.cols,h.mrk.queue⟩,⟨h.sm.S,h.sm.F,h.sm.rt,h.sm.A,h.sm.T,h.sm.W,h.sm.row,h.sm.sw,h.sm.cy⟩,h.all,.inr ⟨rfl,hq,hl⟩,h.cost,h.ne0⟩,fun _ hy=>hy,fun q=>by have:(2:Int)=1:=q;omega⟩
theorem zez (hs:z0g X.tr.row) (hp:X.ph=2) (hmk:∀ r,r∈X.tr.row→(Mkd X.tr r↔K r)) (r:Int):X.unr r=true↔r∈X.tr.row∧¬ K r:=by
 unfold Cm.unr Tr.white
 rw[hp]
 simp only[beq_self_eq_true,Bool.true_and,Bool.and_eq_true,beq_iff_eq]
 constructor
 ·rintro⟨h1,h2⟩
  have hr:=(z12 _ _).1 h1
  refine⟨hr,fun hk=>?_⟩
  obtain⟨p,g1,g2⟩:=(hmk r hr).2 hk
  rw[(z1b hs g1).1] at h2
  exact g2 h2
 ·rintro⟨h1,h2⟩
  have hh:=(z12 _ _).2 h1
  refine⟨hh,?_⟩
  by_cases e:X.tr.col (posK X.tr.row r)=1
  ·exact e
  ·exact absurd ((hmk r h1).1 ⟨_,z1P hs hh,e⟩) h2
theorem Mrk.words {K0:Int→Prop}(H:Mrk K0 G R0 K X) {F:Nat→Nat→Int}(m:Nat) (c:Int→Int) (e:∀ r j,j<rfs X.S r→F (r-1).toNat j=wd X r j):Mrk K0 G R0 K { X with m:=m,c:=c,F:=F }:=by
 refine⟨H.rise,H.base,H.knew,H.gk,H.kroot,fun r hr j hj=>?_,H.kmark,fun r hr j hj=>?_,H.roots,H.look,H.greys,H.cols,H.queue⟩
 ·show F (r-1).toNat j=0∨K (F (r-1).toNat j)
  rw[e r j hj];exact H.kword r hr j hj
 ·rcases H.snap r hr j hj with q|q|⟨q1,q2⟩
  ·exact .inl q
  ·exact .inr (.inl q)
  ·refine .inr (.inr ⟨?_,q2⟩)
   show F (r-1).toNat j=G r j
   rw[e r j hj];exact q1
theorem Mrk.wider {K1 K2:Int→Prop}(H:Mrk K1 G R0 K1 X) (hq:X.tr.q=[]) (hl:¬ X.tr.ln<X.tr.lw) (ha:allB X.T X.A=true) (h12:∀ r,K1 r→K2 r) (hb:∀ r,K2 r→r∈X.tr.row) (hg:∀ r,K2 r→∀ j,j<rfs X.S r→wd X r j=G r j) (hw:∀ r,K2 r→∀ j,j<rfs X.S r→G r j=0∨K2 (G r j)):Mrk K2 G R0 K2 X:=by
 have hall:∀ t,t<X.T→X.A t=true:=fun t ht=>zdc ha ht
 obtain⟨d1,d2⟩:=H.done hq hl hall
 refine⟨H.rise,hb,fun r hr _=>hr,hw,fun t ht r hr=>(H.kroot t ht r hr).imp id (h12 r),fun r hr j hj=>by rw[hg r hr j hj];exact hw r hr j hj,fun r hr=>h12 r (H.kmark r hr),fun r hr j hj=>?_,fun t ht r hr=>(d1 t ht r hr).imp id .inl,fun h=>absurd h hl,H.greys,H.cols,H.queue⟩
 by_cases hm:Mkd X.tr r
 ·rcases d2 r (H.kmark r hm) hm j hj with q|q
  ·exact .inl q
  ·exact .inr (.inl q)
 ·right;right
  refine⟨hg r hr j hj,.inl ?_⟩
  obtain⟨p,hp,e⟩:=List.getElem_of_mem (hb r hr)
  refine⟨p,by rw[List.getElem?_eq_getElem hp,e],fun h3=>hm ⟨p,by rw[List.getElem?_eq_getElem hp,e],by rw[h3];decide⟩⟩
theorem Stp.free (h:Stp X X1) (hp:X.ph≠1):X1.m+500*cntS X1.S≤X.m+500*cntS X.S:=by
 rcases h with ⟨q,_⟩|⟨q,_⟩|⟨q,_⟩|⟨_,_,r,c',_,rfl⟩|⟨_,_,rfl⟩|⟨_,rfl⟩|⟨_,_,_,rfl⟩
 ·exact absurd q hp
 ·exact absurd q hp
 ·exact absurd q hp
 ·dsimp only
  unfold Cm.frm
  have:=z7q X.S r
  split<;>omega
 ·exact Nat.le_refl _
 ·exact Nat.le_refl _
 ·exact Nat.le_refl _
theorem zb3 {T:Tr}{S:List (Option Cel)}(hT:T.row=nums 0 S):∀ p,p≤T.row.length→z1B T S p≤sumS S:=by
 have key:∀ (S':List (Option Cel)) (k:Nat) (f:Int→Nat),(∀ (i:Nat) (c:Cel),S'[i]?=some (some c)→f ((k:Int)+i+1)≤c.n+16)→((nums k S').map f).sum≤sumS S':=by
  intro S'
  induction S' with
  | nil=>intro k f _;exact Nat.le_refl _
  | cons o S' ih =>
   intro k f hf
   have h2:=ih (k+1) f (fun i c hc=>by
    have:=hf (i+1) c (by simpa using hc)
    rw[show ((k+1:Nat):Int)+i+1=(k:Int)+((i+1:Nat):Int)+1 by omega]
    exact this)
   cases o with
   | none=>exact h2
   | some c =>
    have:=hf 0 c rfl
    simp only[nums,List.map_cons,List.sum_cons,sumS]
    rw[show (k:Int)+((0:Nat):Int)+1=(k:Int)+1 by omega] at this
    omega
 have le:∀ p,p≤T.row.length→z1B T S p≤(((T.row.take p).map (fun r=>rfs S r+1)).sum):=by
  intro p
  induction p with
  | zero=>intro _;exact Nat.zero_le _
  | succ p ih =>
   intro hp
   have h1:=ih (by omega)
   have hg:T.row[p]?=some T.row[p]:=List.getElem?_eq_getElem (by omega)
   unfold z1B
   rw[List.take_add_one,hg,List.map_append,List.sum_append]
   simp only[Option.getD_some,Option.toList_some,List.map_cons,List.map_nil,List.sum_cons,List.sum_nil]
   split<;>omega
 intro p hp
 refine Nat.le_trans (le p hp) ?_
 have h3:((T.row.take p).map (fun r=>rfs S r+1)).sum≤(T.row.map (fun r=>rfs S r+1)).sum:=by
  have e:T.row.map (fun r=>rfs S r+1)=(T.row.take p).map (fun r=>rfs S r+1)++(T.row.drop p).map (fun r=>rfs S r+1):=by rw[← List.map_append,List.take_append_drop]
  rw[e,List.sum_append];omega
 refine Nat.le_trans h3 ?_
 rw[hT]
 refine key S 0 _ (fun i c hc=>?_)
 unfold rfs
 rw[show ((0:Nat):Int)+i+1=(i:Int)+1 by omega,z0u,hc]
 simp only[Option.join_some]
 split<;>omega
end
end Go.Proofs.YthkelaeemefnaaaGreat
namespace Go.Proofs.YthkelaeemefnaaaGreat
open Go.RowKit
def Rown (rh hb T:Nat) (Z:Cx) (vf vq:Value) (k:Nat):Prop:=Z.all hb T k∨k=rh∨vf.ownBlock=some k∨vq.ownBlock=some k
structure Rv (B:Nat) (w0 w:World) (rh hb:Nat) (X:Cm) (Z:Cx) (vf vq:Value) (fs qs:List Int):Prop where
 cv:CvC B w0 w hb X Z
 here:w.heap[rh]?=some (.cells #[.pointer (some ⟨hb,0,none⟩),.int .i64 X.T,vf,vq] 60 (0,0))
 fin:Ri w B vf fs
 que:Ri w B vq qs
 off:¬ Z.all hb X.T rh∧(∀ k,vf.ownBlock=some k→¬ Z.all hb X.T k)∧∀ k,vq.ownBlock=some k→¬ Z.all hb X.T k
 dis:∀ k,vf.ownBlock=some k→vq.ownBlock≠some k
 low:B≤rh
 few:fs.length≤4000∧qs.length≤4000
section
variable {B:Nat}{w0 w w':World}{rh hb:Nat}{X X':Cm}{Z:Cx}{vf vq:Value}{fs qs:List Int}
theorem Rv.hlt (H:Rv B w0 w rh hb X Z vf vq fs qs):rh<w.heap.size:=z02 H.here
theorem Rv.cells4 (H:Rv B w0 w rh hb X Z vf vq fs qs):(w.cell? ⟨rh,0,none⟩=some (.pointer (some ⟨hb,0,none⟩))∧w.cell? ⟨rh,1,none⟩=some (.int .i64 X.T)∧w.cell? ⟨rh,2,none⟩=some vf∧w.cell? ⟨rh,3,none⟩=some vq)∧rh<w.heap.size∧∀ j,w.frozen? ⟨rh,j,none⟩=false:=by
 refine⟨?_,H.hlt,fun j=>frz H.here j⟩
 simp[World.cell?,H.here]
theorem Rv.ne_rh (H:Rv B w0 w rh hb X Z vf vq fs qs):vf.ownBlock≠some rh∧vq.ownBlock≠some rh:=by
 refine⟨fun e=>?_,fun e=>?_⟩
 ·obtain⟨cur,h⟩:=H.fin.kind e
  rw[H.here] at h;simp at h
 ·obtain⟨cur,h⟩:=H.que.kind e
  rw[H.here] at h;simp at h
theorem Rv.own_lt (H:Rv B w0 w rh hb X Z vf vq fs qs) {k:Nat}(hk:Rown rh hb X.T Z vf vq k):k<w.heap.size:=by
 rcases hk with q|q|q|q
 ·exact H.cv.all_lt q
 ·rw[q];exact H.hlt
 ·exact (H.fin.lt q).2
 ·exact (H.que.lt q).2
theorem Rv.own_low (H:Rv B w0 w rh hb X Z vf vq fs qs) {k:Nat}(hk:Rown rh hb X.T Z vf vq k):B≤k:=by
 rcases hk with ⟨i,q⟩|q|q|q
 ·exact H.cv.low i k q
 ·rw[q];exact H.low
 ·exact (H.fin.lt q).1
 ·exact (H.que.lt q).1
theorem Rv.keep (H:Rv B w0 w rh hb X Z vf vq fs qs) (e:∀ k,Rown rh hb X.T Z vf vq k→w'.heap[k]?=w.heap[k]?) (hs:w.heap.size≤w'.heap.size) (hB:Below B w0 w'):Rv B w0 w' rh hb X Z vf vq fs qs :=
 ⟨H.cv.keep (fun k hk=>e k (.inl hk)) hs hB,(e rh (.inr (.inl rfl))).trans H.here,H.fin.of_block (fun k hk=>e k (.inr (.inr (.inl hk)))),H.que.of_block (fun k hk=>e k (.inr (.inr (.inr hk)))),H.off,H.dis,H.low,H.few⟩
theorem Rv.below (H:Rv B w0 w rh hb X Z vf vq fs qs) (b:Below w.heap.size w w'):Rv B w0 w' rh hb X Z vf vq fs qs:=H.keep (fun k hk=>b.block k (H.own_lt hk)) b.size (H.cv.hv.bel.trans (b.mono H.cv.hv.size))
def RvT (B:Nat) (w0 w:World) (rh hb:Nat) (Z:Cx) (vf vq:Value) (X':Cm) (fs qs:List Int) (w':World):Prop:=∃ Z' vf' vq',Rv B w0 w' rh hb X' Z' vf' vq' fs qs∧Bt (Rown rh hb X'.T Z vf vq) w w'∧Wider (Rown rh hb X'.T Z vf vq) (Rown rh hb X'.T Z' vf' vq') w
theorem Rv.same (H:Rv B w0 w rh hb X Z vf vq fs qs):RvT B w0 w rh hb Z vf vq X fs qs w:=⟨Z,vf,vq,H,Bt.refl _ _,Wider.refl _ _⟩
theorem RvT.after {w1:World}(b:Below w.heap.size w w1) (h:RvT B w0 w1 rh hb Z vf vq X' fs qs w'):RvT B w0 w rh hb Z vf vq X' fs qs w':=by
 obtain⟨Z',vf',vq',h1,h2,h3⟩:=h
 exact⟨Z',vf',vq',h1,(Bt.of_below b).trans h2,fun k hk=>(h3 k hk).imp id (fun r=>Nat.le_trans b.size r)⟩
theorem RvT.later {w2:World}(h:RvT B w0 w rh hb Z vf vq X' fs qs w') (b:Below w'.heap.size w' w2):RvT B w0 w rh hb Z vf vq X' fs qs w2:=by
 obtain⟨Z',vf',vq',h1,h2,h3⟩:=h
 exact⟨Z',vf',vq',h1.below b,h2.trans (Bt.of_below b),h3⟩
theorem RvT.then {w1:World}{Z1:Cx}{vf1 vq1:Value}(h2:Bt (Rown rh hb X'.T Z vf vq) w w1) (h3:Wider (Rown rh hb X'.T Z vf vq) (Rown rh hb X'.T Z1 vf1 vq1) w) (h:RvT B w0 w1 rh hb Z1 vf1 vq1 X' fs qs w'):RvT B w0 w rh hb Z vf vq X' fs qs w':=by
 obtain⟨Z',vf',vq',k1,k2,k3⟩:=h
 exact⟨Z',vf',vq',k1,h2.wide k2 h3,h3.trans k3 h2.size⟩
theorem Rv.heap (H:Rv B w0 w rh hb X Z vf vq fs qs) (hT:CcT B w0 w hb Z X' w') (e:X'.T=X.T):∃ Z',Rv B w0 w' rh hb X' Z' vf vq fs qs∧Bt (Rown rh hb X.T Z vf vq) w w'∧Wider (Rown rh hb X.T Z vf vq) (Rown rh hb X.T Z' vf vq) w:=by
 obtain⟨Z',h1,h2,h3⟩:=hT
 rw[e] at h2 h3
 have far:∀ k,k<w.heap.size→¬ Z.all hb X.T k→¬ Z'.all hb X.T k∧w'.heap[k]?=w.heap[k]?:=fun k hk hn=>⟨fun r=>(h3 k r).elim hn (fun q=>by omega),h2.block k hk hn⟩
 refine⟨Z',⟨h1,by rw[(far rh H.hlt H.off.1).2,e];exact H.here,H.fin.of_block (fun k hk=>(far k (H.fin.lt hk).2 (H.off.2.1 k hk)).2),H.que.of_block (fun k hk=>(far k (H.que.lt hk).2 (H.off.2.2 k hk)).2),?_,H.dis,H.low,H.few⟩,h2.mono (fun k _ hk=>.inl hk),fun k hk=>?_⟩
 ·rw[e]
  exact⟨(far rh H.hlt H.off.1).1,fun k hk=>(far k (H.fin.lt hk).2 (H.off.2.1 k hk)).1,fun k hk=>(far k (H.que.lt hk).2 (H.off.2.2 k hk)).1⟩
 ·rcases hk with q|q
  ·exact (h3 k q).imp .inl id
  ·exact .inl (.inr q)
theorem Rv.heapT (H:Rv B w0 w rh hb X Z vf vq fs qs) (hT:CcT B w0 w hb Z X' w') (e:X'.T=X.T):RvT B w0 w rh hb Z vf vq X' fs qs w':=by
 obtain⟨Z',h1,h2,h3⟩:=H.heap hT e
 rw[← e] at h2 h3
 exact⟨Z',vf,vq,h1,h2,h3⟩
theorem Rv.setf0 (H:Rv B w0 w rh hb X Z vf vq fs qs) {w1:World}{v:Value}{U:List Int}(hB:Bt (fun k=>vf.ownBlock=some k) w w1) (hv:Ri w1 B v U) (hU:U.length≤4000) (hat:v.ownBlock=vf.ownBlock∨∀ k,v.ownBlock=some k→w.heap.size≤k):Rv B w0 (w1.setCell ⟨rh,2,none⟩ v) rh hb X Z v vq U qs∧Bt (Rown rh hb X.T Z vf vq) w (w1.setCell ⟨rh,2,none⟩ v)∧Wider (Rown rh hb X.T Z vf vq) (Rown rh hb X.T Z v vq) w:=by
 have st:∀ k,k<w.heap.size→vf.ownBlock≠some k→k≠rh→(w1.setCell ⟨rh,2,none⟩ v).heap[k]?=w.heap[k]?:=fun k hk h1 h2=>(z03 _ _ h2).trans (hB.block k hk h1)
 have hh:(w1.setCell ⟨rh,2,none⟩ v).heap[rh]?=some (.cells #[.pointer (some ⟨hb,0,none⟩),.int .i64 X.T,v,vq] 60 (0,0)):=by
  rw[mset ((hB.block rh H.hlt H.ne_rh.1).trans H.here)];rfl
 have hvr:v.ownBlock≠some rh:=fun e=>by
  obtain⟨cur,h⟩:=hv.kind e
  rw[(hB.block rh H.hlt H.ne_rh.1).trans H.here] at h;simp at h
 have hsz:(w1.setCell ⟨rh,2,none⟩ v).heap.size=w1.heap.size:=by simp[World.setCell]
 have hvn:∀ k,v.ownBlock=some k→vf.ownBlock=some k∨w.heap.size≤k:=fun k hk=>by
  rcases hat with q|q
  ·rw[q] at hk;exact .inl hk
  ·exact .inr (q k hk)
 have hBt:Bt (Rown rh hb X.T Z vf vq) w (w1.setCell ⟨rh,2,none⟩ v):=by
  refine⟨hB.os,hB.tape,hB.output,by rw[hsz];exact hB.size,fun k hk hn=>st k hk (fun q=>hn (.inr (.inr (.inl q)))) (fun q=>hn (.inr (.inl q)))⟩
 refine⟨⟨H.cv.keep (fun k hk=>st k (H.cv.all_lt hk) (fun q=>H.off.2.1 k q hk) (fun q=>H.off.1 (by rw[← q];exact hk))) hBt.size (Bt.under H.cv.hv.bel H.cv.hv.size (fun k hk=>H.own_low hk) hBt),hh,hv.of_block (fun k hk=>z03 _ _ (fun q=>hvr (by rw[hk,show k=rh from q]))),H.que.of_block (fun k hk=>st k (H.que.lt hk).2 (fun q=>H.dis k q hk) (fun q=>H.ne_rh.2 (by rw[hk,q]))),⟨H.off.1,fun k hk=>?_,H.off.2.2⟩,fun k hk hq=>?_,H.low,⟨hU,H.few.2⟩⟩,hBt,fun k hk=>?_⟩
 ·rcases hvn k hk with q|q
  ·exact H.off.2.1 k q
  ·exact fun r=>by have:=H.cv.all_lt r;omega
 ·rcases hvn k hk with q|q
  ·exact H.dis k q hq
  ·have:=(H.que.lt hq).2;omega
 ·rcases hk with q|q|q|q
  ·exact .inl (.inl q)
  ·exact .inl (.inr (.inl q))
  ·exact (hvn k q).imp (fun z=>.inr (.inr (.inl z))) id
  ·exact .inl (.inr (.inr (.inr q)))
theorem Rv.setf (H:Rv B w0 w rh hb X Z vf vq fs qs) {w1:World}{v:Value}{U:List Int}(hB:Bt (fun k=>vf.ownBlock=some k) w w1) (hv:Ri w1 B v U) (hU:U.length≤4000) (hat:v.ownBlock=vf.ownBlock∨∀ k,v.ownBlock=some k→w.heap.size≤k):RvT B w0 w rh hb Z vf vq X U qs (w1.setCell ⟨rh,2,none⟩ v):=⟨Z,v,vq,H.setf0 hB hv hU hat⟩
theorem Rv.setq (H:Rv B w0 w rh hb X Z vf vq fs qs) {w1:World}{v:Value}{U:List Int}(hB:Bt (fun k=>vq.ownBlock=some k) w w1) (hv:Ri w1 B v U) (hU:U.length≤4000) (hat:v.ownBlock=vq.ownBlock∨∀ k,v.ownBlock=some k→w.heap.size≤k):RvT B w0 w rh hb Z vf vq X fs U (w1.setCell ⟨rh,3,none⟩ v):=by
 have st:∀ k,k<w.heap.size→vq.ownBlock≠some k→k≠rh→(w1.setCell ⟨rh,3,none⟩ v).heap[k]?=w.heap[k]?:=fun k hk h1 h2=>(z03 _ _ h2).trans (hB.block k hk h1)
 have hh:(w1.setCell ⟨rh,3,none⟩ v).heap[rh]?=some (.cells #[.pointer (some ⟨hb,0,none⟩),.int .i64 X.T,vf,v] 60 (0,0)):=by
  rw[mset ((hB.block rh H.hlt H.ne_rh.2).trans H.here)];rfl
 have hvr:v.ownBlock≠some rh:=fun e=>by
  obtain⟨cur,h⟩:=hv.kind e
  rw[(hB.block rh H.hlt H.ne_rh.2).trans H.here] at h;simp at h
 have hsz:(w1.setCell ⟨rh,3,none⟩ v).heap.size=w1.heap.size:=by simp[World.setCell]
 have hvn:∀ k,v.ownBlock=some k→vq.ownBlock=some k∨w.heap.size≤k:=fun k hk=>by
  rcases hat with q|q
  ·rw[q] at hk;exact .inl hk
  ·exact .inr (q k hk)
 have hBt:Bt (Rown rh hb X.T Z vf vq) w (w1.setCell ⟨rh,3,none⟩ v):=by
  refine⟨hB.os,hB.tape,hB.output,by rw[hsz];exact hB.size,fun k hk hn=>st k hk (fun q=>hn (.inr (.inr (.inr q)))) (fun q=>hn (.inr (.inl q)))⟩
 refine⟨Z,vf,v,⟨H.cv.keep (fun k hk=>st k (H.cv.all_lt hk) (fun q=>H.off.2.2 k q hk) (fun q=>H.off.1 (by rw[← q];exact hk))) hBt.size (Bt.under H.cv.hv.bel H.cv.hv.size (fun k hk=>H.own_low hk) hBt),hh,H.fin.of_block (fun k hk=>st k (H.fin.lt hk).2 (fun q=>H.dis k hk q) (fun q=>H.ne_rh.1 (by rw[hk,q]))),hv.of_block (fun k hk=>z03 _ _ (fun q=>hvr (by rw[hk,show k=rh from q]))),⟨H.off.1,H.off.2.1,fun k hk=>?_⟩,fun k hk hq=>?_,H.low,⟨H.few.1,hU⟩⟩,hBt,fun k hk=>?_⟩
 ·rcases hvn k hk with q|q
  ·exact H.off.2.2 k q
  ·exact fun r=>by have:=H.cv.all_lt r;omega
 ·rcases hvn k hq with q|q
  ·exact H.dis k hk q
  ·have:=(H.fin.lt hk).2;omega
 ·rcases hk with q|q|q|q
  ·exact .inl (.inl q)
  ·exact .inl (.inr (.inl q))
  ·exact .inl (.inr (.inr (.inl q)))
  ·exact (hvn k q).imp (fun z=>.inr (.inr (.inr z))) id
structure Sr (B:Nat) (w0 w:World) (rh hb:Nat) (X:Cm) (Z:Cx) (vf vq:Value) (fs qs:List Int) (O:Nat→Prop):Prop where
 rv:Rv B w0 w rh hb X Z vf vq fs qs
 out:∀ k,O k→¬ Rown rh hb X.T Z vf vq k∧k<w.heap.size∧B≤k
variable {O:Nat→Prop}
theorem Sr.call {fs' qs':List Int}(H:Sr B w0 w rh hb X Z vf vq fs qs O) (hT:RvT B w0 w rh hb Z vf vq X' fs' qs' w') (e:X'.T=X.T):(∃ Z' vf' vq',Sr B w0 w' rh hb X' Z' vf' vq' fs' qs' O)∧∀ k,O k→w'.heap[k]?=w.heap[k]?:=by
 obtain⟨Z',vf',vq',h1,h2,h3⟩:=hT
 rw[e] at h2 h3
 exact⟨⟨Z',vf',vq',h1,fun k hk=>⟨by rw[e];exact fun r=>(h3 k r).elim (H.out k hk).1 (fun q=>by have:=(H.out k hk).2.1;omega),Nat.lt_of_lt_of_le (H.out k hk).2.1 h2.size,(H.out k hk).2.2⟩⟩,fun k hk=>h2.block k (H.out k hk).2.1 (H.out k hk).1⟩
theorem Sr.below (H:Sr B w0 w rh hb X Z vf vq fs qs O) (b:Below w.heap.size w w'):Sr B w0 w' rh hb X Z vf vq fs qs O∧∀ k,O k→w'.heap[k]?=w.heap[k]? :=
 ⟨⟨H.rv.below b,fun k hk=>⟨(H.out k hk).1,Nat.lt_of_lt_of_le (H.out k hk).2.1 b.size,(H.out k hk).2.2⟩⟩,fun k hk=>b.block k (H.out k hk).2.1⟩
theorem Sr.mine (H:Sr B w0 w rh hb X Z vf vq fs qs O) {O':Nat→Prop}(hB:Bt O w w') (hO:∀ k,O' k→O k∨(w.heap.size≤k∧k<w'.heap.size)):Sr B w0 w' rh hb X Z vf vq fs qs O':=by
 refine⟨H.rv.keep (fun k hk=>hB.block k (H.rv.own_lt hk) (fun q=>(H.out k q).1 hk)) hB.size (Bt.under H.rv.cv.hv.bel H.rv.cv.hv.size (fun k hk=>(H.out k hk).2.2) hB),fun k hk=>?_⟩
 rcases hO k hk with q|q
 ·exact⟨(H.out k q).1,Nat.lt_of_lt_of_le (H.out k q).2.1 hB.size,(H.out k q).2.2⟩
 ·exact⟨fun r=>by have:=H.rv.own_lt r;omega,q.2,Nat.le_trans H.rv.cv.hv.size q.1⟩
theorem Sr.less (H:Sr B w0 w rh hb X Z vf vq fs qs O) {O':Nat→Prop}(h:∀ k,O' k→O k):Sr B w0 w rh hb X Z vf vq fs qs O':=⟨H.rv,fun k hk=>H.out k (h k hk)⟩
theorem Rv.sr (H:Rv B w0 w rh hb X Z vf vq fs qs):Sr B w0 w rh hb X Z vf vq fs qs (fun _=>False):=⟨H,fun _ h=>h.elim⟩
theorem Sr.app (H:Sr B w0 w rh hb X Z vf vq fs qs O) {v:Value}{U:List Int}(hU:Ri w B v U) (hv:∀ k,v.ownBlock=some k→O k) (hl:U.length≤100000) (x:Int):
  ∃ ao cap ao' cap' w3,v=.slice ao U.length cap∧(appC #[32,32] 32 #[.slice ao U.length cap,.slice (some ⟨w.heap.size,0,none⟩) 1 1]).run Tryz.prog (w.alloc (.cells #[.int .i64 x] 3))=.ok (.slice ao' (U.length+1) cap') w3 ∧
   Ri w3 B (.slice ao' (U.length+1) cap') (U++[x])∧Sr B w0 w3 rh hb X Z vf vq fs qs (fun k=>O k∨(Value.slice ao' (U.length+1) cap').ownBlock=some k)∧(∀ k,O k→v.ownBlock≠some k→w3.heap[k]?=w.heap[k]?)∧((Value.slice ao' (U.length+1) cap').ownBlock=v.ownBlock∨∃ j,(Value.slice ao' (U.length+1) cap').ownBlock=some j∧w.heap.size≤j):=by
 obtain⟨ao,cap,rfl⟩:=hU.form
 obtain⟨ao',cap',w3,hrun,hU3,hg,hat⟩:=hU.more x H.rv.cv.hv.size hl (heap_alloc_new w (.cells #[.int .i64 x] 3)) ((Below.refl _ _).alloc (Nat.le_refl _) _)
 have hB:Bt O w w3:=⟨hg.os,hg.tape,hg.output,hg.size,fun k hk q=>hg.block k hk (fun z=>q (hv k z.symm))⟩
 refine⟨ao,cap,ao',cap',w3,rfl,hrun,hU3,H.mine hB (fun k hk=>?_),fun k hk hne=>hg.block k (H.out k hk).2.1 (fun z=>hne z.symm),hat⟩
 rcases hk with q|q
 ·exact .inl q
 ·rcases hat with z|⟨j,z1,z2⟩
  ·rw[z] at q;exact .inl (hv k q)
  ·rw[z1] at q;simp at q;subst q
   exact .inr ⟨z2,(hU3.lt z1).2⟩
end
end Go.Proofs.YthkelaeemefnaaaGreat
namespace Go.Proofs.YthkelaeemefnaaaGreat
open Go.RowKit
section
variable {B:Nat}{w0 w w':World}{rh hb:Nat}{X X':Cm}{Z:Cx}{vf vq:Value}{fs qs:List Int}
def z1H (c:Int):Int:=if c=0 then 0 else if c=1204 then 1304 else if c=1203 then 1303 else if c=1201 then 1301 else 1302
theorem z1i (c:Int) (w:World):Calls Tryz.prog 33 #[.int .i64 c] w fun e w'=>e=.returned (.int .i64 (z1H c))∧w'=w:=by
 unfold z1H
 by_cases h0:c=0
 ·subst h0
  go_enter Tryz.func33,Tryz.ntmps33
  go_wp2
  go_ret
  exact⟨rfl,rfl⟩
 ·have e0:(c == 0)=false:=by simpa using h0
  rw[if_neg h0]
  by_cases h1:c=1204
  ·subst h1
   go_enter Tryz.func33,Tryz.ntmps33
   go_wp2
   go_ret
   exact⟨rfl,rfl⟩
  ·have e1:(c == 1204)=false:=by simpa using h1
   rw[if_neg h1]
   by_cases h2:c=1203
   ·subst h2
    go_enter Tryz.func33,Tryz.ntmps33
    go_wp2
    go_ret
    exact⟨rfl,rfl⟩
   ·have e2:(c == 1203)=false:=by simpa using h2
    rw[if_neg h2]
    by_cases h3:c=1201
    ·subst h3
     go_enter Tryz.func33,Tryz.ntmps33
     go_wp2
     go_ret
     exact⟨rfl,rfl⟩
    ·have e3:(c == 1201)=false:=by simpa using h3
     rw[if_neg h3]
     clear h0 h1 h2 h3
     go_enter Tryz.func33,Tryz.ntmps33
     go_wp2
     go_ret
     exact⟨rfl,rfl⟩
def zf8 (w:World) (W T:Nat) (e:Ending) (w':World):Prop:=∃ rh hb Z,e=.returned (.tuple #[.pointer (some ⟨rh,0,none⟩),.int .i64 0])∧Rv w.heap.size w w' rh hb (cm0 W T) Z (.slice none 0 0) (.slice none 0 0) [] []
theorem z9o (x y:Int) (W T:Nat) (w:World) (hx:x=W) (hy:y=T) (hW:1024≤W∧W≤20000) (hT:1≤T∧T≤8):Calls Tryz.prog 8 #[.int .i64 x,.int .i64 y] w (zf8 w W T):=by
 have hN:=zeS x y W T w hx hy hW hT
 have HT:Hid (y=T):=hy
 clear hx hy hW hT
 go_enter Tryz.func8,Tryz.ntmps8
 go_wp2_with (go_at_call 23;refine hN.mono ?_;rintro e w1 ⟨hb,Z,rfl,H⟩;clear hN)
 go_ret2
 have hyT:=HT.out
 subst hyT
 have bb:Below w1.heap.size w1 (w1.alloc (.cells #[.pointer (some ⟨hb,0,none⟩),.int .i64 T,.slice none 0 0,.slice none 0 0] 60)):=(Below.refl _ _).alloc (Nat.le_refl _) _
 refine⟨w1.heap.size,hb,Z,rfl,H.below bb,?_,Ri.nil _ _,Ri.nil _ _,⟨fun r=>by have:=H.all_lt r;omega,fun k hk=>by simp[Value.ownBlock] at hk,fun k hk=>by simp[Value.ownBlock] at hk⟩,fun k hk=>by simp[Value.ownBlock] at hk,H.hv.size,by simp⟩
 exact heap_alloc_new w1 (.cells #[.pointer (some ⟨hb,0,none⟩),.int .i64 T,.slice none 0 0,.slice none 0 0] 60)
theorem z77 (H:Rv B w0 w rh hb X Z vf vq fs qs) (t r c:Int) (hT:X'.T=X.T) (hP:Calls Tryz.prog 35 #[.pointer (some ⟨hb,0,none⟩),.int .i64 t] w fun e w'=>e=.returned (.tuple #[.int .i64 r,.int .i64 c])∧CcT B w0 w hb Z X' w'):Calls Tryz.prog 15 #[.pointer (some ⟨rh,0,none⟩),.int .i64 t] w fun e w'=>e=.returned (.tuple #[.int .i64 r,.int .i64 (z1H c)])∧RvT B w0 w rh hb Z vf vq X' fs qs w':=by
 obtain⟨⟨c0,_⟩,hlt,_⟩:=H.cells4
 have hO:=z1i c
 have HX:Hid (∀ u,CcT B w0 w hb Z X' u→RvT B w0 w rh hb Z vf vq X' fs qs u):=fun u h=>H.heapT h hT
 clear H hT
 generalize z1H c=d at *
 go_enter Tryz.func15,Tryz.ntmps15
 go_wp2_with (first
  | (go_at_call 35;refine hP.mono ?_;rintro e w1 ⟨rfl,hT1⟩;have HT1:Hid (RvT B w0 w rh hb Z vf vq X' fs qs w1):=HX.out w1 hT1;clear hP hT1 HX)
  | (go_at_call 33;refine (hO _).mono ?_;rintro e w9 ⟨rfl,hw9⟩;replace hw9:=hw9.symm;subst hw9))
 go_ret2
 exact⟨rfl,HT1.out⟩
theorem z7t (H:Rv B w0 w rh hb X Z vf vq fs qs) (t r c:Int) (hT:X'.T=X.T) (hP:Calls Tryz.prog 45 #[.pointer (some ⟨hb,0,none⟩),.int .i64 t,.int .i64 r] w fun e w'=>e=.returned (.int .i64 c)∧CcT B w0 w hb Z X' w'):Calls Tryz.prog 20 #[.pointer (some ⟨rh,0,none⟩),.int .i64 t,.int .i64 r] w fun e w'=>e=.returned (.int .i64 (z1H c))∧RvT B w0 w rh hb Z vf vq X' fs qs w':=by
 obtain⟨⟨c0,_⟩,hlt,_⟩:=H.cells4
 have hO:=z1i c
 have HX:Hid (∀ u,CcT B w0 w hb Z X' u→RvT B w0 w rh hb Z vf vq X' fs qs u):=fun u h=>H.heapT h hT
 clear H hT
 generalize z1H c=d at *
 go_enter Tryz.func20,Tryz.ntmps20
 go_wp2_with (first
  | (go_at_call 45;refine hP.mono ?_;rintro e w1 ⟨rfl,hT1⟩;have HT1:Hid (RvT B w0 w rh hb Z vf vq X' fs qs w1):=HX.out w1 hT1;clear hP hT1 HX)
  | (go_at_call 33;refine (hO _).mono ?_;rintro e w9 ⟨rfl,hw9⟩;replace hw9:=hw9.symm;subst hw9))
 go_ret
 exact⟨rfl,HT1.out⟩
theorem z4R (H:Rv B w0 w rh hb X Z vf vq fs qs) (t r:Int) {R:Int→Int→World→Prop}(hP:Calls Tryz.prog 34 #[.pointer (some ⟨hb,0,none⟩),.int .i64 t,.int .i64 r] w fun e w'=>∃ x c,e=.returned (.tuple #[.int .i64 x,.int .i64 c])∧R x c w'):Calls Tryz.prog 14 #[.pointer (some ⟨rh,0,none⟩),.int .i64 t,.int .i64 r] w fun e w'=>∃ x c,e=.returned (.tuple #[.int .i64 x,.int .i64 (z1H c)])∧R x c w':=by
 obtain⟨⟨c0,_⟩,hlt,_⟩:=H.cells4
 have hO:=fun c=>z1i c
 clear H
 go_enter Tryz.func14,Tryz.ntmps14
 go_wp2_with (first
  | (go_at_call 34;refine hP.mono ?_;rintro e w1 ⟨x,c,rfl,hT1⟩;have HT1:Hid (R x c w1):=hT1;clear hP hT1)
  | (go_at_call 33;refine (hO _ _).mono ?_;rintro e w9 ⟨rfl,hw9⟩;replace hw9:=hw9.symm;subst hw9))
 go_ret2
 exact⟨x,c,rfl,HT1.out⟩
theorem z85 (H:Rv B w0 w rh hb X Z vf vq fs qs) (t kd cls n:Int) (b:Bool) {R:Int→Int→World→Prop}(hb0:b=false∨∀ x c w',R x c w'→c≠0) (hP:Calls Tryz.prog 32 #[.pointer (some ⟨hb,0,none⟩),.int .i64 t,.int .i64 kd,.int .i64 cls,.int .i64 n] w fun e w'=>∃ x c,e=.returned (.tuple #[.int .i64 x,.int .i64 c])∧R x c w'):Calls Tryz.prog 13 #[.pointer (some ⟨rh,0,none⟩),.int .i64 t,.int .i64 kd,.int .i64 cls,.int .i64 n,.bool b] w fun e w'=>∃ x c,e=.returned (.tuple #[.int .i64 x,.int .i64 (z1H c)])∧R x c w':=by
 obtain⟨⟨c0,_⟩,hlt,_⟩:=H.cells4
 have hO:=fun c=>z1i c
 have HB:Hid (b=false∨∀ x c w',R x c w'→c≠0):=hb0
 clear H hb0
 go_enter Tryz.func13,Tryz.ntmps13
 go_wp2_with fail
 refine hP.mono ?_
 rintro e w1 ⟨x,c,rfl,hT1⟩
 have HT1:Hid (R x c w1):=hT1
 by_cases hc:c=0
 ·have hbf:b=false:=by
   rcases HB.out with q|q
   ·exact q
   ·exact absurd hc (q x c w1 hT1)
  subst hbf
  have hcc:(c == 0)=true:=by simpa using hc
  clear hP hT1 HB hc
  go_wp2_with (go_at_call 33;refine (hO _ _).mono ?_;rintro e w9 ⟨rfl,hw9⟩;replace hw9:=hw9.symm;subst hw9)
  go_ret2
  exact⟨x,c,rfl,HT1.out⟩
 ·have hcc:(c == 0)=false:=by simpa using hc
  clear hP hT1 HB hc
  go_wp2_with (go_at_call 33;refine (hO _ _).mono ?_;rintro e w9 ⟨rfl,hw9⟩;replace hw9:=hw9.symm;subst hw9)
  go_ret2
  exact⟨x,c,rfl,HT1.out⟩
attribute [local go_sem ↓] z1I
theorem z5r (H:Rv B w0 w rh hb X Z vf vq fs qs) (hfs:fs.length<4000) (t kd cls n:Int) {R:Int→World→Prop}(hP:Calls Tryz.prog 32 #[.pointer (some ⟨hb,0,none⟩),.int .i64 t,.int .i64 kd,.int .i64 cls,.int .i64 n] w fun e w'=>∃ x,e=.returned (.tuple #[.int .i64 x,.int .i64 0])∧(∃ X' Z',Rv B w0 w' rh hb X' Z' vf vq fs qs)∧∀ u,(∀ X' Z',Rv B w0 w' rh hb X' Z' vf vq fs qs→RvT B w0 w' rh hb Z' vf vq X' (fs++[x]) qs u)→R x u):Calls Tryz.prog 13 #[.pointer (some ⟨rh,0,none⟩),.int .i64 t,.int .i64 kd,.int .i64 cls,.int .i64 n,.bool true] w fun e w'=>∃ x,e=.returned (.tuple #[.int .i64 x,.int .i64 0])∧R x w':=by
 obtain⟨⟨c0,_⟩,hlt,_⟩:=H.cells4
 have hO:=z1i 0
 have e0:z1H 0=0:=rfl
 rw[e0] at hO
 have HX:Hid (∀ x w1,(∃ X' Z',Rv B w0 w1 rh hb X' Z' vf vq fs qs)→(∀ u,(∀ X' Z',Rv B w0 w1 rh hb X' Z' vf vq fs qs→RvT B w0 w1 rh hb Z' vf vq X' (fs++[x]) qs u)→R x u)→∃ ao cap ao' cap' w3,(w1.cell? ⟨rh,2,none⟩=some (.slice ao fs.length cap)∧rh<w1.heap.size)∧(appC #[32,32] 32 #[.slice ao fs.length cap,.slice (some ⟨w1.heap.size,0,none⟩) 1 1]).run Tryz.prog (w1.alloc (.cells #[.int .i64 x] 3))=.ok (.slice ao' (fs.length+1) cap') w3∧((∃ v,w3.cell? ⟨rh,2,none⟩=some v)∧rh<w3.heap.size∧w3.frozen? ⟨rh,2,none⟩=false)∧R x (w3.setCell ⟨rh,2,none⟩ (.slice ao' (fs.length+1) cap'))):=fun x w1 hv hR=>by
  obtain⟨X1,Z1,H1⟩:=hv
  obtain⟨ao,cap,e⟩:=H1.fin.form
  obtain⟨ao',cap',w3,hrun,hU3,hg,hat⟩:=H1.fin.more x H1.cv.hv.size (by omega) (heap_alloc_new w1 (.cells #[.int .i64 x] 3)) ((Below.refl _ _).alloc (Nat.le_refl _) _)
  have hB:Bt (fun k=>vf.ownBlock=some k) w1 w3:=⟨hg.os,hg.tape,hg.output,hg.size,fun k hk q=>hg.block k hk (fun z=>q z.symm)⟩
  have hh:=(hB.block rh H1.hlt H1.ne_rh.1).trans H1.here
  rw[e] at hrun
  refine⟨ao,cap,ao',cap',w3,⟨by rw[H1.cells4.1.2.2.1,e],H1.hlt⟩,hrun,⟨⟨vf,by simp[World.cell?,hh]⟩,z02 hh,frz hh 2⟩,hR _ (fun X2 Z2 H2=>H2.setf hB hU3 (by rw[List.length_append,List.length_singleton];omega) ?_)⟩
  rcases hat with q|⟨j,q1,q2⟩
  ·exact .inl q
  ·exact .inr (fun k hk=>by rw[q1] at hk;simp at hk;omega)
 clear H
 generalize fs.length=nf at *
 go_enter Tryz.func13,Tryz.ntmps13
 go_wp2_with (first
  | (go_at_call 32;refine hP.mono ?_;rintro e w1 ⟨x,rfl,hv,hR⟩;obtain⟨ao,cap,ao',cap',w3,⟨k1,k2⟩,hrun,⟨⟨v3,k3⟩,k4,k5⟩,hR3⟩:=HX.out x w1 hv hR;have HR3:Hid (R x (w3.setCell ⟨rh,2,none⟩ (.slice ao' (nf+1) cap'))):=hR3;clear hP hv hR hR3 HX)
  | (go_at_call 33;refine (hO _).mono ?_;rintro e w9 ⟨rfl,hw9⟩;replace hw9:=hw9.symm;subst hw9))
 go_ret2
 exact⟨x,rfl,HR3.out⟩
theorem z3v (H:Rv B w0 w rh hb X Z vf vq fs qs) (hm:X.m≤2000000) (r:Int) (b:Bool) (hbb:b=true↔∃ cl,z0a X.S r=some cl∧cl.kind=4):Calls Tryz.prog 51 #[.pointer (some ⟨rh,0,none⟩),.int .i64 r] w fun e w'=>e=.returned (.bool b)∧Below w.heap.size w w':=by
 obtain⟨⟨c0,_⟩,hlt,_⟩:=H.cells4
 cases hc:z0a X.S r with
 | none =>
  have hb0:b=false:=by
   cases b with
   | false=>rfl
   | true=>obtain⟨cl,h1,_⟩:=hbb.1 rfl;rw[hc] at h1;simp at h1
  subst hb0
  have hC:=z7J H.cv hm r hc
  clear H hc hbb
  go_enter Tryz.func51,Tryz.ntmps51
  go_wp2_with (go_at_call 86;refine hC.mono ?_;rintro e w1 ⟨rfl,hb1⟩)
  go_ret
  exact⟨rfl,hb1.alloc hb1.size _⟩
 | some cl =>
  obtain⟨i,rfl,hi⟩:=z0d hc
  have hC:=z4X H.cv hm hi _ rfl
  have hk:(cl.kind == 4)=b:=by
   cases b with
   | true=>obtain⟨cl',h1,h2⟩:=hbb.1 rfl;rw[hc] at h1;simp at h1;rw[h1,h2];rfl
   | false =>
    have:cl.kind≠4:=fun q=>by have:=hbb.2 ⟨cl,hc,q⟩;simp at this
    simpa using this
  generalize cl.kind=kd at *
  clear H hc hi hbb
  go_enter Tryz.func51,Tryz.ntmps51
  go_wp2_with (go_at_call 86;refine hC.mono ?_;rintro e w1 ⟨rfl,hb1⟩)
  go_ret
  exact⟨rfl,hb1.alloc hb1.size _⟩
theorem z86 (H:Rv B w0 w rh hb X Z vf vq fs qs) (hm:X.m≤2000000):Calls Tryz.prog 18 #[.pointer (some ⟨rh,0,none⟩)] w (z7i w X.S):=by
 obtain⟨⟨c0,_⟩,hlt,_⟩:=H.cells4
 have hR:=z7w H.cv hm
 clear H
 go_enter Tryz.func18,Tryz.ntmps18
 go_wp2_with (go_at_call 47;refine hR.mono ?_;rintro e w1 ⟨v,rfl,hr,hb1⟩;clear hR)
 go_ret
 exact⟨v,rfl,hr,hb1⟩
end
end Go.Proofs.YthkelaeemefnaaaGreat
namespace Go.Proofs.YthkelaeemefnaaaGreat
open Go.RowKit Go.Shelf
attribute [local go_sem] Oper.semAt_some
theorem z9N (ao:Option Addr) (n cap:Nat) (w:World):
  Calls Tryz.prog 42 #[.slice ao n cap] w fun e w'=>e=.returned (.func (.func 79) #[] #[.pointer (some ⟨w.heap.size,0,none⟩)])∧w'=w.alloc (.cells #[.slice ao n cap] 32):=by
 go_enter Tryz.func42,Tryz.ntmps42
 go_wp2
 go_ret
 exact⟨rfl,rfl⟩
theorem ze0 {rh:Nat}{ao:Option Addr}{n cap:Nat}{w:World}(hc:w.cell? ⟨rh,3,none⟩=some (.slice ao n cap)):
  Calls Tryz.prog 38 #[.pointer (some ⟨rh,3,none⟩)] w fun e w'=>e=.returned (.func (.func 79) #[] #[.pointer (some ⟨w.heap.size,0,none⟩)])∧w'=w.alloc (.cells #[.slice ao n cap] 32):=by
 have hV:=z9N ao n cap
 go_enter Tryz.func38,Tryz.ntmps38
 go_wp2_with (go_at_call 42;refine (hV _).mono ?_;rintro e w1 ⟨rfl,hw1⟩;have HW:Hid (w1=w.alloc (.cells #[.slice ao n cap] 32)):=hw1;clear hw1 hV)
 go_ret
 exact⟨rfl,HW.out⟩
def Mt3 (I:Nat→World→Prop) (U:List Int) (i:Nat) (x:Int) (W:World):Prop:=U[i]?=some x∧I i W
theorem z8F {I:Nat→World→Prop}{U:List Int}{ao:Option Addr}{cap b1:Nat}(hN:U.length≤100000) (hbox:∀ i W,I i W→W.cell? ⟨b1,0,none⟩=some (.slice ao U.length cap))
  (hrd:∀ i W,I i W→∀ x,U[i]?=some x→∃ p,ao=some ⟨p,0,none⟩∧W.cell? ⟨p,i,none⟩=some (.int .i64 x)) (n:Nat) (hn:1≤n):
  zcm Fence.wide n Tryz.prog 79 #[.pointer (some ⟨b1,0,none⟩)] (fun x:Int=>#[Value.int .i64 x]) I (Mt3 I U) (fun i _=>i+1) (fun i=>i=U.length) 0:=by
 intro l Bk W hBk hY h0 hb0
 have c1:=hbox 0 W h0
 have HY:Hid _:=hY
 have HR:Hid _:=hrd
 have H0:Hid (I 0 W∧Bk W):=⟨h0,hb0⟩
 have HL:Hid (∀ i,i<U.length→∃ x,U[i]?=some x):=fun i hi=>⟨U[i],List.getElem?_eq_getElem hi⟩
 clear hY hbox hrd h0 hb0
 generalize U.length=N at *
 refine callsIn_of_wp Tryz.func79 rfl trivial ?_ rfl
 simp only[Tryz.ntmps79,List.size_toArray,List.length_cons,List.length_nil,Nat.reduceAdd,Nat.reduceSub,Array.replicate_succ,Array.replicate_zero,List.push_toArray,List.append_toArray,List.nil_append,List.cons_append]
 gi_wp2
 clear c1
 gi_loopg [4,7] N (fun k s4 v7 wr=>∃ i:Nat,v7=.int .i64 i∧i≤N∧N-i=k∧Hid (I i wr∧Bk wr))
 case atStart=>exact⟨0,rfl,by omega,rfl,H0⟩
 case round =>
  clear H0
  obtain⟨i,rfl,hi,hk,h⟩:=hrel
  by_cases hlt:i<N
  ·have hlt':(i:Int)<(N:Int):=by omega
   obtain⟨x,hx⟩:=HL.out i hlt
   obtain⟨p,rfl,hv⟩:=HR.out i wr h.out.1 x hx
   obtain⟨fn,tmps,assign,body,hy,hRd⟩:=HY.out i x wr ⟨hx,h.out.1⟩ h.out.2
   clear h hx HL
   gi_wp2
   refine hRd.mono ?_
   rintro e W3 ⟨rfl,hi3,hk3⟩
   clear hy hRd hv
   have H3:Hid (I (i+1) W3∧Bk W3):=⟨hi3,hk3⟩
   clear hi3 hk3
   gi_wp2
   gi_roundg (N-(i+1))
   case rel=>exact⟨i+1,by go_num,by omega,rfl,H3⟩
   case measure=>omega
  ·obtain rfl:i=N:=by omega
   have hlt':¬ (i:Int)<(i:Int):=by omega
   gi_wp2
   go_end0
   exact⟨⟨_,rfl⟩,h.out⟩
attribute [local go_sem] Oper.semAt_some
section
variable {B:Nat}{w0 w w':World}{rh hb:Nat}{X:Cm}{Z:Cx}{K:Int→Prop}{G:Int→Nat→Int}{R0:Nat→List Int}{X0:Cm}{U:List Int}{v:Value}{b1 C:Nat}
structure Mb1 (w:World) (rh hb:Nat) (T:Nat) (Z:Cx) (b1 C:Nat) (v:Value) (U:List Int):Prop where
 here:∃ a2 a3 a4,w.heap[rh]?=some (.cells #[.pointer (some ⟨hb,0,none⟩),a2,a3,a4] 60 (0,0))
 box:w.heap[b1]?=some (.cells #[v] 32 (0,0))
 row:Ri w C v U
 off:¬ Z.all hb T rh∧¬ Z.all hb T b1∧∀ k,v.ownBlock=some k→¬ Z.all hb T k
theorem Mb1.keep (h:Mb1 w rh hb X.T Z b1 C v U) (e:∀ k,k<w.heap.size→¬ Z.all hb X.T k→w'.heap[k]?=w.heap[k]?):Mb1 w' rh hb X.T Z b1 C v U:=by
 obtain⟨⟨a2,a3,a4,h1⟩,h2,h3,h4⟩:=h
 exact⟨⟨a2,a3,a4,(e rh (z02 h1) h4.1).trans h1⟩,(e b1 (z02 h2) h4.2.1).trans h2,h3.of_block (fun k hk=>e k (h3.lt hk).2 (h4.2.2 k hk)),h4⟩
def Ik (B:Nat) (w0 w:World) (rh hb:Nat) (X:Cm) (Z:Cx) (K:Int→Prop) (G:Int→Nat→Int) (R0:Nat→List Int) (X0:Cm) (U:List Int) (i:Nat) (W:World):Prop :=
 Boxed W w.heap.size 24 (.pointer (some ⟨rh,0,none⟩))∧Bt (Z.all hb X.T) w W∧∃ Xi,CvC B w0 W hb Xi Z∧Mkp K G R0 X0 Xi∧(∀ y,Mkd X.tr y→Mkd Xi.tr y)∧(∀ j x,j<i→U[j]?=some x→Mkd Xi.tr x)∧Xi.T=X.T
theorem Ik.keep {B' i:Nat}(hl:∀ k,Z.all hb X.T k→k<w.heap.size) (hB:w.heap.size≤B') (hBw:B≤w.heap.size) {A A':World}(h:Ik B w0 w rh hb X Z K G R0 X0 U i A) (e:∀ k,(k<B'∨∃ x y z,A.heap[k]?=some (.cells x y z))→k<A.heap.size→A'.heap[k]?=A.heap[k]?) (e1:A'.os=A.os) (e2:A'.tape=A.tape) (e3:A'.output=A.output) (e4:A.heap.size≤A'.heap.size):Ik B w0 w rh hb X Z K G R0 X0 U i A':=by
 obtain⟨h1,h2,Xi,h3,h4,h5,h6,h7⟩:=h
 have hs:=h2.size
 refine⟨(e _ (.inr ⟨_,_,_,h1⟩) h1.lt).trans h1,⟨e1.trans h2.os,e2.trans h2.tape,e3.trans h2.output,Nat.le_trans h2.size e4,fun k hk hq=>(e k (.inl (by omega)) (by omega)).trans (h2.block k hk hq)⟩,Xi,h3.keep (fun k hk=>?_) e4 ?_,h4,h5,h6,h7⟩
 ·rw[h7] at hk
  have:=hl k hk
  exact e k (.inl (by omega)) (by omega)
 ·exact h3.hv.bel.trans ⟨e1,e2,e3,e4,fun k hk=>e k (.inl (by omega)) (by omega)⟩
theorem Ik.keep1 (hl:∀ k,Z.all hb X.T k→k<w.heap.size) {i:Nat}{A A':World}(h:Ik B w0 w rh hb X Z K G R0 X0 U i A) {x:Int}(hx:U[i]?=some x) (hu:x∈X0.tr.row) (hk:K x) {Xi:Cm}(hi:CvC B w0 A hb Xi Z∧Mkp K G R0 X0 Xi∧(∀ y,Mkd X.tr y→Mkd Xi.tr y)∧(∀ j x,j<i→U[j]?=some x→Mkd Xi.tr x)∧Xi.T=X.T) (hS:CcS B w0 A hb Z { Xi with tr:=Xi.tr.mark x,ph:=1 } A'):Ik B w0 w rh hb X Z K G R0 X0 U (i+1) A'∧KeepsFrom w.heap.size A A':=by
 obtain⟨h3,h4,h5,h6,h7⟩:=hi
 obtain⟨k1,k2⟩:=hS
 obtain⟨m1,m2,m3⟩:=h4.keep (.inr hk)
 have k3:Bt (Z.all hb X.T) A A':=by rw[← h7];exact k2
 refine⟨⟨(k3.block _ h.1.lt (fun q=>by have:=hl _ q;omega)).trans h.1,h.2.1.trans k3,_,k1,m1,fun y hy=>m2 y (h5 y hy),fun j y hj hy=>?_,h7⟩,k3.size,fun k o hB hk ho=>?_⟩
 ·by_cases e:j=i
  ·subst e
   rw[hx] at hy;cases hy
   exact m3 (by rw[h4.sm.row];exact hu)
  ·exact m2 y (h6 j y (by omega) hy)
 ·rw[k3.block k (Array.getElem?_eq_some_iff.1 hk).1 (fun q=>by have:=hl _ q;omega)];exact hk
def Jk (B:Nat) (w0 wd:World) (rh hb:Nat) (X:Cm) (Z:Cx) (K:Int→Prop) (G:Int→Nat→Int) (R0:Nat→List Int) (X0:Cm) (U:List Int) (D g:Nat) (X1:Cm) (W:World):Prop :=
 ((∃ a2 a3 a4,W.heap[rh]?=some (.cells #[.pointer (some ⟨hb,0,none⟩),a2,a3,a4] 60 (0,0)))∧Boxed W g 24 (.pointer (some ⟨rh,0,none⟩))∧W.heap[D]?=some (.deferred (some [])))∧Mkp K G R0 X0 X1∧(∀ y,Mkd X.tr y→Mkd X1.tr y)∧(∀ x∈U,Mkd X1.tr x)∧X1.T=X.T∧CcT B w0 wd hb Z X1 W
theorem Jk.go {D g:Nat}(hD:∀ k,(k=D∨k=g∨k=rh)→k<w.heap.size∧¬ Z.all hb X.T k) {X1:Cm}{A:World}(h:Jk B w0 w rh hb X Z K G R0 X0 U D g X1 A) (hm:X0.m+mu X0≤1999999) (hc:0≤X0.cy∧X0.cy≤1000000):
  (Calls Tryz.prog 75 #[.pointer (some ⟨hb,0,none⟩)] A fun e w'=>e=.returned (.int .i64 X1.ph)∧w'=A) ∧
  (X1.ph=1→Calls Tryz.prog 76 #[.pointer (some ⟨hb,0,none⟩)] A fun e w'=>∃ b X2,e=.returned (.tuple #[.bool b,.int .i64 0])∧Jk B w0 w rh hb X Z K G R0 X0 U D g X2 w'∧(X2.ph=1→mu X2<mu X1)):=by
 obtain⟨⟨⟨a2,a3,a4,q0⟩,q1,q2⟩,q3,q4,q5,q6,Z1,h1,h2,h3⟩:=h
 refine⟨z3l h1,fun hp=>?_⟩
 have hcost:=q3.cost
 refine (z7y h1 (by omega) (show Cm.phs _ from .inr (.inl hp)) (by rw[q3.sm.cy];exact hc)).mono ?_
 rintro e A' ⟨X2,hs,rfl,hT⟩
 obtain⟨g1,g2⟩:=h1.greys
 obtain⟨m1,m2,m3⟩:=q3.step g1 g2 hp hs
 have hTT:=hs.T
 have bl:∀ k,(k=D∨k=g∨k=rh)→A'.heap[k]?=A.heap[k]?:=fun k hk=>by
  obtain⟨_,_,b,_⟩:=hT
  obtain⟨e1,e2⟩:=hD k hk
  refine b.block k (Nat.lt_of_lt_of_le e1 h2.size) (fun q=>?_)
  rw[hTT] at q
  rcases h3 k q with z|z
  ·rw[q6] at z;exact e2 z
  ·omega
 refine⟨_,X2,rfl,⟨⟨⟨a2,a3,a4,(bl rh (.inr (.inr rfl))).trans q0⟩,(bl g (.inr (.inl rfl))).trans q1,(bl D (.inl rfl)).trans q2⟩,m1,fun y hy=>m2 y (q4 y hy),fun x hx=>m2 x (q5 x hx),hTT.trans q6,?_⟩,m3⟩
 rw[← hTT] at h2 h3
 exact CcT.then h2 h3 hT
def zdt (B:Nat) (w0 w:World) (hb:Nat) (X:Cm) (Z:Cx) (K:Int→Prop) (G:Int→Nat→Int) (R0:Nat→List Int) (X0:Cm) (U:List Int) (w':World):Prop :=
 ∃ X1,Mkp K G R0 X0 X1∧X1.ph=2∧(∀ y,Mkd X.tr y→Mkd X1.tr y)∧(∀ x∈U,Mkd X1.tr x)∧X1.T=X.T∧CcT B w0 w hb Z X1 w'
theorem z7Y (H:CvC B w0 w hb X Z) (hM:Mkp K G R0 X0 X) (hm:X0.m+mu X0≤1999999) (hc:0≤X0.cy∧X0.cy≤1000000) (hb1:Mb1 w rh hb X.T Z b1 C v U) (hU:∀ x∈U,x∈X0.tr.row∧K x) (hlen:U.length≤100000):
  Calls Tryz.prog 37 #[.pointer (some ⟨rh,0,none⟩),.func (.func 79) #[] #[.pointer (some ⟨b1,0,none⟩)]] w fun e w'=>e=.returned (.tuple #[])∧zdt B w0 w hb X Z K G R0 X0 U w':=by
 have hl:∀ k,Z.all hb X.T k→k<w.heap.size:=fun k hk=>H.all_lt hk
 obtain⟨ao,cap,rfl⟩:=hb1.row.form
 have hbb:Below w.heap.size w (w.alloc (.cells #[.pointer (some ⟨rh,0,none⟩)] 24)):=(Below.refl _ w).alloc (Nat.le_refl _) _
 have H0:Hid (Ik B w0 w rh hb X Z K G R0 X0 U 0 (w.alloc (.cells #[.pointer (some ⟨rh,0,none⟩)] 24))):=⟨Boxed.new w 24 (.pointer (some ⟨rh,0,none⟩)),Bt.of_below hbb,X,H.below hbb,hM,fun _ h=>h,fun j x hj=>absurd hj (by omega),rfl⟩
 have HB:Hid (∀ i W,Ik B w0 w rh hb X Z K G R0 X0 U i W→Mb1 W rh hb X.T Z b1 C (.slice ao U.length cap) U):=fun i W h=>hb1.keep (fun k hk hq=>h.2.1.block k hk hq)
 have HBw:Hid (B≤w.heap.size):=H.hv.size
 have HJ:Hid (∀ D W,w.heap.size≤D→Ik B w0 w rh hb X Z K G R0 X0 U U.length W→W.heap[D]?=some (.deferred (some []))→∃ X1,Jk B w0 W rh hb X Z K G R0 X0 U D w.heap.size X1 W∧(∀ k,(k=D∨k=w.heap.size∨k=rh)→k<W.heap.size∧¬ Z.all hb X.T k)∧∀ X2 W2,Jk B w0 W rh hb X Z K G R0 X0 U D w.heap.size X2 W2→X2.ph≠1→zdt B w0 w hb X Z K G R0 X0 U (W2.putObj D (.deferred none))):=fun D W hD h hd=>by
  obtain⟨h1,h2,Xi,h3,h4,h5,h6,h7⟩:=h
  have hmb:=hb1.keep (w':=W) (fun k hk hq=>h2.block k hk hq)
  have hDl:D<W.heap.size:=(Array.getElem?_eq_some_iff.1 hd).1
  refine⟨Xi,⟨⟨hmb.here,h1,hd⟩,h4,h5,fun x hx=>?_,h7,h3.same⟩,fun k hk=>?_,fun X2 W2 hJ hp=>?_⟩
  ·obtain⟨j,hj,e⟩:=List.getElem_of_mem hx
   exact h6 j x hj (by rw[List.getElem?_eq_getElem hj,e])
  ·rcases hk with rfl|rfl|rfl
   ·exact⟨hDl,fun q=>by have:=hl _ q;omega⟩
   ·exact⟨h1.lt,fun q=>by have:=hl _ q;omega⟩
   ·obtain⟨_,_,_,z⟩:=hmb.here
    exact⟨z02 z,hmb.off.1⟩
  ·obtain⟨_,q3,q4,q5,q6,Z1,k1,k2,k3⟩:=hJ
   have hD1:¬ Z1.all hb X2.T D:=fun q=>by
    rcases k3 D q with z|z
    ·rw[q6] at z;have:=hl _ z;omega
    ·omega
   rw[q6] at k2 k3
   refine⟨X2,q3,q3.st.elim (fun q=>absurd q hp) (fun q=>q.1),q4,q5,q6,Z1,k1.keep (fun k hk=>World.putObj_heap_other (fun q=>hD1 (by rw[← q];exact hk))) (by rw[World.putObj_size];exact Nat.le_refl _) ?_,?_,?_⟩
   ·exact k1.hv.bel.trans ⟨rfl,rfl,rfl,by rw[World.putObj_size];exact Nat.le_refl _,fun k hk=>World.putObj_heap_other (by have:=H.hv.size;omega)⟩
   ·rw[q6];exact (h2.trans k2).putO hD _
   ·rw[q6];exact fun k hk=>(k3 k hk).imp id (fun r=>Nat.le_trans h2.size r)
 clear H hM
 refine (callsIn_wide (n:=5)).1 ?_
 refine callsIn_of_wp_marks Tryz.func37 rfl trivial ?_ rfl
 simp only[Tryz.ntmps37,List.size_toArray,List.length_cons,List.length_nil,Nat.reduceAdd,Nat.reduceSub,Array.replicate_succ,Array.replicate_zero,List.push_toArray,List.append_toArray,List.nil_append,List.cons_append]
 gi_wp2
 refine z2j (F:=Fence.wide) (n:=5) rfl (by decide) (gf:=79) (lb:=#[.pointer (some ⟨b1,0,none⟩)]) rfl trivial (enters_of Tryz.func79 (by kernel_rfl) rfl)
  (z8F (I:=Ik B w0 w rh hb X Z K G R0 X0 U) (U:=U) (ao:=ao) (cap:=cap) hlen (fun i W h=>by simp[World.cell?,(HB.out i W h).box]) (fun i W h x hx=>by
   have hU0:0<U.length:=by have:=(List.getElem?_eq_some_iff.1 hx).1;omega
   obtain⟨p,e,_,_,_,k⟩:=(HB.out i W h).row.cells hU0
   exact⟨p,e,k i x hx⟩) 4 (by decide)) (fun _=>rfl)
  (z3W fun i A A' h e e1 e2 e3 e4=>h.keep hl (by simp) HBw.out e e1 e2 e3 e4) (fun x=>z3W fun i A A' h e e1 e2 e3 e4=>⟨h.1,h.2.keep hl (by simp) HBw.out e e1 e2 e3 e4⟩) H0.out
  (fun x=>{ tmps:=#[.pointer (some ⟨rh,0,none⟩),.func (.func 79) #[] #[.pointer (some ⟨b1,0,none⟩)],.pointer (some ⟨w.heap.size,0,none⟩),undef,.int .i64 x,.func (.func 79) #[] #[.pointer (some ⟨b1,0,none⟩)],.int .i64 x,undef,undef,undef,undef,undef,undef,undef,undef,undef,undef,undef,undef,undef,undef,undef,undef,undef],defers:=[] }) ?assign ?body ?done
 case assign =>
  intro l x W K hK
  gi_wp2
  exact hK
 case body =>
  rintro l i x W ⟨hx,hI⟩
  have b0:=hI.1.cell
  have HE:Hid ((∃ a,W.cell? ⟨rh,0,none⟩=some a∧a=.pointer (some ⟨hb,0,none⟩))∧CallsIn Fence.wide 2 Tryz.prog 74 #[.pointer (some ⟨hb,0,none⟩),.int .i64 x] W fun e W'=>e=.returned (.tuple #[])∧KeepsFrom w.heap.size W W'∧Ik B w0 w rh hb X Z K G R0 X0 U (i+1) W'):=by
   obtain⟨a2,a3,a4,z⟩:=(HB.out i W hI).here
   refine⟨⟨_,by simp[World.cell?,z],rfl⟩,callsIn_wide.2 ?_⟩
   obtain⟨k1,k2,Xi,k3⟩:=hI
   have hxU:x∈U:=List.mem_of_getElem? hx
   refine (zc9 k3.1 x (k3.2.1.st.imp id (fun q=>q.1))).mono ?_
   rintro e W' ⟨rfl,hS⟩
   obtain⟨j1,j2⟩:=Ik.keep1 hl ⟨k1,k2,Xi,k3⟩ hx (hU x hxU).1 (hU x hxU).2 k3 hS
   exact⟨rfl,j2,j1⟩
  clear hI H0 HB HJ
  obtain⟨⟨_,c0,rfl⟩,hK⟩:=HE.out
  clear HE
  gi_wp2_with (refine⟨trivial,?_⟩;gi_at_call 74;refine (CallsIn.inRound l hK).mono ?_;rintro e W1 ⟨rfl,j1,j2⟩;have HJ1:Hid (KeepsFrom w.heap.size W W1∧Ik B w0 w rh hb X Z K G R0 X0 U (i+1) W1):=⟨j1,j2⟩;clear hK j1 j2)
  refine⟨⟨HJ1.out.1.size,fun k o hk=>HJ1.out.1.same k o ?_⟩,trivial,HJ1.out.2⟩
  simp at hk;omega
 case done =>
  rintro D i W hD rfl hI hK
  obtain⟨X1,hJ,hD2,hF⟩:=HJ.out D W (by simp at hD;omega) hI hK
  have HJ1:Hid (Jk B w0 W rh hb X Z K G R0 X0 U D w.heap.size X1 W):=hJ
  have HD2:Hid _:=hD2
  have HF:Hid _:=hF
  clear HJ HB H0 hI hK hJ hF hD2
  gi_wp2
  gi_loopg [17] (mu X1+2) (fun kx s17 wr=>∃ X2,(if X2.ph=1 then mu X2+1 else 0)≤kx∧Hid (Jk B w0 W rh hb X Z K G R0 X0 U D w.heap.size X2 wr))
  case atStart=>exact⟨X1,by split<;>omega,HJ1⟩
  case round =>
   obtain⟨X2,hk,hJ⟩:=hrel
   have b0:=hJ.out.1.2.1.cell
   obtain⟨hP,hSt⟩:=hJ.out.go HD2.out hm hc
   obtain⟨a2,a3,a4,z⟩:=hJ.out.1.1
   have c0:wr.cell? ⟨rh,0,none⟩=some (.pointer (some ⟨hb,0,none⟩)):=by simp[World.cell?,z]
   have hd:=hJ.out.1.2.2
   by_cases hp:X2.ph=1
   ·have hS:=callsIn_wide (n:=4).2 (hSt hp)
    rw[if_pos hp] at hk
    rw[hp] at hP
    have hP2:=callsIn_wide (n:=4).2 hP
    clear hSt hP z hp hd
    gi_wp2_with (first
     | (refine⟨trivial,?_⟩;gi_at_call 75;refine hP2.mono ?_;rintro e w9 ⟨rfl,hw9⟩;replace hw9:=hw9.symm;subst hw9)
     | (refine⟨trivial,?_⟩;gi_at_call 76;refine hS.mono ?_;rintro e w9 ⟨bb,X3,rfl,hJ3,hmu⟩;have HJ3:Hid (Jk B w0 W rh hb X Z K G R0 X0 U D w.heap.size X3 w9∧(X3.ph=1→mu X3<mu X2)):=⟨hJ3,hmu⟩;clear hS hJ3 hmu))
    gi_roundg (mu X2)
    case rel =>
     refine⟨X3,?_,HJ3.out.1⟩
     have:=HJ3.out.2
     split
     ·rename_i q;have:=this q;omega
     ·omega
    case measure=>omega
   ·have hpb:(X2.ph == 1)=false:=by simpa using hp
    have hP2:=callsIn_wide (n:=4).2 hP
    have HM:Hid _:=HF.out X2 wr hJ.out hp
    clear hSt hP z hp
    gi_wp2_with (refine⟨trivial,?_⟩;gi_at_call 75;refine hP2.mono ?_;rintro e w9 ⟨rfl,hw9⟩;replace hw9:=hw9.symm;subst hw9)
    refine⟨by simp,.inl ⟨_,_,rfl,run_takeDeferred hd,?_⟩⟩
    exact⟨_,results_none rfl _ _ _,rfl,HM.out⟩
end
end Go.Proofs.YthkelaeemefnaaaGreat
