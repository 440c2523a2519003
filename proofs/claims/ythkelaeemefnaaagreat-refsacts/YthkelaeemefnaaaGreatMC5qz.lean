import Derived.Test.YthkelaeemefnaaaGreatMC4qz
namespace Go.Proofs.YthkelaeemefnaaaGreat
open Go.RowKit
def Mkd (T:Tr) (r:Int):Prop:=∃ p,T.row[p]?=some r∧T.col p≠1
def Unl (T:Tr) (r:Int) (j:Nat):Prop:=(∃ p,T.row[p]?=some r∧T.col p≠3)∨(T.lr=r∧T.ln≤j∧(j:Int)<T.lw)
def wd (X:Cm) (r:Int) (j:Nat):Int:=X.F (r-1).toNat j
structure Mrk (K0:Int→Prop) (G:Int→Nat→Int) (R0:Nat→List Int) (K:Int→Prop) (X:Cm):Prop where
 rise:z0g X.tr.row
 base:∀ r,K0 r→r∈X.tr.row
 knew:∀ r,K r→r∈X.tr.row→K0 r
 gk:∀ r,K0 r→∀ j,j<rfs X.S r→G r j=0∨K0 (G r j)
 kroot:∀ t,t<X.T→∀ r∈X.rt t,r=0∨K r
 kword:∀ r,K r→∀ j,j<rfs X.S r→wd X r j=0∨K (wd X r j)
 kmark:∀ r,Mkd X.tr r→K r
 snap:∀ r,K0 r→∀ j,j<rfs X.S r→G r j=0∨Mkd X.tr (G r j)∨(wd X r j=G r j∧Unl X.tr r j)
 roots:∀ t,t<X.T→∀ r∈R0 t,r=0∨Mkd X.tr r∨(X.A t=false∧r∈X.rt t)
 look:X.tr.ln<X.tr.lw→K X.tr.lr∧X.tr.lw=(rfs X.S X.tr.lr:Int)∧0≤X.tr.ln
 greys:∀ p,X.tr.col p=2→p<X.tr.row.length→p∈X.tr.q
 cols:∀ p,p<X.tr.row.length→X.tr.col p=1∨X.tr.col p=2∨X.tr.col p=3
 queue:∀ p∈X.tr.q,∃ r,X.tr.row[p]?=some r∧X.tr.col p≠1
theorem z0V (T:Tr) (x:Int):(T.mark x).row=T.row∧(T.mark x).lr=T.lr∧(T.mark x).ln=T.ln∧(T.mark x).lw=T.lw∧(T.mark x).sw=T.sw:=by
 unfold Tr.mark Tr.grey
 split
 ·split<;>exact⟨rfl,rfl,rfl,rfl,rfl⟩
 ·exact⟨rfl,rfl,rfl,rfl,rfl⟩
theorem z1J (T:Tr) (x:Int) (p:Nat):(T.mark x).col p=T.col p∨(T.col p=1∧(T.mark x).col p=2∧hasK T.row x=true∧p=posK T.row x∧(T.mark x).q=T.q++[p]):=by
 unfold Tr.mark Tr.grey
 split
 ·rename_i h1
  split
  ·rename_i h2
   show setC T.col _ 2 p=_∨_
   unfold setC
   by_cases e:p=posK T.row x
   ·right
    refine⟨by rw[e];exact h2,?_,h1,e,by rw[e]⟩
    show setC T.col _ 2 p=2
    unfold setC
    rw[if_pos e]
   ·left
    rw[if_neg e]
  ·exact .inl rfl
 ·exact .inl rfl
theorem zf5 (T:Tr) (x:Int):∀ p∈T.q,p∈(T.mark x).q:=fun p hp=>by
 unfold Tr.mark Tr.grey
 split
 ·split
  ·exact List.mem_append_left _ hp
  ·exact hp
 ·exact hp
theorem Mkd.mark {T:Tr}{r:Int}(h:Mkd T r) (x:Int):Mkd (T.mark x) r:=by
 obtain⟨p,h1,h2⟩:=h
 refine⟨p,by rw[(z0V T x).1];exact h1,?_⟩
 rcases z1J T x p with e|⟨e,_⟩
 ·rw[e];exact h2
 ·exact absurd e h2
theorem Unl.mark {T:Tr}{r:Int}{j:Nat}(h:Unl T r j) (x:Int):Unl (T.mark x) r j:=by
 obtain⟨e1,e2,e3,e4,_⟩:=z0V T x
 rcases h with ⟨p,h1,h2⟩|h
 ·refine .inl ⟨p,by rw[e1];exact h1,?_⟩
  rcases z1J T x p with e|⟨_,e,_⟩
  ·rw[e];exact h2
  ·rw[e];decide
 ·right;rw[e2,e3,e4];exact h
theorem z7f {T:Tr}{r x:Int}(hs:z0g T.row) (h:Mkd (T.mark x) r):Mkd T r∨r=x:=by
 obtain⟨p,h1,h2⟩:=h
 rw[(z0V T x).1] at h1
 rcases z1J T x p with e|⟨_,_,e1,e2,_⟩
 ·exact .inl ⟨p,h1,by rw[← e];exact h2⟩
 ·right
  have:=z1P hs e1
  rw[← e2,h1] at this
  exact Option.some.inj this
theorem z2F {T:Tr}{x:Int}(hs:z0g T.row) (hx:x∈T.row):Mkd (T.mark x) x:=by
 have h1:hasK T.row x=true:=(z12 _ _).2 hx
 refine⟨posK T.row x,by rw[(z0V T x).1];exact z1P hs h1,?_⟩
 unfold Tr.mark
 rw[if_pos h1]
 unfold Tr.grey
 split
 ·show setC T.col _ 2 _≠1
  unfold setC
  rw[if_pos rfl];decide
 ·rename_i h2;exact h2
section
variable {K0:Int→Prop}{G:Int→Nat→Int}{R0:Nat→List Int}{K:Int→Prop}{X:Cm}
theorem Mrk.mark (H:Mrk K0 G R0 K X) {x:Int}(hx:x=0∨K x) (h0:∀ r∈X.tr.row,r≠0):Mrk K0 G R0 K { X with tr:=X.tr.mark x }:=by
 obtain⟨e1,e2,e3,e4,_⟩:=z0V X.tr x
 refine⟨by show z0g (X.tr.mark x).row;rw[e1];exact H.rise,fun r hr=>by show r∈(X.tr.mark x).row;rw[e1];exact H.base r hr,fun r hr h=>H.knew r hr (by rw[← e1];exact h),H.gk,H.kroot,H.kword,fun r hr=>?_,fun r hr j hj=>?_,fun t ht r hr=>?_,?_,fun p hp hl=>?_,fun p hl=>?_,fun p hp=>?_⟩
 ·rcases z7f H.rise hr with q|rfl
  ·exact H.kmark r q
  ·rcases hx with q|q
   ·exfalso
    obtain⟨p,h1,_⟩:=hr
    rw[show ({ X with tr:=X.tr.mark r }:Cm).tr.row=X.tr.row from e1] at h1
    exact h0 r (List.mem_of_getElem? h1) q
   ·exact q
 ·rcases H.snap r hr j hj with q|q|⟨q1,q2⟩
  ·exact .inl q
  ·exact .inr (.inl (q.mark x))
  ·exact .inr (.inr ⟨q1,q2.mark x⟩)
 ·rcases H.roots t ht r hr with q|q|q
  ·exact .inl q
  ·exact .inr (.inl (q.mark x))
  ·exact .inr (.inr q)
 ·show (X.tr.mark x).ln<(X.tr.mark x).lw→K (X.tr.mark x).lr∧(X.tr.mark x).lw=(rfs X.S (X.tr.mark x).lr:Int)∧0≤(X.tr.mark x).ln
  rw[e2,e3,e4]
  exact H.look
 ·show p∈(X.tr.mark x).q
  have hl':p<X.tr.row.length:=by rw[← e1];exact hl
  rcases z1J X.tr x p with e|⟨_,_,_,_,e⟩
  ·exact zf5 X.tr x p (H.greys p (by rw[← e];exact hp) hl')
  ·rw[e];simp
 ·show (X.tr.mark x).col p=1∨_∨_
  have hl':p<X.tr.row.length:=by rw[← e1];exact hl
  rcases z1J X.tr x p with e|⟨_,e,_⟩
  ·rw[e];exact H.cols p hl'
  ·exact .inr (.inl e)
 ·show ∃ r,(X.tr.mark x).row[p]?=some r∧(X.tr.mark x).col p≠1
  rw[e1]
  have hp':p∈X.tr.q∨((X.tr.mark x).q=X.tr.q++[p]∧hasK X.tr.row x=true∧p=posK X.tr.row x∧(X.tr.mark x).col p=2):=by
   have hq:p∈(X.tr.mark x).q:=hp
   by_cases hin:p∈X.tr.q
   ·exact .inl hin
   ·unfold Tr.mark Tr.grey at hq ⊢
    split at hq
    ·rename_i g1
     split at hq
     ·rename_i g2
      rw[if_pos g1,if_pos g2]
      rcases List.mem_append.1 hq with z|z
      ·exact absurd z hin
      ·have z':=List.mem_singleton.1 z
       refine .inr ⟨by rw[z'],g1,z',?_⟩
       show setC X.tr.col _ 2 p=2
       unfold setC
       rw[if_pos z']
     ·exact absurd hq hin
    ·exact absurd hq hin
  rcases hp' with q|⟨_,q1,q2,q3⟩
  ·obtain⟨r,h1,h2⟩:=H.queue p q
   refine⟨r,h1,?_⟩
   rcases z1J X.tr x p with e|⟨e,_⟩
   ·rw[e];exact h2
   ·exact absurd e h2
  ·exact⟨x,by rw[q2];exact z1P H.rise q1,by rw[q3];decide⟩
theorem Mrk.done (H:Mrk K0 G R0 K X) (hq:X.tr.q=[]) (hl:¬ X.tr.ln<X.tr.lw) (ha:∀ t,t<X.T→X.A t=true):
  (∀ t,t<X.T→∀ r∈R0 t,r=0∨Mkd X.tr r)∧∀ r,K0 r→Mkd X.tr r→∀ j,j<rfs X.S r→G r j=0∨Mkd X.tr (G r j):=by
 refine⟨fun t ht r hr=>?_,fun r hr hm j hj=>?_⟩
 ·rcases H.roots t ht r hr with q|q|⟨q,_⟩
  ·exact .inl q
  ·exact .inr q
  ·rw[ha t ht] at q;simp at q
 ·rcases H.snap r hr j hj with q|q|⟨_,q⟩
  ·exact .inl q
  ·exact .inr q
  ·exfalso
   rcases q with ⟨p,h1,h2⟩|⟨_,h2,h3⟩
   ·obtain⟨p',g1,g2⟩:=hm
    have a1:=(z1b H.rise h1).1
    have a2:=(z1b H.rise g1).1
    have e:p'=p:=by omega
    subst e
    have hpl:p'<X.tr.row.length:=(List.getElem?_eq_some_iff.1 h1).1
    rcases H.cols p' hpl with c|c|c
    ·exact g2 c
    ·have:=H.greys p' c hpl
     rw[hq] at this;simp at this
    ·exact h2 c
   ·omega
end
end Go.Proofs.YthkelaeemefnaaaGreat
namespace Go.Proofs.YthkelaeemefnaaaGreat
open Go.RowKit
section
variable {K0:Int→Prop}{G:Int→Nat→Int}{R0:Nat→List Int}{K:Int→Prop}{X:Cm}
theorem zfU {r:Int}{i:Int}{j:Nat}(hi:i=j) (hj:j<rfs X.S r):X.mw r i=X.tr.mark (wd X r j):=by
 subst hi
 unfold Cm.mw wd
 rw[if_pos (by omega),Int.toNat_natCast]
theorem Mrk.looks (H:Mrk K0 G R0 K X) (h0:∀ r∈X.tr.row,r≠0) (hl:X.tr.ln<X.tr.lw) (c':Int→Int):Mrk K0 G R0 K { X with m:=X.m+1,c:=c',tr:={ X.mw X.tr.lr X.tr.ln with ln:=X.tr.ln+1 } }:=by
 obtain⟨hk,hw,hn⟩:=H.look hl
 obtain⟨j,hj⟩:=Int.eq_ofNat_of_zero_le hn
 have hjr:j<rfs X.S X.tr.lr:=by omega
 have e:=zfU (X:=X) hj hjr
 have hv:wd X X.tr.lr j=0∨K (wd X X.tr.lr j):=H.kword _ hk j hjr
 have H1:=H.mark hv h0
 obtain⟨e1,e2,e3,e4,_⟩:=z0V X.tr (wd X X.tr.lr j)
 rw[e]
 refine⟨H1.rise,H1.base,H1.knew,H1.gk,H1.kroot,H1.kword,H1.kmark,fun r hr i hi=>?_,H1.roots,fun hl2=>?_,H1.greys,H1.cols,H1.queue⟩
 ·rcases H1.snap r hr i hi with q|q|⟨q1,q2⟩
  ·exact .inl q
  ·exact .inr (.inl q)
  ·rcases q2 with q2|⟨q2,q3,q4⟩
   ·exact .inr (.inr ⟨q1,.inl q2⟩)
   ·have q2':X.tr.lr=r:=by rw[← e2];exact q2
    have q3':X.tr.ln≤i:=by rw[← e3];exact q3
    by_cases he:i=j
    ·subst he
     have hg:wd X r i=G r i:=q1
     rcases H.gk r hr i hi with z|z
     ·exact .inl z
     ·right;left
      rw[q2',hg]
      exact z2F H.rise (H.base _ z)
    ·refine .inr (.inr ⟨q1,.inr ⟨q2,?_,q4⟩⟩)
     show X.tr.ln+1≤(i:Int)
     omega
 ·have hl2':X.tr.ln+1<(X.tr.mark (wd X X.tr.lr j)).lw:=hl2
  show K (X.tr.mark (wd X X.tr.lr j)).lr∧(X.tr.mark (wd X X.tr.lr j)).lw=(rfs X.S (X.tr.mark (wd X X.tr.lr j)).lr:Int)∧0≤X.tr.ln+1
  rw[e2,e4]
  exact⟨hk,hw,by omega⟩
theorem Mrk.next (H:Mrk K0 G R0 K X) (hl:¬ X.tr.ln<X.tr.lw) {p:Nat}{t:List Nat}{r:Int}(hq:X.tr.q=p::t) (hnd:p ∉ t) (hr:X.tr.row[p]?=some r):Mrk K0 G R0 K { X with tr:={ X.tr with col:=setC X.tr.col p 3,q:=t,lr:=r,ln:=0,lw:=rfs X.S r } }:=by
 obtain⟨r',g1,g2⟩:=H.queue p (by rw[hq];simp)
 have hmr:Mkd X.tr r:=⟨p,hr,g2⟩
 have hkr:K r:=H.kmark r hmr
 have hup:∀ x,Mkd X.tr x→Mkd ({ X.tr with col:=setC X.tr.col p 3,q:=t,lr:=r,ln:=0,lw:=rfs X.S r }:Tr) x:=fun x ⟨p',h1,h2⟩=>⟨p',h1,by
  show setC X.tr.col p 3 p'≠1
  unfold setC
  split
  ·decide
  ·exact h2⟩
 refine⟨H.rise,H.base,H.knew,H.gk,H.kroot,H.kword,fun x hx=>?_,fun x hx i hi=>?_,fun t' ht' x hx=>?_,fun _=>⟨hkr,rfl,Int.le_refl _⟩,fun p' hp' hlen=>?_,fun p' hlen=>?_,fun p' hp'=>?_⟩
 ·obtain⟨p',h1,h2⟩:=hx
  by_cases e:p'=p
  ·subst e
   have h1':X.tr.row[p']?=some x:=h1
   rw[hr] at h1'
   rw[← Option.some.inj h1'];exact hkr
  ·refine H.kmark x ⟨p',h1,?_⟩
   have h2':setC X.tr.col p 3 p'≠1:=h2
   unfold setC at h2'
   rw[if_neg e] at h2'
   exact h2'
 ·rcases H.snap x hx i hi with q|q|⟨q1,q2⟩
  ·exact .inl q
  ·exact .inr (.inl (hup _ q))
  ·refine .inr (.inr ⟨q1,?_⟩)
   rcases q2 with ⟨p',h1,h2⟩|⟨_,h2,h3⟩
   ·by_cases e:p'=p
    ·subst e
     rw[hr] at h1
     obtain rfl:=Option.some.inj h1
     exact .inr ⟨rfl,by show (0:Int)≤i;omega,by show (i:Int)<(rfs X.S r:Int);have hi':i<rfs X.S r:=hi;omega⟩
    ·refine .inl ⟨p',h1,?_⟩
     show setC X.tr.col p 3 p'≠3
     unfold setC
     rw[if_neg e];exact h2
   ·omega
 ·rcases H.roots t' ht' x hx with q|q|q
  ·exact .inl q
  ·exact .inr (.inl (hup _ q))
  ·exact .inr (.inr q)
 ·have hc:setC X.tr.col p 3 p'=2:=hp'
  unfold setC at hc
  by_cases e:p'=p
  ·rw[if_pos e] at hc;omega
  ·rw[if_neg e] at hc
   have:=H.greys p' hc hlen
   rw[hq] at this
   rcases List.mem_cons.1 this with z|z
   ·exact absurd z e
   ·exact z
 ·show setC X.tr.col p 3 p'=1∨setC X.tr.col p 3 p'=2∨setC X.tr.col p 3 p'=3
  unfold setC
  by_cases e:p'=p
  ·rw[if_pos e];exact .inr (.inr rfl)
  ·rw[if_neg e];exact H.cols p' hlen
 ·have hp2:p'∈t:=hp'
  obtain⟨x,h1,h2⟩:=H.queue p' (by rw[hq];exact List.mem_cons_of_mem _ hp2)
  refine⟨x,h1,?_⟩
  show setC X.tr.col p 3 p'≠1
  unfold setC
  rw[if_neg (fun e=>hnd (by rw[← e];exact hp2))]
  exact h2
theorem Mrk.marks:∀ (U:List Int) {X:Cm},Mrk K0 G R0 K X→(∀ r∈X.tr.row,r≠0)→(∀ x∈U,x=0∨K x)→Mrk K0 G R0 K { X with tr:=z0z X.tr U }∧(∀ x,Mkd X.tr x→Mkd (z0z X.tr U) x)∧∀ x∈U,x∈X.tr.row→Mkd (z0z X.tr U) x
 | [],X,H,_,_=>⟨H,fun _ h=>h,fun x hx=>by simp at hx⟩
 | y::U,X,H,h0,hU=>by
  have H1:=H.mark (hU y (by simp)) h0
  have e1:=(z0V X.tr y).1
  obtain⟨H2,h2,h3⟩:=Mrk.marks U H1 (by show ∀ r∈(X.tr.mark y).row,r≠0;rw[e1];exact h0) (fun x hx=>hU x (by simp[hx]))
  refine⟨H2,fun x hx=>h2 x (hx.mark y),fun x hx hr=>?_⟩
  rcases List.mem_cons.1 hx with rfl|hx
  ·exact h2 x (z2F H.rise hr)
  ·exact h3 x hx (by show x∈(X.tr.mark y).row;rw[e1];exact hr)
theorem Mrk.answer (H:Mrk K0 G R0 K X) (h0:∀ r∈X.tr.row,r≠0) (hR:∀ t,t<X.T→∀ r∈R0 t,r=0∨K0 r) {t:Nat}(ht:t<X.T):Mrk K0 G R0 K (ans1 X t):=by
 unfold ans1
 split
 ·exact H
 ·obtain⟨H1,h1,h2⟩:=Mrk.marks (X.rt t) H h0 (H.kroot t ht)
  refine⟨H1.rise,H1.base,H1.knew,H1.gk,H1.kroot,H1.kword,H1.kmark,H1.snap,fun t' ht' r hr=>?_,H1.look,H1.greys,H1.cols,H1.queue⟩
  rcases H.roots t' ht' r hr with q|q|⟨q1,q2⟩
  ·exact .inl q
  ·exact .inr (.inl (h1 r q))
  ·by_cases e:t'=t
   ·subst e
    rcases hR t' ht' r hr with z|z
    ·exact .inl z
    ·exact .inr (.inl (h2 r q2 (H.base r z)))
   ·refine .inr (.inr ⟨?_,q2⟩)
    show setB X.A t true t'=false
    unfold setB
    rw[if_neg e];exact q1
end
end Go.Proofs.YthkelaeemefnaaaGreat
namespace Go.Proofs.YthkelaeemefnaaaGreat
open Go.RowKit
theorem z95 (S:List (Option Cel)) (c:Cel):nums 0 (S++[some c])=nums 0 S++[(S.length:Int)+1]:=by
 rw[z0N,z2v,List.map_append,← z0N];simp
theorem zcK {S:List (Option Cel)}{x:Int}{A U:List Int}(h:nums 0 S=A++x::U):nums 0 (delS S x)=A++U:=by
 obtain⟨i,c,h1,h2⟩:=z15 0 S x (by rw[h];simp)
 have hr:x=(i:Int)+1:=by omega
 obtain⟨j,g1,g2⟩:=z2u 0 S i c h2
 have hj:(nums 0 S)[j]?=some x:=by rw[z0N,List.getElem?_map,g1,hr];simp
 have h0:(nums 0 S)[A.length]?=some x:=by rw[h];simp
 have a1:=(z1b (z0r 0 S) hj).1
 have a2:=(z1b (z0r 0 S) h0).1
 obtain rfl:j=A.length:=by omega
 have hc:z0a S x=some c:=by rw[hr,z0u,h2];rfl
 have e:delS S x=S.set i none:=by unfold delS;rw[hc,hr];simp
 have e2:nums 0 (S.set i none)=(nums 0 S).eraseIdx A.length:=by
  rw[z0N,g2,z0N,List.eraseIdx_eq_take_drop_succ,List.eraseIdx_eq_take_drop_succ,List.map_append,List.map_take,List.map_drop]
 rw[e,e2,h,List.eraseIdx_append_of_length_le (Nat.le_refl _)]
 simp
def z1B (T:Tr) (S:List (Option Cel)):Nat→Nat
 | 0=>0
 | p+1=>z1B T S p+(if T.col p=3 then 0 else rfs S (T.row[p]?.getD 0)+1)
theorem z28 {T T':Tr}{S:List (Option Cel)}(hr:T'.row=T.row):∀ n,(∀ p,p<n→(T'.col p=3↔T.col p=3))→z1B T' S n=z1B T S n
 | 0,_=>rfl
 | n+1,h=>by
  unfold z1B
  rw[z28 hr n (fun p hp=>h p (by omega)),hr]
  have e:=h n (by omega)
  by_cases q:T.col n=3
  ·rw[if_pos q,if_pos (e.2 q)]
  ·rw[if_neg q,if_neg (fun z=>q (e.1 z))]
theorem z3U {T T':Tr}{S:List (Option Cel)}{p:Nat}{r:Int}(hr:T'.row=T.row) (hp:T.row[p]?=some r) (h1:T.col p≠3) (h2:∀ k,T'.col k=if k=p then 3 else T.col k):∀ n,z1B T' S n+(if p<n then rfs S r+1 else 0)=z1B T S n
 | 0=>by simp[z1B]
 | n+1=>by
  have ih:=z3U (S:=S) hr hp h1 h2 n
  unfold z1B
  rw[hr,h2 n]
  by_cases e:n=p
  ·subst e
   rw[if_pos rfl,if_pos rfl,if_neg h1,if_pos (by omega),hp]
   rw[if_neg (by omega)] at ih
   simp only[Option.getD_some]
   omega
  ·rw[if_neg e]
   by_cases q:p<n
   ·rw[if_pos q] at ih
    have e1:(if p<n+1 then rfs S r+1 else 0)=rfs S r+1:=if_pos (by omega)
    rw[e1]
    omega
   ·rw[if_neg q] at ih
    have e1:(if p<n+1 then rfs S r+1 else 0)=0:=if_neg (by omega)
    rw[e1]
    omega
def mu (X:Cm):Nat:=(if X.tr.ln<X.tr.lw then (X.tr.lw-X.tr.ln).toNat else 0)+z1B X.tr X.S X.tr.row.length
def kept (T:Tr) (U:List Int):List Int:=U.filter fun r=>decide (T.col (posK T.row r)≠1)
theorem z5O {S:List (Option Cel)}{x y:Int}(h:x≠y):z0a (delS S y) x=z0a S x:=by
 unfold delS
 split
 ·rename_i hy
  obtain⟨c,hc⟩:=Option.isSome_iff_exists.1 hy
  obtain⟨i,rfl,hi⟩:=z0d hc
  rw[show ((i:Int)+1-1).toNat=i by omega]
  unfold z0a
  split
  ·rw[List.getElem?_set_ne (by omega)]
  ·rfl
 ·rfl
theorem z9C {S:List (Option Cel)}{x y:Int}{c:Cel}(h:z0a (delS S y) x=some c):z0a S x=some c:=by
 by_cases e:x=y
 ·subst e
  unfold delS at h
  split at h
  ·rename_i hy
   obtain⟨c',hc⟩:=Option.isSome_iff_exists.1 hy
   obtain⟨i,rfl,hi⟩:=z0d hc
   rw[show ((i:Int)+1-1).toNat=i by omega,z0u,List.getElem?_set_self (List.getElem?_eq_some_iff.1 hi).1] at h
   simp at h
  ·exact h
 ·rw[← z5O e];exact h
structure Snap (K0:Int→Prop) (G:Int→Nat→Int) (R0:Nat→List Int) (Sb:List (Option Cel)) (T:Nat):Prop where
 root:∀ t,t<T→∀ r∈R0 t,r=0∨K0 r
 there:∀ r,K0 r→r∈nums 0 Sb
 word:∀ r,K0 r→∀ j,j<rfs Sb r→G r j=0∨K0 (G r j)
 least:∀ P:Int→Prop,(∀ t,t<T→∀ r∈R0 t,r≠0→P r)→(∀ r,K0 r→P r→∀ j,j<rfs Sb r→G r j≠0→P (G r j))→∀ r,K0 r→P r
theorem z2r {S:List (Option Cel)}{r:Int}(h:r∈nums 0 S):r≠0:=by
 obtain⟨i,_,h1,_⟩:=z15 0 S r h
 omega
theorem z2Q (T:Tr) (x:Int) (p:Nat):(T.mark x).col p=3↔T.col p=3:=by
 rcases z1J T x p with e|⟨e1,e2,_⟩
 ·rw[e]
 ·rw[e1,e2];decide
theorem z1Q:∀ (U:List Int) (T:Tr),(z0z T U).row=T.row∧(z0z T U).lr=T.lr∧(z0z T U).ln=T.ln∧(z0z T U).lw=T.lw∧(z0z T U).sw=T.sw∧∀ p,(z0z T U).col p=3↔T.col p=3
 | [],T=>⟨rfl,rfl,rfl,rfl,rfl,fun _=>Iff.rfl⟩
 | x::U,T=>by
  obtain⟨a1,a2,a3,a4,a5,a6⟩:=z1Q U (T.mark x)
  obtain⟨b1,b2,b3,b4,b5⟩:=z0V T x
  exact⟨a1.trans b1,a2.trans b2,a3.trans b3,a4.trans b4,a5.trans b5,fun p=>(a6 p).trans (z2Q T x p)⟩
theorem z6q (X:Cm):∀ t,(ansN X t).tr.row=X.tr.row∧(ansN X t).tr.lr=X.tr.lr∧(ansN X t).tr.ln=X.tr.ln∧(ansN X t).tr.lw=X.tr.lw∧(ansN X t).tr.sw=X.tr.sw∧∀ p,(ansN X t).tr.col p=3↔X.tr.col p=3
 | 0=>⟨rfl,rfl,rfl,rfl,rfl,fun _=>Iff.rfl⟩
 | t+1=>by
  obtain⟨a1,a2,a3,a4,a5,a6⟩:=z6q X t
  show (ans1 (ansN X t) t).tr.row=_∧(ans1 (ansN X t) t).tr.lr=_∧(ans1 (ansN X t) t).tr.ln=_∧(ans1 (ansN X t) t).tr.lw=_∧(ans1 (ansN X t) t).tr.sw=_∧∀ p,(ans1 (ansN X t) t).tr.col p=3↔_
  unfold ans1
  split
  ·exact⟨a1,a2,a3,a4,a5,a6⟩
  ·obtain⟨b1,b2,b3,b4,b5,b6⟩:=z1Q ((ansN X t).rt t) (ansN X t).tr
   exact⟨b1.trans a1,b2.trans a2,b3.trans a3,b4.trans a4,b5.trans a5,fun p=>(b6 p).trans (a6 p)⟩
theorem z7n {K0:Int→Prop}{G:Int→Nat→Int}{R0:Nat→List Int}{K:Int→Prop}{X:Cm}(H:Mrk K0 G R0 K X) (h0:∀ r∈X.tr.row,r≠0) (hR:∀ t,t<X.T→∀ r∈R0 t,r=0∨K0 r):∀ t,t≤X.T→Mrk K0 G R0 K (ansN X t)
 | 0,_=>H
 | t+1,ht=>by
  have e:=(z21 X t).1
  exact (z7n H h0 hR t (by omega)).answer (by rw[(z6q X t).1];exact h0) (by rw[e];exact hR) (by rw[e];omega)
structure Qe (K0:Int→Prop) (G:Int→Nat→Int) (R0:Nat→List Int) (Sb:List (Option Cel)) (X:Cm):Prop where
 ph:X.ph=0
 all:allB X.T X.A=true
 lk:¬ X.tr.ln<X.tr.lw
 rt:∀ t,t<X.T→X.rt t=R0 t
 wd:∀ x,K0 x→∀ j,wd X x j=G x j
 cel:∀ x,K0 x→z0a X.S x=z0a Sb x
 sub:∀ x c,z0a X.S x=some c→z0a Sb x=some c
 there:∃ f:Int→Bool,(∀ x,x∈nums 0 Sb→(f x=true↔K0 x))∧nums 0 X.S=(nums 0 Sb).filter f
theorem zaP {X:Cm}(h:allB X.T X.A=true):ansN X X.T=X:=by
 have hA:∀ t,t<X.T→X.A t=true:=by
  unfold allB at h
  have hc:∀ n,cntB n X.A≤n:=by
   intro n
   induction n with
   | zero=>exact Nat.le_refl _
   | succ k ih=>unfold cntB;split<;>omega
  have:∀ n,cntB n X.A=n→∀ t,t<n→X.A t=true:=by
   intro n
   induction n with
   | zero=>intro _ t ht;omega
   | succ k ih =>
    intro e t ht
    have hk:=hc k
    unfold cntB at e
    by_cases q:X.A k=true
    ·rw[if_pos q] at e
     by_cases z:t=k
     ·rw[z];exact q
     ·exact ih (by omega) t (by omega)
    ·rw[if_neg q] at e;omega
  exact this X.T (by simpa using h)
 have:∀ t,t≤X.T→ansN X t=X:=by
  intro t
  induction t with
  | zero=>intro _;rfl
  | succ k ih =>
   intro hk
   show ans1 (ansN X k) k=X
   rw[ih (by omega)]
   unfold ans1
   rw[if_pos (hA k (by omega))]
 exact this X.T (Nat.le_refl _)
section
variable {K0:Int→Prop}{G:Int→Nat→Int}{R0:Nat→List Int}{Sb:List (Option Cel)}{X X1:Cm}{r:Nat}
theorem zdX (hl:X.tr.ln<X.tr.lw) (c':Int→Int):mu { X with m:=X.m+1,c:=c',tr:={ X.mw X.tr.lr X.tr.ln with ln:=X.tr.ln+1 } }+1=mu X:=by
 obtain⟨e1,e2,e3,e4,e5⟩:=z4N X X.tr.lr X.tr.ln
 have hms:z1B ({ X.mw X.tr.lr X.tr.ln with ln:=X.tr.ln+1 }:Tr) X.S X.tr.row.length=z1B X.tr X.S X.tr.row.length:=z28 (T':={ X.mw X.tr.lr X.tr.ln with ln:=X.tr.ln+1 }) e5 _ (fun p _=>by
  show (X.mw _ _).col p=3↔_
  unfold Cm.mw
  split
  ·exact z2Q _ _ _
  ·exact Iff.rfl)
 unfold mu
 show (if X.tr.ln+1<(X.mw X.tr.lr X.tr.ln).lw then ((X.mw X.tr.lr X.tr.ln).lw-(X.tr.ln+1)).toNat else 0)+z1B ({ X.mw X.tr.lr X.tr.ln with ln:=X.tr.ln+1 }:Tr) X.S (X.mw X.tr.lr X.tr.ln).row.length+1=_
 rw[e3,e5,hms,if_pos hl]
 split<;>omega
theorem zdO (hl:¬ X.tr.ln<X.tr.lw) {p:Nat}{x:Int}(hc3:X.tr.col p≠3) (hx:X.tr.row[p]?=some x) (t:List Nat):mu { X with tr:={ X.tr with col:=setC X.tr.col p 3,q:=t,lr:=x,ln:=0,lw:=rfs X.S x } }+1=mu X:=by
 have hpl:p<X.tr.row.length:=(List.getElem?_eq_some_iff.1 hx).1
 have hms:=z3U (T:=X.tr) (T':={ X.tr with col:=setC X.tr.col p 3,q:=t,lr:=x,ln:=0,lw:=rfs X.S x }) (S:=X.S) (p:=p) (r:=x) rfl hx hc3 (fun k=>rfl) X.tr.row.length
 rw[if_pos hpl] at hms
 have a:mu { X with tr:={ X.tr with col:=setC X.tr.col p 3,q:=t,lr:=x,ln:=0,lw:=rfs X.S x } }=(if (0:Int)<(rfs X.S x:Int) then ((rfs X.S x:Int)-0).toNat else 0)+z1B ({ X.tr with col:=setC X.tr.col p 3,q:=t,lr:=x,ln:=0,lw:=rfs X.S x }:Tr) X.S X.tr.row.length:=rfl
 have b:mu X=0+z1B X.tr X.S X.tr.row.length:=by unfold mu;rw[if_neg hl]
 rw[a,b,← hms]
 split<;>omega
theorem zd3 (T:Tr) (U:List Int) (x:Int):kept T (U++[x])=kept T U++(if T.col (posK T.row x)≠1 then [x] else []):=by
 unfold kept
 rw[List.filter_append]
 congr 1
 by_cases h:T.col (posK T.row x)=1
 ·simp[h]
 ·simp[h]
end
end Go.Proofs.YthkelaeemefnaaaGreat
namespace Go.Proofs.YthkelaeemefnaaaGreat
open Go.RowKit
theorem zeo {S:List (Option Cel)}{i:Nat}{c:Cel}(h:S[i]?=some (some c)):(i:Int)+1∈nums 0 S:=by
 cases e:hasK (nums 0 S) ((i:Int)+1) with
 | true=>exact (z12 _ _).1 e
 | false =>
  obtain⟨j,_,h2,_⟩:=z4Q 0 0 h
  exact List.mem_of_getElem? h2
theorem nums_cel {S:List (Option Cel)}{r:Int}:r∈nums 0 S↔∃ c,z0a S r=some c:=by
 constructor
 ·intro h
  obtain⟨i,c,h1,h2⟩:=z15 0 S r h
  have e:r=(i:Int)+1:=by omega
  exact⟨c,by rw[e,z0u,h2];rfl⟩
 ·rintro⟨c,h⟩
  obtain⟨i,rfl,h2⟩:=z0d h
  exact zeo h2
theorem z4r {U:List Int}(h:U.Pairwise (·<·)):U.Nodup:=h.imp (fun {a b} q=>by omega)
theorem z4O {S S':List (Option Cel)}{x:Int}(h:z0a S' x=z0a S x):rfs S' x=rfs S x:=by unfold rfs;rw[h]
section
variable {B:Nat}{w0 w w':World}{hb:Nat}
theorem CvC.greys {X:Cm}{Z:Cx}(H:CvC B w0 w hb X Z):X.tr.q.Nodup∧∀ p∈X.tr.q,X.tr.col p=2 :=
 ⟨H.wk.nodup,fun p hp=>(H.wk.grey (Nat.lt_of_lt_of_le (H.ok.inr p hp) H.ok.few)).2 hp⟩
end
end Go.Proofs.YthkelaeemefnaaaGreat
