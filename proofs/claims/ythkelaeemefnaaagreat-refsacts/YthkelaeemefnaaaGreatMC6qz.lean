import Derived.Test.YthkelaeemefnaaaGreatMC5qz
namespace Go.Proofs.YthkelaeemefnaaaGreat
open Go.RowKit
structure Sm (X X1:Cm):Prop where
 S:X1.S=X.S
 F:X1.F=X.F
 rt:X1.rt=X.rt
 A:X1.A=X.A
 T:X1.T=X.T
 W:X1.W=X.W
 row:X1.tr.row=X.tr.row
 sw:X1.tr.sw=X.tr.sw
 cy:X1.cy=X.cy
section
variable {K0:Int→Prop}{G:Int→Nat→Int}{R0:Nat→List Int}{K:Int→Prop}{X X1:Cm}
theorem Mkd.next {T:Tr}{x:Int}(h:Mkd T x) (p:Nat) (t:List Nat) (r:Int) (n:Int):Mkd ({ T with col:=setC T.col p 3,q:=t,lr:=r,ln:=0,lw:=n }:Tr) x:=by
 obtain⟨p',h1,h2⟩:=h
 refine⟨p',h1,?_⟩
 show setC T.col p 3 p'≠1
 unfold setC
 split
 ·decide
 ·exact h2
theorem Mrk.stp (H:Mrk K0 G R0 K X) (h0:∀ r∈X.tr.row,r≠0) (hnd:X.tr.q.Nodup) (hgq:∀ p∈X.tr.q,X.tr.col p=2) (hp:X.ph=1) (hs:Stp X X1):
  (X1.ph=1∧Mrk K0 G R0 K X1∧Sm X X1∧(∀ x,Mkd X.tr x→Mkd X1.tr x)∧(mu X1<mu X∨(X1=X∧allB X.T X.A=false))) ∨
  (X1={ X with ph:=2 }∧X.tr.q=[]∧¬ X.tr.ln<X.tr.lw∧allB X.T X.A=true):=by
 rcases hs with ⟨_,hl,c',rfl⟩|⟨_,hl,hq,rfl⟩|⟨_,hl,p,t,x,hq,hx,rfl⟩|⟨q,_⟩|⟨q,_⟩|⟨q,_⟩|⟨q,_⟩
 ·obtain⟨e1,e2,e3,e4,e5⟩:=z4N X X.tr.lr X.tr.ln
  refine .inl ⟨hp,H.looks h0 hl c',⟨rfl,rfl,rfl,rfl,rfl,rfl,e5,e4,rfl⟩,fun x hx=>?_,.inl (by have:=zdX (X:=X) hl c';omega)⟩
  have h:Mkd (X.mw X.tr.lr X.tr.ln) x:=by
   unfold Cm.mw
   split
   ·exact hx.mark _
   ·exact hx
  exact h
 ·cases hA:allB X.T X.A with
  | true=>exact .inr ⟨by rw[if_pos rfl],hq,hl,rfl⟩
  | false =>
   have eX:({ X with ph:=if false=true then 2 else 1 }:Cm)=X:=by rw[if_neg (by decide),← hp]
   rw[eX]
   exact .inl ⟨hp,H,⟨rfl,rfl,rfl,rfl,rfl,rfl,rfl,rfl,rfl⟩,fun _ h=>h,.inr ⟨rfl,rfl⟩⟩
 ·have hpt:p ∉ t:=by rw[hq] at hnd;exact (List.nodup_cons.1 hnd).1
  exact .inl ⟨hp,H.next hl hq hpt hx,⟨rfl,rfl,rfl,rfl,rfl,rfl,rfl,rfl,rfl⟩,fun y hy=>hy.next p t x _,.inl (by have:=zdO (X:=X) hl (by rw[hgq p (by rw[hq];simp)];decide) hx t;omega)⟩
 ·omega
 ·omega
 ·omega
 ·exact absurd hp q
theorem Mrk.over (H:Mrk K0 G R0 K X) (hq:X.tr.q=[]) (hl:¬ X.tr.ln<X.tr.lw) (ha:allB X.T X.A=true) {Ex:Int→Prop}(hEx:∀ r,Ex r→Mkd X.tr r)
  (least:∀ P:Int→Prop,(∀ t,t<X.T→∀ r∈R0 t,r≠0→P r)→(∀ r,Ex r→P r)→(∀ r,K0 r→P r→∀ j,j<rfs X.S r→G r j≠0→P (G r j))→∀ r,K0 r→P r):∀ r,r∈X.tr.row→(Mkd X.tr r↔K0 r):=fun r hr=>by
 refine⟨fun h=>H.knew r (H.kmark r h) hr,fun h=>?_⟩
 have hall:∀ t,t<X.T→X.A t=true:=fun t ht=>by
  have:=zaP ha
  have h2:=(z5q X X.T t).2 (.inl ht)
  rw[this] at h2
  exact h2
 obtain⟨d1,d2⟩:=H.done hq hl hall
 exact least (Mkd X.tr) (fun t ht r hr h0=>(d1 t ht r hr).resolve_left h0) hEx (fun r hr hm j hj h0=>(d2 r hr hm j hj).resolve_left h0) r h
def SwN (K0:Int→Prop) (N:List Int) (X:Cm):Prop:=allB X.T X.A=true∧¬ X.tr.ln<X.tr.lw∧(∀ x,x∈X.tr.row→(Mkd X.tr x↔K0 x))∧nums 0 X.S=kept X.tr (X.tr.row.take X.tr.sw)++(X.tr.row.drop X.tr.sw++N)∧X.tr.sw≤X.tr.row.length
structure Ss (K0:Int→Prop) (N:List Int) (X X1:Cm):Prop where
 F:X1.F=X.F
 rt:X1.rt=X.rt
 A:X1.A=X.A
 T:X1.T=X.T
 W:X1.W=X.W
 row:X1.tr.row=X.tr.row
 cel:∀ r,K0 r∨r∈N→z0a X1.S r=z0a X.S r
 sub:∀ r c,z0a X1.S r=some c→z0a X.S r=some c
 all:allB X1.T X1.A=true
 lk:¬ X1.tr.ln<X1.tr.lw
 len:X1.S.length=X.S.length
theorem zcG (S:List (Option Cel)) (r:Int):(delS S r).length=S.length:=by
 unfold delS
 split
 ·exact List.length_set
 ·rfl
def Swd (K0:Int→Prop) (N:List Int) (X X1:Cm):Prop:=X1.ph=0∧X1.cy=X.cy+1∧∃ f:Int→Bool,(∀ x∈X.tr.row,f x=true↔K0 x)∧nums 0 X1.S=X.tr.row.filter f++N
theorem z7X (hs:z0g X.tr.row) (hmk:∀ x,x∈X.tr.row→(Mkd X.tr x↔K0 x)) {y:Int}(hy:y∈X.tr.row):decide (X.tr.col (posK X.tr.row y)≠1)=true↔K0 y:=by
 have hat:=z1P hs ((z12 _ _).2 hy)
 rw[← hmk y hy,decide_eq_true_iff]
 refine⟨fun h=>⟨_,hat,h⟩,fun ⟨p,h1,h2⟩=>?_⟩
 rw[(z1b hs h1).1];exact h2
theorem SwN.stp {N:List Int}(hs:z0g X.tr.row) (hbase:∀ r,K0 r→r∈X.tr.row) (hN:∀ r∈N,r ∉ X.tr.row) (hp:X.ph=3) (h:SwN K0 N X) (st:Stp X X1):
  Ss K0 N X X1∧((X1.ph=3∧SwN K0 N X1∧X1.tr.sw=X.tr.sw+1∧X1.cy=X.cy∧X.tr.sw+1<X.tr.row.length)∨Swd K0 N X X1):=by
 obtain⟨ha,hl,hmk,hn,hle⟩:=h
 rcases st with ⟨q,_⟩|⟨q,_⟩|⟨q,_⟩|⟨_,hlt,x,c',hx,rfl⟩|⟨_,hge,rfl⟩|⟨q,_⟩|⟨_,q,_⟩
 ·omega
 ·omega
 ·omega
 ·have hpx:=(z1b hs hx).1
  have ht1:X.tr.row.take (X.tr.sw+1)=X.tr.row.take X.tr.sw++[x]:=by rw[List.take_add_one,hx];rfl
  have hd1:X.tr.row.drop X.tr.sw=x::X.tr.row.drop (X.tr.sw+1):=by
   have hg:=List.getElem?_eq_some_iff.1 hx
   rw[List.drop_eq_getElem_cons hlt,hg.2]
  have hxr:x∈X.tr.row:=List.mem_of_getElem? hx
  have hnS:nums 0 (if X.tr.col X.tr.sw=1 then delS X.S x else X.S)=kept X.tr (X.tr.row.take (X.tr.sw+1))++(X.tr.row.drop (X.tr.sw+1)++N):=by
   rw[ht1,zd3,hpx]
   rw[hd1] at hn
   by_cases hc:X.tr.col X.tr.sw=1
   ·rw[if_pos hc,if_neg (fun z=>z hc),List.append_nil]
    exact zcK hn
   ·rw[if_neg hc,if_pos hc,hn];simp
  have hne:X.tr.col X.tr.sw=1→∀ y,K0 y∨y∈N→y≠x:=fun hc y hy e=>by
   rcases hy with hy|hy
   ·obtain⟨p,g1,g2⟩:=(hmk y (hbase y hy)).2 hy
    have a1:=(z1b hs g1).1
    rw[e,hpx] at a1
    rw[← a1] at g2
    exact g2 hc
   ·exact hN y hy (by rw[e];exact hxr)
  refine⟨⟨rfl,rfl,rfl,rfl,rfl,rfl,fun y hy=>?_,fun y c hy=>?_,ha,hl,by show (if X.tr.col X.tr.sw=1 then delS X.S x else X.S).length=_;split;exact zcG _ _;rfl⟩,?_⟩
  ·show z0a (if X.tr.col X.tr.sw=1 then delS X.S x else X.S) y=_
   by_cases hc:X.tr.col X.tr.sw=1
   ·rw[if_pos hc];exact z5O (hne hc y hy)
   ·rw[if_neg hc]
  ·have hy':z0a (if X.tr.col X.tr.sw=1 then delS X.S x else X.S) y=some c:=hy
   by_cases hc:X.tr.col X.tr.sw=1
   ·rw[if_pos hc] at hy';exact z9C hy'
   ·rw[if_neg hc] at hy';exact hy'
  ·by_cases hl2:X.tr.sw+1<X.tr.row.length
   ·exact .inl ⟨if_pos hl2,⟨ha,hl,hmk,hnS,by show X.tr.sw+1≤X.tr.row.length;omega⟩,rfl,if_pos hl2,hl2⟩
   ·refine .inr ⟨if_neg hl2,if_neg hl2,fun x=>decide (X.tr.col (posK X.tr.row x)≠1),fun y hy=>z7X hs hmk hy,?_⟩
    show nums 0 (if X.tr.col X.tr.sw=1 then delS X.S x else X.S)=_
    rw[hnS,List.take_of_length_le (by omega),List.drop_eq_nil_iff.2 (by omega),List.nil_append];rfl
 ·refine⟨⟨rfl,rfl,rfl,rfl,rfl,rfl,fun _ _=>rfl,fun _ _ h=>h,ha,hl,rfl⟩,.inr ⟨rfl,rfl,fun x=>decide (X.tr.col (posK X.tr.row x)≠1),fun y hy=>z7X hs hmk hy,?_⟩⟩
  show nums 0 X.S=_
  rw[hn,List.take_of_length_le (by omega),List.drop_eq_nil_iff.2 (by omega),List.nil_append];rfl
 ·omega
 ·exact absurd hp q
end
end Go.Proofs.YthkelaeemefnaaaGreat
namespace Go.Proofs.YthkelaeemefnaaaGreat
open Go.RowKit
def KN (K0:Int→Prop) (N:List Int) (r:Int):Prop:=K0 r∨r∈N
theorem zdc {X:Cm}(ha:allB X.T X.A=true) {t:Nat}(ht:t<X.T):X.A t=true:=by
 have h2:=(z5q X X.T t).2 (.inl ht)
 rw[zaP ha] at h2
 exact h2
section
variable {K0:Int→Prop}{G:Int→Nat→Int}{R0:Nat→List Int}{K:Int→Prop}{X:Cm}
theorem Mrk.push (H:Mrk K0 G R0 K X) (t:Nat) {r:Int}(hr:r=0∨K r):Mrk K0 G R0 K { X with rt:=setL X.rt t (X.rt t++[r]) }:=by
 refine⟨H.rise,H.base,H.knew,H.gk,fun s hs x hx=>?_,H.kword,H.kmark,H.snap,fun s hs x hx=>?_,H.look,H.greys,H.cols,H.queue⟩
 ·have hx':x∈setL X.rt t (X.rt t++[r]) s:=hx
  unfold setL at hx'
  split at hx'
  ·rename_i e
   rcases List.mem_append.1 hx' with q|q
   ·exact H.kroot t (by rw[← e];exact hs) x q
   ·rw[List.mem_singleton.1 q];exact hr
  ·exact H.kroot s hs x hx'
 ·rcases H.roots s hs x hx with q|q|⟨q1,q2⟩
  ·exact .inl q
  ·exact .inr (.inl q)
  ·refine .inr (.inr ⟨q1,?_⟩)
   show x∈setL X.rt t (X.rt t++[r]) s
   unfold setL
   split
   ·rename_i e;rw[e] at q2;exact List.mem_append_left _ q2
   ·exact q2
theorem Mrk.pop (H:Mrk K0 G R0 K X) (h0:∀ r∈X.tr.row,r≠0) (hR:∀ t,t<X.T→∀ r∈R0 t,r=0∨K0 r) {t:Nat}(ht:t<X.T) {U:List Int}{r:Int}(hU:X.rt t=U++[r]):Mrk K0 G R0 K { X with rt:=setL X.rt t U,tr:=X.tr.mark r }:=by
 have H1:=H.mark (H.kroot t ht r (by rw[hU];simp)) h0
 refine⟨H1.rise,H1.base,H1.knew,H1.gk,fun s hs x hx=>?_,H1.kword,H1.kmark,H1.snap,fun s hs x hx=>?_,H1.look,H1.greys,H1.cols,H1.queue⟩
 ·have hx':x∈setL X.rt t U s:=hx
  unfold setL at hx'
  split at hx'
  ·rename_i e;subst e;exact H.kroot s ht x (by rw[hU];exact List.mem_append_left _ hx')
  ·exact H.kroot s hs x hx'
 ·rcases H1.roots s hs x hx with q|q|⟨q1,q2⟩
  ·exact .inl q
  ·exact .inr (.inl q)
  ·by_cases e:s=t
   ·subst e
    have q2':x∈X.rt s:=q2
    rw[hU] at q2'
    rcases List.mem_append.1 q2' with z|z
    ·refine .inr (.inr ⟨q1,?_⟩)
     show x∈setL X.rt s U s
     unfold setL
     rw[if_pos rfl];exact z
    ·rcases hR s ht x hx with y|y
     ·exact .inl y
     ·right;left
      rw[List.mem_singleton.1 z]
      rw[List.mem_singleton.1 z] at y
      exact z2F H.rise (H.base r y)
   ·refine .inr (.inr ⟨q1,?_⟩)
    show x∈setL X.rt t U s
    unfold setL
    rw[if_neg e];exact q2
def putF (F:Nat→Nat→Int) (k j:Nat) (v:Int):Nat→Nat→Int:=setF F k (fun l=>if l=j then v else F k l)
theorem z9a (F:Nat→Nat→Int) (k j:Nat) (v:Int):putF F k j v k j=v:=by unfold putF;rw[z0L,if_pos rfl]
theorem z5L (F:Nat→Nat→Int) {k j a b:Nat}(v:Int) (h:¬ (a=k∧b=j)):putF F k j v a b=F a b:=by
 unfold putF
 by_cases e:a=k
 ·subst e;rw[z0L,if_neg (fun q=>h ⟨rfl,q⟩)]
 ·rw[z0n _ _ e]
theorem Mrk.put (H:Mrk K0 G R0 K X) (h0:∀ r∈X.tr.row,r≠0) {k j:Nat}{v:Int}(hk:j<rfs X.S ((k:Int)+1)→K ((k:Int)+1)∧(v=0∨K v)) (hK0:∀ r,K0 r→1≤r) (hK1:∀ r,K r→1≤r):Mrk K0 G R0 K { X with F:=putF X.F k j v,tr:=X.mw ((k:Int)+1) j }:=by
 have hwd:∀ (r:Int) (i:Nat),1≤r→¬ (r=(k:Int)+1∧i=j)→wd { X with F:=putF X.F k j v,tr:=X.mw ((k:Int)+1) j } r i=wd X r i:=fun r i hr h=>z5L _ _ (fun q=>h ⟨by have:=q.1;omega,q.2⟩)
 by_cases hj:j<rfs X.S ((k:Int)+1)
 ·obtain⟨hk1,hv⟩:=hk hj
  have e:=zfU (X:=X) (r:=(k:Int)+1) (i:=(j:Int)) rfl hj
  have H1:=H.mark (H.kword _ hk1 j hj) h0
  rw[e] at hwd ⊢
  refine⟨H1.rise,H1.base,H1.knew,H1.gk,H1.kroot,fun r hr i hi=>?_,H1.kmark,fun r hr i hi=>?_,H1.roots,H1.look,H1.greys,H1.cols,H1.queue⟩
  ·by_cases q:r=(k:Int)+1∧i=j
   ·obtain⟨rfl,rfl⟩:=q
    have:wd { X with F:=putF X.F k i v,tr:=X.tr.mark (wd X ((k:Int)+1) i) } ((k:Int)+1) i=v:=by
     unfold wd;rw[show ((k:Int)+1-1).toNat=k by omega];exact z9a _ _ _ _
    rw[this];exact hv
   ·rw[hwd r i (hK1 r hr) q];exact H.kword r hr i hi
  ·by_cases q:r=(k:Int)+1∧i=j
   ·obtain⟨rfl,rfl⟩:=q
    rcases H.gk _ hr i hi with z|z
    ·exact .inl z
    ·rcases H.snap _ hr i hi with y|y|⟨y,_⟩
     ·exact .inl y
     ·exact .inr (.inl (y.mark _))
     ·right;left
      rw[← y]
      rw[← y] at z
      exact z2F H.rise (H.base _ z)
   ·rw[hwd r i (hK0 r hr) q];exact H1.snap r hr i hi
 ·have e:X.mw ((k:Int)+1) j=X.tr:=if_neg (by omega)
  rw[e] at hwd ⊢
  refine⟨H.rise,H.base,H.knew,H.gk,H.kroot,fun r hr i hi=>?_,H.kmark,fun r hr i hi=>?_,H.roots,H.look,H.greys,H.cols,H.queue⟩
  ·rw[hwd r i (hK1 r hr) (fun q=>hj (by rw[← q.1,← q.2];exact hi))];exact H.kword r hr i hi
  ·rw[hwd r i (hK0 r hr) (fun q=>hj (by rw[← q.1,← q.2];exact hi))];exact H.snap r hr i hi
theorem z10 {S S':List (Option Cel)}{i:Nat}{cl:Cel}(h:z23 S S' i cl) {r:Int}(hr:r≠(i:Int)+1):z0a S' r=z0a S r:=by
 unfold z0a
 split
 ·rename_i h1
  rw[h.old _ (by omega)]
 ·rfl
theorem z0W {S S':List (Option Cel)}{i:Nat}{cl:Cel}(h:z23 S S' i cl):z0a S' ((i:Int)+1)=some cl:=by rw[z0u,h.new];rfl
theorem z1e {S S':List (Option Cel)}{i:Nat}{cl:Cel}(h:z23 S S' i cl) {r:Int}(hr:r≠(i:Int)+1):rfs S' r=rfs S r:=by unfold rfs;rw[z10 h hr]
theorem Mrk.make (H:Mrk K0 G R0 K X) {S':List (Option Cel)}{i:Nat}{cl:Cel}(hA:z23 X.S S' i cl) (t:Nat) (hrow:(i:Int)+1 ∉ X.tr.row) (hK:¬ K ((i:Int)+1)) (hl:X.tr.ln<X.tr.lw→X.tr.lr≠(i:Int)+1) (hK1:∀ r,K r→1≤r):Mrk K0 G R0 (fun r=>K r∨r=(i:Int)+1) { X with S:=S',F:=setF X.F i (fun _=>0),rt:=setL X.rt t (X.rt t++[(i:Int)+1]) }:=by
 have hne:∀ r,K0 r→r≠(i:Int)+1:=fun r hr e=>hrow (by rw[← e];exact H.base r hr)
 have hw:∀ (r:Int) (j:Nat),1≤r→r≠(i:Int)+1→wd { X with S:=S',F:=setF X.F i (fun _=>0),rt:=setL X.rt t (X.rt t++[(i:Int)+1]) } r j=wd X r j:=fun r j h1 h2=>by
  show setF X.F i (fun _=>0) (r-1).toNat j=X.F (r-1).toNat j
  exact z0n _ _ (by omega) _
 refine⟨H.rise,H.base,fun r hr hx=>?_,fun r hr j hj=>?_,fun s hs x hx=>?_,fun r hr j hj=>?_,fun r hr=>.inl (H.kmark r hr),fun r hr j hj=>?_,fun s hs x hx=>?_,fun h=>?_,H.greys,H.cols,H.queue⟩
 ·rcases hr with q|q
  ·exact H.knew r q hx
  ·rw[q] at hx;exact absurd hx hrow
 ·exact H.gk r hr j (by rw[← z1e hA (hne r hr)];exact hj)
 ·have hx':x∈setL X.rt t (X.rt t++[(i:Int)+1]) s:=hx
  unfold setL at hx'
  split at hx'
  ·rename_i e
   rcases List.mem_append.1 hx' with q|q
   ·exact (H.kroot t (by rw[← e];exact hs) x q).imp id .inl
   ·exact .inr (.inr (List.mem_singleton.1 q))
  ·exact (H.kroot s hs x hx').imp id .inl
 ·rcases hr with q|q
  ·have hn:r≠(i:Int)+1:=fun e=>hK (by rw[← e];exact q)
   rw[hw r j (hK1 r q) hn]
   exact (H.kword r q j (by rw[← z1e hA hn];exact hj)).imp id .inl
  ·left
   subst q
   unfold wd
   rw[show ((i:Int)+1-1).toNat=i by omega]
   exact z0L X.F i (fun _=>0) j
 ·rcases H.snap r hr j (by rw[← z1e hA (hne r hr)];exact hj) with q|q|⟨q1,q2⟩
  ·exact .inl q
  ·exact .inr (.inl q)
  ·refine .inr (.inr ⟨?_,q2⟩)
   have h1:1≤r:=by
    by_cases z:1≤r
    ·exact z
    ·exfalso
     have:rfs S' r=0:=by unfold rfs z0a;rw[if_neg z]
     have hj':j<rfs S' r:=hj
     omega
   rw[hw r j h1 (hne r hr)];exact q1
 ·rcases H.roots s hs x hx with q|q|⟨q1,q2⟩
  ·exact .inl q
  ·exact .inr (.inl q)
  ·refine .inr (.inr ⟨q1,?_⟩)
   show x∈setL X.rt t (X.rt t++[(i:Int)+1]) s
   unfold setL
   split
   ·rename_i e;rw[e] at q2;exact List.mem_append_left _ q2
   ·exact q2
 ·obtain⟨a,b,c⟩:=H.look h
  exact⟨.inl a,by show X.tr.lw=(rfs S' X.tr.lr:Int);rw[z1e hA (hl h)];exact b,c⟩
end
end Go.Proofs.YthkelaeemefnaaaGreat
namespace Go.Proofs.YthkelaeemefnaaaGreat
open Go.RowKit
def Rch (X:Cm) (r:Int):Prop:=∀ P:Int→Prop,(∀ t,t<X.T→∀ x∈X.rt t,x≠0→P x)→(∀ x,P x→∀ j,j<rfs X.S x→wd X x j≠0→P (wd X x j))→P r
theorem Rch.root {X:Cm}{t:Nat}(ht:t<X.T) {x:Int}(hx:x∈X.rt t) (h0:x≠0):Rch X x:=fun _ h1 _=>h1 t ht x hx h0
theorem Rch.word {X:Cm}{x:Int}(h:Rch X x) {j:Nat}(hj:j<rfs X.S x) (h0:wd X x j≠0):Rch X (wd X x j):=fun P h1 h2=>h2 x (h P h1 h2) j hj h0
structure Clo (K:Int→Prop) (X:Cm):Prop where
 kroot:∀ t,t<X.T→∀ r∈X.rt t,r=0∨K r
 kword:∀ r,K r→∀ j,j<rfs X.S r→wd X r j=0∨K (wd X r j)
theorem Clo.rch {K:Int→Prop}{X:Cm}(h:Clo K X) {r:Int}(hr:Rch X r):K r :=
 hr K (fun t ht x hx h0=>(h.kroot t ht x hx).resolve_left h0) (fun x hx j hj h0=>(h.kword x hx j hj).resolve_left h0)
structure Mt (K0:Int→Prop) (G:Int→Nat→Int) (R0:Nat→List Int) (rf0:Int→Nat) (N:List Int) (X:Cm):Prop where
 rise:z0g X.tr.row
 pos:∀ r∈X.tr.row,1≤r∧r≤X.S.length
 new:∀ r∈N,r ∉ X.tr.row∧1≤r
 base:∀ r,K0 r→r∈X.tr.row
 root0:∀ t,t<X.T→∀ r∈R0 t,r=0∨K0 r
 least:∀ P:Int→Prop,(∀ t,t<X.T→∀ r∈R0 t,r≠0→P r)→(∀ r,K0 r→P r→∀ j,j<rf0 r→G r j≠0→P (G r j))→∀ r,K0 r→P r
 rfe:∀ r,K0 r→rfs X.S r=rf0 r
 there:∀ r,KN K0 N r→r∈nums 0 X.S
 clo:Clo (KN K0 N) X
 stage:(X.ph=1∧Mrk K0 G R0 (KN K0 N) X∧nums 0 X.S=X.tr.row++N∧X.tr.sw=0)∨((X.ph=3∨(X.ph=2∧X.tr.sw=0))∧SwN K0 N X)
structure Mend (K0:Int→Prop) (N:List Int) (X:Cm):Prop where
 ph:X.ph=0
 all:allB X.T X.A=true
 lk:¬ X.tr.ln<X.tr.lw
 mem:∀ r,r∈nums 0 X.S↔KN K0 N r
 clo:Clo (KN K0 N) X
structure Gs (K0:Int→Prop) (N:List Int) (X X1:Cm):Prop where
 F:X1.F=X.F
 rt:X1.rt=X.rt
 A:X1.A=X.A
 T:X1.T=X.T
 W:X1.W=X.W
 row:X1.tr.row=X.tr.row
 cel:∀ r,KN K0 N r→z0a X1.S r=z0a X.S r
 sub:∀ r c,z0a X1.S r=some c→z0a X.S r=some c
 len:X1.S.length=X.S.length
section
variable {K0:Int→Prop}{G:Int→Nat→Int}{R0:Nat→List Int}{rf0:Int→Nat}{N:List Int}{X X1:Cm}
theorem Sm.gs (h:Sm X X1):Gs K0 N X X1:=⟨h.F,h.rt,h.A,h.T,h.W,h.row,fun r _=>by rw[h.S],fun r c q=>by rw[← h.S];exact q,by rw[h.S]⟩
theorem Ss.gs (h:Ss K0 N X X1):Gs K0 N X X1:=⟨h.F,h.rt,h.A,h.T,h.W,h.row,h.cel,h.sub,h.len⟩
theorem Gs.clo (h:Gs K0 N X X1) (hc:Clo (KN K0 N) X):Clo (KN K0 N) X1:=by
 refine⟨fun t ht r hr=>hc.kroot t (by rw[← h.T];exact ht) r (by rw[← h.rt];exact hr),fun r hr j hj=>?_⟩
 have e:wd X1 r j=wd X r j:=by unfold wd;rw[h.F]
 rw[e]
 exact hc.kword r hr j (by rw[← z4O (h.cel r hr)];exact hj)
theorem Gs.there (h:Gs K0 N X X1) (hc:∀ r,KN K0 N r→r∈nums 0 X.S):∀ r,KN K0 N r→r∈nums 0 X1.S:=fun r hr=>by
 obtain⟨c,hc⟩:=nums_cel.1 (hc r hr)
 exact nums_cel.2 ⟨c,by rw[h.cel r hr];exact hc⟩
theorem Mt.of (H:Mt K0 G R0 rf0 N X) (h:Gs K0 N X X1) (st:(X1.ph=1∧Mrk K0 G R0 (KN K0 N) X1∧nums 0 X1.S=X1.tr.row++N∧X1.tr.sw=0)∨((X1.ph=3∨(X1.ph=2∧X1.tr.sw=0))∧SwN K0 N X1)):Mt K0 G R0 rf0 N X1 :=
 ⟨by rw[h.row];exact H.rise,by rw[h.row,h.len];exact H.pos,by rw[h.row];exact H.new,by rw[h.row];exact H.base,by rw[h.T];exact H.root0,by rw[h.T];exact H.least,fun r hr=>by rw[z4O (h.cel r (.inl hr))];exact H.rfe r hr,h.there H.there,h.clo H.clo,st⟩
theorem Mt.ne0 (H:Mt K0 G R0 rf0 N X):∀ r∈X.tr.row,r≠0:=fun r hr=>by have:=(H.pos r hr).1;omega
theorem Mt.k1 (H:Mt K0 G R0 rf0 N X):∀ r,KN K0 N r→1≤r:=fun r hr=>hr.elim (fun q=>(H.pos r (H.base r q)).1) (fun q=>(H.new r q).2)
theorem Mt.phs (H:Mt K0 G R0 rf0 N X):X.phs∧X.ph≠0:=by
 rcases H.stage with q|⟨q|q,_⟩
 ·exact⟨.inr (.inl q.1),by rw[q.1];decide⟩
 ·exact⟨.inr (.inr (.inr q)),by rw[q];decide⟩
 ·exact⟨.inr (.inr (.inl q.1)),by rw[q.1];decide⟩
def todo (X:Cm):Nat:=if X.ph=1 then mu X+X.tr.row.length+3 else if X.ph=2 then X.tr.row.length+2 else X.tr.row.length-X.tr.sw+1
theorem Mt.stp (H:Mt K0 G R0 rf0 N X) (hnd:X.tr.q.Nodup) (hgq:∀ p∈X.tr.q,X.tr.col p=2) (hs:Stp X X1):
  Gs K0 N X X1∧((X1.ph≠0∧Mt K0 G R0 rf0 N X1∧X1.cy=X.cy∧(todo X1<todo X∨(X1=X∧allB X.T X.A=false)))∨(Mend K0 N X1∧X1.cy=X.cy+1)):=by
 rcases H.stage with ⟨p1,HM,hn,hsw⟩|⟨p3|⟨p2,hsw⟩,hS⟩
 ·rcases HM.stp H.ne0 hnd hgq p1 hs with ⟨q1,q2,q3,_,q5⟩|⟨rfl,hq,hl,ha⟩
  ·refine⟨q3.gs,.inl ⟨by rw[q1];decide,H.of q3.gs (.inl ⟨q1,q2,by rw[q3.S,q3.row];exact hn,by rw[q3.sw];exact hsw⟩),q3.cy,?_⟩⟩
   rcases q5 with q5|q5
   ·left
    unfold todo
    rw[if_pos q1,if_pos p1,q3.row];omega
   ·exact .inr q5
  ·have hg:Gs K0 N X { X with ph:=2 }:=⟨rfl,rfl,rfl,rfl,rfl,rfl,fun _ _=>rfl,fun _ _ h=>h,rfl⟩
   have hmk:=HM.over hq hl ha (Ex:=fun _=>False) (fun _ h=>h.elim) (fun P h1 _ h2=>H.least P h1 (fun r hr hp j hj h0=>h2 r hr hp j (by rw[H.rfe r hr];exact hj) h0))
   refine⟨hg,.inl ⟨by show (2:Int)≠0;decide,H.of hg (.inr ⟨.inr ⟨rfl,hsw⟩,ha,hl,hmk,?_,?_⟩),rfl,.inl ?_⟩⟩
   ·show nums 0 X.S=kept X.tr (X.tr.row.take X.tr.sw)++(X.tr.row.drop X.tr.sw++N)
    rw[hsw,hn];rfl
   ·show X.tr.sw≤X.tr.row.length
    omega
   ·unfold todo
    rw[if_neg (by show ¬ (2:Int)=1;decide),if_pos (by rfl),if_pos p1]
    show X.tr.row.length+2<_
    omega
 ·obtain⟨g,h⟩:=hS.stp H.rise H.base (fun r hr=>(H.new r hr).1) p3 hs
  refine⟨g.gs,?_⟩
  rcases h with ⟨q1,q2,q3,q4,q5⟩|⟨q1,q2,f,q3,q4⟩
  ·refine .inl ⟨by rw[q1];decide,H.of g.gs (.inr ⟨.inl q1,q2⟩),q4,.inl ?_⟩
   unfold todo
   rw[if_neg (by rw[q1];decide),if_neg (by rw[q1];decide),if_neg (by rw[p3];decide),if_neg (by rw[p3];decide),g.row,q3]
   omega
  ·refine .inr ⟨⟨q1,g.all,g.lk,fun r=>?_,g.gs.clo H.clo⟩,q2⟩
   rw[q4,List.mem_append,List.mem_filter]
   refine or_congr ⟨fun ⟨a,b⟩=>(q3 r a).1 b,fun hr=>⟨H.base r hr,(q3 r (H.base r hr)).2 hr⟩⟩ Iff.rfl
 ·rcases hs with ⟨q,_⟩|⟨q,_⟩|⟨q,_⟩|⟨q,_⟩|⟨q,_⟩|⟨_,rfl⟩|⟨_,_,q,_⟩
  ·omega
  ·omega
  ·omega
  ·omega
  ·omega
  ·have hg:Gs K0 N X { X with ph:=3 }:=⟨rfl,rfl,rfl,rfl,rfl,rfl,fun _ _=>rfl,fun _ _ h=>h,rfl⟩
   refine⟨hg,.inl ⟨by show (3:Int)≠0;decide,H.of hg (.inr ⟨.inl rfl,hS⟩),rfl,.inl ?_⟩⟩
   unfold todo
   rw[if_neg (by show ¬ (3:Int)=1;decide),if_neg (by show ¬ (3:Int)=2;decide),if_neg (by rw[p2];decide),if_pos p2]
   show X.tr.row.length-X.tr.sw+1<_
   omega
  ·exact absurd p2 q
theorem Mt.answer (H:Mt K0 G R0 rf0 N X) {t:Nat}(ht:t<X.T):Mt K0 G R0 rf0 N (ans1 X t)∧todo (ans1 X t)=todo X:=by
 obtain⟨b1,b2,b3,b4,b5,b6,b7,b8,b9⟩:=z3K X t
 rcases H.stage with ⟨p1,HM,hn,hsw⟩|⟨hp,hS⟩
 ·have hM:=HM.answer H.ne0 H.root0 ht
  have et:(ans1 X t).tr.row=X.tr.row∧(ans1 X t).tr.ln=X.tr.ln∧(ans1 X t).tr.lw=X.tr.lw∧(ans1 X t).tr.sw=X.tr.sw∧∀ p,(ans1 X t).tr.col p=3↔X.tr.col p=3:=by
   unfold ans1
   split
   ·exact⟨rfl,rfl,rfl,rfl,fun _=>Iff.rfl⟩
   ·obtain⟨c1,c2,c3,c4,c5,c6⟩:=z1Q (X.rt t) X.tr
    exact⟨c1,c3,c4,c5,c6⟩
  obtain⟨c1,c3,c4,c5,c6⟩:=et
  refine⟨⟨by rw[c1];exact H.rise,by rw[c1,b4];exact H.pos,by rw[c1];exact H.new,by rw[c1];exact H.base,by rw[b1];exact H.root0,by rw[b1];exact H.least,by rw[b4];exact H.rfe,by rw[b4];exact H.there,⟨by rw[b1,b6];exact H.clo.kroot,fun r hr j hj=>?_⟩,.inl ⟨by rw[b7];exact p1,hM,by rw[b4,c1];exact hn,by rw[c5];exact hsw⟩⟩,?_⟩
  ·have e:wd (ans1 X t) r j=wd X r j:=by unfold wd;rw[b5]
   rw[e]
   exact H.clo.kword r hr j (by rw[← b4];exact hj)
  ·unfold todo
   rw[if_pos (by rw[b7];exact p1),if_pos p1,c1]
   have:mu (ans1 X t)=mu X:=by unfold mu;rw[c1,c3,c4,b4,z28 c1 _ (fun p _=>c6 p)]
   omega
 ·have e:ans1 X t=X:=by unfold ans1;rw[if_pos (zdc hS.1 ht)]
  rw[e]
  exact⟨H,rfl⟩
theorem Mt.answers (H:Mt K0 G R0 rf0 N X):∀ t,t≤X.T→Mt K0 G R0 rf0 N (ansN X t)∧todo (ansN X t)=todo X
 | 0,_=>⟨H,rfl⟩
 | t+1,ht=>by
  obtain⟨h1,h2⟩:=H.answers t (by omega)
  have e:=(z21 X t).1
  obtain⟨h3,h4⟩:=h1.answer (t:=t) (by rw[e];omega)
  exact⟨h3,h4.trans h2⟩
theorem Mt.push (H:Mt K0 G R0 rf0 N X) (t:Nat) {r:Int}(hr:r=0∨KN K0 N r):Mt K0 G R0 rf0 N { X with rt:=setL X.rt t (X.rt t++[r]) }:=by
 refine⟨H.rise,H.pos,H.new,H.base,H.root0,H.least,H.rfe,H.there,⟨fun s hs x hx=>?_,H.clo.kword⟩,?_⟩
 ·have hx':x∈setL X.rt t (X.rt t++[r]) s:=hx
  unfold setL at hx'
  split at hx'
  ·rename_i e
   rcases List.mem_append.1 hx' with q|q
   ·exact H.clo.kroot t (by rw[← e];exact hs) x q
   ·rw[List.mem_singleton.1 q];exact hr
  ·exact H.clo.kroot s hs x hx'
 ·rcases H.stage with ⟨p1,HM,hn,hsw⟩|⟨hp,hS⟩
  ·exact .inl ⟨p1,HM.push t hr,hn,hsw⟩
  ·exact .inr ⟨hp,hS⟩
theorem Mt.pop (H:Mt K0 G R0 rf0 N X) {t:Nat}(ht:t<X.T) {U:List Int}{r:Int}(hU:X.rt t=U++[r]):Mt K0 G R0 rf0 N { X with rt:=setL X.rt t U,tr:=X.popTr r }:=by
 have hroot:∀ s,s<X.T→∀ x∈setL X.rt t U s,x=0∨KN K0 N x:=fun s hs x hx=>by
  unfold setL at hx
  split at hx
  ·rename_i e;subst e;exact H.clo.kroot s ht x (by rw[hU];exact List.mem_append_left _ hx)
  ·exact H.clo.kroot s hs x hx
 rcases H.stage with ⟨p1,HM,hn,hsw⟩|⟨hp,hS⟩
 ·have e:X.popTr r=X.tr.mark r:=if_pos p1
  obtain⟨c1,c2,c3,c4,c5⟩:=z0V X.tr r
  rw[e]
  exact⟨by show z0g (X.tr.mark r).row;rw[c1];exact H.rise,by show ∀ x∈(X.tr.mark r).row,_;rw[c1];exact H.pos,by show ∀ x∈N,x ∉ (X.tr.mark r).row∧_;rw[c1];exact H.new,by show ∀ x,K0 x→x∈(X.tr.mark r).row;rw[c1];exact H.base,H.root0,H.least,H.rfe,H.there,⟨hroot,H.clo.kword⟩,.inl ⟨p1,HM.pop H.ne0 H.root0 ht hU,by show _=(X.tr.mark r).row++N;rw[c1];exact hn,by show (X.tr.mark r).sw=0;rw[c5];exact hsw⟩⟩
 ·have e:X.popTr r=X.tr:=if_neg (by rcases hp with q|⟨q,_⟩<;>rw[q]<;>decide)
  rw[e]
  exact⟨H.rise,H.pos,H.new,H.base,H.root0,H.least,H.rfe,H.there,⟨hroot,H.clo.kword⟩,.inr ⟨hp,hS⟩⟩
theorem Mt.put (H:Mt K0 G R0 rf0 N X) {k j:Nat}{v:Int}(hk:j<rfs X.S ((k:Int)+1)→KN K0 N ((k:Int)+1)∧(v=0∨KN K0 N v)) (m:Nat) (c:Int→Int):Mt K0 G R0 rf0 N { X with m:=m,c:=c,F:=putF X.F k j v,tr:=X.pw ((k:Int)+1) j }:=by
 have hword:∀ r,KN K0 N r→∀ i,i<rfs X.S r→putF X.F k j v (r-1).toNat i=0∨KN K0 N (putF X.F k j v (r-1).toNat i):=fun r hr i hi=>by
  by_cases q:(r-1).toNat=k∧i=j
  ·have h1:=H.k1 r hr
   have er:r=(k:Int)+1:=by omega
   rw[q.1,q.2,z9a]
   exact (hk (by rw[← er,← q.2];exact hi)).2
  ·rw[z5L _ _ q];exact H.clo.kword r hr i hi
 rcases H.stage with ⟨p1,HM,hn,hsw⟩|⟨hp,hS⟩
 ·have e:X.pw ((k:Int)+1) j=X.mw ((k:Int)+1) j:=if_pos p1
  obtain⟨c1,c2,c3,c4,c5⟩:=z4N X ((k:Int)+1) j
  have hM:=HM.put H.ne0 hk (fun r hr=>(H.pos r (H.base r hr)).1) H.k1
  rw[e]
  exact⟨by show z0g (X.mw _ _).row;rw[c5];exact H.rise,by show ∀ x∈(X.mw _ _).row,_;rw[c5];exact H.pos,by show ∀ x∈N,x ∉ (X.mw _ _).row∧_;rw[c5];exact H.new,by show ∀ x,K0 x→x∈(X.mw _ _).row;rw[c5];exact H.base,H.root0,H.least,H.rfe,H.there,⟨H.clo.kroot,hword⟩,.inl ⟨p1,⟨hM.rise,hM.base,hM.knew,hM.gk,hM.kroot,hM.kword,hM.kmark,hM.snap,hM.roots,hM.look,hM.greys,hM.cols,hM.queue⟩,by show _=(X.mw _ _).row++N;rw[c5];exact hn,by show (X.mw _ _).sw=0;rw[c4];exact hsw⟩⟩
 ·have e:X.pw ((k:Int)+1) j=X.tr:=if_neg (by rcases hp with q|⟨q,_⟩<;>rw[q]<;>decide)
  rw[e]
  exact⟨H.rise,H.pos,H.new,H.base,H.root0,H.least,H.rfe,H.there,⟨H.clo.kroot,hword⟩,.inr ⟨hp,hS⟩⟩
theorem Mt.make (H:Mt K0 G R0 rf0 N X) {S':List (Option Cel)}{i:Nat}{cl:Cel}(hA:z23 X.S S' i cl) (t:Nat) (m:Nat) (c:Int→Int):Mt K0 G R0 rf0 (N++[(i:Int)+1]) { X with m:=m,c:=c,S:=S',F:=setF X.F i (fun _=>0),rt:=setL X.rt t (X.rt t++[(i:Int)+1]) }:=by
 have hi:=hA.at_
 have hrow:(i:Int)+1 ∉ X.tr.row:=fun h=>by have:=(H.pos _ h).2;omega
 have hin:∀ r,KN K0 N r→r≠(i:Int)+1:=fun r hr e=>by
  obtain⟨k,_,h1,h2⟩:=z15 0 X.S r (H.there r hr)
  have:=(List.getElem?_eq_some_iff.1 h2).1
  omega
 have eK:(fun r=>KN K0 N r∨r=(i:Int)+1)=KN K0 (N++[(i:Int)+1]):=by
  funext r
  refine propext ?_
  unfold KN
  rw[List.mem_append,List.mem_singleton]
  constructor
  ·rintro ((q|q)|q)
   ·exact .inl q
   ·exact .inr (.inl q)
   ·exact .inr (.inr q)
  ·rintro (q|q|q)
   ·exact .inl (.inl q)
   ·exact .inl (.inr q)
   ·exact .inr q
 have hl':S'.length=X.S.length+1:=by rw[hA.eq,List.length_append];rfl
 have hnums:nums 0 S'=nums 0 X.S++[(i:Int)+1]:=by rw[hA.eq,z95,hi]
 have hne:∀ r,K0 r→r≠(i:Int)+1:=fun r hr=>hin r (.inl hr)
 refine⟨H.rise,fun r hr=>by have:=H.pos r hr;show 1≤r∧r≤(S'.length:Int);omega,fun r hr=>?_,H.base,H.root0,H.least,fun r hr=>by show rfs S' r=_;rw[z1e hA (hne r hr)];exact H.rfe r hr,fun r hr=>?_,⟨fun s hs x hx=>?_,fun r hr j hj=>?_⟩,?_⟩
 ·rcases List.mem_append.1 hr with q|q
  ·exact H.new r q
  ·rw[List.mem_singleton.1 q];exact⟨hrow,by omega⟩
 ·show r∈nums 0 S'
  rw[hnums]
  rw[← eK] at hr
  rcases hr with q|q
  ·exact List.mem_append_left _ (H.there r q)
  ·rw[q];simp
 ·rw[← eK]
  have hx':x∈setL X.rt t (X.rt t++[(i:Int)+1]) s:=hx
  unfold setL at hx'
  split at hx'
  ·rename_i e
   rcases List.mem_append.1 hx' with q|q
   ·exact (H.clo.kroot t (by rw[← e];exact hs) x q).imp id .inl
   ·exact .inr (.inr (List.mem_singleton.1 q))
  ·exact (H.clo.kroot s hs x hx').imp id .inl
 ·rw[← eK] at hr ⊢
  rcases hr with q|q
  ·have e:wd { X with m:=m,c:=c,S:=S',F:=setF X.F i (fun _=>0),rt:=setL X.rt t (X.rt t++[(i:Int)+1]) } r j=wd X r j:=by
    show setF X.F i (fun _=>0) (r-1).toNat j=X.F (r-1).toNat j
    exact z0n _ _ (by have:=H.k1 r q;have:=hin r q;omega) _
   rw[e]
   exact (H.clo.kword r q j (by rw[← z1e hA (hin r q)];exact hj)).imp id .inl
  ·left
   subst q
   unfold wd
   rw[show ((i:Int)+1-1).toNat=i by omega]
   exact z0L X.F i (fun _=>0) j
 ·rcases H.stage with ⟨p1,HM,hn,hsw⟩|⟨hp,hS⟩
  ·have hM:=HM.make hA t hrow (fun h=>hin _ h rfl) (fun h e=>hin _ (HM.look h).1 e) H.k1
   rw[eK] at hM
   exact .inl ⟨p1,⟨hM.rise,hM.base,hM.knew,hM.gk,hM.kroot,hM.kword,hM.kmark,hM.snap,hM.roots,hM.look,hM.greys,hM.cols,hM.queue⟩,by show nums 0 S'=_;rw[hnums,hn,List.append_assoc],hsw⟩
  ·obtain⟨h1,h2,h3,h4,h5⟩:=hS
   exact .inr ⟨hp,h1,h2,h3,by show nums 0 S'=_;rw[hnums,h4];simp,h5⟩
theorem Mt.cost (H:Mt K0 G R0 rf0 N X) (m:Nat) (c:Int→Int):Mt K0 G R0 rf0 N { X with m:=m,c:=c }:=by
 refine⟨H.rise,H.pos,H.new,H.base,H.root0,H.least,H.rfe,H.there,⟨H.clo.kroot,H.clo.kword⟩,?_⟩
 rcases H.stage with ⟨p1,hM,hn,hsw⟩|⟨hp,hS⟩
 ·exact .inl ⟨p1,⟨hM.rise,hM.base,hM.knew,hM.gk,hM.kroot,hM.kword,hM.kmark,hM.snap,hM.roots,hM.look,hM.greys,hM.cols,hM.queue⟩,hn,hsw⟩
 ·exact .inr ⟨hp,hS⟩
theorem Mt.start (hc:Clo (fun r=>r∈nums 0 X.S) X) (hl:¬ X.tr.ln<X.tr.lw) (x0 r0:Int):Mt (Rch X) (wd X) X.rt (rfs X.S) [] { X with A:=fun _=>false,x:=x0,r:=r0,tr:=X.tr.begun X.S,ph:=1 }:=by
 have hin:∀ r,Rch X r→r∈nums 0 X.S:=fun r hr=>hc.rch hr
 have hone:∀ r∈nums 0 X.S,1≤r∧r≤X.S.length:=fun r hr=>by obtain⟨i,_,h1,h2⟩:=z15 0 X.S r hr;have:=(List.getElem?_eq_some_iff.1 h2).1;omega
 have hroot:∀ t,t<X.T→∀ r∈X.rt t,r=0∨Rch X r:=fun t ht r hr=>by
  by_cases e:r=0
  ·exact .inl e
  ·exact .inr (Rch.root ht hr e)
 have hword:∀ r,Rch X r→∀ j,j<rfs X.S r→wd X r j=0∨Rch X (wd X r j):=fun r hr j hj=>by
  by_cases e:wd X r j=0
  ·exact .inl e
  ·exact .inr (hr.word hj e)
 refine⟨z0r 0 X.S,hone,fun r hr=>by simp at hr,hin,hroot,fun P h1 h2 r hr=>?_,fun _ _=>rfl,fun r hr=>hr.elim (hin r) (fun q=>by simp at q),⟨fun t ht r hr=>(hroot t ht r hr).imp id .inl,fun r hr j hj=>?_⟩,.inl ⟨rfl,⟨z0r 0 X.S,hin,fun r hr _=>hr.elim id (fun q=>by simp at q),hword,fun t ht r hr=>(hroot t ht r hr).imp id .inl,fun r hr j hj=>?_,fun r ⟨p,_,h2⟩=>absurd rfl h2,fun r hr j hj=>?_,fun t ht r hr=>.inr (.inr ⟨rfl,hr⟩),fun h=>absurd h hl,fun p h _=>?_,fun p _=>.inl rfl,fun p hp=>?_⟩,by show nums 0 X.S=nums 0 X.S++[];simp,rfl⟩⟩
 ·exact (hr (fun r=>Rch X r∧P r) (fun t ht x hx h0=>⟨Rch.root ht hx h0,h1 t ht x hx h0⟩) (fun x hx j hj h0=>⟨hx.1.word hj h0,h2 x hx.1 hx.2 j hj h0⟩)).2
 ·rcases hr with hr|hr
  ·exact (hword r hr j hj).imp id .inl
  ·simp at hr
 ·rcases hr with hr|hr
  ·exact (hword r hr j hj).imp id .inl
  ·simp at hr
 ·right;right
  obtain⟨p,hp,e⟩:=List.getElem_of_mem (hin r hr)
  exact⟨rfl,.inl ⟨p,by show (nums 0 X.S)[p]?=some r;rw[List.getElem?_eq_getElem hp,e],by show (1:Int)≠3;decide⟩⟩
 ·have:(1:Int)=2:=h
  omega
 ·have:p∈([]:List Nat):=hp
  simp at this
end
end Go.Proofs.YthkelaeemefnaaaGreat
