import Derived.Test.YthkelaeemefnaaaGreatMO1qz
import Derived.Test.YthkelaeemefnaaaGreatMP2qz
namespace Go.Proofs.YthkelaeemefnaaaGreat
open Go.RowKit
def z06 (W:Nat):Nat:=(W+3)/4
theorem z5x {n:Nat}(hn:n≤64):74*frg n≤9*(n+16):=by
 have:∀ n,n<65→74*frg n≤9*(n+16):=by decide
 exact this n (by omega)
theorem zdF (c:Nat) {n:Nat}(hn:n≤64):c*frg n/(n+16)≤9*c/74:=by
 have h:=z5x hn
 have h1:=Nat.div_mul_le_self (c*frg n) (n+16)
 generalize c*frg n/(n+16)=x at *
 rw[Nat.le_div_iff_mul_le (by omega)]
 have h2:x*74*(n+16)≤9*c*(n+16):=by
  have e1:x*74*(n+16)=74*(x*(n+16)):=by rw[Nat.mul_comm x 74,Nat.mul_assoc]
  have e2:9*c*(n+16)=c*(9*(n+16)):=by rw[Nat.mul_comm 9 c,Nat.mul_assoc]
  have e3:74*(c*frg n)=c*(74*frg n):=by rw[Nat.mul_left_comm]
  rw[e1,e2]
  exact Nat.le_trans (Nat.mul_le_mul_left 74 h1) (by rw[e3];exact Nat.mul_le_mul_left c h)
 exact Nat.le_of_mul_le_mul_right h2 (by omega)
structure Enough (W N:Nat):Prop where
 most:74*N≤9*z06 W+205
 least:∀ n,n≤64→n+16≤z06 W→9*(z06 W-(n+16))/74+(1+(n+5)/6)≤N
def sumO:List Ob→Nat
 | []=>0
 | o::r=>o.n+16+sumO r
theorem z3x:∀ L M:List Ob,sumO (L++M)=sumO L+sumO M
 | [],M=>by simp[sumO]
 | o::r,M=>by simp only[List.cons_append,sumO,z3x r M];omega
theorem z48:∀ (L:List Ob) (k:Nat) (o:Ob),L[k]?=some o→sumO (L.eraseIdx k)+(o.n+16)=sumO L
 | [],k,o,h=>by simp at h
 | a::r,0,o,h=>by simp at h;subst h;simp only[List.eraseIdx_cons_zero,sumO];omega
 | a::r,k+1,o,h=>by
  have ih:=z48 r k o (by simpa using h)
  simp only[List.eraseIdx_cons_succ,sumO];omega
theorem z9y:∀ O:List Ob,(∀ o∈O,o.n≤64)→74*tot O≤9*sumO O
 | [],_=>by simp[tot]
 | o::r,h=>by
  have h1:=z5x (h o (by simp))
  have h2:=z9y r fun z hz=>h z (by simp[hz])
  simp only[tot,sumO];omega
theorem Enough.obj {W N n len:Nat}{O:List Ob}(h:Enough W N) (hO:∀ o∈O,o.n≤64) (ht:tot O+len=N) (hn:n≤64) (hr:sumO O+(n+16)≤z06 W):1+(n+5)/6≤len:=by
 have h1:=z9y O hO
 have h2:=h.least n hn (by omega)
 have h3:tot O≤9*(z06 W-(n+16))/74:=by rw[Nat.le_div_iff_mul_le (by omega)];omega
 omega
def s16 (x:Ary):Int:=x.n+16
theorem z9i:∀ xs:List Ary,(∀ x∈xs,0≤x.n)→0≤sumG sz xs∧sumG sz xs≤sumG s16 xs
 | [],_=>⟨Int.le_refl _,Int.le_refl _⟩
 | x::r,h=>by
  have h1:=z9i r fun z hz=>h z (by simp[hz])
  have h2:=h x (by simp)
  simp only[sumG,sz,s16];omega
theorem Enough.arr {W N:Nat}(h:Enough W N) (hW:512≤W) {xs:List Ary}(hx:∀ x∈xs,0≤x.n) {n:Int}(hr:sumG s16 xs+(n+16)≤z06 W):sumG sz xs+(n+4)≤(((W:Int)-(11*N+8))/2):=by
 have h1:=(z9i xs hx).2
 have h2:=h.most
 have h3:z06 W=(W+3)/4:=rfl
 omega
theorem Enough.fits {W N:Nat}(h:Enough W N) (hW:512≤W) (hW2:W≤65536):1≤N∧N≤2000∧14*N+64≤W∧(W≤20000→N≤700):=by
 have h2:=h.most
 have h1:=h.least 0 (by omega) (by unfold z06;omega)
 have h3:z06 W=(W+3)/4:=rfl
 omega
structure Cel where
 kind:Int
 cls:Int
 n:Nat
 at_:Int
def Cel.ob (c:Cel):Bool:=c.kind == 1 || c.kind == 4
def sumS:List (Option Cel)→Nat
 | []=>0
 | none::r=>sumS r
 | some c::r=>c.n+16+sumS r
def cntS:List (Option Cel)→Nat
 | []=>0
 | none::r=>cntS r
 | some _::r=>1+cntS r
theorem z16:∀ (S:List (Option Cel)) (c:Cel),sumS (S++[some c])=sumS S+(c.n+16)∧cntS (S++[some c])=cntS S+1
 | [],c=>by simp[sumS,cntS]
 | none::r,c=>by simp only[List.cons_append,sumS,cntS];exact z16 r c
 | some d::r,c=>by have:=z16 r c;simp only[List.cons_append,sumS,cntS];omega
theorem z0E:∀ (S:List (Option Cel)) (i:Nat) (c:Cel),S[i]?=some (some c)→sumS (S.set i none)+(c.n+16)=sumS S∧cntS (S.set i none)+1=cntS S
 | [],i,c,h=>by simp at h
 | a::r,0,c,h=>by simp at h;subst h;simp only[List.set_cons_zero,sumS,cntS];omega
 | none::r,i+1,c,h=>by simp only[List.set_cons_succ,sumS,cntS];exact z0E r i c (by simpa using h)
 | some d::r,i+1,c,h=>by have:=z0E r i c (by simpa using h);simp only[List.set_cons_succ,sumS,cntS];omega
theorem z2L:∀ S:List (Option Cel),16*cntS S≤sumS S
 | []=>Nat.le_refl _
 | none::r=>z2L r
 | some c::r=>by have:=z2L r;simp only[sumS,cntS];omega
def pres:Nat→List (Option Cel)→List (Nat×Cel)
 | _,[]=>[]
 | k,none::r=>pres (k+1) r
 | k,some c::r=>(k,c)::pres (k+1) r
theorem zea:∀ T:List (Option Cel),cntS T≤T.length:=by
 intro T
 induction T with
 | nil=>exact Nat.le_refl _
 | cons a r ih=>cases a<;>simp only[cntS,List.length_cons]<;>omega
theorem z2v:∀ (k:Nat) (S:List (Option Cel)) (c:Cel),pres k (S++[some c])=pres k S++[(k+S.length,c)]
 | k,[],c=>rfl
 | k,none::r,c=>by
  simp only[List.cons_append,pres]
  rw[z2v (k+1) r c,List.length_cons,show k+1+r.length=k+(r.length+1) by omega]
 | k,some d::r,c=>by
  simp only[List.cons_append,pres]
  rw[z2v (k+1) r c,List.length_cons,show k+1+r.length=k+(r.length+1) by omega]
theorem z2u:∀ (k:Nat) (S:List (Option Cel)) (i:Nat) (c:Cel),S[i]?=some (some c)→∃ j,(pres k S)[j]?=some (k+i,c)∧pres k (S.set i none)=(pres k S).eraseIdx j
 | _,[],i,c,h=>by simp at h
 | k,a::r,0,c,h=>by simp at h;subst h;exact⟨0,rfl,rfl⟩
 | k,none::r,i+1,c,h=>by
  obtain⟨j,h1,h2⟩:=z2u (k+1) r i c (by simpa using h)
  exact⟨j,by simp only[pres];rw[h1,show k+1+i=k+(i+1) by omega],by simp only[List.set_cons_succ,pres];exact h2⟩
 | k,some d::r,i+1,c,h=>by
  obtain⟨j,h1,h2⟩:=z2u (k+1) r i c (by simpa using h)
  exact⟨j+1,by simp only[pres,List.getElem?_cons_succ];rw[h1,show k+1+i=k+(i+1) by omega],by simp only[List.set_cons_succ,pres,List.eraseIdx_cons_succ];rw[h2]⟩
def Tab (S:List (Option Cel)) (n:Nat):Prop:=n=S.length
structure z23 (S S':List (Option Cel)) (i:Nat) (c:Cel):Prop where
 new:S'[i]?=some (some c)
 old:∀ k,k≠i→S'[k]?=S[k]?
 free:∀ z,S[i]?≠some (some z)
 sum:sumS S'=sumS S+(c.n+16)
 cnt:cntS S'=cntS S+1
 eq:S'=S++[some c]
 at_:i=S.length
theorem Tab.nil:Tab [] 0:=rfl
theorem Tab.more {S:List (Option Cel)}{n:Nat}(h:Tab S n) (c:Cel):Tab (S++[some c]) (n+1)∧z23 S (S++[some c]) S.length c:=by
 refine⟨by unfold Tab at *;rw[h,List.length_append];rfl,⟨by simp,fun k hk=>?_,fun z hz=>by simp at hz,(z16 S c).1,(z16 S c).2,rfl,rfl⟩⟩
 rcases Nat.lt_or_ge k S.length with q|q
 ·exact List.getElem?_append_left q
 ·rw[List.getElem?_eq_none q,List.getElem?_eq_none (by simp;omega)]
theorem Tab.gone {S:List (Option Cel)}{n:Nat}(h:Tab S n) (i:Nat):Tab (S.set i none) n:=by unfold Tab at *;rw[h,List.length_set]
theorem z24 {S:List (Option Cel)}{i k:Nat}{c:Cel}(h:(S.set i none)[k]?=some (some c)):k≠i∧S[k]?=some (some c):=by
 by_cases e:k=i
 ·subst e
  rw[List.getElem?_set] at h
  simp at h
 ·rw[List.getElem?_set_ne (fun q=>e q.symm)] at h
  exact⟨e,h⟩
structure Lnk (S:List (Option Cel)) (F:Nat→Nat→Int) (O:List Ob) (ws:Nat→Int) (xs:List Ary) (V:Int→Int→Int):Prop where
 ob:∀ i c,S[i]?=some (some c)→c.ob=true→∃ o∈O,o.ref=c.at_∧o.n=c.n∧∀ j,j<c.n→ws (o.ad 0 j)=F i j
 ar:∀ i c,S[i]?=some (some c)→c.ob=false→∃ x∈xs,x.id=c.at_∧x.n=c.n∧∀ j:Nat,j<c.n→V x.id j=F i j
 inj:∀ (i k:Nat) (c d:Cel),S[i]?=some (some c)→S[k]?=some (some d)→c.ob=d.ob→c.at_=d.at_→i=k
 sum:(sumO O:Int)+sumG s16 xs=sumS S
def setF (F:Nat→Nat→Int) (i:Nat) (f:Nat→Int):Nat→Nat→Int:=fun k j=>if k=i then f j else F k j
theorem z0L (F:Nat→Nat→Int) (i:Nat) (f:Nat→Int) (j:Nat):setF F i f i j=f j:=if_pos rfl
theorem z0n (F:Nat→Nat→Int) {i k:Nat}(f:Nat→Int) (h:k≠i) (j:Nat):setF F i f k j=F k j:=if_neg h
section
variable {S:List (Option Cel)}{F:Nat→Nat→Int}{O:List Ob}{ws:Nat→Int}{xs:List Ary}{V:Int→Int→Int}
theorem Lnk.nil (F:Nat→Nat→Int) (ws:Nat→Int) (V:Int→Int→Int):Lnk [] F [] ws [] V:=⟨fun i c h=>by simp at h,fun i c h=>by simp at h,fun i k c d h=>by simp at h,rfl⟩
theorem Lnk.same (h:Lnk S F O ws xs V) {ws':Nat→Int}{xs':List Ary}{V':Int→Int→Int}(h1:∀ o∈O,∀ j,ws' (o.ad 0 j)=ws (o.ad 0 j)) (h2:xs'.map (fun z=>(z.id,z.n))=xs.map (fun z=>(z.id,z.n))) (h3:∀ x∈xs,∀ j,V' x.id j=V x.id j):Lnk S F O ws' xs' V':=by
 have hsum:∀ (a b:List Ary),a.map (fun z=>(z.id,z.n))=b.map (fun z=>(z.id,z.n))→sumG s16 a=sumG s16 b:=by
  intro a
  induction a with
  | nil=>intro b hb;cases b with|nil=>rfl|cons y r=>simp at hb
  | cons x r ih =>
   intro b hb
   cases b with
   | nil=>simp at hb
   | cons y r' =>
    simp only[List.map_cons,List.cons.injEq,Prod.mk.injEq] at hb
    simp only[sumG,s16,hb.1.2,ih r' hb.2]
 refine⟨fun i c hi hc=>?_,fun i c hi hc=>?_,h.inj,by rw[hsum _ _ h2];exact h.sum⟩
 ·obtain⟨o,ho,e1,e2,e3⟩:=h.ob i c hi hc
  exact⟨o,ho,e1,e2,fun j hj=>by rw[h1 o ho];exact e3 j hj⟩
 ·obtain⟨x,hx,e1,e2,e3⟩:=h.ar i c hi hc
  have hm:(x.id,x.n)∈xs'.map (fun z=>(z.id,z.n)):=by rw[h2];exact List.mem_map.2 ⟨x,hx,rfl⟩
  obtain⟨y,hy,e⟩:=List.mem_map.1 hm
  simp only[Prod.mk.injEq] at e
  exact⟨y,hy,e.1.trans e1,e.2.trans e2,fun j hj=>by rw[e.1,h3 x hx];exact e3 j hj⟩
theorem Lnk.make_ob (h:Lnk S F O ws xs V) {S':List (Option Cel)}{i:Nat}{c:Cel}(ha:z23 S S' i c) (hc:c.ob=true) {o:Ob}(h1:o.ref=c.at_) (h2:o.n=c.n) {ws':Nat→Int}(h3:∀ j,ws' (o.ad 0 j)=0) (h4:∀ z∈O,∀ j,ws' (z.ad 0 j)=ws (z.ad 0 j)) (h5:∀ z∈O,z.ref≠o.ref):
  Lnk S' (setF F i (fun _=>0)) (O++[o]) ws' xs V:=by
 have old:∀ k d,S'[k]?=some (some d)→(k=i∧d=c)∨(k≠i∧S[k]?=some (some d)):=fun k d hk=>by
  by_cases e:k=i
  ·subst e;rw[ha.new] at hk;exact .inl ⟨rfl,by simpa using hk.symm⟩
  ·exact .inr ⟨e,by rw[← ha.old k e];exact hk⟩
 refine⟨fun k d hk hd=>?_,fun k d hk hd=>?_,fun k l d e hk hl hde hat=>?_,?_⟩
 ·rcases old k d hk with ⟨rfl,rfl⟩|⟨hne,hk⟩
  ·exact⟨o,by simp,h1,h2,fun j hj=>by rw[z0L];exact h3 j⟩
  ·obtain⟨z,hz,e1,e2,e3⟩:=h.ob k d hk hd
   exact⟨z,by simp[hz],e1,e2,fun j hj=>by rw[z0n _ _ hne,h4 z hz];exact e3 j hj⟩
 ·rcases old k d hk with ⟨rfl,rfl⟩|⟨hne,hk⟩
  ·rw[hc] at hd;simp at hd
  ·obtain⟨z,hz,e1,e2,e3⟩:=h.ar k d hk hd
   exact⟨z,hz,e1,e2,fun j hj=>by rw[z0n _ _ hne];exact e3 j hj⟩
 ·have no:∀ (k:Nat) (d:Cel),S[k]?=some (some d)→d.ob=true→d.at_≠c.at_:=fun k d hk hd q=>by
   obtain⟨z,hz,e1,_⟩:=h.ob k d hk hd
   exact h5 z hz (by rw[e1,q,h1])
  rcases old k d hk with ⟨rfl,rfl⟩|⟨hne,hk⟩
  ·rcases old l e hl with ⟨rfl,rfl⟩|⟨hne2,hl⟩
   ·rfl
   ·exact absurd hat.symm (no l e hl (by rw[← hde];exact hc))
  ·rcases old l e hl with ⟨rfl,rfl⟩|⟨hne2,hl⟩
   ·exact absurd hat (no k d hk (by rw[hde];exact hc))
   ·exact h.inj k l d e hk hl hde hat
 ·have:=h.sum
  rw[z3x,ha.sum]
  simp only[sumO]
  omega
theorem Lnk.make_ar (h:Lnk S F O ws xs V) {S':List (Option Cel)}{i:Nat}{c:Cel}(ha:z23 S S' i c) (hc:c.ob=false) {x:Ary}(h1:x.id=c.at_) (h2:x.n=c.n) {V':Int→Int→Int}(h3:∀ j,V' x.id j=0) (h4:∀ z∈xs,∀ j,V' z.id j=V z.id j) (h5:∀ z∈xs,z.id≠x.id):
  Lnk S' (setF F i (fun _=>0)) O ws (xs++[x]) V':=by
 have old:∀ k d,S'[k]?=some (some d)→(k=i∧d=c)∨(k≠i∧S[k]?=some (some d)):=fun k d hk=>by
  by_cases e:k=i
  ·subst e;rw[ha.new] at hk;exact .inl ⟨rfl,by simpa using hk.symm⟩
  ·exact .inr ⟨e,by rw[← ha.old k e];exact hk⟩
 refine⟨fun k d hk hd=>?_,fun k d hk hd=>?_,fun k l d e hk hl hde hat=>?_,?_⟩
 ·rcases old k d hk with ⟨rfl,rfl⟩|⟨hne,hk⟩
  ·rw[hc] at hd;simp at hd
  ·obtain⟨z,hz,e1,e2,e3⟩:=h.ob k d hk hd
   exact⟨z,hz,e1,e2,fun j hj=>by rw[z0n _ _ hne];exact e3 j hj⟩
 ·rcases old k d hk with ⟨rfl,rfl⟩|⟨hne,hk⟩
  ·exact⟨x,by simp,h1,h2,fun j hj=>by rw[z0L];exact h3 j⟩
  ·obtain⟨z,hz,e1,e2,e3⟩:=h.ar k d hk hd
   exact⟨z,by simp[hz],e1,e2,fun j hj=>by rw[z0n _ _ hne,h4 z hz];exact e3 j hj⟩
 ·have no:∀ (k:Nat) (d:Cel),S[k]?=some (some d)→d.ob=false→d.at_≠c.at_:=fun k d hk hd q=>by
   obtain⟨z,hz,e1,_⟩:=h.ar k d hk hd
   exact h5 z hz (by rw[e1,q,h1])
  rcases old k d hk with ⟨rfl,rfl⟩|⟨hne,hk⟩
  ·rcases old l e hl with ⟨rfl,rfl⟩|⟨hne2,hl⟩
   ·rfl
   ·exact absurd hat.symm (no l e hl (by rw[← hde];exact hc))
  ·rcases old l e hl with ⟨rfl,rfl⟩|⟨hne2,hl⟩
   ·exact absurd hat (no k d hk (by rw[hde];exact hc))
   ·exact h.inj k l d e hk hl hde hat
 ·have:=h.sum
  rw[z2d,ha.sum]
  simp only[sumG,s16]
  omega
theorem Lnk.put (h:Lnk S F O ws xs V) {i:Nat}{c:Cel}(hi:S[i]?=some (some c)) {j:Nat}{v:Int}{ws':Nat→Int}{V':Int→Int→Int}
  (h1:∀ (k:Nat) (d:Cel) (o:Ob),S[k]?=some (some d)→d.ob=true→o∈O→o.ref=d.at_→∀ l,l<d.n→ws' (o.ad 0 l)=if k=i∧l=j then v else ws (o.ad 0 l))
  (h2:∀ (k:Nat) (d:Cel) (x:Ary),S[k]?=some (some d)→d.ob=false→x∈xs→x.id=d.at_→∀ l:Nat,l<d.n→V' x.id l=if k=i∧l=j then v else V x.id l):
  Lnk S (setF F i (fun l=>if l=j then v else F i l)) O ws' xs V':=by
 have key:∀ k l (a:Int),a=F k l→(if k=i∧l=j then v else a)=setF F i (fun l=>if l=j then v else F i l) k l:=fun k l a e=>by
  by_cases ek:k=i
  ·subst ek
   rw[z0L]
   by_cases el:l=j
   ·rw[if_pos ⟨rfl,el⟩,if_pos el]
   ·rw[if_neg (fun q=>el q.2),if_neg el,e]
  ·rw[z0n _ _ ek,if_neg (fun q=>ek q.1),e]
 refine⟨fun k d hk hd=>?_,fun k d hk hd=>?_,h.inj,h.sum⟩
 ·obtain⟨o,ho,e1,e2,e3⟩:=h.ob k d hk hd
  exact⟨o,ho,e1,e2,fun l hl=>by rw[h1 k d o hk hd ho e1 l hl];exact key k l _ (e3 l hl)⟩
 ·obtain⟨x,hx,e1,e2,e3⟩:=h.ar k d hk hd
  exact⟨x,hx,e1,e2,fun l hl=>by rw[h2 k d x hk hd hx e1 l hl];exact key k l _ (e3 l hl)⟩
theorem Lnk.free_ob (h:Lnk S F O ws xs V) {i:Nat}{c:Cel}(hi:S[i]?=some (some c)) (hc:c.ob=true) {a:Nat}{o:Ob}(ha:O[a]?=some o) (e1:o.ref=c.at_) (e2:o.n=c.n) {ws':Nat→Int}(h3:∀ z∈O,∀ j,ws' (z.ad 0 j)=ws (z.ad 0 j)):Lnk (S.set i none) F (O.eraseIdx a) ws' xs V:=by
 refine⟨fun k d hk hd=>?_,fun k d hk hd=>?_,fun k l d e hk hl=>h.inj k l d e (z24 hk).2 (z24 hl).2,?_⟩
 ·obtain⟨hne,hk⟩:=z24 hk
  obtain⟨z,hz,f1,f2,f3⟩:=h.ob k d hk hd
  refine⟨z,?_,f1,f2,fun j hj=>by rw[h3 z hz];exact f3 j hj⟩
  obtain⟨t,lt,et⟩:=List.getElem_of_mem hz
  refine List.mem_eraseIdx_iff_getElem?.2 ⟨t,?_,by rw[List.getElem?_eq_getElem lt,et]⟩
  rintro rfl
  rw[List.getElem?_eq_getElem lt,et] at ha
  obtain rfl:z=o:=Option.some.inj ha
  exact hne (h.inj k i d c hk hi (by rw[hd,hc]) (by rw[← f1,e1]))
 ·obtain⟨hne,hk⟩:=z24 hk
  exact h.ar k d hk hd
 ·have h1:=h.sum
  have h2:=z48 O a o ha
  have h3:=(z0E S i c hi).1
  omega
theorem Lnk.free_ar (h:Lnk S F O ws xs V) (hs:z0h xs) {i:Nat}{c:Cel}(hi:S[i]?=some (some c)) (hc:c.ob=false) {a:Nat}{x:Ary}(ha:xs[a]?=some x) (e1:x.id=c.at_) (e2:x.n=c.n):Lnk (S.set i none) F O ws (xs.eraseIdx a) V:=by
 refine⟨fun k d hk hd=>?_,fun k d hk hd=>?_,fun k l d e hk hl=>h.inj k l d e (z24 hk).2 (z24 hl).2,?_⟩
 ·exact h.ob k d (z24 hk).2 hd
 ·obtain⟨hne,hk⟩:=z24 hk
  obtain⟨z,hz,f1,f2,f3⟩:=h.ar k d hk hd
  refine⟨z,(z2V hs ha).2 ⟨hz,fun q=>?_⟩,f1,f2,f3⟩
  exact hne (h.inj k i d c hk hi (by rw[hd,hc]) (by rw[← f1,q,e1]))
 ·have h1:=h.sum
  have h2:=z2S (g:=s16) ha
  have h3:=(z0E S i c hi).1
  have h4:s16 x=x.n+16:=rfl
  omega
end
end Go.Proofs.YthkelaeemefnaaaGreat
