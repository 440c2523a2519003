import Derived.Test.YthkelaeemefnaaaGreatMY43
set_option maxRecDepth 20000
set_option maxHeartbeats 4000000
namespace Go.Proofs.YthkelaeemefnaaaGreat
open Go.RowKit
structure Lr where
 ref:Int
 kind:Int
 ws:List Int
 fin:Bool
 qd:Bool
 v:Value
def sumR:List Lr→Nat
 | []=>0
 | x::r=>x.ws.length+16+sumR r
structure Rd13 (X:Cm) (L:List Lr):Prop where
 refs:L.map Lr.ref=nums 0 X.S
 cel:∀ x∈L,∃ cl,z0a X.S x.ref=some cl∧cl.kind=x.kind∧(x.kind=1∨x.kind=3→cl.n=x.ws.length∧∀ j,j<cl.n→x.ws[j]?=some (wd X x.ref j))
structure Rw13 (X:Cm) (Q:List Int) (L:List Lr) (sn:Nat→Bool) (U:List Int):Prop where
 sound:∀ i x,L[i]?=some x→sn i=true→RchQ X Q x.ref
 wsound:∀ r∈U,r=0∨RchQ X Q r
 croot:∀ t,t<X.T→∀ r∈X.rt t,r=0∨r∈U∨(∃ i x,L[i]?=some x∧x.ref=r∧sn i=true)∨r ∉ nums 0 X.S
 cque:∀ r∈Q,r=0∨r∈U∨(∃ i x,L[i]?=some x∧x.ref=r∧sn i=true)∨r ∉ nums 0 X.S
 cword:∀ i x,L[i]?=some x→sn i=true→x.kind=1∨x.kind=3→∀ r∈x.ws,r=0∨r∈U∨(∃ i x,L[i]?=some x∧x.ref=r∧sn i=true)∨r ∉ nums 0 X.S
def z0R:List Lr→(Nat→Bool)→Nat
 | [],_=>0
 | x::r,sn=>(if sn 0=true then 0 else x.ws.length+1)+z0R r (fun i=>sn (i+1))
section
variable {X:Cm}{Q Q' U fs:List Int}{L:List Lr}{sn:Nat→Bool}
theorem z87:∀ (L:List Lr) (sn:Nat→Bool),z0R L sn≤sumR L
 | [],_=>Nat.le_refl _
 | x::r,sn=>by
  have:=z87 r (fun i=>sn (i+1))
  unfold z0R sumR
  split<;>omega
theorem z56:∀ (L:List Lr) (sn:Nat→Bool) (k:Nat) (x:Lr),L[k]?=some x→sn k=false→z0R L sn=z0R L (setB sn k true)+(x.ws.length+1)
 | [],_,k,x,h,_=>by simp at h
 | a::r,sn,0,x,h,hs=>by
  simp at h;subst h
  unfold z0R
  have e:(fun i=>setB sn 0 true (i+1))=fun i=>sn (i+1):=by funext i;unfold setB;rw[if_neg (by omega)]
  have e0:setB sn 0 true 0=true:=by unfold setB;rw[if_pos rfl]
  rw[e,e0,hs]
  simp
  omega
 | a::r,sn,k+1,x,h,hs=>by
  have ih:=z56 r (fun i=>sn (i+1)) k x (by simpa using h) hs
  unfold z0R
  have e:(fun i=>setB sn (k+1) true (i+1))=setB (fun i=>sn (i+1)) k true:=by
   funext i
   unfold setB
   by_cases q:i=k
   ·rw[if_pos (by omega),if_pos q]
   ·rw[if_neg (by omega),if_neg q]
  have e0:setB sn (k+1) true 0=sn 0:=by unfold setB;rw[if_neg (by omega)]
  rw[e,e0,ih]
  omega
theorem Rw13.init (hU:∀ r,r∈U↔r∈Q∨∃ t,t<X.T∧r∈X.rt t):Rw13 X Q L (fun _=>false) U:=by
 refine⟨fun i x _ h=>by simp at h,fun r hr=>?_,fun t ht r hr=>.inr (.inl ((hU r).2 (.inr ⟨t,ht,hr⟩))),fun r hr=>.inr (.inl ((hU r).2 (.inl hr))),fun i x _ h=>by simp at h⟩
 by_cases e:r=0
 ·exact .inl e
 ·rcases (hU r).1 hr with q|⟨t,ht,q⟩
  ·exact .inr (RchQ.from q e)
  ·exact .inr (RchQ.root ht q e)
theorem Rw13.skip {r:Int}(h:Rw13 X Q L sn (U++[r])) (hr:r=0∨(∃ i x,L[i]?=some x∧x.ref=r∧sn i=true)∨r ∉ nums 0 X.S):Rw13 X Q L sn U:=by
 have key:∀ x,(x=0∨x∈U++[r]∨(∃ i z,L[i]?=some z∧z.ref=x∧sn i=true)∨x ∉ nums 0 X.S)→x=0∨x∈U∨(∃ i z,L[i]?=some z∧z.ref=x∧sn i=true)∨x ∉ nums 0 X.S:=fun x q=>by
  rcases q with q|q|q
  ·exact .inl q
  ·rcases List.mem_append.1 q with z|z
   ·exact .inr (.inl z)
   ·rw[List.mem_singleton.1 z]
    exact hr.imp id .inr
  ·exact .inr (.inr q)
 exact⟨h.sound,fun x hx=>h.wsound x (List.mem_append_left _ hx),fun t ht x hx=>key x (h.croot t ht x hx),fun x hx=>key x (h.cque x hx),fun i z hz hs hk x hx=>key x (h.cword i z hz hs hk x hx)⟩
theorem Rw13.mark {r:Int}(hd:Rd13 X L) (h:Rw13 X Q L sn (U++[r])) (h0:r≠0) {k:Nat}{x:Lr}(hk:L[k]?=some x) (hx:x.ref=r) {V:List Int}(hV:x.kind=1∨x.kind=3→V=x.ws) (hV2:¬ (x.kind=1∨x.kind=3)→V=[]):Rw13 X Q L (setB sn k true) (U++V):=by
 have hr:RchQ X Q x.ref:=by rw[hx];exact (h.wsound r (by simp)).resolve_left h0
 have up:∀ i,sn i=true→setB sn k true i=true:=fun i hi=>by unfold setB;split;rfl;exact hi
 have at_:setB sn k true k=true:=by unfold setB;rw[if_pos rfl]
 have key:∀ y,(y=0∨y∈U++[r]∨(∃ i z,L[i]?=some z∧z.ref=y∧sn i=true)∨y ∉ nums 0 X.S)→y=0∨y∈U++V∨(∃ i z,L[i]?=some z∧z.ref=y∧setB sn k true i=true)∨y ∉ nums 0 X.S:=fun y q=>by
  rcases q with q|q|⟨i,z,q1,q2,q3⟩|q
  ·exact .inl q
  ·rcases List.mem_append.1 q with z|z
   ·exact .inr (.inl (List.mem_append_left _ z))
   ·exact .inr (.inr (.inl ⟨k,x,hk,by rw[hx,List.mem_singleton.1 z],at_⟩))
  ·exact .inr (.inr (.inl ⟨i,z,q1,q2,up i q3⟩))
  ·exact .inr (.inr (.inr q))
 have old:∀ i z,L[i]?=some z→setB sn k true i=true→sn i=true∨(i=k∧z=x):=fun i z hz hs=>by
  by_cases e:i=k
  ·subst e
   rw[hk] at hz
   exact .inr ⟨rfl,by simpa using hz.symm⟩
  ·unfold setB at hs
   rw[if_neg e] at hs
   exact .inl hs
 refine⟨fun i z hz hs=>?_,fun y hy=>?_,fun t ht y hy=>key y (h.croot t ht y hy),fun y hy=>key y (h.cque y hy),fun i z hz hs hkd y hy=>?_⟩
 ·rcases old i z hz hs with q|⟨_,q⟩
  ·exact h.sound i z hz q
  ·rw[q];exact hr
 ·rcases List.mem_append.1 hy with q|q
  ·exact h.wsound y (List.mem_append_left _ q)
  ·by_cases hkd:x.kind=1∨x.kind=3
   ·rw[hV hkd] at q
    obtain⟨cl,hc,hck,hw⟩:=hd.cel x (List.mem_of_getElem? hk)
    obtain⟨hn,hw⟩:=hw hkd
    obtain⟨j,hj,e⟩:=List.getElem_of_mem q
    have hj':=hw j (by omega)
    rw[List.getElem?_eq_getElem hj,e] at hj'
    have hj':y=wd X x.ref j:=by simpa using hj'
    by_cases e0:y=0
    ·exact .inl e0
    ·right
     rw[hj'] at e0 ⊢
     refine hr.word ?_ e0
     unfold rfs
     rw[hc]
     simp only
     rw[if_pos (by rw[hck];exact hkd)]
     omega
   ·rw[hV2 hkd] at q;simp at q
 ·rcases old i z hz hs with q|⟨_,q⟩
  ·exact key y (h.cword i z hz q hkd y hy)
  ·rw[q] at hy hkd
   exact .inr (.inl (List.mem_append_right _ (by rw[hV hkd];exact hy)))
theorem Rw13.done (hd:Rd13 X L) (hq:Rq X fs Q') (hQ:∀ r∈Q,r∈nums 0 X.S) (h:Rw13 X Q L sn []) {i:Nat}{x:Lr}(hx:L[i]?=some x):sn i=true↔RchQ X Q x.ref:=by
 refine⟨h.sound i x hx,fun hr=>?_⟩
 have hin:∀ y,y≠0→y∈nums 0 X.S→(y=0∨y∈([]:List Int)∨(∃ i z,L[i]?=some z∧z.ref=y∧sn i=true)∨y ∉ nums 0 X.S)→∃ i z,L[i]?=some z∧z.ref=y∧sn i=true:=fun y h0 hy q=>by
  rcases q with q|q|q|q
  ·exact absurd q h0
  ·simp at q
  ·exact q
  ·exact absurd hy q
 have hP:=hr.least (P:=fun y=>∃ i z,L[i]?=some z∧z.ref=y∧sn i=true)
  (fun t ht y hy h0=>hin y h0 ((hq.clo.kroot t ht y hy).resolve_left h0) (h.croot t ht y hy))
  (fun y hy h0=>hin y h0 (hQ y hy) (h.cque y hy))
  (fun y _ hP j hj h0=>by
   obtain⟨k,z,hz,rfl,hs⟩:=hP
   obtain⟨cl,hc,hck,hw⟩:=hd.cel z (List.mem_of_getElem? hz)
   obtain⟨_,c2,hc2,hk2,hn2⟩:=z11 hj
   rw[hc] at hc2
   cases hc2
   have hkd:z.kind=1∨z.kind=3:=by rw[← hck];exact hk2
   have hm:=hw hkd
   have hmem:wd X z.ref j∈z.ws:=List.mem_of_getElem? (hm.2 j (by omega))
   exact hin _ h0 ((hq.clo.kword z.ref (by rw[← hd.refs];exact List.mem_map.2 ⟨z,List.mem_of_getElem? hz,rfl⟩) j hj).resolve_left h0) (h.cword k z hz hs hkd _ hmem))
 obtain⟨k,z,hz,e,hs⟩:=hP
 have hnd:(L.map Lr.ref).Nodup:=by rw[hd.refs];exact z4r (z0r 0 X.S)
 have e2:(L.map Lr.ref)[k]?=(L.map Lr.ref)[i]?:=by rw[List.getElem?_map,List.getElem?_map,hz,hx];simp[e]
 have hki:k=i:=by
  have hk1:=(List.getElem?_eq_some_iff.1 hz).1
  exact (List.getElem?_inj (by rw[List.length_map];exact hk1) hnd).1 e2
 rw[← hki];exact hs
end
structure Ag13 (X:Cm) (fs:List Int) (L:List Lr):Prop where
 refs:L.map Lr.ref=nums 0 X.S
 cel:∀ x∈L,∃ cl,z0a X.S x.ref=some cl∧cl.kind=x.kind∧cl.n=x.ws.length∧∀ j,j<cl.n→x.ws[j]?=some (wd X x.ref j)
 fin:fs=(L.filter fun x=>x.fin&&!x.qd).map Lr.ref
 weak:∀ x∈L,x.kind=4→∃ v,x.ws[0]?=some v∧(v=0∨v∈nums 0 X.S)
section
variable {X:Cm}{fs:List Int}{L:List Lr}
theorem Ag13.rd (h:Ag13 X fs L):Rd13 X L:=⟨h.refs,fun x hx=>let ⟨cl,h1,h2,h3,h4⟩:=h.cel x hx;⟨cl,h1,h2,fun _=>⟨h3,h4⟩⟩⟩
theorem Ag13.nil (W T:Nat):Ag13 (cm0 W T) [] []:=⟨rfl,fun x hx=>by simp at hx,rfl,fun x hx=>by simp at hx⟩
theorem z0I (h:Ag13 X fs L):sumR L=sumS X.S:=by
 have key:∀ (S:List (Option Cel)) (k:Nat) (L:List Lr),L.map Lr.ref=nums k S→(∀ x∈L,∃ (i:Nat) (cl:Cel),x.ref=(k:Int)+i+1∧S[i]?=some (some cl)∧cl.n=x.ws.length)→sumR L=sumS S:=by
  intro S
  induction S with
  | nil =>
   intro k L h1 _
   cases L with
   | nil=>rfl
   | cons a r=>simp[nums] at h1
  | cons o S ih =>
   intro k L h1 h2
   have shift:∀ L':List Lr,L'.map Lr.ref=nums (k+1) S→(∀ x∈L',x∈L)→sumR L'=sumS S:=fun L' q1 q2=>by
    refine ih (k+1) L' q1 (fun x hx=>?_)
    obtain⟨i,cl,e1,e2,e3⟩:=h2 x (q2 x hx)
    have hm:x.ref∈nums (k+1) S:=by rw[← q1];exact List.mem_map.2 ⟨x,hx,rfl⟩
    have hlow:((k+1:Nat):Int)+1≤x.ref:=by
     obtain⟨i2,_,e2,_⟩:=z15 _ _ _ hm
     omega
    cases i with
    | zero=>omega
    | succ i=>exact⟨i,cl,by omega,by simpa using e2,e3⟩
   cases o with
   | none=>exact shift L h1 (fun _ h=>h)
   | some c =>
    cases L with
    | nil=>simp[nums] at h1
    | cons a r =>
     simp only[List.map_cons,nums,List.cons.injEq] at h1
     obtain⟨i,cl,e1,e2,e3⟩:=h2 a (by simp)
     obtain rfl:i=0:=by omega
     simp at e2
     subst e2
     unfold sumR sumS
     rw[shift r h1.2 (fun x hx=>by simp[hx]),e3]
 refine key X.S 0 L h.refs (fun x hx=>?_)
 obtain⟨cl,h1,_,h3,_⟩:=h.cel x hx
 obtain⟨i,e,hi⟩:=z0d h1
 exact⟨i,cl,by omega,hi,h3⟩
theorem Ag13.len (h:Ag13 X fs L):L.length=cntS X.S:=by
 have:=congrArg List.length h.refs
 rw[List.length_map,z1o] at this
 exact this
theorem Ag13.at_ (h:Ag13 X fs L) {x:Lr}(hx:x∈L):∃ (k:Nat) (cl:Cel),x.ref=(k:Int)+1∧X.S[k]?=some (some cl)∧cl.kind=x.kind∧cl.n=x.ws.length∧∀ j,j<cl.n→x.ws[j]?=some (X.F k j):=by
 obtain⟨cl,h1,h2,h3,h4⟩:=h.cel x hx
 obtain⟨k,e,hk⟩:=z0d h1
 refine⟨k,cl,e,hk,h2,h3,fun j hj=>?_⟩
 rw[h4 j hj,e]
 unfold wd
 rw[show ((k:Int)+1-1).toNat=k by omega]
theorem Ag13.mem (h:Ag13 X fs L) {r:Int}(hr:r∈nums 0 X.S):∃ x∈L,x.ref=r:=by
 rw[← h.refs] at hr
 obtain⟨x,hx,e⟩:=List.mem_map.1 hr
 exact⟨x,hx,e⟩
theorem Ag13.inj (h:Ag13 X fs L) {i k:Nat}{x z:Lr}(hx:L[i]?=some x) (hz:L[k]?=some z) (e:x.ref=z.ref):i=k:=by
 have hnd:(L.map Lr.ref).Nodup:=by rw[h.refs];exact z4r (z0r 0 X.S)
 exact (List.getElem?_inj (by rw[List.length_map];exact (List.getElem?_eq_some_iff.1 hx).1) hnd).1 (by rw[List.getElem?_map,List.getElem?_map,hx,hz];simp[e])
end
end Go.Proofs.YthkelaeemefnaaaGreat
namespace Go.Proofs.YthkelaeemefnaaaGreat
open Go.RowKit
def p1R (s:Int→Bool) (x:Lr):Bool:=x.kind == 4&&(x.ws.headD 0 != 0&&!(s (x.ws.headD 0)))
def p2R (s:Int→Bool) (x:Lr):Bool:=x.fin&&!x.qd&&!(s x.ref)
def clrR (s:Int→Bool) (x:Lr):Lr:=if p1R s x=true then { x with ws:=x.ws.set 0 0 } else x
def qdR (s:Int→Bool) (x:Lr):Lr:=if p2R s x=true then { x with qd:=true } else x
section
variable {X X':Cm}{Q fs:List Int}{L:List Lr}{u1 u2 s s2:Int→Bool}
theorem z30 (s:Int→Bool) (x:Lr):(clrR s x).ref=x.ref∧(clrR s x).kind=x.kind∧(clrR s x).fin=x.fin∧(clrR s x).qd=x.qd∧(clrR s x).v=x.v:=by
 unfold clrR
 split<;>exact⟨rfl,rfl,rfl,rfl,rfl⟩
theorem zeN (s:Int→Bool) (x:Lr):(qdR s x).ref=x.ref∧(qdR s x).kind=x.kind∧(qdR s x).fin=x.fin∧(qdR s x).ws=x.ws∧(qdR s x).v=x.v:=by
 unfold qdR
 split<;>exact⟨rfl,rfl,rfl,rfl,rfl⟩
theorem za2 (s s':Int→Bool) (x:Lr):p2R s (clrR s' x)=p2R s x:=by
 obtain⟨e1,_,e3,e4,_⟩:=z30 s' x
 unfold p2R
 rw[e1,e3,e4]
def gR (s:Int→Bool) (x:Lr):Lr:=qdR s (clrR s x)
theorem z2p (s:Int→Bool) (x:Lr):(gR s x).ref=x.ref∧(gR s x).kind=x.kind∧(gR s x).fin=x.fin∧(gR s x).ws=(clrR s x).ws∧(gR s x).v=x.v∧(gR s x).qd=(x.qd || p2R s x):=by
 obtain⟨e1,e2,e3,e4,e5⟩:=z30 s x
 obtain⟨f1,f2,f3,f4,f5⟩:=zeN s (clrR s x)
 refine⟨f1.trans e1,f2.trans e2,f3.trans e3,f4,f5.trans e5,?_⟩
 unfold gR qdR
 rw[za2]
 split
 ·rename_i h;rw[h];simp
 ·rename_i h
  rw[e4]
  cases q:p2R s x with
  | true=>exact absurd q h
  | false=>simp
theorem z4u {l:List Int}{v:Int}(h:l[0]?=some v):l.headD 0=v:=by
 cases l with
 | nil=>simp at h
 | cons a r=>simpa using h
theorem Ag13.p1 (h:Ag13 X fs L) (hc:Cyd X X' fs Q u1 u2) (hq:Rq X fs Q) (hs:∀ r,s r=true↔RchQ X Q r) {x:Lr}(hx:x∈L):(isw X x.ref&&u1 (wd X x.ref 0))=p1R s x:=by
 obtain⟨cl,h1,h2,h3,h4⟩:=h.cel x hx
 have hi:isw X x.ref=(x.kind == 4):=by unfold isw;rw[h1];simp only;rw[h2]
 unfold p1R
 rw[hi]
 by_cases hk:x.kind=4
 ·have hn:=hq.weak x.ref cl h1 (by rw[h2];exact hk)
  obtain⟨v,hv,hv2⟩:=h.weak x hx hk
  have e1:=h4 0 (by omega)
  rw[hv] at e1
  have e1:v=wd X x.ref 0:=by simpa using e1
  rw[z4u hv,← e1]
  congr 1
  have hu:=hc.h1 v
  have hsv:=hs v
  by_cases h0:v=0
  ·have:u1 v=false:=by
    cases q:u1 v with
    | false=>rfl
    | true=>exact absurd h0 (z2r (hu.1 q).1)
   rw[this,h0];rfl
  ·have hm:=hv2.resolve_left h0
   have hne:(v != 0)=true:=by simpa using h0
   rw[hne]
   by_cases hr:RchQ X Q v
   ·have:u1 v=false:=by
     cases q:u1 v with
     | false=>rfl
     | true=>exact absurd hr (hu.1 q).2
    rw[this,hsv.2 hr];rfl
   ·have:s v=false:=by
     cases q:s v with
     | false=>rfl
     | true=>exact absurd (hsv.1 q) hr
    rw[hu.2 ⟨hm,hr⟩,this];rfl
 ·have:(x.kind == 4)=false:=by simpa using hk
  rw[this];rfl
theorem Ag13.uns (h:Ag13 X fs L) (hc:Cyd X X' fs Q u1 u2) (hs:∀ r,s r=true↔RchQ X Q r) {x:Lr}(hx:x∈L):u1 x.ref=!(s x.ref):=by
 have hm:x.ref∈nums 0 X.S:=by rw[← h.refs];exact List.mem_map.2 ⟨x,hx,rfl⟩
 by_cases hr:RchQ X Q x.ref
 ·rw[(hs _).2 hr]
  cases q:u1 x.ref with
  | false=>rfl
  | true=>exact absurd hr ((hc.h1 _).1 q).2
 ·have:s x.ref=false:=by
   cases q:s x.ref with
   | false=>rfl
   | true=>exact absurd ((hs _).1 q) hr
  rw[this,(hc.h1 _).2 ⟨hm,hr⟩];rfl
theorem z27 {p:Int→Bool}{q:Lr→Bool}{L:List Lr}(h:∀ x∈L,p x.ref=q x):(L.map Lr.ref).filter p=(L.filter q).map Lr.ref:=by
 rw[List.filter_map]
 congr 1
 exact List.filter_congr (fun x hx=>h x hx)
theorem Ag13.cleared (h:Ag13 X fs L) (hc:Cyd X X' fs Q u1 u2) (hq:Rq X fs Q) (hs:∀ r,s r=true↔RchQ X Q r):clrd X u1 (nums 0 X.S)=(L.filter (p1R s)).map Lr.ref:=by
 unfold clrd
 rw[← h.refs]
 exact z27 (fun x hx=>h.p1 hc hq hs hx)
theorem Ag13.queued (h:Ag13 X fs L) (hc:Cyd X X' fs Q u1 u2) (hs:∀ r,s r=true↔RchQ X Q r):fs.filter u1=(L.filter (p2R s)).map Lr.ref∧(fs.filter fun r=>!u1 r)=(L.filter fun x=>x.fin&&!x.qd&&s x.ref).map Lr.ref:=by
 constructor
 ·rw[h.fin,z27 (q:=fun x=>!(s x.ref)) (fun x hx=>h.uns hc hs (List.mem_filter.1 hx).1),List.filter_filter]
  congr 1
  refine List.filter_congr (fun x _=>?_)
  unfold p2R
  rw[Bool.and_comm]
 ·rw[h.fin,z27 (q:=fun x=>s x.ref) (fun x hx=>by rw[h.uns hc hs (List.mem_filter.1 hx).1];simp),List.filter_filter]
  congr 1
  refine List.filter_congr (fun x _=>?_)
  rw[Bool.and_comm]
theorem Ag13.rd2 (h:Ag13 X fs L) (s:Int→Bool):Rd13 X (L.map (gR s)):=by
 refine⟨?_,fun y hy=>?_⟩
 ·rw[List.map_map,← h.refs]
  exact List.map_congr_left (fun x _=>(z2p s x).1)
 ·obtain⟨x,hx,rfl⟩:=List.mem_map.1 hy
  obtain⟨e1,e2,_,e4,_,_⟩:=z2p s x
  obtain⟨cl,h1,h2,h3,h4⟩:=h.cel x hx
  refine⟨cl,by rw[e1];exact h1,by rw[e2];exact h2,fun hk=>?_⟩
  rw[e2] at hk
  have:clrR s x=x:=by
   unfold clrR
   rw[if_neg]
   unfold p1R
   rw[show (x.kind == 4)=false by simp;omega]
   simp
  rw[e4,this,e1]
  exact⟨h3,h4⟩
theorem Ag13.cyc (h:Ag13 X fs L) (hc:Cyd X X' fs Q u1 u2) (hq:Rq X fs Q) (hs:∀ r,s r=true↔RchQ X Q r) (hs2:∀ r,s2 r=true↔RchQ X (Q++fs.filter u1) r):Ag13 X' (fs.filter fun r=>!u1 r) ((L.map (gR s)).filter fun x=>s2 x.ref):=by
 have hcl:=h.cleared hc hq hs
 have hns:∀ x∈L,u2 x.ref=s2 x.ref:=fun x hx=>by
  have hm:x.ref∈nums 0 X.S:=by rw[← h.refs];exact List.mem_map.2 ⟨x,hx,rfl⟩
  have a:=hc.h2 x.ref hm
  have b:=hs2 x.ref
  cases q:u2 x.ref with
  | true=>exact (b.2 (a.1 q)).symm
  | false =>
   cases q2:s2 x.ref with
   | false=>rfl
   | true=>rw[a.2 (b.1 q2)] at q;simp at q
 have hL3:((L.map (gR s)).filter fun x=>s2 x.ref)=(L.filter fun x=>s2 x.ref).map (gR s):=by
  rw[List.filter_map]
  congr 1
  refine List.filter_congr (fun x _=>?_)
  show s2 (gR s x).ref=_
  rw[(z2p s x).1]
 have hrefs:(L.filter fun x=>s2 x.ref).map Lr.ref=nums 0 X'.S:=by
  rw[hc.ns,← h.refs]
  exact (z27 hns).symm
 rw[hL3]
 refine⟨?_,fun y hy=>?_,?_,fun y hy hk=>?_⟩
 ·rw[List.map_map,← hrefs]
  exact List.map_congr_left (fun x _=>(z2p s x).1)
 ·obtain⟨x,hx,rfl⟩:=List.mem_map.1 hy
  have hxL:=(List.mem_filter.1 hx).1
  obtain⟨e1,e2,_,e4,_,_⟩:=z2p s x
  obtain⟨cl,h1,h2,h3,h4⟩:=h.cel x hxL
  have hm':x.ref∈nums 0 X'.S:=by rw[← hrefs];exact List.mem_map.2 ⟨x,hx,rfl⟩
  have hlen:(clrR s x).ws.length=x.ws.length:=by unfold clrR;split<;>simp
  refine⟨cl,by rw[e1,hc.cel _ hm'];exact h1,by rw[e2];exact h2,by rw[e4,hlen];exact h3,fun j hj=>?_⟩
  rw[e4,e1]
  have hpos:1≤x.ref:=by
   obtain⟨i,e,_⟩:=z0d h1
   omega
  have hw:wd X' x.ref j=if x.ref∈clrd X u1 (nums 0 X.S)∧j=0 then 0 else wd X x.ref j:=by
   unfold wd
   rw[hc.F]
   unfold clrF
   rw[show (((x.ref-1).toNat:Nat):Int)+1=x.ref by omega]
  have hp:x.ref∈clrd X u1 (nums 0 X.S)↔p1R s x=true:=by
   rw[← h.p1 hc hq hs hxL]
   unfold clrd
   rw[List.mem_filter]
   exact⟨fun q=>q.2,fun q=>⟨by rw[← h.refs];exact List.mem_map.2 ⟨x,hxL,rfl⟩,q⟩⟩
  rw[hw]
  unfold clrR
  by_cases q:p1R s x=true
  ·rw[if_pos q]
   by_cases hj0:j=0
   ·subst hj0
    rw[if_pos ⟨hp.2 q,rfl⟩]
    show (x.ws.set 0 0)[0]?=_
    rw[List.getElem?_set_self (by omega)]
   ·rw[if_neg (fun z=>hj0 z.2)]
    show (x.ws.set 0 0)[j]?=_
    rw[List.getElem?_set_ne (fun z=>hj0 z.symm)]
    exact h4 j hj
  ·rw[if_neg q,if_neg (fun z=>q (hp.1 z.1))]
   exact h4 j hj
 ·rw[(h.queued hc hs).2,List.filter_map,List.map_map,List.filter_filter]
  have e:(Lr.ref ∘ gR s)=Lr.ref:=by funext x;exact (z2p s x).1
  rw[e]
  congr 1
  refine List.filter_congr (fun x hx=>?_)
  obtain⟨e1,_,e3,_,_,e6⟩:=z2p s x
  show _=(((gR s x).fin&&!(gR s x).qd)&&s2 x.ref)
  rw[e3,e6]
  unfold p2R
  have h12:s x.ref=true→s2 x.ref=true:=fun q=>(hs2 _).2 ((hs _).1 q).more
  cases hf:x.fin<;>cases hqd:x.qd<;>cases hsx:s x.ref<;>simp[hsx] at h12 ⊢<;>first|exact h12|skip
 ·obtain⟨x,hx,rfl⟩:=List.mem_map.1 hy
  have hxL:=(List.mem_filter.1 hx).1
  obtain⟨e1,e2,_,e4,_,_⟩:=z2p s x
  rw[e2] at hk
  obtain⟨v,hv,hv2⟩:=h.weak x hxL hk
  rw[e4]
  unfold clrR
  by_cases q:p1R s x=true
  ·rw[if_pos q]
   refine⟨0,?_,.inl rfl⟩
   show (x.ws.set 0 0)[0]?=some 0
   rw[List.getElem?_set_self ((List.getElem?_eq_some_iff.1 hv).1)]
  ·rw[if_neg q]
   refine⟨v,hv,?_⟩
   by_cases h0:v=0
   ·exact .inl h0
   ·right
    have hm:=hv2.resolve_left h0
    have hsv:s v=true:=by
     cases z:s v with
     | true=>rfl
     | false =>
      refine absurd ?_ q
      unfold p1R
      rw[z4u hv,z]
      simp[hk,h0]
    rw[hc.ns]
    exact List.mem_filter.2 ⟨hm,(hc.h2 v hm).2 ((hs v).1 hsv).more⟩
end
end Go.Proofs.YthkelaeemefnaaaGreat
namespace Go.Proofs.YthkelaeemefnaaaGreat
open Go.RowKit
def rowR (x:Lr):List Value:=[.int .i64 x.ref,.int .i64 x.kind,x.v,.bool x.fin,.bool x.qd]
structure Bun (w:World) (B:Nat) (Vs:List (Value×List Int)):Prop where
 row:∀ (j:Nat) (q:Value×List Int),Vs[j]?=some q→Ri w B q.1 q.2
 dis:∀ (i j:Nat) (p q:Value×List Int),Vs[i]?=some p→Vs[j]?=some q→i≠j→∀ k,p.1.ownBlock=some k→q.1.ownBlock≠some k
section
variable {w w':World}{B:Nat}{Vs:List (Value×List Int)}
theorem Bun.same (h:Bun w B Vs) (e:∀ q∈Vs,∀ k,q.1.ownBlock=some k→w'.heap[k]?=w.heap[k]?):Bun w' B Vs:=⟨fun j q hq=>(h.row j q hq).of_block (fun k hk=>e q (List.mem_of_getElem? hq) k hk),h.dis⟩
theorem Bun.lt (h:Bun w B Vs) {q:Value×List Int}(hq:q∈Vs) {k:Nat}(hk:q.1.ownBlock=some k):B≤k∧k<w.heap.size:=by
 obtain⟨j,hj,e⟩:=List.getElem_of_mem hq
 exact (h.row j q (by rw[List.getElem?_eq_getElem hj,e])).lt hk
theorem Bun.below (h:Bun w B Vs) (b:Below w.heap.size w w'):Bun w' B Vs:=h.same fun _ hq k hk=>b.block k (h.lt hq hk).2
theorem Bun.set (h:Bun w B Vs) {i:Nat}{p:Value×List Int}(hi:Vs[i]?=some p) (hB:Bt (fun k=>p.1.ownBlock=some k) w w') {v:Value}{U:List Int}(hv:Ri w' B v U) (hat:v.ownBlock=p.1.ownBlock∨∀ k,v.ownBlock=some k→w.heap.size≤k):Bun w' B (Vs.set i (v,U)):=by
 have hil:=(List.getElem?_eq_some_iff.1 hi).1
 have key:∀ j q,(Vs.set i (v,U))[j]?=some q→(j=i∧q=(v,U))∨(j≠i∧Vs[j]?=some q):=fun j q hq=>by
  by_cases e:j=i
  ·subst e
   rw[List.getElem?_set_self hil] at hq
   exact .inl ⟨rfl,by simpa using hq.symm⟩
  ·rw[List.getElem?_set_ne (fun z=>e z.symm)] at hq
   exact .inr ⟨e,hq⟩
 have hvn:∀ k,v.ownBlock=some k→p.1.ownBlock=some k∨w.heap.size≤k:=fun k hk=>by
  rcases hat with q|q
  ·rw[q] at hk;exact .inl hk
  ·exact .inr (q k hk)
 refine⟨fun j q hq=>?_,fun a b x y hx hy hne k hk hk2=>?_⟩
 ·rcases key j q hq with ⟨_,rfl⟩|⟨hj,hq⟩
  ·exact hv
  ·exact (h.row j q hq).of_block (fun k hk=>hB.block k ((h.row j q hq).lt hk).2 (h.dis j i q p hq hi hj k hk))
 ·rcases key a x hx with ⟨ha,rfl⟩|⟨ha,hx⟩<;>rcases key b y hy with ⟨hb,rfl⟩|⟨hb,hy⟩
  ·omega
  ·rcases hvn k hk with q|q
   ·exact h.dis i b p y hi hy (by omega) k q hk2
   ·have:=((h.row b y hy).lt hk2).2;omega
  ·rcases hvn k hk2 with q|q
   ·exact h.dis a i x p hx hi ha k hk q
   ·have:=((h.row a x hx).lt hk).2;omega
  ·exact h.dis a b x y hx hy hne k hk hk2
theorem Bun.add (h:Bun w B Vs) (b:Below w.heap.size w w') {v:Value}{U:List Int}(hv:Ri w' B v U) (hnew:∀ k,v.ownBlock=some k→w.heap.size≤k):Bun w' B (Vs++[(v,U)]):=by
 have key:∀ j q,(Vs++[(v,U)])[j]?=some q→(j=Vs.length∧q=(v,U))∨(j<Vs.length∧Vs[j]?=some q):=fun j q hq=>by
  by_cases e:j<Vs.length
  ·rw[List.getElem?_append_left e] at hq
   exact .inr ⟨e,hq⟩
  ·rw[List.getElem?_append_right (by omega)] at hq
   have:j-Vs.length=0:=by
    have:=(List.getElem?_eq_some_iff.1 hq).1
    simp at this
    omega
   rw[this] at hq
   exact .inl ⟨by omega,by simpa using hq.symm⟩
 refine⟨fun j q hq=>?_,fun a c x y hx hy hne k hk hk2=>?_⟩
 ·rcases key j q hq with ⟨_,rfl⟩|⟨hj,hq⟩
  ·exact hv
  ·exact (h.row j q hq).below b
 ·rcases key a x hx with ⟨ha,rfl⟩|⟨ha,hx⟩<;>rcases key c y hy with ⟨hb,rfl⟩|⟨hb,hy⟩
  ·omega
  ·have:=hnew k hk
   have:=((h.row c y hy).lt hk2).2;omega
  ·have:=hnew k hk2
   have:=((h.row a x hx).lt hk).2;omega
  ·exact h.dis a c x y hx hy hne k hk hk2
theorem Bun.sub (h:Bun w B Vs) {Us:List (Value×List Int)}(hs:List.Sublist Us Vs):Bun w B Us:=by
 have hp:Vs.Pairwise fun p q=>∀ k,p.1.ownBlock=some k→q.1.ownBlock≠some k:=List.pairwise_iff_getElem.2 fun i j hi hj hij=>h.dis i j _ _ (List.getElem?_eq_getElem hi) (List.getElem?_eq_getElem hj) (by omega)
 have hp2:=hp.sublist hs
 refine⟨fun j q hq=>?_,fun a c x y hx hy hne k hk hk2=>?_⟩
 ·obtain⟨i,hi,e⟩:=List.getElem_of_mem (hs.subset (List.mem_of_getElem? hq))
  exact h.row i q (by rw[List.getElem?_eq_getElem hi,e])
 ·have ha:=List.getElem?_eq_some_iff.1 hx
  have hc:=List.getElem?_eq_some_iff.1 hy
  obtain⟨ha,rfl⟩:=ha
  obtain⟨hc,rfl⟩:=hc
  rcases Nat.lt_or_gt_of_ne hne with q|q
  ·exact List.pairwise_iff_getElem.1 hp2 a c ha hc q k hk hk2
  ·exact List.pairwise_iff_getElem.1 hp2 c a hc ha q k hk2 hk
end
def bunL (vq:Value) (Q:List Int) (vr:Nat→Value) (R:Nat→List Int) (T:Nat) (L:List Lr):List (Value×List Int):=(vq,Q)::(((List.range T).map fun t=>(vr t,R t))++L.map fun x=>(x.v,x.ws))
section
variable {vq:Value}{Q:List Int}{vr:Nat→Value}{R:Nat→List Int}{T:Nat}{L:List Lr}
theorem z7r:(bunL vq Q vr R T L)[0]?=some (vq,Q):=rfl
theorem zaJ {t:Nat}(ht:t<T):(bunL vq Q vr R T L)[t+1]?=some (vr t,R t):=by
 unfold bunL
 rw[List.getElem?_cons_succ,List.getElem?_append_left (by simpa using ht),List.getElem?_map,List.getElem?_range ht]
 rfl
theorem z6l {i:Nat}{x:Lr}(hi:L[i]?=some x):(bunL vq Q vr R T L)[T+1+i]?=some (x.v,x.ws):=by
 unfold bunL
 rw[show T+1+i=(T+i)+1 by omega,List.getElem?_cons_succ,List.getElem?_append_right (by simp),List.length_map,List.length_range,show T+i-T=i by omega,List.getElem?_map,hi]
 rfl
theorem z3e (v:Value) (U:List Int):(bunL vq Q vr R T L).set 0 (v,U)=bunL v U vr R T L:=rfl
def setV (f:Nat→Value) (t:Nat) (v:Value):Nat→Value:=fun i=>if i=t then v else f i
theorem z5M {t:Nat}(ht:t<T) (v:Value) (U:List Int):(bunL vq Q vr R T L).set (t+1) (v,U)=bunL vq Q (setV vr t v) (setL R t U) T L:=by
 unfold bunL
 rw[List.set_cons_succ,List.set_append,if_pos (by simpa using ht)]
 congr 2
 apply List.ext_getElem?
 intro i
 rw[List.getElem?_set,List.getElem?_map,List.getElem?_map]
 by_cases hi:i<T
 ·rw[List.getElem?_range hi]
  by_cases e:t=i
  ·subst e;simp[setV,setL,ht]
  ·have e2:¬ i=t:=fun z=>e z.symm
   simp[setV,setL,e,e2]
 ·rw[List.getElem?_eq_none (by simpa using hi)]
  simp only[Option.map_none]
  split
  ·split
   ·rename_i e _;omega
   ·rfl
  ·rfl
theorem z9H {i:Nat}{z:Lr}:(bunL vq Q vr R T L).set (T+1+i) (z.v,z.ws)=bunL vq Q vr R T (L.set i z):=by
 unfold bunL
 rw[show T+1+i=(T+i)+1 by omega,List.set_cons_succ,List.set_append,if_neg (by simp),List.length_map,List.length_range,show T+i-T=i by omega,← List.map_set]
theorem z7N (z:Lr):bunL vq Q vr R T L++[(z.v,z.ws)]=bunL vq Q vr R T (L++[z]):=by
 unfold bunL
 simp
theorem zbG {L':List Lr}(h:List.Sublist (L'.map fun x=>(x.v,x.ws)) (L.map fun x=>(x.v,x.ws))):List.Sublist (bunL vq Q vr R T L') (bunL vq Q vr R T L):=by
 unfold bunL
 exact ((List.Sublist.refl _).append h).cons_cons _
end
def Pown (y rb:Nat) (va:Value) (Vs:List (Value×List Int)) (k:Nat):Prop:=k=y∨k=rb∨va.ownBlock=some k∨∃ q∈Vs,q.1.ownBlock=some k
structure Lm (B:Nat) (w:World) (rh y rb W T:Nat) (va vq:Value) (vr:Nat→Value) (R:Nat→List Int) (Q:List Int) (L:List Lr):Prop where
 here:w.heap[y]?=some (.cells #[.pointer (some ⟨rh,0,none⟩),.int .i64 W,.int .i64 T,va,.slice (some ⟨rb,0,none⟩) T T,vq] 34 (0,0))
 row:Rs w B 90 5 va (L.map rowR)
 rts:w.rowIs rb 32 T vr
 bun:Bun w B (bunL vq Q vr R T L)
 low:B≤y∧B≤rb
section
variable {B:Nat}{w w':World}{rh y rb W T:Nat}{va vq:Value}{vr:Nat→Value}{R:Nat→List Int}{Q:List Int}{L:List Lr}
theorem Lm.y_lt (H:Lm B w rh y rb W T va vq vr R Q L):y<w.heap.size:=z02 H.here
theorem Lm.rb_lt (H:Lm B w rh y rb W T va vq vr R Q L):rb<w.heap.size:=H.rts.lt
theorem Lm.lt (H:Lm B w rh y rb W T va vq vr R Q L) {k:Nat}(hk:Pown y rb va (bunL vq Q vr R T L) k):k<w.heap.size∧B≤k:=by
 rcases hk with q|q|q|⟨p,q1,q2⟩
 ·rw[q];exact⟨H.y_lt,H.low.1⟩
 ·rw[q];exact⟨H.rb_lt,H.low.2⟩
 ·exact⟨(H.row.lt q).2,(H.row.lt q).1⟩
 ·exact⟨(H.bun.lt q1 q2).2,(H.bun.lt q1 q2).1⟩
theorem Lm.same (H:Lm B w rh y rb W T va vq vr R Q L) (e:∀ k,Pown y rb va (bunL vq Q vr R T L) k→w'.heap[k]?=w.heap[k]?):Lm B w' rh y rb W T va vq vr R Q L :=
 ⟨(e y (.inl rfl)).trans H.here,H.row.of_block (fun k hk=>e k (.inr (.inr (.inl hk)))),H.rts.of_block (e rb (.inr (.inl rfl))),H.bun.same (fun q hq k hk=>e k (.inr (.inr (.inr ⟨q,hq,hk⟩)))),H.low⟩
theorem Lm.below (H:Lm B w rh y rb W T va vq vr R Q L) (b:Below w.heap.size w w'):Lm B w' rh y rb W T va vq vr R Q L:=H.same fun k hk=>b.block k (H.lt hk).1
theorem Lm.cells (H:Lm B w rh y rb W T va vq vr R Q L):w.cell? ⟨y,0,none⟩=some (.pointer (some ⟨rh,0,none⟩))∧w.cell? ⟨y,1,none⟩=some (.int .i64 W)∧w.cell? ⟨y,2,none⟩=some (.int .i64 T)∧w.cell? ⟨y,3,none⟩=some va∧w.cell? ⟨y,4,none⟩=some (.slice (some ⟨rb,0,none⟩) T T)∧w.cell? ⟨y,5,none⟩=some vq:=by
 simp[World.cell?,H.here]
theorem Lm.apart (H:Lm B w rh y rb W T va vq vr R Q L):y≠rb∧va.ownBlock≠some y∧va.ownBlock≠some rb∧(∀ q∈bunL vq Q vr R T L,q.1.ownBlock≠some y∧q.1.ownBlock≠some rb∧∀ k,q.1.ownBlock=some k→va.ownBlock≠some k):=by
 obtain⟨cur,hc,_⟩:=H.rts
 have hva:∀ k,va.ownBlock=some k→∃ cur,w.heap[k]?=some (.cells cur 90 (0,0)):=fun k hk=>H.row.kind hk
 have hb:∀ q∈bunL vq Q vr R T L,∀ k,q.1.ownBlock=some k→∃ cur,w.heap[k]?=some (.cells cur 3 (0,0)):=fun q hq k hk=>by
  obtain⟨j,hj,e⟩:=List.getElem_of_mem hq
  exact (H.bun.row j q (by rw[List.getElem?_eq_getElem hj,e])).kind hk
 refine⟨fun e=>?_,fun e=>?_,fun e=>?_,fun q hq=>⟨fun e=>?_,fun e=>?_,fun k hk e=>?_⟩⟩
 ·have:=H.here;rw[e,hc] at this;simp at this
 ·obtain⟨c2,h2⟩:=hva y e;rw[H.here] at h2;simp at h2
 ·obtain⟨c2,h2⟩:=hva rb e;rw[hc] at h2;simp at h2
 ·obtain⟨c2,h2⟩:=hb q hq y e;rw[H.here] at h2;simp at h2
 ·obtain⟨c2,h2⟩:=hb q hq rb e;rw[hc] at h2;simp at h2
 ·obtain⟨c2,h2⟩:=hb q hq k hk
  obtain⟨c3,h3⟩:=hva k e
  rw[h2] at h3;simp at h3
theorem z9L {w:World}{p i:Nat}{x:Lr}(h:w.rangeAt p (i*5) (rowR x)):w.cell? ⟨p,i*5,none⟩=some (.int .i64 x.ref)∧w.cell? ⟨p,i*5+1,none⟩=some (.int .i64 x.kind)∧w.cell? ⟨p,i*5+2,none⟩=some x.v∧w.cell? ⟨p,i*5+3,none⟩=some (.bool x.fin)∧w.cell? ⟨p,i*5+4,none⟩=some (.bool x.qd) :=
 ⟨h 0 _ rfl,h 1 _ rfl,h 2 _ rfl,h 3 _ rfl,h 4 _ rfl⟩
theorem Lm.form (H:Lm B w rh y rb W T va vq vr R Q L):∃ ao cap,va=.slice ao L.length cap∧∀ i x,L[i]?=some x→∃ p,ao=some ⟨p,0,none⟩∧p<w.heap.size∧(w.cell? ⟨p,i*5,none⟩=some (.int .i64 x.ref)∧w.cell? ⟨p,i*5+1,none⟩=some (.int .i64 x.kind)∧w.cell? ⟨p,i*5+2,none⟩=some x.v∧w.cell? ⟨p,i*5+3,none⟩=some (.bool x.fin)∧w.cell? ⟨p,i*5+4,none⟩=some (.bool x.qd))∧∀ j,w.frozen? ⟨p,j,none⟩=false:=by
 have hlen:(L.map rowR).length=L.length:=List.length_map _
 obtain⟨ao,cap,rfl⟩:=H.row.form
 rw[hlen]
 refine⟨ao,cap,rfl,fun i x hx=>?_⟩
 have hi:=(List.getElem?_eq_some_iff.1 hx).1
 obtain⟨p,e,hp,_,hz,hc⟩:=H.row.cells (by rw[hlen];omega)
 exact⟨p,e,hp.2,z9L (hc i _ (by rw[List.getElem?_map,hx];rfl)),hz⟩
theorem Lm.word (H:Lm B w rh y rb W T va vq vr R Q L) {i:Nat}{x:Lr}(hx:L[i]?=some x):Ri w B x.v x.ws:=H.bun.row _ _ (z6l hx)
theorem Lm.root (H:Lm B w rh y rb W T va vq vr R Q L) {t:Nat}(ht:t<T):Ri w B (vr t) (R t)∧w.cell? ⟨rb,t,none⟩=some (vr t):=⟨H.bun.row _ _ (zaJ ht),H.rts.cell ht⟩
theorem Lm.que (H:Lm B w rh y rb W T va vq vr R Q L):Ri w B vq Q:=H.bun.row 0 _ z7r
end
def FndR (L:List Lr) (t R:Int):Prop:=(∃ (i:Nat) (x:Lr),L[i]?=some x∧x.ref=t∧(∀ j z,j<i→L[j]?=some z→z.ref≠t)∧R=i)∨((∀ x∈L,x.ref≠t)∧R=-1)
theorem z4H (t:Int):∀ L:List Lr,∃ R,FndR L t R
 | []=>⟨-1,.inr ⟨fun x h=>by simp at h,rfl⟩⟩
 | a::r=>by
  by_cases e:a.ref=t
  ·exact⟨0,.inl ⟨0,a,rfl,e,fun j z hj=>by omega,rfl⟩⟩
  ·obtain⟨R,hR⟩:=z4H t r
   rcases hR with ⟨i,x,h1,h2,h3,h4⟩|⟨h1,h2⟩
   ·refine⟨R+1,.inl ⟨i+1,x,by simpa using h1,h2,fun j z hj hz=>?_,by omega⟩⟩
    cases j with
    | zero=>simp at hz;subst hz;exact e
    | succ j=>exact h3 j z (by omega) (by simpa using hz)
   ·refine⟨-1,.inr ⟨fun x hx=>?_,rfl⟩⟩
    rcases List.mem_cons.1 hx with rfl|hx
    ·exact e
    ·exact h1 x hx
section
variable {B:Nat}{w:World}{rh y rb W T:Nat}{va vq:Value}{vr:Nat→Value}{R:Nat→List Int}{Q:List Int}{L:List Lr}
theorem z1N (H:Lm B w rh y rb W T va vq vr R Q L) (hL:L.length≤1000) (t Rr:Int) (hR:FndR L t Rr):
  Calls Tryz.prog 30 #[.pointer (some ⟨y,0,none⟩),.int .i64 t] w fun e w'=>e=.returned (.int .i64 Rr)∧w'=w:=by
 obtain⟨_,_,_,c3,_⟩:=H.cells
 have hyl:=H.y_lt
 obtain⟨ao,cap,rfl,hF⟩:=H.form
 have HC:Hid (∀ i x,L[i]?=some x→∃ p,ao=some ⟨p,0,none⟩∧w.cell? ⟨p,i*5,none⟩=some (.int .i64 x.ref)∧p<w.heap.size):=fun i x hx=>by
  obtain⟨p,e,hp,c0,_⟩:=hF i x hx
  exact⟨p,e,c0.1,hp⟩
 have HQ:Hid (FndR L t Rr):=hR
 have HIx:Hid (∀ i,i<L.length→∃ x,L[i]?=some x):=fun i hi=>⟨_,List.getElem?_eq_getElem hi⟩
 have HNo:Hid (∀ i x,L[i]?=some x→i<L.length):=fun i x hx=>(List.getElem?_eq_some_iff.1 hx).1
 generalize hN:L.length=M at *
 clear H hR hN hF
 go_enter Tryz.func30,Tryz.ntmps30
 go_wp2
 go_loopg [5] (M+1) (fun kx s5 wr=>∃ j:Nat,s5=.int .i64 j∧j≤M∧M-j≤kx∧Hid (∀ i z,i<j→L[i]?=some z→z.ref≠t)∧wr=w)
 case atStart=>exact⟨0,rfl,by omega,by omega,fun i z hi=>by omega,rfl⟩
 case round =>
  obtain⟨j,rfl,hj,hk,HM,rfl⟩:=hrel
  by_cases hlt:j<M
  ·have h1:(j:Int)<(M:Int):=by omega
   obtain⟨x,hx⟩:=HIx.out j hlt
   obtain⟨p,rfl,cp,hp⟩:=HC.out j x hx
   by_cases hxt:x.ref=t
   ·have ht:(x.ref == t)=true:=by simpa using hxt
    have HR:Hid (Rr=(j:Int)):=(by
     rcases HQ.out with ⟨i,z,h1,h2,h3,h4⟩|⟨h1,_⟩
     ·rcases Nat.lt_trichotomy i j with q|q|q
      ·exact absurd h2 (HM.out i z q h1)
      ·rw[h4,q]
      ·exact absurd hxt (h3 j x q hx)
     ·exact absurd hxt (h1 x (List.mem_of_getElem? hx)):Rr=(j:Int))
    generalize x.ref=rf at *
    clear HC HQ HIx HNo hx hxt HM
    go_wp2
    go_ret
    exact⟨by rw[HR.out];rfl,rfl⟩
   ·have ht:(x.ref == t)=false:=by simpa using hxt
    have HM2:Hid (∀ i z,i<j+1→L[i]?=some z→z.ref≠t):=fun i z hi hz=>by
     by_cases e:i=j
     ·subst e;rw[hx] at hz;cases hz;exact hxt
     ·exact HM.out i z (by omega) hz
    generalize x.ref=rf at *
    clear hx hxt HM
    go_wp2
    go_roundg (M-(j+1))
    case measure=>omega
    case rel=>exact⟨j+1,by go_num,by omega,by omega,HM2,rfl⟩
  ·have h1:¬ (j:Int)<(M:Int):=by omega
   have HR:Hid (Rr=-1):=(by
    rcases HQ.out with ⟨i,z,h1,h2,h3,h4⟩|⟨_,h2⟩
    ·exact absurd h2 (HM.out i z (by have:=HNo.out i z h1;omega) h1)
    ·exact h2:Rr=-1)
   clear HC HQ HIx HNo HM
   go_wp2
   go_ret
   exact⟨by rw[HR.out];rfl,rfl⟩
end
end Go.Proofs.YthkelaeemefnaaaGreat
namespace Go.Proofs.YthkelaeemefnaaaGreat
open Go.RowKit
theorem zf9:(Tryz.prog.info? 4).map (fun i=>(i.zero,i.size,i.bytes))=some (some (.bool false),1,1):=by kernel_rfl
structure SeS (w:World) (gs n:Nat) (sn:Nat→Bool) (v:Value) (U:List Int) (u:World):Prop where
 bel:Below w.heap.size w u
 at_:gs=w.heap.size
 row:u.rowIs gs 4 n (fun i=>.bool (sn i))
 work:Ri u (gs+1) v U
 sz:gs+1≤u.heap.size
section
variable {w u u':World}{gs n:Nat}{sn:Nat→Bool}{v:Value}{U:List Int}
theorem SeS.new (w:World) (n:Nat):SeS w w.heap.size n (fun _=>false) (.slice none 0 0) [] (w.alloc (.cells (madeCells #[.bool false] n) 4)) :=
 ⟨(Below.refl _ _).alloc (Nat.le_refl _) _,rfl,World.rowIs_made w (.bool false) n 4,Ri.nil _ _,by rw[Go.Deep.nblk_alloc];exact Nat.le_refl _⟩
theorem SeS.adds (h:SeS w gs n sn v U u) {C:Nat}{v2:Value}{V:List Int}(h2:Ri u C v2 V) (hl:U.length+V.length≤10000):∃ ao cap u',(appC #[32,32] 32 #[v,v2]).run Tryz.prog u=.ok (.slice ao (U.length+V.length) cap) u'∧SeS w gs n sn (.slice ao (U.length+V.length) cap) (U++V) u':=by
 obtain⟨ao,cap,u',hrun,hR,hg,_⟩:=h.work.adds h.sz h2 hl
 have hgs:=h.at_
 have out:∀ k,k<gs+1→v.ownBlock≠some k:=fun k hk q=>by have:=(h.work.lt q).1;omega
 have blk:∀ k,k<gs+1→u'.heap[k]?=u.heap[k]?:=fun k hk=>hg.block k (by have:=h.sz;omega) (fun q=>out k hk q.symm)
 refine⟨ao,cap,u',hrun,⟨hg.os.trans h.bel.os,hg.tape.trans h.bel.tape,hg.output.trans h.bel.output,Nat.le_trans h.bel.size hg.size,fun k hk=>(blk k (by omega)).trans (h.bel.block k hk)⟩,h.at_,h.row.of_block (blk gs (by omega)),hR,Nat.le_trans h.sz hg.size⟩
theorem SeS.cut {p m cap:Nat}{r:Int}(h:SeS w gs n sn (.slice (some ⟨p,0,none⟩) m cap) (U++[r]) u):SeS w gs n sn (.slice (some ⟨p,0,none⟩) U.length cap) U u:=⟨h.bel,h.at_,h.row,h.work.cut,h.sz⟩
theorem SeS.put (h:SeS w gs n sn v U u) (i:Nat):SeS w gs n (setB sn i true) v U (u.setCell ⟨gs,i,none⟩ (.bool true)):=by
 have hgs:=h.at_
 refine⟨h.bel.setCell (by rw[hgs];exact Nat.le_refl _) _,h.at_,(h.row.set i (.bool true)).congr (fun j _=>by unfold setB;split<;>rfl),h.work.of_block (fun k hk=>z03 _ _ (fun q=>?_)),by simpa [World.setCell] using h.sz⟩
 have:=(h.work.lt hk).1
 have:k=gs:=q
 omega
end
def z20 (w:World) (X:Cm) (Q:List Int) (L:List Lr) (e:Ending) (w':World):Prop:=∃ sn:Nat→Bool,e=.returned (.slice (some ⟨w.heap.size,0,none⟩) L.length L.length)∧Below w.heap.size w w'∧w'.rowIs w.heap.size 4 L.length (fun i=>.bool (sn i))∧∀ i x,L[i]?=some x→(sn i=true↔RchQ X Q x.ref)
section
variable {B:Nat}{w:World}{rh y rb W T:Nat}{va vq:Value}{vr:Nat→Value}{R:Nat→List Int}{Q fs Q':List Int}{L:List Lr}{X:Cm}
attribute [local go_sem ↓] z1I
theorem zeP (H:Lm B w rh y rb W T va vq vr R Q L) (hL:L.length≤1000) (hd:Rd13 X L) (hq:Rq X fs Q') (hQ:∀ r∈Q,r∈nums 0 X.S) (hT:X.T=T) (hR:∀ t,t<T→X.rt t=R t) (hT8:T≤8) (hR64:∀ t,t<T→(R t).length≤64) (hQl:Q.length≤4000) (hsum:sumR L≤5000):
  Calls Tryz.prog 61 #[.pointer (some ⟨y,0,none⟩)] w (z20 w X Q L):=by
 obtain⟨_,_,_,c3,c4,c5⟩:=H.cells
 have hyl:=H.y_lt
 obtain⟨ao,cap,rfl,hF⟩:=H.form
 have hmk:=run_make_row' (P:=Tryz.prog) 91 4 (.bool false) 1 Tryz.underlying91 zf9 rfl .i64 .i64 L.length (by omega) (by omega)
 obtain⟨aq,cq,rfl⟩:=H.que.form
 have h0:=SeS.new w L.length
 have hBl0:Below w.heap.size w (w.alloc (.cells (madeCells #[.bool false] L.length) 4)):=(Below.refl _ _).alloc (Nat.le_refl _) _
 obtain⟨a4,k4,w4,hrun4,h4⟩:=h0.adds (H.que.below hBl0) (by simp;omega)
 simp only[List.length_nil,Nat.zero_add,List.nil_append] at hrun4 h4
 have HFi:Hid (∀ (u:World) (t Rr:Int),Below w.heap.size w u→FndR L t Rr→Calls Tryz.prog 30 #[.pointer (some ⟨y,0,none⟩),.int .i64 t] u fun e w'=>e=.returned (.int .i64 Rr)∧w'=u):=fun u t Rr b hf=>z1N (H.below b) hL t Rr hf
 have HY:Hid (∀ u,Below w.heap.size w u→u.cell? ⟨y,3,none⟩=some (.slice ao L.length cap)∧u.cell? ⟨y,4,none⟩=some (.slice (some ⟨rb,0,none⟩) T T)∧y<u.heap.size):=fun u b=>by
  obtain⟨_,_,_,d3,d4,_⟩:=(H.below b).cells
  exact⟨d3,d4,(H.below b).y_lt⟩
 have HRt:Hid (∀ u t,Below w.heap.size w u→t<T→∃ at_ ct,vr t=.slice at_ (R t).length ct∧u.cell? ⟨rb,t,none⟩=some (.slice at_ (R t).length ct)∧rb<u.heap.size∧Ri u B (.slice at_ (R t).length ct) (R t)):=fun u t b ht=>by
  obtain⟨h1,h2⟩:=(H.below b).root ht
  obtain⟨at_,ct,e⟩:=h1.form
  rw[e] at h1 h2
  exact⟨at_,ct,e,h2,(H.below b).rb_lt,h1⟩
 have HC:Hid (∀ u i x,Below w.heap.size w u→L[i]?=some x→∃ p ax cx,ao=some ⟨p,0,none⟩∧p<u.heap.size∧p<w.heap.size∧u.cell? ⟨p,i*5+1,none⟩=some (.int .i64 x.kind)∧u.cell? ⟨p,i*5+2,none⟩=some (.slice ax x.ws.length cx)∧Ri u B (.slice ax x.ws.length cx) x.ws):=fun u i x b hx=>by
  obtain⟨p,e,hp,c0,_⟩:=hF i x hx
  obtain⟨ao2,cap2,e2,hF2⟩:=(H.below b).form
  obtain⟨p2,e3,hp2,d0,_⟩:=hF2 i x hx
  have hw:=(H.below b).word hx
  obtain⟨ax,cx,e4⟩:=hw.form
  simp only[Value.slice.injEq] at e2
  rw[← e2.1,e] at e3
  simp only[Option.some.injEq,Addr.mk.injEq,and_true] at e3
  subst e3
  refine⟨p,ax,cx,e,hp2,hp,d0.2.1,?_,?_⟩
  ·rw[d0.2.2.1,e4]
  ·rw[← e4];exact hw
 have HD:Hid (Rd13 X L∧Rq X fs Q'∧(∀ r∈Q,r∈nums 0 X.S)∧X.T=T∧(∀ t,t<T→X.rt t=R t)∧(∀ t,t<T→(R t).length≤64)∧Q.length≤4000∧sumR L≤5000∧(∀ i x,L[i]?=some x→i<L.length)):=⟨hd,hq,hQ,hT,hR,hR64,hQl,hsum,fun i x hx=>(List.getElem?_eq_some_iff.1 hx).1⟩
 have H4:Hid (SeS w w.heap.size L.length (fun _=>false) (.slice a4 Q.length k4) Q w4):=h4
 have HN:Hid (L.length=L.length):=rfl
 clear H hd hq hQ hT hR hR64 hQl hsum hF h0 h4 hBl0 hL
 obtain⟨gs,hgs⟩:∃ gs,gs=w.heap.size:=⟨_,rfl⟩
 obtain⟨n,hn⟩:∃ n,n=L.length:=⟨_,rfl⟩
 have HG:Hid (gs=w.heap.size∧n=L.length):=⟨hgs,hn⟩
 obtain⟨nq,hnq⟩:∃ nq,nq=Q.length:=⟨_,rfl⟩
 have HQn:Hid (nq=Q.length):=hnq
 rw[← hgs,← hn,← hnq] at H4
 rw[← hn] at c3 hmk hrun4
 rw[← hnq] at c5 hrun4
 rw[← hn] at HY HD
 clear hn HN hnq
 go_enter Tryz.func61,Tryz.ntmps61
 go_wp2
 rw[← hgs]
 clear hgs hmk hrun4 c3 c4 c5 hyl
 go_loopg [4,5] 10 (fun kx s4 s5 wr=>∃ (i m:Nat) (a1:Option Addr) (c1:Nat) (U:List Int),s4=.slice a1 m c1∧s5=.int .i64 i∧i≤T∧T-i≤kx∧Hid (U.length=m∧m≤nq+64*i∧(∀ r,r∈U↔r∈Q∨∃ t,t<i∧r∈R t)∧SeS w gs n (fun _=>false) (.slice a1 m c1) U wr))
 case atStart=>exact⟨0,nq,a4,k4,Q,rfl,rfl,by omega,by omega,HQn.out.symm,by omega,fun r=>⟨.inl,fun q=>q.elim id (fun ⟨t,ht,_⟩=>by omega)⟩,H4.out⟩
 case round =>
  clear H4
  obtain⟨i,m,a1,c1,U,rfl,rfl,hi,hkx,HI⟩:=hrel
  obtain⟨d3,d4,d5⟩:=HY.out _ HI.out.2.2.2.bel
  by_cases hiT:i<T
  ·have g1:(i:Int)<(T:Int):=by omega
   obtain⟨at_,ct,_,e2,e3,e4⟩:=HRt.out _ i HI.out.2.2.2.bel hiT
   have hU:=HI.out.1
   have hlen:=HI.out.2.1
   have hr64:=HD.out.2.2.2.2.2.1 i hiT
   have hq4:=HD.out.2.2.2.2.2.2.1
   have hqn:=HQn.out
   obtain⟨a2,c2,u2,hrun2,h2⟩:=HI.out.2.2.2.adds e4 (by omega)
   rw[hU] at hrun2 h2
   have HI2:Hid ((U++R i).length=m+(R i).length∧m+(R i).length≤nq+64*(i+1)∧(∀ r,r∈U++R i↔r∈Q∨∃ t,t<i+1∧r∈R t)∧SeS w gs n (fun _=>false) (.slice a2 (m+(R i).length) c2) (U++R i) u2):=⟨by rw[List.length_append,hU],by omega,fun r=>by
    rw[List.mem_append,HI.out.2.2.1 r]
    constructor
    ·rintro ((q|⟨t,ht,q⟩)|q)
     ·exact .inl q
     ·exact .inr ⟨t,by omega,q⟩
     ·exact .inr ⟨i,by omega,q⟩
    ·rintro (q|⟨t,ht,q⟩)
     ·exact .inl (.inl q)
     ·by_cases e:t=i
      ·subst e;exact .inr q
      ·exact .inl (.inr ⟨t,by omega,q⟩),h2⟩
   generalize (R i).length=ni at *
   clear HI h2 e4 hU hlen hr64 hq4 hqn
   go_wp2
   go_roundg (T-(i+1))
   case measure=>omega
   case rel=>exact⟨i+1,m+ni,a2,c2,U++R i,rfl,by go_num,by omega,by omega,HI2.out⟩
  ·obtain rfl:i=T:=by omega
   have g1:¬ (i:Int)<(i:Int):=by omega
   have HJ:Hid (U.length=m∧m+z0R L (fun _=>false)≤9600∧SeS w gs n (fun _=>false) (.slice a1 m c1) U wr∧Rw13 X Q L (fun _=>false) U):=⟨HI.out.1,by
    have h1:=HI.out.2.1
    have h2:=HD.out.2.2.2.2.2.2.1
    have h3:=HQn.out
    have h4:=HD.out.2.2.2.2.2.2.2.1
    have h5:=z87 L (fun _=>false)
    omega,HI.out.2.2.2,Rw13.init (fun r=>by
     rw[HI.out.2.2.1 r,HD.out.2.2.2.1]
     constructor
     ·rintro (q|⟨t,ht,q⟩)
      ·exact .inl q
      ·exact .inr ⟨t,ht,by rw[HD.out.2.2.2.2.1 t ht];exact q⟩
     ·rintro (q|⟨t,ht,q⟩)
      ·exact .inl q
      ·exact .inr ⟨t,ht,by rw[HD.out.2.2.2.2.1 t ht] at q;exact q⟩)⟩
   clear HI
   go_wp2
   clear d3 d4 d5 g1
   go_loopg [4,6,7] 9600 (fun kx s4 s6 s7 wr=>∃ (m:Nat) (a1:Option Addr) (c1:Nat) (U:List Int) (sn:Nat→Bool),s4=.slice a1 m c1∧m+z0R L sn≤kx∧Hid (U.length=m∧m+z0R L sn≤9600∧SeS w gs n sn (.slice a1 m c1) U wr∧Rw13 X Q L sn U))
   case atStart=>exact⟨m,a1,c1,U,fun _=>false,rfl,HJ.out.2.1,HJ.out⟩
   case round =>
    clear HJ
    obtain⟨m,a1,c1,U,sn,rfl,hkx,HU⟩:=hrel
    cases m with
    | zero =>
     have HE:Hid (z20 w X Q L (.returned (.slice (some ⟨gs,0,none⟩) n n)) wr):=(by
      obtain⟨hU,_,hS,hW⟩:=HU.out
      obtain rfl:U=[]:=List.eq_nil_of_length_eq_zero hU
      refine⟨sn,by rw[HG.out.1,HG.out.2],hS.bel,?_,fun i x hx=>hW.done HD.out.1 HD.out.2.1 HD.out.2.2.1 hx⟩
      have:=hS.row
      rw[HG.out.1,HG.out.2] at this
      exact this:z20 w X Q L (.returned (.slice (some ⟨gs,0,none⟩) n n)) wr)
     clear HU
     go_wp2
     go_ret
     exact HE.out
    | succ m =>
     obtain⟨V,r,hV,hVl⟩:∃ V r,U=V++[r]∧V.length=m:=by
      have h1:=HU.out.1
      refine⟨U.dropLast,U.getLast (by intro q;rw[q] at h1;simp at h1),(List.dropLast_concat_getLast _).symm,by rw[List.length_dropLast];omega⟩
     have hS:=HU.out.2.2.1
     have hW:=HU.out.2.2.2
     have hb96:=HU.out.2.1
     rw[hV] at hS hW
     have hS2:=hS
     obtain⟨p,rfl,hp,hcap,_,hcs⟩:=hS2.work.cells (by simp)
     have cr:=hcs m r (by rw[← hVl];simp)
     have hp2:=hp.2
     have hcap1:=hcap.1
     rw[List.length_append,hVl,List.length_singleton] at hcap1
     have s0:¬ c1=0:=by omega
     have s1:m≤c1:=by omega
     have hS3:=hS.cut
     rw[hVl] at hS3
     obtain⟨Rr,hRr⟩:=z4H r L
     have hfi:=HFi.out wr r Rr hS.bel hRr
     have HSk:Hid ((r=0∨(∃ i x,L[i]?=some x∧x.ref=r∧sn i=true)∨r ∉ nums 0 X.S)→V.length=m∧m+z0R L sn≤9600∧SeS w gs n sn (.slice (some ⟨p,0,none⟩) m c1) V wr∧Rw13 X Q L sn V):=fun q=>⟨hVl,by omega,hS3,hW.skip q⟩
     have g2:(0:Int)<((m+1:Nat):Int):=by omega
     have g3:((m+1:Nat):Int)-1=(m:Int):=by omega
     by_cases hr0:r=0
     ·have g4:(r == 0)=true:=by simpa using hr0
      have HSk2:Hid (V.length=m∧m+z0R L sn≤9600∧SeS w gs n sn (.slice (some ⟨p,0,none⟩) m c1) V wr∧Rw13 X Q L sn V):=HSk.out (.inl hr0)
      clear HU hV hS hW hS2 hcs hS3 HSk hr0 hRr hp hcap hcap1
      go_wp2_with (go_at_call 30;refine hfi.mono ?_;rintro e w9 ⟨rfl,hw9⟩;replace hw9:=hw9.symm;subst hw9)
      go_roundg (m+z0R L sn)
      case measure=>omega
      case rel=>exact⟨m,some ⟨p,0,none⟩,c1,V,sn,rfl,Nat.le_refl _,HSk2.out⟩
     ·have g4:(r == 0)=false:=by simpa using hr0
      rcases hRr with ⟨i,x,hx,hxr,_,hRi⟩|⟨hno,hRi⟩
      ·subst hRi
       have hin:i<n:=by rw[HG.out.2];exact (List.getElem?_eq_some_iff.1 hx).1
       have g5:¬ (i:Int)<0:=by omega
       have g6:(i:Int)<(n:Int):=by omega
       have cs:=hS.row.cell hin
       have lgs:=hS.row.lt
       have fz:=hS.row.frozen i
       cases hsn:sn i with
       | true =>
        rw[hsn] at cs
        have HSk2:Hid (V.length=m∧m+z0R L sn≤9600∧SeS w gs n sn (.slice (some ⟨p,0,none⟩) m c1) V wr∧Rw13 X Q L sn V):=HSk.out (.inr (.inl ⟨i,x,hx,hxr,hsn⟩))
        clear HU hV hS hW hS2 hcs hS3 HSk hr0 hp hcap hcap1 hx hxr hsn
        go_wp2_with (go_at_call 30;refine hfi.mono ?_;rintro e w9 ⟨rfl,hw9⟩;replace hw9:=hw9.symm;subst hw9)
        go_roundg (m+z0R L sn)
        case measure=>omega
        case rel=>exact⟨m,some ⟨p,0,none⟩,c1,V,sn,rfl,Nat.le_refl _,HSk2.out⟩
       | false =>
        rw[hsn] at cs
        have hts:=z56 L sn i x hx hsn
        have hS4:=hS3.put i
        obtain⟨e3,e4,e5⟩:=HY.out _ hS4.bel
        obtain⟨pc,ax,cx,rfl,f1,_,f3,f4,f5⟩:=HC.out _ i x hS4.bel hx
        by_cases hkd:x.kind=1∨x.kind=3
        ·obtain⟨a9,c9,w9',hrun9,h9⟩:=hS4.adds f5 (by omega)
         rw[hVl] at hrun9 h9
         have HN9:Hid ((V++x.ws).length=m+x.ws.length∧m+x.ws.length+z0R L (setB sn i true)≤9600∧SeS w gs n (setB sn i true) (.slice a9 (m+x.ws.length) c9) (V++x.ws) w9'∧Rw13 X Q L (setB sn i true) (V++x.ws)):=⟨by rw[List.length_append,hVl],by omega,h9,hW.mark HD.out.1 hr0 hx hxr (fun _=>rfl) (fun q=>absurd hkd q)⟩
         have HM:Hid (m+x.ws.length+z0R L (setB sn i true)<m+1+z0R L sn):=(by omega:m+x.ws.length+z0R L (setB sn i true)<m+1+z0R L sn)
         clear HU hV hS hW hS2 hcs hS3 HSk hr0 hp hcap hcap1 hx hxr hsn hts hS4 h9 f5
         generalize x.ws=ws at *
         obtain⟨nw,hnw⟩:∃ nw,nw=ws.length:=⟨_,rfl⟩
         rw[← hnw] at f4 hrun9
         have HW9:Hid (nw=ws.length):=hnw
         clear hnw
         rcases (show x.kind=1∨(x.kind≠1∧x.kind=3) by omega) with hk1|⟨hk1,hk3⟩
         ·rw[hk1] at f3
          clear hkd hk1
          go_wp2_with (go_at_call 30;refine hfi.mono ?_;rintro e w9 ⟨rfl,hw9⟩;replace hw9:=hw9.symm;subst hw9)
          go_roundg (m+nw+z0R L (setB sn i true))
          case measure=>have:=HM.out;rw[← HW9.out] at this;omega
          case rel=>exact⟨m+nw,a9,c9,V++ws,setB sn i true,rfl,Nat.le_refl _,by have:=HN9.out;rw[← HW9.out] at this;exact this⟩
         ·rw[hk3] at f3
          clear hkd hk1 hk3
          go_wp2_with (go_at_call 30;refine hfi.mono ?_;rintro e w9 ⟨rfl,hw9⟩;replace hw9:=hw9.symm;subst hw9)
          go_roundg (m+nw+z0R L (setB sn i true))
          case measure=>have:=HM.out;rw[← HW9.out] at this;omega
          case rel=>exact⟨m+nw,a9,c9,V++ws,setB sn i true,rfl,Nat.le_refl _,by have:=HN9.out;rw[← HW9.out] at this;exact this⟩
        ·have HN9:Hid (V.length=m∧m+z0R L (setB sn i true)≤9600∧SeS w gs n (setB sn i true) (.slice (some ⟨p,0,none⟩) m c1) V (wr.setCell ⟨gs,i,none⟩ (.bool true))∧Rw13 X Q L (setB sn i true) V):=⟨hVl,by omega,hS4,by
          have:=hW.mark HD.out.1 hr0 hx hxr (V:=[]) (fun q=>absurd q hkd) (fun _=>rfl)
          rw[List.append_nil] at this
          exact this⟩
         have HM:Hid (m+z0R L (setB sn i true)<m+1+z0R L sn):=(by omega:m+z0R L (setB sn i true)<m+1+z0R L sn)
         have k1:(x.kind == 1)=false:=by simp;omega
         have k3:(x.kind == 3)=false:=by simp;omega
         clear HU hV hS hW hS2 hcs hS3 HSk hr0 hp hcap hcap1 hx hxr hsn hts hS4 f5 f4 hkd
         generalize x.kind=kd at *
         go_wp2_with (go_at_call 30;refine hfi.mono ?_;rintro e w9 ⟨rfl,hw9⟩;replace hw9:=hw9.symm;subst hw9)
         go_roundg (m+z0R L (setB sn i true))
         case measure=>have:=HM.out;omega
         case rel=>exact⟨m,some ⟨p,0,none⟩,c1,V,setB sn i true,rfl,Nat.le_refl _,HN9.out⟩
      ·subst hRi
       have HSk2:Hid (V.length=m∧m+z0R L sn≤9600∧SeS w gs n sn (.slice (some ⟨p,0,none⟩) m c1) V wr∧Rw13 X Q L sn V):=HSk.out (.inr (.inr (fun q=>by
        rw[← HD.out.1.refs] at q
        obtain⟨x,hx,e⟩:=List.mem_map.1 q
        exact hno x hx e)))
       clear HU hV hS hW hS2 hcs hS3 HSk hr0 hp hcap hcap1 hno
       go_wp2_with (go_at_call 30;refine hfi.mono ?_;rintro e w9 ⟨rfl,hw9⟩;replace hw9:=hw9.symm;subst hw9)
       go_roundg (m+z0R L sn)
       case measure=>omega
       case rel=>exact⟨m,some ⟨p,0,none⟩,c1,V,sn,rfl,Nat.le_refl _,HSk2.out⟩
end
end Go.Proofs.YthkelaeemefnaaaGreat
namespace Go.Proofs.YthkelaeemefnaaaGreat
open Go.RowKit
structure Se13 (B:Nat) (w:World) (rh y rb W T:Nat) (va vq:Value) (vr:Nat→Value) (R:Nat→List Int) (Q:List Int) (L:List Lr) (X:Cm):Prop where
 lm:Lm B w rh y rb W T va vq vr R Q L
 few:L.length≤1000
 rd:Rd13 X L
 rq:∃ fs Q',Rq X fs Q'
 que:∀ r∈Q,r∈nums 0 X.S
 eT:X.T=T
 rt:∀ t,t<T→X.rt t=R t
 T8:T≤8
 r64:∀ t,t<T→(R t).length≤64
 ql:Q.length≤4000
 sum:sumR L≤5000
def z0w (w:World) (X:Cm) (Q:List Int) (L:List Lr) (kd:Int) (e:Ending) (w':World):Prop:=∃ r:Int,e=.returned (.int .i64 r)∧Below w.heap.size w w'∧(r=0∨∃ (i:Nat) (x:Lr),L[i]?=some x∧x.ref=r∧RchQ X Q r∧(kd=0∨x.kind=kd))
section
variable {B:Nat}{w w':World}{rh y rb W T:Nat}{va vq:Value}{vr:Nat→Value}{R:Nat→List Int}{Q:List Int}{L:List Lr}{X:Cm}
theorem Se13.below (h:Se13 B w rh y rb W T va vq vr R Q L X) (b:Below w.heap.size w w'):Se13 B w' rh y rb W T va vq vr R Q L X:=⟨h.lm.below b,h.few,h.rd,h.rq,h.que,h.eT,h.rt,h.T8,h.r64,h.ql,h.sum⟩
theorem Se13.see (h:Se13 B w rh y rb W T va vq vr R Q L X):Calls Tryz.prog 61 #[.pointer (some ⟨y,0,none⟩)] w (z20 w X Q L):=by
 obtain⟨fs,Q',hq⟩:=h.rq
 exact zeP h.lm h.few h.rd hq h.que h.eT h.rt h.T8 h.r64 h.ql h.sum
theorem SeS.app1 {u:World}{gs n:Nat}{sn:Nat→Bool}{v:Value}{U:List Int}(h:SeS w gs n sn v U u) (hl:U.length≤10000) (x:Int):∃ ao cap ao' cap' u',v=.slice ao U.length cap∧(appC #[32,32] 32 #[.slice ao U.length cap,.slice (some ⟨u.heap.size,0,none⟩) 1 1]).run Tryz.prog (u.alloc (.cells #[.int .i64 x] 3))=.ok (.slice ao' (U.length+1) cap') u'∧SeS w gs n sn (.slice ao' (U.length+1) cap') (U++[x]) u':=by
 obtain⟨ao,cap,rfl⟩:=h.work.form
 obtain⟨ao',cap',u',hrun,hR,hg,_⟩:=h.work.more x h.sz (by omega) (heap_alloc_new u (.cells #[.int .i64 x] 3)) ((Below.refl _ _).alloc (Nat.le_refl _) _)
 have hgs:=h.at_
 have out:∀ k,k<gs+1→(Value.slice ao U.length cap).ownBlock≠some k:=fun k hk q=>by have:=(h.work.lt q).1;omega
 have blk:∀ k,k<gs+1→u'.heap[k]?=u.heap[k]?:=fun k hk=>hg.block k (by have:=h.sz;omega) (fun q=>out k hk q.symm)
 exact⟨ao,cap,ao',cap',u',rfl,hrun,⟨hg.os.trans h.bel.os,hg.tape.trans h.bel.tape,hg.output.trans h.bel.output,Nat.le_trans h.bel.size hg.size,fun k hk=>(blk k (by omega)).trans (h.bel.block k hk)⟩,h.at_,h.row.of_block (blk gs (by omega)),hR,Nat.le_trans h.sz hg.size⟩
attribute [local go_sem ↓] z1I
theorem zcN (h:Se13 B w rh y rb W T va vq vr R Q L X) (p kd:Int):
  Calls Tryz.prog 57 #[.pointer (some ⟨y,0,none⟩),.int .i64 p,.int .i64 kd] w (z0w w X Q L kd):=by
 have hS:=h.see
 have H:=h.lm
 have hL:=h.few
 obtain⟨ao,cap,rfl,hF⟩:=H.form
 have HY:Hid (∀ u,Below w.heap.size w u→u.cell? ⟨y,3,none⟩=some (.slice ao L.length cap)∧y<u.heap.size):=fun u b=>by
  obtain⟨_,_,_,d3,_⟩:=(H.below b).cells
  exact⟨d3,(H.below b).y_lt⟩
 have HC:Hid (∀ u i x,Below w.heap.size w u→L[i]?=some x→∃ q,ao=some ⟨q,0,none⟩∧q<u.heap.size∧u.cell? ⟨q,i*5,none⟩=some (.int .i64 x.ref)∧u.cell? ⟨q,i*5+1,none⟩=some (.int .i64 x.kind)):=fun u i x b hx=>by
  obtain⟨q,e,hp,c0,_⟩:=hF i x hx
  obtain⟨ao2,cap2,e2,hF2⟩:=(H.below b).form
  obtain⟨p2,e3,hp2,d0,_⟩:=hF2 i x hx
  simp only[Value.slice.injEq] at e2
  rw[← e2.1,e] at e3
  simp only[Option.some.injEq,Addr.mk.injEq,and_true] at e3
  subst e3
  exact⟨q,e,hp2,d0.1,d0.2.1⟩
 have HIx:Hid (∀ i,i<L.length→∃ x,L[i]?=some x):=fun i hi=>⟨_,List.getElem?_eq_getElem hi⟩
 obtain⟨n,hn⟩:∃ n,n=L.length:=⟨_,rfl⟩
 have HN:Hid (n=L.length):=hn
 have hn1:n≤1000:=by omega
 have HSe:Hid (∀ e w1,z20 w X Q L e w1→∃ sn:Nat→Bool,e=.returned (.slice (some ⟨w.heap.size,0,none⟩) n n)∧SeS w w.heap.size n sn (.slice none 0 0) [] w1∧∀ i x,L[i]?=some x→(sn i=true↔RchQ X Q x.ref)):=fun e w1 ⟨sn,h1,h2,h3,h4⟩=>⟨sn,by rw[hn];exact h1,⟨h2,rfl,by rw[hn];exact h3,Ri.nil _ _,h3.lt⟩,h4⟩
 rw[← hn] at HY HIx
 clear h H hL hF hn
 go_enter Tryz.func57,Tryz.ntmps57
 go_wp2_with (go_at_call 61;refine hS.mono ?_;intro e w1 hp1;obtain⟨sn,rfl,hs1,hr1⟩:=HSe.out e w1 hp1;have H1:Hid (SeS w w.heap.size n sn (.slice none 0 0) [] w1):=hs1;have HR1:Hid (∀ i x,L[i]?=some x→(sn i=true↔RchQ X Q x.ref)):=hr1;clear hS hp1 hs1 hr1 HSe)
 obtain⟨gs,hgs⟩:∃ gs,gs=w.heap.size:=⟨_,rfl⟩
 rw[← hgs] at H1
 rw[← hgs]
 have HG:Hid (gs=w.heap.size):=hgs
 clear hgs
 go_loopg [8,9] 1001 (fun kx s8 s9 wr=>∃ (i m:Nat) (a1:Option Addr) (c1:Nat) (U:List Int),s8=.slice a1 m c1∧s9=.int .i64 i∧i≤n∧n-i≤kx∧m≤i∧Hid (U.length=m∧SeS w gs n sn (.slice a1 m c1) U wr∧∀ r∈U,∃ (i:Nat) (x:Lr),L[i]?=some x∧x.ref=r∧RchQ X Q r∧(kd=0∨x.kind=kd)))
 case atStart=>exact⟨0,0,none,0,[],rfl,rfl,by omega,by omega,by omega,rfl,H1.out,fun r hr=>by simp at hr⟩
 case round =>
  clear H1
  obtain⟨i,m,a1,c1,U,rfl,rfl,hi,hkx,hmi,HI⟩:=hrel
  by_cases hin:i<n
  ·have g1:(i:Int)<(n:Int):=by omega
   obtain⟨x,hx⟩:=HIx.out i hin
   have hbel:=HI.out.2.1.bel
   obtain⟨d3,d5⟩:=HY.out _ hbel
   obtain⟨q,rfl,e1,e2,e3⟩:=HC.out _ i x hbel hx
   have cs:=HI.out.2.1.row.cell hin
   have lgs:=HI.out.2.1.row.lt
   by_cases hgood:sn i=true∧(kd=0∨x.kind=kd)
   ·have hU:=HI.out.1
    obtain⟨ao1,cap1,a2,c2,u2,q0,hrun,h2⟩:=HI.out.2.1.app1 (by omega) x.ref
    rw[hU] at q0 hrun h2
    simp at q0
    obtain⟨rfl,rfl⟩:=q0
    have HI2:Hid ((U++[x.ref]).length=m+1∧SeS w gs n sn (.slice a2 (m+1) c2) (U++[x.ref]) u2∧∀ r∈U++[x.ref],∃ (i:Nat) (x:Lr),L[i]?=some x∧x.ref=r∧RchQ X Q r∧(kd=0∨x.kind=kd)):=⟨by rw[List.length_append,hU];rfl,h2,fun r hr=>by
     rcases List.mem_append.1 hr with z|z
     ·exact HI.out.2.2 r z
     ·rw[List.mem_singleton.1 z]
      exact⟨i,x,hx,rfl,(HR1.out i x hx).1 hgood.1,hgood.2⟩⟩
    rw[hgood.1] at cs
    have hkk:=hgood.2
    clear HI h2 hU hgood hx hbel
    generalize x.ref=rf at *
    by_cases hk0:kd=0
    ·have g2:(kd == 0)=true:=by simpa using hk0
     clear hk0 hkk
     go_wp2
     go_roundg (n-(i+1))
     case measure=>omega
     case rel=>exact⟨i+1,m+1,a2,c2,U++[rf],rfl,by go_num,by omega,by omega,by omega,HI2.out⟩
    ·have g2:(kd == 0)=false:=by simpa using hk0
     have g3:(x.kind == kd)=true:=by simpa using hkk.resolve_left hk0
     generalize x.kind=xk at *
     clear hk0 hkk
     go_wp2
     go_roundg (n-(i+1))
     case measure=>omega
     case rel=>exact⟨i+1,m+1,a2,c2,U++[rf],rfl,by go_num,by omega,by omega,by omega,HI2.out⟩
   ·cases hsn:sn i with
    | false =>
     rw[hsn] at cs
     clear hgood hsn hx hbel
     go_wp2
     go_roundg (n-(i+1))
     case measure=>omega
     case rel=>exact⟨i+1,m,a1,c1,U,rfl,by go_num,by omega,by omega,by omega,HI.out⟩
    | true =>
     rw[hsn] at cs
     have hk0:¬ kd=0:=fun z=>hgood ⟨hsn,.inl z⟩
     have hk1:¬ x.kind=kd:=fun z=>hgood ⟨hsn,.inr z⟩
     have g2:(kd == 0)=false:=by simpa using hk0
     have g3:(x.kind == kd)=false:=by simpa using hk1
     generalize x.kind=xk at *
     clear hgood hsn hx hbel hk0 hk1
     go_wp2
     go_roundg (n-(i+1))
     case measure=>omega
     case rel=>exact⟨i+1,m,a1,c1,U,rfl,by go_num,by omega,by omega,by omega,HI.out⟩
  ·have g1:¬ (i:Int)<(n:Int):=by omega
   have hbel:=HI.out.2.1.bel
   by_cases hm0:m=0
   ·subst hm0
    have HE:Hid (z0w w X Q L kd (.returned (.int .i64 0)) wr):=⟨0,rfl,hbel,.inl rfl⟩
    clear HI hbel
    go_wp2
    go_ret
    exact HE.out
   ·by_cases hp0:p<0
    ·have g2:((m:Int) == 0)=false:=by simpa using hm0
     have HE:Hid (z0w w X Q L kd (.returned (.int .i64 0)) wr):=⟨0,rfl,hbel,.inl rfl⟩
     clear HI hbel hm0
     go_wp2
     go_ret
     exact HE.out
    ·have g2:((m:Int) == 0)=false:=by simpa using hm0
     obtain⟨z,hz,hzm⟩:∃ z:Nat,p.tmod (m:Int)=(z:Int)∧z<m:=by
      have hpos:(0:Int)<(m:Int):=by omega
      have h1:=Int.emod_nonneg p (show (m:Int)≠0 by omega)
      have h2:=Int.emod_lt_of_pos p hpos
      refine⟨(p%(m:Int)).toNat,?_,by omega⟩
      rw[Int.tmod_eq_emod_of_nonneg (by omega)]
      omega
     obtain⟨hU,hS2,hg⟩:=HI.out
     obtain⟨q,rfl,hq,_,_,hcs⟩:=hS2.work.cells (by omega)
     obtain⟨uz,hzU⟩:∃ uz,U[z]?=some uz:=⟨_,List.getElem?_eq_getElem (by omega)⟩
     have cz:=hcs z _ hzU
     have hq2:=hq.2
     have HE:Hid (z0w w X Q L kd (.returned (.int .i64 uz)) wr):=⟨uz,rfl,hbel,.inr (hg _ (List.mem_of_getElem? hzU))⟩
     have g3:(z:Int)<(m:Int):=by omega
     have hp1:¬ p<0:=hp0
     clear HI hbel hm0 hU hS2 hg hq hcs hp0 hzU
     go_wp2
     go_ret
     exact HE.out
theorem z0O (H:Lm B w rh y rb W T va vq vr R Q L) (hL:L.length≤1000) (hs:sumR L≤5000):
  Calls Tryz.prog 58 #[.pointer (some ⟨y,0,none⟩)] w fun e w'=>e=.returned (.int .i64 (sumR L:Nat))∧w'=w:=by
 obtain⟨_,_,_,c3,_⟩:=H.cells
 have hyl:=H.y_lt
 obtain⟨ao,cap,rfl,hF⟩:=H.form
 have HC:Hid (∀ i x,L[i]?=some x→∃ p ax cx,ao=some ⟨p,0,none⟩∧w.cell? ⟨p,i*5+2,none⟩=some (.slice ax x.ws.length cx)∧p<w.heap.size):=fun i x hx=>by
  obtain⟨p,e,hp,c0,_⟩:=hF i x hx
  obtain⟨ax,cx,e4⟩:=(H.word hx).form
  exact⟨p,ax,cx,e,by rw[c0.2.2.1,e4],hp⟩
 have take:∀ (L:List Lr) (i:Nat) (x:Lr),L[i]?=some x→sumR (L.take (i+1))=sumR (L.take i)+(x.ws.length+16)∧sumR (L.take (i+1))≤sumR L:=by
  intro L
  induction L with
  | nil=>intro i x h;simp at h
  | cons a r ih =>
   intro i x h
   cases i with
   | zero=>simp at h;subst h;simp[sumR]
   | succ i =>
    have:=ih i x (by simpa using h)
    simp only[List.take_succ_cons,sumR]
    omega
 have HTk:Hid (∀ i x,L[i]?=some x→sumR (L.take (i+1))=sumR (L.take i)+(x.ws.length+16)∧sumR (L.take (i+1))≤5000):=fun i x hx=>⟨(take L i x hx).1,Nat.le_trans (take L i x hx).2 hs⟩
 have HIx:Hid (∀ i,i<L.length→∃ x,L[i]?=some x):=fun i hi=>⟨_,List.getElem?_eq_getElem hi⟩
 have HE:Hid (sumR (L.take L.length)=sumR L):=(by rw[List.take_length]:sumR (L.take L.length)=sumR L)
 generalize hN:L.length=M at *
 clear H hN hF hs take
 go_enter Tryz.func58,Tryz.ntmps58
 go_wp2
 go_loopg [3,4] (M+1) (fun kx s3 s4 wr=>∃ j s:Nat,s3=.int .i64 s∧s4=.int .i64 j∧j≤M∧M-j≤kx∧s≤5000∧Hid (s=sumR (L.take j))∧wr=w)
 case atStart=>exact⟨0,0,rfl,rfl,by omega,by omega,by omega,rfl,rfl⟩
 case round =>
  obtain⟨j,s,rfl,rfl,hj,hk,hs5,HS,rfl⟩:=hrel
  by_cases hlt:j<M
  ·have h1:(j:Int)<(M:Int):=by omega
   obtain⟨x,hx⟩:=HIx.out j hlt
   obtain⟨p,ax,cx,rfl,cp,hp⟩:=HC.out j x hx
   obtain⟨t1,t2⟩:=HTk.out j x hx
   have hso:=HS.out
   have HS2:Hid (s+x.ws.length+16=sumR (L.take (j+1))):=(by omega:s+x.ws.length+16=sumR (L.take (j+1)))
   have hb5:s+x.ws.length+16≤5000:=by omega
   generalize x.ws.length=nw at *
   clear hx t1 t2 hso HS
   go_wp2
   go_roundg (M-(j+1))
   case measure=>omega
   case rel=>exact⟨j+1,s+nw+16,by go_num,by go_num,by omega,by omega,hb5,HS2,rfl⟩
  ·have h1:¬ (j:Int)<(M:Int):=by omega
   have HR:Hid (s=sumR L):=(by rw[HS.out,show j=M by omega];exact HE.out:s=sumR L)
   clear HS HE
   go_wp2
   go_ret
   exact⟨by rw[← HR.out];rfl,rfl⟩
theorem z1L (t n:Int) (w:World) (r:Bool) (hr:r=true↔(1≤t∧t≤3)∧kmin t≤n∧n≤kmax t):
  Calls Tryz.prog 60 #[.int .i64 t,.int .i64 n] w fun e w'=>e=.returned (.bool r)∧w'=w:=by
 by_cases h1:t=1
 ·subst h1
  simp only[kmin,kmax] at hr
  go_enter Tryz.func60,Tryz.ntmps60
  go_wp2
  all_goals
   go_ret
   refine⟨congrArg (fun x=>Ending.returned (Value.bool x)) ?_,rfl⟩
   cases r<;>simp_all<;>omega
 ·by_cases h2:t=2
  ·subst h2
   simp only[kmin,kmax] at hr
   go_enter Tryz.func60,Tryz.ntmps60
   go_wp2
   all_goals
    go_ret
    refine⟨congrArg (fun x=>Ending.returned (Value.bool x)) ?_,rfl⟩
    cases r<;>simp_all<;>omega
  ·by_cases h3:t=3
   ·subst h3
    simp only[kmin,kmax] at hr
    go_enter Tryz.func60,Tryz.ntmps60
    go_wp2
    all_goals
     go_ret
     refine⟨congrArg (fun x=>Ending.returned (Value.bool x)) ?_,rfl⟩
     cases r<;>simp_all<;>omega
   ·obtain rfl:r=false:=by
     cases r with
     | false=>rfl
     | true=>have:=(hr.1 rfl).1;omega
    have e1:(t == 1)=false:=by simpa using h1
    have e2:(t == 2)=false:=by simpa using h2
    have e3:(t == 3)=false:=by simpa using h3
    clear hr h1 h2 h3
    go_enter Tryz.func60,Tryz.ntmps60
    go_wp2
    go_ret
    exact⟨rfl,rfl⟩
end
end Go.Proofs.YthkelaeemefnaaaGreat
namespace Go.Proofs.YthkelaeemefnaaaGreat
open Go.RowKit
structure Pl13 (B:Nat) (w0 w:World) (rh hb:Nat) (X:Cm) (fs qs:List Int) (y rb W T:Nat) (va vq:Value) (vr:Nat→Value) (R:Nat→List Int) (Q:List Int) (L:List Lr) (E:Nat→Prop):Prop where
 rs:RS B w0 rh hb X fs qs (fun k=>Pown y rb va (bunL vq Q vr R T L) k∨E k) w
 lm:Lm B w rh y rb W T va vq vr R Q L
structure Ok13 (X:Cm) (fs qs:List Int) (W T:Nat) (L:List Lr) (i:Nat):Prop where
 ag:Ag13 X fs L
 eT:X.T=T
 eW:X.W=W
 lim:1≤T∧T≤4∧W≤10100
 r64:∀ t,t<T→(X.rt t).length≤64
 few:fs.length+qs.length≤i∧L.length≤i
 cost:X.m+500*cntS X.S≤7700*i
 cy:0≤X.cy∧X.cy≤i
def Ed13 (B:Nat) (w0:World) (rh hb y rb W T i:Nat) (w:World):Prop:=∃ X fs qs va vq vr L,Pl13 B w0 w rh hb X fs qs y rb W T va vq vr X.rt qs L (fun _=>False)∧Ok13 X fs qs W T L i
section
variable {B:Nat}{w0 w w':World}{rh hb:Nat}{X X':Cm}{fs qs fs' qs':List Int}{y rb W T i:Nat}{va vq:Value}{vr:Nat→Value}{R:Nat→List Int}{Q:List Int}{L:List Lr}{E:Nat→Prop}
theorem Pl13.below (H:Pl13 B w0 w rh hb X fs qs y rb W T va vq vr R Q L E) (b:Below w.heap.size w w'):Pl13 B w0 w' rh hb X fs qs y rb W T va vq vr R Q L E:=⟨(H.rs.below b).1,H.lm.below b⟩
theorem Pl13.call (H:Pl13 B w0 w rh hb X fs qs y rb W T va vq vr R Q L E) (h:RT B w0 rh hb X' fs' qs' (fun k=>Pown y rb va (bunL vq Q vr R T L) k∨E k) w w'):Pl13 B w0 w' rh hb X' fs' qs' y rb W T va vq vr R Q L E:=⟨h.1,H.lm.same (fun k hk=>h.2.1 k (.inl hk))⟩
theorem Pl13.less (H:Pl13 B w0 w rh hb X fs qs y rb W T va vq vr R Q L E):Pl13 B w0 w rh hb X fs qs y rb W T va vq vr R Q L (fun _=>False):=⟨H.rs.less (fun _ hk=>hk.elim .inl (fun z=>z.elim)),H.lm⟩
theorem Pl13.box (H:Pl13 B w0 w rh hb X fs qs y rb W T va vq vr R Q L (fun _=>False)) (o:Obj):Pl13 B w0 (w.alloc o) rh hb X fs qs y rb W T va vq vr R Q L (fun k=>k=w.heap.size):=by
 have b:Below w.heap.size w (w.alloc o):=(Below.refl _ _).alloc (Nat.le_refl _) _
 refine⟨H.rs.mine (Bt.of_below b) (fun k hk=>?_),H.lm.below b⟩
 rcases hk with q|q
 ·exact .inl (.inl q)
 ·exact .inr ⟨by rw[q];exact Nat.le_refl _,by rw[q,Go.Deep.nblk_alloc];omega⟩
theorem Pl13.remake (H:Pl13 B w0 w rh hb X fs qs y rb W T va vq vr R Q L E) {va' vq':Value}{vr':Nat→Value}{R':Nat→List Int}{Q':List Int}{L':List Lr}(hB:Bt (Pown y rb va (bunL vq Q vr R T L)) w w') (hl:Lm B w' rh y rb W T va' vq' vr' R' Q' L') (hO:∀ k,Pown y rb va' (bunL vq' Q' vr' R' T L') k→Pown y rb va (bunL vq Q vr R T L) k∨(w.heap.size≤k∧k<w'.heap.size)):Pl13 B w0 w' rh hb X fs qs y rb W T va' vq' vr' R' Q' L' E:=by
 refine⟨H.rs.mine (hB.mono (fun k _ hk=>.inl hk)) (fun k hk=>?_),hl⟩
 rcases hk with q|q
 ·exact (hO k q).imp .inl id
 ·exact .inl (.inr q)
theorem Ok13.se (h:Ok13 X fs qs W T L i) (hi:i≤201) (H:Pl13 B w0 w rh hb X fs qs y rb W T va vq vr X.rt qs L E):Se13 B w rh y rb W T va vq vr X.rt qs L X:=by
 have hf:=H.rs.fit
 have hs:=z0I h.ag
 have h1:=h.few
 have h2:=h.lim
 rw[h.eW] at hf
 exact⟨H.lm,by omega,h.ag.rd,⟨fs,qs,H.rs.rq⟩,H.rs.rq.que,h.eT,fun _ _=>rfl,by omega,h.r64,by omega,by omega⟩
theorem Ed13.same (H:Pl13 B w0 w rh hb X fs qs y rb W T va vq vr X.rt qs L E) (h:Ok13 X fs qs W T L i):Ed13 B w0 rh hb y rb W T (i+1) w:=by
 have h1:=h.few
 have h2:=h.cost
 have h3:=h.cy
 exact⟨X,fs,qs,va,vq,vr,L,H.less,h.ag,h.eT,h.eW,h.lim,h.r64,by omega,by omega,by omega⟩
theorem Pl13.setr (H:Pl13 B w0 w rh hb X fs qs y rb W T va vq vr R Q L E) {t:Nat}(ht:t<T) {w3:World}{v:Value}{U:List Int}(hB:Bt (fun k=>(vr t).ownBlock=some k) w w3) (hv:Ri w3 B v U) (hat:v.ownBlock=(vr t).ownBlock∨∃ j,v.ownBlock=some j∧w.heap.size≤j):((w3.cell? ⟨rb,t,none⟩=some (vr t)∧w3.cell? ⟨y,4,none⟩=some (.slice (some ⟨rb,0,none⟩) T T))∧(rb<w3.heap.size∧y<w3.heap.size)∧w3.frozen? ⟨rb,t,none⟩=false)∧Pl13 B w0 (w3.setCell ⟨rb,t,none⟩ v) rh hb X fs qs y rb W T va vq (setV vr t v) (setL R t U) Q L E:=by
 have hq0:(bunL vq Q vr R T L)[t+1]?=some (vr t,R t):=zaJ ht
 have hmem:(vr t,R t)∈bunL vq Q vr R T L:=List.mem_of_getElem? hq0
 obtain⟨a1,a2,a3,a4⟩:=H.lm.apart
 obtain⟨b1,b2,b3⟩:=a4 _ hmem
 have hrb:w3.heap[rb]?=w.heap[rb]?:=hB.block rb H.lm.rb_lt b2
 have hy:w3.heap[y]?=w.heap[y]?:=hB.block y H.lm.y_lt b1
 have hrts:=H.lm.rts.of_block hrb
 have hat2:v.ownBlock=(vr t).ownBlock∨∀ k,v.ownBlock=some k→w.heap.size≤k:=by
  rcases hat with q|⟨j,q1,q2⟩
  ·exact .inl q
  ·exact .inr (fun k hk=>by rw[q1] at hk;simp at hk;omega)
 have hvrb:v.ownBlock≠some rb:=fun e=>by
  obtain⟨cur,h1⟩:=hv.kind e
  obtain⟨c2,h2,_⟩:=hrts
  rw[h2] at h1;simp at h1
 have bun3:=H.lm.bun.set hq0 hB hv hat2
 rw[z5M ht] at bun3
 have st:∀ k,k<w.heap.size→k≠rb→(vr t).ownBlock≠some k→(w3.setCell ⟨rb,t,none⟩ v).heap[k]?=w.heap[k]?:=fun k hk h1 h2=>(z03 _ _ h1).trans (hB.block k hk h2)
 have hBt:Bt (Pown y rb va (bunL vq Q vr R T L)) w (w3.setCell ⟨rb,t,none⟩ v):=by
  refine⟨hB.os,hB.tape,hB.output,by simpa [World.setCell] using hB.size,fun k hk hn=>st k hk (fun q=>hn (.inr (.inl q))) (fun q=>hn (.inr (.inr (.inr ⟨_,hmem,q⟩))))⟩
 refine⟨⟨⟨(z0q (a:=⟨rb,t,none⟩) hrb).trans (H.lm.root ht).2,(z0q (a:=⟨y,4,none⟩) hy).trans H.lm.cells.2.2.2.2.1⟩,⟨hrts.lt,Nat.lt_of_lt_of_le H.lm.y_lt hB.size⟩,hrts.frozen t⟩,H.remake hBt ⟨(st y H.lm.y_lt a1 b1).trans H.lm.here,H.lm.row.of_block (fun k hk=>st k (H.lm.row.lt hk).2 (fun q=>a3 (by rw[hk,q])) (fun q=>b3 k q hk)),(hrts.set t v).congr (fun j _=>by unfold setV;split<;>rfl),bun3.same (fun q hq k hk=>z03 _ _ (fun z=>?_)),H.lm.low⟩ (fun k hk=>?_)⟩
 ·have z:k=rb:=z
  subst z
  obtain⟨j,hj,e⟩:=List.getElem_of_mem hq
  obtain⟨cur,h1⟩:=(bun3.row j q (by rw[List.getElem?_eq_getElem hj,e])).kind hk
  obtain⟨c2,h2,_⟩:=hrts
  rw[h2] at h1;simp at h1
 ·rcases hk with q|q|q|⟨p,q1,q2⟩
  ·exact .inl (.inl q)
  ·exact .inl (.inr (.inl q))
  ·exact .inl (.inr (.inr (.inl q)))
  ·rw[← z5M ht] at q1
   rcases List.mem_or_eq_of_mem_set q1 with z|z
   ·exact .inl (.inr (.inr (.inr ⟨p,z,q2⟩)))
   ·rw[z] at q2
    rcases hat with z2|⟨j,z1,z2⟩
    ·exact .inl (.inr (.inr (.inr ⟨_,hmem,by rw[← z2];exact q2⟩)))
    ·have:v.ownBlock=some k:=q2
     rw[z1] at this
     simp at this
     subst this
     exact .inr ⟨z2,by simpa [World.setCell] using (hv.lt z1).2⟩
theorem Pl13.pushr (H:Pl13 B w0 w rh hb X fs qs y rb W T va vq vr R Q L E) {t:Nat}(ht:t<T) (hl:(R t).length≤64) (x:Int):∃ ao cap ao' cap' w3,vr t=.slice ao (R t).length cap∧(appC #[32,32] 32 #[.slice ao (R t).length cap,.slice (some ⟨w.heap.size,0,none⟩) 1 1]).run Tryz.prog (w.alloc (.cells #[.int .i64 x] 3)).drew=.ok (.slice ao' ((R t).length+1) cap') w3∧Bt (fun k=>(vr t).ownBlock=some k) w w3 ∧
  ((w3.cell? ⟨rb,t,none⟩=some (vr t)∧w3.cell? ⟨y,4,none⟩=some (.slice (some ⟨rb,0,none⟩) T T))∧(rb<w3.heap.size∧y<w3.heap.size)∧w3.frozen? ⟨rb,t,none⟩=false)∧Pl13 B w0 (w3.setCell ⟨rb,t,none⟩ (.slice ao' ((R t).length+1) cap')) rh hb X fs qs y rb W T va vq (setV vr t (.slice ao' ((R t).length+1) cap')) (setL R t (R t++[x])) Q L E:=by
 have hU:=(H.lm.root ht).1
 obtain⟨ao,cap,e⟩:=hU.form
 have hW:(w.alloc (.cells #[.int .i64 x] 3)).drew.heap[w.heap.size]?=some (.cells #[.int .i64 x] 3 (0,0)):=heap_alloc_new w (.cells #[.int .i64 x] 3)
 obtain⟨ao',cap',w3,hrun,hU3,hg,hat⟩:=hU.more x H.rs.size (by omega) hW ((Below.refl _ _).alloc (Nat.le_refl _) _).drew
 have hB:Bt (fun k=>(vr t).ownBlock=some k) w w3:=⟨hg.os,hg.tape,hg.output,hg.size,fun k hk q=>hg.block k hk (fun z=>q z.symm)⟩
 obtain⟨k1,k2⟩:=H.setr ht hB hU3 hat
 rw[e] at hrun
 exact⟨ao,cap,ao',cap',w3,e,hrun,hB,k1,k2⟩
theorem Pl13.popr (H:Pl13 B w0 w rh hb X fs qs y rb W T va vq vr R Q L E) {t:Nat}(ht:t<T) {U:List Int}{x:Int}(hU:R t=U++[x]):∃ p cap,vr t=.slice (some ⟨p,0,none⟩) (U.length+1) cap∧(p<w.heap.size∧U.length+1≤cap)∧w.cell? ⟨p,U.length,none⟩=some (.int .i64 x)∧((w.cell? ⟨rb,t,none⟩=some (vr t)∧w.cell? ⟨y,4,none⟩=some (.slice (some ⟨rb,0,none⟩) T T))∧(rb<w.heap.size∧y<w.heap.size)∧w.frozen? ⟨rb,t,none⟩=false)∧Pl13 B w0 (w.setCell ⟨rb,t,none⟩ (.slice (some ⟨p,0,none⟩) U.length cap)) rh hb X fs qs y rb W T va vq (setV vr t (.slice (some ⟨p,0,none⟩) U.length cap)) (setL R t U) Q L E:=by
 have h1:=(H.lm.root ht).1
 rw[hU] at h1
 obtain⟨ao,cap,e⟩:=h1.form
 have h2:=h1
 rw[e] at h2
 obtain⟨p,rfl,hp,hcap,_,hcs⟩:=h2.cells (by simp)
 rw[List.length_append,List.length_singleton] at hcap
 have e2:vr t=.slice (some ⟨p,0,none⟩) (U.length+1) cap:=by rw[e,List.length_append];rfl
 have hB:Bt (fun k=>(vr t).ownBlock=some k) w w:=⟨rfl,rfl,rfl,Nat.le_refl _,fun _ _ _=>rfl⟩
 obtain⟨k1,k2⟩:=H.setr ht hB h2.cut (.inl (by rw[e2];rfl))
 exact⟨p,cap,e2,⟨hp.2,hcap.1⟩,hcs U.length x (by simp),k1,k2⟩
end
end Go.Proofs.YthkelaeemefnaaaGreat
