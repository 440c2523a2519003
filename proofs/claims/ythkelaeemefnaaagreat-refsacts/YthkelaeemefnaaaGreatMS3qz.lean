import Derived.Test.YthkelaeemefnaaaGreatMS2qz
import Derived.RangeFuncNested
import Derived.RangeFuncBound
import Derived.RangeFuncCalls
import Derived.RangeFuncLeaves
import Derived.RangeFuncBox
import Derived.RangeFuncFrom
import Derived.Shelf.Abstract
import Derived.Shelf.RegionOpen
import Derived.OwnWalkIn
import Derived.LoopNIn
import Derived.LoopIn
import Derived.Maps.AppendAt
import Derived.Deep.MidRow
set_option maxRecDepth 100000
set_option maxHeartbeats 4000000
namespace Go.Proofs.YthkelaeemefnaaaGreat
open Go.RowKit
def hd:List Int→Int
 | []=>0
 | x::_=>x
def Lk (base:Nat) (ws:Nat→Int):List Int→Prop
 | []=>True
 | x::r=>ws (base+x.toNat)=hd r∧Lk base ws r
def See (cap:Nat) (T:Int) (xs:List Int) (t i:Int):Prop:=0≤t∧t≤T∧0≤i∧i≤cap∧(t=T→i=hd xs)
def OkOp (base cap:Nat) (ws:Nat→Int) (T:Int) (xs:List Int):Op→Prop
 | .idle=>True
 | .push item n t i=>1≤item∧item≤cap∧item ∉ xs∧(n=0∨(n=1∧See cap T xs t i)∨(n=2∧See cap T xs t i∧ws (base+item.toNat)=i))
 | .pop n t i d=>n=0∨(n=1∧1≤i∧See cap T xs t i)∨(n=2∧1≤i∧See cap T xs t i∧0≤d∧d≤cap∧(t=T→d=hd xs.tail))
structure Inv (base cap:Nat) (ws:Nat→Int) (ops:Nat→Op) (T:Int) (xs:List Int):Prop where
 t0:0≤T
 top:ws base=T*((cap:Int)+1)+hd xs
 chain:Lk base ws xs
 range:∀ x,x∈xs→1≤x∧x≤cap
 nodup:xs.Nodup
 op:∀ g,OkOp base cap ws T xs (ops g)
 diff:∀ g h,g≠h→0<(ops g).link→(ops g).link≠(ops h).link
theorem z1d {cap:Nat}{xs:List Int}(h:∀ x,x∈xs→1≤x∧x≤cap):0≤hd xs∧hd xs≤cap:=by
 cases xs with
 | nil=>simp[hd]
 | cons x r=>have:=h x (by simp);simp[hd];omega
theorem Lk.other {base:Nat}{ws:Nat→Int}{xs:List Int}{a:Nat}{v:Int}(h:Lk base ws xs) (ha:∀ x,x∈xs→base+x.toNat≠a):Lk base (upd ws a v) xs:=by
 induction xs with
 | nil=>trivial
 | cons x r ih=>exact⟨by rw[z09 _ _ (ha x (by simp))];exact h.1,ih h.2 (fun y hy=>ha y (by simp[hy]))⟩
theorem za8 {T c i:Int}(hT:0≤T) (h0:0≤i) (h1:i<c):(T*c+i).tdiv c=T∧(T*c+i).tmod c=i:=by
 have hn:0≤T*c+i:=by have:=Int.mul_nonneg hT (show 0≤c by omega);omega
 rw[Int.tdiv_eq_ediv_of_nonneg hn,Int.tmod_eq_emod_of_nonneg hn,Int.add_comm,Int.add_mul_ediv_right _ _ (by omega),Int.ediv_eq_zero_of_lt h0 h1,Int.add_mul_emod_self_right,Int.emod_eq_of_lt h0 h1]
 exact⟨by omega,rfl⟩
theorem zfv {T c:Int}(h0:0≤T) (h1:T≤1000000001) (c0:0≤c) (c1:c≤1001):0≤T*c∧T*c≤1001000001001:=by
 refine⟨Int.mul_nonneg h0 c0,?_⟩
 have:=Int.mul_le_mul h1 c1 c0 (by omega)
 omega
theorem z1x {T c i:Int}(h0:0≤T) (h1:T≤1000000001) (c0:0≤c) (c1:c≤1001) (i0:0≤i) (i1:i≤1001):wrap64 (wrap64 (T*c)+i)=T*c+i:=by
 have:=zfv h0 h1 c0 c1
 rw[IntWalk.wrap64_in (T*c) (by omega),IntWalk.wrap64_in _ (by omega)]
theorem zdj {T t c i j:Int}(ht:t<T) (i1:i<c) (j0:0≤j) (c0:0≤c):T*c+j≠t*c+i:=by
 have:=Int.mul_le_mul_of_nonneg_right (show t+1≤T by omega) c0
 rw[Int.add_mul] at this
 omega
section
variable {base cap:Nat}{ws:Nat→Int}{ops:Nat→Op}{T:Int}{xs:List Int}
theorem See.now (h:Inv base cap ws ops T xs):See cap T xs T (hd xs):=⟨h.t0,by omega,(z1d h.range).1,(z1d h.range).2,fun _=>rfl⟩
theorem See.late {ys:List Int}{t i:Int}(h:See cap T xs t i):See cap (T+1) ys t i:=⟨h.1,by have:=h.2.1;omega,h.2.2.1,h.2.2.2.1,fun e=>by have:=h.2.1;omega⟩
theorem z57 {g j:Nat}{op:Op}{Q:Op→Prop}(h1:Q op) (h2:j≠g→Q (ops j)):Q (z0v ops g op j):=by
 by_cases e:j=g
 ·subst e;rw[z0C];exact h1
 ·rw[z0e _ _ e];exact h2 e
theorem z2Z {g:Nat}{op:Op}(h:∀ g h,g≠h→0<(ops g).link→(ops g).link≠(ops h).link) (hl:op.link=0∨op.link=(ops g).link):∀ i j,i≠j→0<(z0v ops g op i).link→(z0v ops g op i).link≠(z0v ops g op j).link:=by
 intro i j hij hp
 by_cases e1:i=g
 ·have e2:j≠g:=fun e=>hij (e1.trans e.symm)
  subst e1
  rw[z0C] at hp ⊢
  rw[z0e _ _ e2]
  rcases hl with q|q
  ·omega
  ·rw[q] at hp ⊢;exact h i j hij hp
 ·rw[z0e _ _ e1] at hp ⊢
  by_cases e2:j=g
  ·subst e2
   rw[z0C]
   rcases hl with q|q
   ·omega
   ·rw[q];exact h i j hij hp
  ·rw[z0e _ _ e2];exact h i j hij hp
theorem Inv.looked (h:Inv base cap ws ops T xs) {g:Nat}{op:Op}(ho:OkOp base cap ws T xs op) (hl:op.link=0∨op.link=(ops g).link):Inv base cap ws (z0v ops g op) T xs :=
 ⟨h.t0,h.top,h.chain,h.range,h.nodup,fun j=>z57 ho (fun _=>h.op j),z2Z h.diff hl⟩
theorem Inv.linked (h:Inv base cap ws ops T xs) {g:Nat}{item n t i:Int}(ho:ops g=.push item n t i) (hi:1≤item∧item≤cap∧item ∉ xs) (hs:See cap T xs t i):
  Inv base cap (upd ws (base+item.toNat) i) (z0v ops g (.push item 2 t i)) T xs:=by
 have hne:base≠base+item.toNat:=by omega
 refine⟨h.t0,by rw[z09 _ _ hne];exact h.top,h.chain.other ?_,h.range,h.nodup,fun j=>z57 ?_ ?_,z2Z h.diff (.inr (by rw[ho];rfl))⟩
 ·intro x hx e
  have:=h.range x hx
  exact hi.2.2 ((show x=item by omega) ▸ hx)
 ·exact⟨hi.1,hi.2.1,hi.2.2,.inr (.inr ⟨rfl,hs,z1a _ _ _⟩)⟩
 ·intro hj
  have hk:=h.op j
  have hd:=h.diff g j (fun e=>hj e.symm)
  rw[ho] at hd
  cases hq:ops j with
  | idle=>trivial
  | push item' n' t' i' =>
   rw[hq] at hk hd
   have hd':item≠item':=hd (by show 0<item;omega)
   obtain⟨a1,a2,a3,a4⟩:=hk
   refine⟨a1,a2,a3,?_⟩
   rcases a4 with a4|a4|a4
   ·exact .inl a4
   ·exact .inr (.inl a4)
   ·exact .inr (.inr ⟨a4.1,a4.2.1,by rw[z09 _ _ (by omega)];exact a4.2.2⟩)
  | pop n' t' i' d'=>rw[hq] at hk;exact hk
theorem z5h {ys:List Int}{v:Int}{op:Op}(h:OkOp base cap ws T xs op) (hp:∀ item n t i,op=.push item n t i→item ∉ ys):OkOp base cap (upd ws base v) (T+1) ys op:=by
 cases op with
 | idle=>trivial
 | push item n t i =>
  obtain⟨a1,a2,a3,a4⟩:=h
  refine⟨a1,a2,hp _ _ _ _ rfl,?_⟩
  rcases a4 with a4|a4|a4
  ·exact .inl a4
  ·exact .inr (.inl ⟨a4.1,a4.2.late⟩)
  ·exact .inr (.inr ⟨a4.1,a4.2.1.late,by rw[z09 _ _ (by omega)];exact a4.2.2⟩)
 | pop n t i d =>
  rcases h with a4|a4|a4
  ·exact .inl a4
  ·exact .inr (.inl ⟨a4.1,a4.2.1,a4.2.2.late⟩)
  ·exact .inr (.inr ⟨a4.1,a4.2.1,a4.2.2.1.late,a4.2.2.2.1,a4.2.2.2.2.1,fun e=>by have:=a4.2.2.1.2.1;omega⟩)
theorem Inv.pushed (h:Inv base cap ws ops T xs) {g:Nat}{item i:Int}(ho:ops g=.push item 2 T i):Inv base cap (upd ws base ((T+1)*((cap:Int)+1)+item)) (z0v ops g .idle) (T+1) (item::xs):=by
 have hk:=h.op g
 rw[ho] at hk
 obtain⟨a1,a2,a3,a4⟩:=hk
 have a5:See cap T xs T i∧ws (base+item.toNat)=i:=by
  rcases a4 with a4|a4|a4
  ·exact absurd a4 (by decide)
  ·exact absurd a4.1 (by decide)
  ·exact a4.2
 have a6:=a5.1.2.2.2.2 rfl
 refine⟨by have:=h.t0;omega,by rw[z1a];rfl,⟨by rw[z09 _ _ (by omega),a5.2];exact a6,h.chain.other fun x hx=>by have:=h.range x hx;omega⟩,?_,?_,fun j=>z57 trivial ?_,z2Z h.diff (.inl rfl)⟩
 ·intro x hx
  rcases List.mem_cons.1 hx with e|e
  ·subst e;exact⟨a1,a2⟩
  ·exact h.range x e
 ·exact List.nodup_cons.2 ⟨a3,h.nodup⟩
 ·intro hj
  refine z5h (h.op j) fun item' n t i' e=>?_
  have hd:=h.diff g j (fun e=>hj e.symm)
  rw[ho,e] at hd
  have hd':item≠item':=hd (by show 0<item;omega)
  have hk:=h.op j
  rw[e] at hk
  intro hm
  rcases List.mem_cons.1 hm with q|q
  ·exact hd' q.symm
  ·exact hk.2.2.1 q
theorem Inv.popped (h:Inv base cap ws ops T xs) {g:Nat}{i d:Int}(ho:ops g=.pop 2 T i d):∃ r,xs=i::r∧d=hd r∧Inv base cap (upd ws base ((T+1)*((cap:Int)+1)+d)) (z0v ops g .idle) (T+1) r:=by
 have hk:=h.op g
 rw[ho] at hk
 have a5:1≤i∧See cap T xs T i∧(T=T→d=hd xs.tail):=by
  rcases hk with a4|a4|a4
  ·exact absurd a4 (by decide)
  ·exact absurd a4.1 (by decide)
  ·exact⟨a4.2.1,a4.2.2.1,a4.2.2.2.2.2⟩
 have a6:=a5.2.1.2.2.2.2 rfl
 have a7:=a5.2.2 rfl
 cases xs with
 | nil=>simp[hd] at a6;omega
 | cons x r =>
  simp only[hd] at a6
  subst a6
  refine⟨r,rfl,a7,by have:=h.t0;omega,by rw[z1a,a7];rfl,h.chain.2.other fun y hy=>by have:=h.range y (by simp[hy]);omega,fun y hy=>h.range y (by simp[hy]),(List.nodup_cons.1 h.nodup).2,fun j=>z57 trivial ?_,z2Z h.diff (.inl rfl)⟩
  intro _
  refine z5h (h.op j) fun item' n t i' e=>?_
  have hk:=h.op j
  rw[e] at hk
  exact fun hm=>hk.2.2.1 (by simp[hm])
def rank (T:Int) (xs:List Int):Op→Nat
 | .idle=>0
 | .push _ n t _=>if n=0 then 3 else if n=1 then (if t=T then 2 else 5) else (if t=T then 1 else 4)
 | .pop n t _ _=>if n=0 then (if xs=[] then 1 else 3) else if n=1 then (if t=T then 2 else 5) else (if t=T then 1 else 4)
theorem z7u {op:Op}(h:op≠.idle):1≤rank T xs op:=by
 cases op<;>simp only[rank]<;>first|exact absurd rfl h|(repeat' split)<;>omega
inductive Eff (T:Int) (xs:List Int):Op→Bool→Int→Bool→Op→Int→List Int→Prop
 | pushOn {item n t i n' t' i':Int} (h:rank T xs (.push item n' t' i')<rank T xs (.push item n t i)):Eff T xs (.push item n t i) false 0 false (.push item n' t' i') T xs
 | pushed {item n t i:Int}:Eff T xs (.push item n t i) true 0 true .idle (T+1) (item::xs)
 | popOn {n t i d n' t' i' d':Int} (h:rank T xs (.pop n' t' i' d')<rank T xs (.pop n t i d)):Eff T xs (.pop n t i d) false 0 false (.pop n' t' i' d') T xs
 | popped {n t i d x:Int} {r:List Int} (h:xs=x::r):Eff T xs (.pop n t i d) true (x-1) true .idle (T+1) r
 | nothing {n t i d:Int} (h:xs=[]):Eff T xs (.pop n t i d) true 0 false .idle T xs
end
end Go.Proofs.YthkelaeemefnaaaGreat
namespace Go.Proofs.YthkelaeemefnaaaGreat
open Go.RowKit
theorem ov {w u:World}{x ty:Nat}{c:Array Value}(hb:Below w.heap.size w u) (h:w.heap[x]?=some (.cells c ty (0,0))):u.heap[x]?=some (.cells c ty (0,0)):=(hb.block x (z02 h)).trans h
def z4E (w:World) (P:Nat→Prop) (s b bw bs bt bu bl W G base cap:Nat) (ws cs:Nat→Int) (ops:Nat→Op) (ob:Nat→Nat) (g:Nat) (T:Int) (xs:List Int) (e:Ending) (w':World):Prop :=
 ∃ (done:Bool) (v:Int) (ok:Bool) (ws':Nat→Int) (op':Op) (T':Int) (xs':List Int),e=.returned (.tuple #[.bool done,.int .i64 v,.bool ok,.int .i64 0])∧Stk w' P s b bw bs bt bu bl W G base cap ws' (upd cs g (wrap64 (cs g+1))) (z0v ops g op') ob∧Bt P w w' ∧
  Inv base cap ws' (z0v ops g op') T' xs'∧Eff T xs (ops g) done v ok op' T' xs'∧∀ a,a<base∨base+cap<a→ws' a=ws a
section
variable {w:World}{P:Nat→Prop}{s b bw bs bt bu bl W G base cap:Nat}{ws cs:Nat→Int}{ops:Nat→Op}{ob:Nat→Nat}{T:Int}{xs:List Int}
theorem z4C (h:Stk w P s b bw bs bt bu bl W G base cap ws cs ops ob):(0:Int)<(cap:Int)+1∧(cap:Int)+1≤1001∧base<W∧base+cap<W:=by
 have:=h.cap1;have:=h.cap2;have:=h.base1
 omega
theorem z2n (hI:Inv base cap ws ops T xs) (hT:T≤1000000000):wrap64 ((ws base).tdiv ((cap:Int)+1))=T∧(ws base).tmod ((cap:Int)+1)=hd xs:=by
 have hh:=z1d hI.range
 have hs:=za8 (c:=(cap:Int)+1) hI.t0 hh.1 (by omega)
 have:=hI.t0
 rw[hI.top,hs.1,hs.2]
 exact⟨IntWalk.wrap64_in _ (by omega),rfl⟩
theorem z4T (h:Stk w P s b bw bs bt bu bl W G base cap ws cs ops ob) (hI:Inv base cap ws ops T xs) (hT:T≤1000000000) (g:Nat) (hg:g<G) {item n t i:Int}(ho:ops g=.push item n t i):
  Calls Tryz.prog 243 #[.pointer (some ⟨s,0,none⟩),.int .i64 g] w (z4E w P s b bw bs bt bu bl W G base cap ws cs ops ob g T xs):=by
 have hc:=z4C h
 have ht:=z2n hI hT
 have hh:=z1d hI.range
 have hk:=hI.op g
 have hT0:=hI.t0
 have hW:=h.big
 rw[ho] at hk
 obtain⟨a1,a2,a3,a4⟩:=hk
 rcases a4 with a4|a4|a4
 ·subst a4
  refine (z1V h g hg ho (fun x y z hX hY y1 y2 hZ u hb=>zad (h.ar.below hb) (h.bx.below hb) g (ov hb hX) (ov hb hY) hg hc.2.2.1 hc.1 ht.1 ht.2 hh.1)).mono ?_
  rintro e w' ⟨rfl,hS,hB⟩
  refine⟨_,_,_,_,_,_,_,rfl,hS,hB,hI.looked (op:=.push item 1 T (hd xs)) ⟨a1,a2,a3,.inr (.inl ⟨rfl,See.now hI⟩)⟩ (.inr (by rw[ho];rfl)),?_⟩
  rw[ho];exact⟨.pushOn (by simp[rank]),fun _ _=>rfl⟩
 ·obtain⟨rfl,hs⟩:=a4
  refine (z1V h g hg ho (fun x y z hX hY y1 y2 hZ u hb=>z63 (h.ar.below hb) g (base+item.toNat) (ov hb hX) (ov hb hY) y1 y2 (ov hb hZ) hg (by omega) (by omega) hW)).mono ?_
  rintro e w' ⟨rfl,hS,hB⟩
  refine⟨_,_,_,_,_,_,_,rfl,hS,hB,hI.linked ho ⟨a1,a2,a3⟩ hs,?_⟩
  rw[ho];exact⟨.pushOn (by simp only[rank];by_cases q:t=T<;>simp[q]),fun a ha=>z09 _ _ (by omega)⟩
 ·obtain⟨rfl,hs,hw⟩:=a4
  obtain⟨s1,s2,s3,s4,s5⟩:=hs
  by_cases q:t=T
  ·subst q
   refine (z3P h g hg ho (fun x y z hX hY y1 y2 hZ u hb=>z4U (h.ar.below hb) (h.bx.below hb) g (ov hb hX) (ov hb hY) (ov hb hZ) hg hc.2.2.1 (IntWalk.wrap64_in (t+1) (by omega)) (z1x hT0 (by omega) (by omega) hc.2.1 s3 (by omega)) (z1x (by omega) (by omega) (by omega) hc.2.1 (by omega) (by omega)) (by rw[hI.top,s5 rfl];simp))).mono ?_
   rintro e w' ⟨rfl,hS,hB⟩
   refine⟨_,_,_,_,_,_,_,rfl,hS,hB,hI.pushed ho,?_⟩
   rw[ho];exact⟨.pushed,fun a ha=>z09 _ _ (by omega)⟩
  ·refine (z1V h g hg ho (fun x y z hX hY y1 y2 hZ u hb=>z6i (h.ar.below hb) (h.bx.below hb) g (ov hb hX) (ov hb hY) (ov hb hZ) hg hc.2.2.1 (z1x s1 (by omega) (by omega) hc.2.1 s3 (by omega)) (by rw[hI.top];simpa using zdj (show t<T by omega) (show i<(cap:Int)+1 by omega) hh.1 (by omega)))).mono ?_
   rintro e w' ⟨rfl,hS,hB⟩
   refine⟨_,_,_,_,_,_,_,rfl,hS,hB,hI.looked (op:=.push item 0 0 0) ⟨a1,a2,a3,.inl rfl⟩ (.inr (by rw[ho];rfl)),?_⟩
   rw[ho];exact⟨.pushOn (by simp[rank,q]),fun _ _=>rfl⟩
theorem z6c (h:Stk w P s b bw bs bt bu bl W G base cap ws cs ops ob) (hI:Inv base cap ws ops T xs) (hT:T≤1000000000) (g:Nat) (hg:g<G) {n t i d:Int}(ho:ops g=.pop n t i d):
  Calls Tryz.prog 243 #[.pointer (some ⟨s,0,none⟩),.int .i64 g] w (z4E w P s b bw bs bt bu bl W G base cap ws cs ops ob g T xs):=by
 have hc:=z4C h
 have ht:=z2n hI hT
 have hh:=z1d hI.range
 have hk:=hI.op g
 have hT0:=hI.t0
 have hW:=h.big
 rw[ho] at hk
 rcases hk with a4|a4|a4
 ·subst a4
  cases xs with
  | nil =>
   refine (z2A (n':=0) (t':=0) (i':=0) (d':=0) h g hg ho (fun x y hX hY y1 y2 u hb=>z9s (h.ar.below hb) (h.bx.below hb) g (ov hb hX) (ov hb hY) hg hc.2.2.1 hc.1 ht.2)).mono ?_
   rintro e w' ⟨rfl,hS,hB⟩
   refine⟨_,_,_,_,_,_,_,rfl,hS,hB,hI.looked (op:=.idle) trivial (.inl rfl),?_⟩
   rw[ho];exact⟨.nothing rfl,fun _ _=>rfl⟩
  | cons x r =>
   have hx:=hI.range x (by simp)
   refine (z2e h g hg ho (fun x y hX hY y1 y2 u hb=>zcD (h.ar.below hb) (h.bx.below hb) g (ov hb hX) (ov hb hY) hg hc.2.2.1 hc.1 ht.1 ht.2 (by simp only[hd];omega))).mono ?_
   rintro e w' ⟨rfl,hS,hB⟩
   refine⟨_,_,_,_,_,_,_,rfl,hS,hB,hI.looked (op:=.pop 1 T (hd (x::r)) 0) (.inr (.inl ⟨rfl,by simp only[hd];omega,See.now hI⟩)) (.inl rfl),?_⟩
   rw[ho];exact⟨.popOn (by simp[rank]),fun _ _=>rfl⟩
 ·obtain⟨rfl,i1,s1,s2,s3,s4,s5⟩:=a4
  obtain⟨d',hd'⟩:∃ d',(if 0≤ws (base+i.toNat)∧ws (base+i.toNat)<(cap:Int)+1 then ws (base+i.toNat) else 0)=d':=⟨_,rfl⟩
  refine (z2e h g hg ho (fun x y hX hY y1 y2 u hb=>z6R (h.ar.below hb) (h.bx.below hb) g (base+i.toNat) (ov hb hX) (ov hb hY) y1 y2 hg (by omega) (by omega) hW hd')).mono ?_
  rintro e w' ⟨rfl,hS,hB⟩
  have b1:0≤d'∧d'≤cap:=by
   rw[← hd'];split
   ·next q=>omega
   ·omega
  refine⟨_,_,_,_,_,_,_,rfl,hS,hB,hI.looked (op:=.pop 2 t i d') (.inr (.inr ⟨rfl,i1,⟨s1,s2,s3,s4,s5⟩,b1.1,b1.2,fun e=>?_⟩)) (.inl rfl),?_⟩
  ·have e1:=s5 e
   cases xs with
   | nil=>simp[hd] at e1;omega
   | cons x r =>
    simp only[hd] at e1
    subst e1
    have e2:=hI.chain.1
    have e3:=z1d (cap:=cap) (xs:=r) (fun y hy=>hI.range y (by simp[hy]))
    rw[← hd',e2,if_pos (by omega)];rfl
  ·rw[ho];exact⟨.popOn (by simp only[rank];by_cases q:t=T<;>simp[q]),fun _ _=>rfl⟩
 ·obtain⟨rfl,i1,⟨s1,s2,s3,s4,s5⟩,d0,d1,d2⟩:=a4
  by_cases q:t=T
  ·subst q
   obtain⟨r,hr,hdr,hI'⟩:=hI.popped ho
   refine (z2A h g hg ho (fun x y hX hY y1 y2 u hb=>z68 (h.ar.below hb) (h.bx.below hb) g (ov hb hX) (ov hb hY) hg hc.2.2.1 (IntWalk.wrap64_in (t+1) (by omega)) (z1x hT0 (by omega) (by omega) hc.2.1 s3 (by omega)) (z1x (by omega) (by omega) (by omega) hc.2.1 d0 (by omega)) s3 (by omega) (by rw[hI.top,s5 rfl];simp))).mono ?_
   rintro e w' ⟨rfl,hS,hB⟩
   refine⟨_,_,_,_,_,_,_,rfl,hS,hB,hI',?_⟩
   rw[ho];exact⟨.popped hr,fun a ha=>z09 _ _ (by omega)⟩
  ·refine (z2e h g hg ho (fun x y hX hY y1 y2 u hb=>z6I (h.ar.below hb) (h.bx.below hb) g (ov hb hX) (ov hb hY) hg hc.2.2.1 (z1x s1 (by omega) (by omega) hc.2.1 s3 (by omega)) (by rw[hI.top];simpa using zdj (show t<T by omega) (show i<(cap:Int)+1 by omega) hh.1 (by omega)))).mono ?_
   rintro e w' ⟨rfl,hS,hB⟩
   refine⟨_,_,_,_,_,_,_,rfl,hS,hB,hI.looked (op:=.pop 0 0 0 0) (.inl rfl) (.inl rfl),?_⟩
   rw[ho];exact⟨.popOn (by simp only[rank,q];by_cases q2:xs=[]<;>simp[q2]),fun _ _=>rfl⟩
theorem zbt (h:Stk w P s b bw bs bt bu bl W G base cap ws cs ops ob) (hI:Inv base cap ws ops T xs) (hT:T≤1000000000) (g:Nat) (hg:g<G) (hb:ops g≠.idle):
  Calls Tryz.prog 243 #[.pointer (some ⟨s,0,none⟩),.int .i64 g] w (z4E w P s b bw bs bt bu bl W G base cap ws cs ops ob g T xs):=by
 cases ho:ops g with
 | idle=>exact absurd ho hb
 | push item n t i=>exact z4T h hI hT g hg ho
 | pop n t i d=>exact z6c h hI hT g hg ho
end
end Go.Proofs.YthkelaeemefnaaaGreat
namespace Go.Proofs.YthkelaeemefnaaaGreat
open Go.RowKit Go.Shelf
attribute [local go_sem] Oper.semAt_some
theorem z4p {w:World}{b bw bs W G:Nat}{ws cs:Nat→Int}(h:Ar w b bw bs W G ws cs) {bt bu bl:Nat}{c:Int}(hx:Bx w bw bs bt bu bl c) {base cap:Nat}{t i:Int}(ha:base<W) (h1:0<c) (hq:wrap64 ((ws base).tdiv c)=t) (hr:(ws base).tmod c=i) (hi:0≤i):
  Calls Tryz.prog 245 #[.agg #[.pointer (some ⟨b,0,none⟩),.func (.func 182) #[] #[.pointer (some ⟨bt,0,none⟩)],.func (.func 183) #[] #[.pointer (some ⟨bu,0,none⟩)],.pointer (some ⟨b,0,none⟩),.func (.func 184) #[] #[.pointer (some ⟨bl,0,none⟩)],.func (.func 181) #[] #[],.int .i64 base,.int .i64 cap]] w fun e w'=>e=.returned (.int .i64 i)∧Below w.heap.size w w':=by
 go_enter Tryz.func245,Tryz.ntmps245
 go_wp2_with (go_at_call 251;refine (z8R (h.alloc _) (hx.alloc _) base ha h1 hq hr hi).mono ?_;rintro e w1 ⟨rfl,hb⟩)
 go_ret
 exact⟨rfl,(((Below.refl w.heap.size w).alloc (Nat.le_refl _) _).trans (hb.mono (by simp))).alloc (by have:=hb.size;simp at this;omega) _⟩
theorem z60 {w:World}{b bw bs W G:Nat}{ws cs:Nat→Int}(h:Ar w b bw bs W G ws cs) {bt bu bl:Nat}{c:Int}(hx:Bx w bw bs bt bu bl c) {base cap:Nat}{i:Int}(a:Nat) (ha:a<W) (hp:(base:Int)+i=a) (hW:W≤65536) (hi:0≤ws a) (hj:ws a<c):
  Calls Tryz.prog 250 #[.agg #[.pointer (some ⟨b,0,none⟩),.func (.func 182) #[] #[.pointer (some ⟨bt,0,none⟩)],.func (.func 183) #[] #[.pointer (some ⟨bu,0,none⟩)],.pointer (some ⟨b,0,none⟩),.func (.func 184) #[] #[.pointer (some ⟨bl,0,none⟩)],.func (.func 181) #[] #[],.int .i64 base,.int .i64 cap],.int .i64 i] w fun e w'=>e=.returned (.int .i64 (ws a))∧Below w.heap.size w w':=by
 have hX:=blk8 (heap_alloc_new w (.cells #[.pointer (some ⟨b,0,none⟩),.func (.func 182) #[] #[.pointer (some ⟨bt,0,none⟩)],.func (.func 183) #[] #[.pointer (some ⟨bu,0,none⟩)],.pointer (some ⟨b,0,none⟩),.func (.func 184) #[] #[.pointer (some ⟨bl,0,none⟩)],.func (.func 181) #[] #[],.int .i64 base,.int .i64 cap] 238))
 go_enter Tryz.func250,Tryz.ntmps250
 go_wp2
 go_region_held3 (fun w'=>w'.cell? ⟨w.heap.size,0,none⟩=some (.pointer (some ⟨b,0,none⟩))∧w'.cell? ⟨w.heap.size,1,none⟩=some (.func (.func 182) #[] #[.pointer (some ⟨bt,0,none⟩)])∧w'.cell? ⟨w.heap.size,2,none⟩=some (.func (.func 183) #[] #[.pointer (some ⟨bu,0,none⟩)])∧w'.cell? ⟨w.heap.size,3,none⟩=some (.pointer (some ⟨b,0,none⟩))∧w'.cell? ⟨w.heap.size,4,none⟩=some (.func (.func 184) #[] #[.pointer (some ⟨bl,0,none⟩)])∧w'.cell? ⟨w.heap.size,5,none⟩=some (.func (.func 181) #[] #[])∧w'.cell? ⟨w.heap.size,6,none⟩=some (.int .i64 base)∧w'.cell? ⟨w.heap.size,7,none⟩=some (.int .i64 cap)) (go_keep)
  (first
   | (go_at_call 259;refine (z6Z hA1 hx1 a ha hi hj).mono ?_;rintro e w2 ⟨rfl,hb2⟩;have eX2:=blk8 (ov hb2 hL))
   | (go_at_call 173;refine (z1m (cap:=cap) (bt:=bt) (bu:=bu) (bl:=bl) i a _ hp (by omega)).mono ?_;rintro e w1 ⟨rfl,hb⟩;have hb1:=z0Z hb;have hA1:=(h.alloc _).below hb1;have hx1:=(hx.alloc _).below hb1;have hL:=ov hb1 (heap_alloc_new w _);have eX:=blk8 hL))
 go_wp2
 go_ret
 exact⟨rfl,((Below.refl w.heap.size w).alloc (Nat.le_refl _) _).trans ((hb1.mono (by simp)).trans (hb2.mono (by have:=hb1.size;simp at this;omega)))⟩
theorem z3w (s:Nat) (w:World):
  Calls Tryz.prog 244 #[.pointer (some ⟨s,0,none⟩)] w fun e w'=>e=.returned (.func (.func 249) #[] #[.pointer (some ⟨w.heap.size,0,none⟩)])∧w'=w.alloc (.cells #[.pointer (some ⟨s,0,none⟩)] 222):=by
 go_enter Tryz.func244,Tryz.ntmps244
 go_wp2
 go_ret
 exact⟨rfl,rfl⟩
theorem zcU {w w':World}(h:Below w.heap.size w w'):w.grownBy w' none:=⟨h.os,h.tape,h.output,h.size,fun k hk _=>h.block k hk⟩
theorem length_le {cap:Nat}{xs:List Int}(hr:∀ x,x∈xs→1≤x∧x≤cap) (hn:xs.Nodup):xs.length≤cap:=by
 have h1:(xs.map Int.toNat).Nodup:=by
  induction xs with
  | nil=>simp
  | cons x r ih =>
   have hx:=hr x (by simp)
   rw[List.map_cons,List.nodup_cons]
   refine⟨fun hm=>?_,ih (fun y hy=>hr y (by simp[hy])) (List.nodup_cons.1 hn).2⟩
   obtain⟨y,hy,e⟩:=List.mem_map.1 hm
   have hy':=hr y (by simp[hy])
   exact (List.nodup_cons.1 hn).1 ((show y=x by omega) ▸ hy)
 have h2:(xs.map Int.toNat) ⊆ (List.range cap).map (·+1):=by
  intro n hm
  obtain⟨x,hx,rfl⟩:=List.mem_map.1 hm
  have:=hr x hx
  exact List.mem_map.2 ⟨x.toNat-1,List.mem_range.2 (by omega),by omega⟩
 have h3:=h1.length_le_of_subset h2
 simpa using h3
theorem zfu:hd []=0:=rfl
theorem zeB (x:Int) (r:List Int):hd (x::r)=x:=rfl
theorem Lk.at_ {base:Nat}{ws:Nat→Int}{pre rest:List Int}{x:Int}(h:Lk base ws (pre++x::rest)):ws (base+x.toNat)=hd rest:=by
 induction pre with
 | nil=>exact h.1
 | cons y r ih=>exact ih h.2
def Kp (n B:Nat) (W W':World):Prop:=Below n W W'∧W'.heap[B]?=W.heap[B]?
theorem zce (n:Nat) (hn:1≤n) (l Bn:Nat) {w:World}{P:Nat→Prop}{s b bw bs bt bu bl W G base cap:Nat}{ws cs:Nat→Int}{ops:Nat→Op}{ob:Nat→Nat}{T:Int}{xs:List Int}(h:Stk w P s b bw bs bt bu bl W G base cap ws cs ops ob) (hI:Inv base cap ws ops T xs) (hT:T≤1000000000) (J Jx:List Int→World→Prop)
  (W1:World) (hJ:AbidesFrom W1.heap.size J) (hY:∀ pre x W,J pre W→pre.length<xs.length→YieldAt Fence.wide (n-1) Tryz.prog l #[.int .i64 x] W fun e W' =>
   (e=.returned (.bool true)∧J (pre++[x]) W'∧Kp w.heap.size Bn W W')∨(e=.returned (.bool false)∧Jx (pre++[x]) W'))
  (hBn:W1.heap[Bn]?=some (.cells #[.pointer (some ⟨s,0,none⟩)] 222 (0,0))) (hL:Below w.heap.size w W1) (h0:J [] W1):
  CallsIn Fence.wide n Tryz.prog 249 #[.func (.yield l) #[] #[],.pointer (some ⟨Bn,0,none⟩)] W1 fun e W'=>(∃ v,e=.returned v) ∧
   ((∃ ys,ys=xs∧J ys W')∨(∃ pre,pre <+: xs∧Jx pre W')):=by
 have hJ':∀ pre A B,J pre A→Below A.heap.size A B→J pre B:=fun pre A B hA hb=>hJ pre A B none hA (zcU hb) (fun r e=>by cases e)
 have hc:=z4C h
 have ht:=z2n hI hT
 have hh:=z1d hI.range
 have hlen:=length_le hI.range hI.nodup
 have hW:=h.big
 have h1:=h.below hL
 have s1:=h1.cw
 have hb1:=z08 hBn
 have kT:∀ u,Below w.heap.size w u→Calls Tryz.prog 245 #[.agg #[.pointer (some ⟨b,0,none⟩),.func (.func 182) #[] #[.pointer (some ⟨bt,0,none⟩)],.func (.func 183) #[] #[.pointer (some ⟨bu,0,none⟩)],.pointer (some ⟨b,0,none⟩),.func (.func 184) #[] #[.pointer (some ⟨bl,0,none⟩)],.func (.func 181) #[] #[],.int .i64 base,.int .i64 cap]] u fun e w'=>e=.returned (.int .i64 (hd xs))∧Below u.heap.size u w':=fun u hu=>z4p (h.ar.below hu) (h.bx.below hu) hc.2.2.1 hc.1 ht.1 ht.2 hh.1
 have hrange:=hI.range
 have hchain:=hI.chain
 clear hh ht hI hT h1
 refine callsIn_of_wp Tryz.func249 rfl trivial ?_ rfl
 simp only[Tryz.ntmps249,List.size_toArray,List.length_cons,List.length_nil,Nat.reduceAdd,Nat.reduceSub,Array.replicate_succ,Array.replicate_zero,List.push_toArray,List.append_toArray,List.nil_append,List.cons_append]
 gi_wp2_with (refine⟨trivial,?_⟩;gi_at_call 245;refine (callsIn_wide.2 (kT W1 hL)).mono ?_;rintro e w2 ⟨rfl,hb2⟩;have hb3:=hL.trans (hb2.mono hL.size);have s2:=(h.below hb3).cw;have hB2:=ov hb2 hBn;have hb4:=z08 hB2)
 gi_loopw [3,14] (fun p k wr=>∃ (pre rest:List Int) (m:Nat),p=.int .i64 (hd rest)∧k=.int .i64 m∧m=pre.length∧xs=pre++rest∧Below w.heap.size w wr∧wr.heap[Bn]?=some (.cells #[.pointer (some ⟨s,0,none⟩)] 222 (0,0))∧J pre wr) (fun _ k _=>cap-(intOf k).toNat)
 case atStart=>exact⟨[],xs,0,rfl,rfl,rfl,rfl,hb3,hB2,hJ' _ _ _ h0 hb2⟩
 case round =>
  obtain⟨pre,rest,m,rfl,rfl,hm,hx,hbr,hBr,hJr⟩:=hrel
  clear s1 s2 hb1 hb4 hBn hL h0 hb2 hb3 hB2 kT
  have hpl:pre.length+rest.length≤cap:=by rw[hx] at hlen;simpa using hlen
  have s3:=(h.below hbr).cw
  have hb5:=z08 hBr
  have hrg:=h.base1
  have Hx:Hid (xs=pre++rest):=hx
  by_cases hlt:m<cap
  ·cases rest with
   | nil =>
    rw[zfu]
    clear hx
    gi_wp2
    refine⟨fun _ h=>(by cases h),?_⟩
    gi_wp2
    refine bodyPost_ret (results_none rfl _ _ _) rfl ?_
    exact⟨⟨_,rfl⟩,.inl ⟨pre,by simp[Hx.out],hJr⟩⟩
   | cons x r =>
    obtain⟨fn,tmps,assign,body,hy,hR⟩:=hY pre x _ hJr (by rw[hx];simp)
    have hx1:=hrange x (by rw[hx];simp)
    have hx0:(x == 0)=false:=by simp;omega
    have hnx:ws (base+x.toNat)=hd r:=(show Lk base ws (pre++x::r) from hx ▸ hchain).at_
    have hr1:=z1d (cap:=cap) (xs:=r) (fun y hy=>hrange y (by rw[hx];simp[hy]))
    have kB:Hid (∀ u,Below w.heap.size w u→Calls Tryz.prog 250 #[.agg #[.pointer (some ⟨b,0,none⟩),.func (.func 182) #[] #[.pointer (some ⟨bt,0,none⟩)],.func (.func 183) #[] #[.pointer (some ⟨bu,0,none⟩)],.pointer (some ⟨b,0,none⟩),.func (.func 184) #[] #[.pointer (some ⟨bl,0,none⟩)],.func (.func 181) #[] #[],.int .i64 base,.int .i64 cap],.int .i64 x] u fun e w'=>e=.returned (.int .i64 (hd r))∧Below u.heap.size u w'):=fun u hu=>hnx ▸ z60 (h.ar.below hu) (h.bx.below hu) (base+x.toNat) (by omega) (by omega) hW (by rw[hnx];omega) (by rw[hnx];omega)
    rw[zeB]
    clear hnx hr1 hx1 hrange hchain hx
    gi_wp2
    refine hR.mono ?_
    rintro e W3 (⟨rfl,hJ3,hk3⟩|⟨rfl,hJx3⟩)
    ·have hb6:=hbr.trans hk3.1
     have s4:=(h.below hb6).cw
     have hB6:=hk3.2.trans hBr
     have hb7:=z08 hB6
     gi_wp2_with (refine⟨trivial,?_⟩;gi_at_call 250;refine (callsIn_wide.2 (kB.out _ hb6)).mono ?_;rintro e w5 ⟨rfl,hb8⟩)
     go_roundw
     case rel=>exact⟨pre++[x],r,m+1,rfl,by go_num,by simp[hm],by simp[Hx.out],hb6.trans (hb8.mono hb6.size),ov hb8 hB6,hJ' _ _ _ hJ3 hb8⟩
     case measure=>simp[intOf];omega
    ·gi_wp2
     refine bodyPost_ret (results_none rfl _ _ _) rfl ?_
     exact⟨⟨_,rfl⟩,.inr ⟨pre++[x],⟨r,by simp[Hx.out]⟩,hJx3⟩⟩
  ·have hr0:rest=[]:=List.length_eq_zero_iff.1 (by omega)
   subst hr0
   clear hx
   gi_wp2
   go_end0
   exact⟨⟨_,rfl⟩,.inl ⟨pre,by simp[Hx.out],hJr⟩⟩
theorem z4f (n:Nat) (hn:1≤n) (Bn:Nat) {w:World}{P:Nat→Prop}{s b bw bs bt bu bl W G base cap:Nat}{ws cs:Nat→Int}{ops:Nat→Op}{ob:Nat→Nat}{T:Int}{xs:List Int}(h:Stk w P s b bw bs bt bu bl W G base cap ws cs ops ob) (hI:Inv base cap ws ops T xs) (hT:T≤1000000000) {u:World}(hu:Below w.heap.size w u) (hBn:u.heap[Bn]?=some (.cells #[.pointer (some ⟨s,0,none⟩)] 222 (0,0))):
  SeqStopsK Fence.wide n Tryz.prog 249 #[.pointer (some ⟨Bn,0,none⟩)] (fun x:Int=>#[Value.int .i64 x]) (Kp w.heap.size Bn) (fun ys=>ys=xs) (fun pre=>pre <+: xs) xs.length u:=fun l J Jx W hW hJ _ hY h0 =>
 zce n hn l Bn h hI hT J Jx W hJ hY (ov hW hBn) (hu.trans (hW.mono hu.size)) h0
theorem kp_t {n B:Nat}{X Y Z:World}(h:Kp n B X Y) (k:Kp n B Y Z):Kp n B X Z:=⟨h.1.trans k.1,k.2.trans h.2⟩
theorem kp_b {n B:Nat}{u:World}(hn:n≤u.heap.size) (hB:B<u.heap.size) (W:World) (l:Nat) (o o':Obj) (hl:u.heap.size≤l) (h:W.heap[l]?=some o) (h1:o.isCells=false) (h2:o.isWalk=false):Kp n B W (W.putObj l o') :=
 ⟨belowK_b hn W l o o' hl h h1 h2,(belowK_b (n₀:=B+1) (w:=u) (by omega) W l o o' hl h h1 h2).block B (by omega)⟩
attribute [local go_sem] Oper.semAt_some
def appS (ats:Array TypeId) (ty:TypeId) (args:Array Value):Sem Value:=Builtin.append_ ats ty args
theorem zg8 (ats:Array TypeId) (ty:TypeId) (args:Array Value):Builtin.append_ ats ty args=appS ats ty args:=rfl
attribute [local go_sem ↓] zg8
attribute [local go_sem] Oper.semAt_some
theorem z3f (tmps:Array Value) (w:World) (g:Nat) (v:Value) (hp:tmps.getD 4 undef=.pointer (some ⟨g,0,none⟩)) (hg:w.cell? ⟨g,0,none⟩=some v):
  (results Tryz.f246 tmps).run Tryz.prog w=.ok v w:=by
 have hp':tmps[4]?.getD undef=.pointer (some ⟨g,0,none⟩):=by simpa using hp
 simp[results,Tryz.f246,go_sem,hp',hg]
def ldS (a:Value):Sem Value:=Instr.loadAt 244 a
theorem ld_S (a:Value):Instr.loadAt 244 a=ldS a:=rfl
def ixS (x i:Value):Sem Value:=Instr.index 244 x i
theorem ix_S (x i:Value):Instr.index 244 x i=ixS x i:=rfl
attribute [local go_sem ↓] ld_S ix_S
theorem zf7:(Tryz.prog.info? 244).map (·.size)=some 24:=by kernel_rfl
theorem zeg {w:World}{b ty:Nat}{v u:Value}(h:w.heap[b]?=some (.cells #[v] ty (0,0))):(w.setCell ⟨b,0,none⟩ u).heap[b]?=some (.cells #[u] ty (0,0)):=z05 h 0 u
def zb5 (ops:Nat→Op) (ob:Nat→Nat):List Value:=[(ops 0).val (ob 0),.int .i64 (ops 0).link,(ops 1).val (ob 1),.int .i64 (ops 1).link,(ops 2).val (ob 2),.int .i64 (ops 2).link,(ops 3).val (ob 3),.int .i64 (ops 3).link,(ops 4).val (ob 4),.int .i64 (ops 4).link,(ops 5).val (ob 5),.int .i64 (ops 5).link,(ops 6).val (ob 6),.int .i64 (ops 6).link,(ops 7).val (ob 7),.int .i64 (ops 7).link,(ops 8).val (ob 8),.int .i64 (ops 8).link,(ops 9).val (ob 9),.int .i64 (ops 9).link,(ops 10).val (ob 10),.int .i64 (ops 10).link,(ops 11).val (ob 11),.int .i64 (ops 11).link]
theorem zbD (ops:Nat→Op) (ob:Nat→Nat) (m:Nat) (hm:m<12) (u:World):(ixS (.agg (zb5 ops ob).toArray) (.int .i64 m)).run Tryz.prog u=.ok (.agg #[(ops m).val (ob m),.int .i64 (ops m).link]) u:=by
 obtain rfl|rfl|rfl|rfl|rfl|rfl|rfl|rfl|rfl|rfl|rfl|rfl:m=0∨m=1∨m=2∨m=3∨m=4∨m=5∨m=6∨m=7∨m=8∨m=9∨m=10∨m=11:=by omega
 all_goals kernel_rfl
theorem z5D (op:Op) (o:Nat):op.val o=.nilIface∨∃ t a,op.val o=.iface t (.pointer (some a)):=by
 cases op with
 | idle=>exact .inl rfl
 | push _ _ _ _=>exact .inr ⟨_,_,rfl⟩
 | pop _ _ _ _=>exact .inr ⟨_,_,rfl⟩
section
variable {w:World}{P:Nat→Prop}{s b bw bs bt bu bl W G base cap:Nat}{ws cs:Nat→Int}{ops:Nat→Op}{ob:Nat→Nat}{T:Int}{xs:List Int}
theorem zcA (h:Stk w P s b bw bs bt bu bl W G base cap ws cs ops ob):(ldS (.pointer (some ⟨s,9,none⟩))).run Tryz.prog w=.ok (.agg (zb5 ops ob).toArray) w:=by
 refine run_loadAt_mid w s 9 244 (zb5 ops ob) _ ?_ Tryz.underlying244 rfl zf7
 intro j v hj
 have hj24:j<24:=by have:=(List.getElem?_eq_some_iff.1 hj).1;simpa [zb5] using this
 rw[h.here.cell (i:=9+j) (by omega),← hj]
 match j,hj24 with
 | 0,_=>rfl
 | 1,_=>rfl
 | 2,_=>rfl
 | 3,_=>rfl
 | 4,_=>rfl
 | 5,_=>rfl
 | 6,_=>rfl
 | 7,_=>rfl
 | 8,_=>rfl
 | 9,_=>rfl
 | 10,_=>rfl
 | 11,_=>rfl
 | 12,_=>rfl
 | 13,_=>rfl
 | 14,_=>rfl
 | 15,_=>rfl
 | 16,_=>rfl
 | 17,_=>rfl
 | 18,_=>rfl
 | 19,_=>rfl
 | 20,_=>rfl
 | 21,_=>rfl
 | 22,_=>rfl
 | 23,_=>rfl
 | n+24,hm=>omega
theorem zcy (h:Stk w P s b bw bs bt bu bl W G base cap ws cs ops ob) (hI:Inv base cap ws ops T xs) (hT:T≤1000000000) (v:Int) (hv0:0≤v) (hv1:v<cap):
  Calls Tryz.prog 246 #[.pointer (some ⟨s,0,none⟩),.int .i64 v] w fun e w'=>e=.returned (.bool (decide ((∀ j,j<12→(ops j).link≠v+1)∧v+1 ∉ xs)))∧Below w.heap.size w w':=by
 generalize hR:decide ((∀ j,j<12→(ops j).link≠v+1)∧v+1 ∉ xs)=R
 have HR:Hid (decide ((∀ j,j<12→(ops j).link≠v+1)∧v+1 ∉ xs)=R):=hR
 clear hR
 have hs2:∀ o p,((w.alloc o).alloc p).cell? ⟨s,8,none⟩=some (.int .i64 cap):=fun o p=>((h.alloc o).alloc p).cw.2.2.2.2.2.2.2
 have hB2:∀ o p n,Below w.heap.size w (((w.alloc o).alloc p).drewN n):=fun o p n=>(((Below.refl w.heap.size w).alloc (Nat.le_refl _) o).alloc (by simp) p).trans (z00 _ _ _)
 have hld:=fun o p n=>zcA (h.below (hB2 o p n))
 have hix:=zbD ops ob
 have hcap:=h.cap2
 have n1:=h.here.lt
 have hv2:decide ((cap:Int)≤v)=false:=by simp;omega
 generalize (zb5 ops ob).toArray=A at hld hix
 refine (callsIn_wide (n:=5)).1 ?_
 refine callsIn_of_wp_marks Tryz.func246 rfl trivial ?_ rfl
 simp only[Tryz.ntmps246,List.size_toArray,List.length_cons,List.length_nil,Nat.reduceAdd,Nat.reduceSub,Array.replicate_succ,Array.replicate_zero,List.push_toArray,List.append_toArray,List.nil_append,List.cons_append]
 refine wpIn_wide.2 ?_
 go_wp2
 go_quiet (fail)
 go_wp2
 go_loopw [23] (fun k wr=>∃ m:Nat,m≤12∧k=.int .i64 m∧Below w.heap.size w wr∧wr.heap[w.heap.size]?=some (.cells #[.int .i64 v] 3 (0,0))∧wr.heap[w.heap.size+1]?=some (.cells #[.bool false] 4 (0,0))∧Hid (∀ j,j<m→(ops j).link≠v+1)) (fun k _=>12-(intOf k).toNat)
 case atStart=>exact⟨0,by omega,rfl,hB2 _ _ _,old2 _ _,new2 _ _,fun j hj=>absurd hj (by omega)⟩
 case round =>
  obtain⟨m,hm,rfl,hbr,hb0,hb1,hno⟩:=hrel
  clear hld hs2 hB2
  by_cases hlt:m<12
  ·have hixm:=hix m hlt
   have e0:=fun o n=>z08 (w:=(wr.alloc o).drewN n) (z01 hb0 o)
   have q0:=fun o=>z08 (z01 hb0 o)
   clear hix
   by_cases hl:(ops m).link=v+1
   ·have z1:=fun o=>frz (z01 hb1 o)
    have c1:=fun o=>z08 (z01 hb1 o)
    rw[hl] at hixm
    have hres:Hid (R=false):=by rw[← HR.out];exact decide_eq_false (fun q=>q.1 m hlt hl)
    clear hl
    have hbe:w.heap.size≠wr.heap.size:=by have:=z02 hb0;omega
    have hbf:w.heap.size+1≠wr.heap.size:=by have:=z02 hb1;omega
    rcases z5D (ops m) (ob m) with hq|⟨ty,ad,hq⟩
    all_goals
     rw[hq] at hixm
     clear hq
     go_wp2
     go_quiet ((go_at_call 174;exact Calls.quiet_of_same (z1g v _ hv0 (by omega))))
     go_wp2
     exact⟨_,z3f _ _ (w.heap.size+1) (.bool false) rfl (z08 (zeg (z01 hb1 _))),by rw[hres.out],((hbr.alloc hbr.size _).trans (z00 _ _ _)).setCell (p:=⟨w.heap.size+1,0,none⟩) (by simp) _⟩
   ·have hl':((ops m).link == v+1)=false:=by simp[hl]
    rcases z5D (ops m) (ob m) with hq|⟨ty,ad,hq⟩
    all_goals
     rw[hq] at hixm
     clear hq
     go_wp2
     go_quiet ((go_at_call 174;exact Calls.quiet_of_same (z1g v _ hv0 (by omega))))
     go_wp2
     go_roundw
     case rel=>exact⟨m+1,by omega,by go_num,(hbr.alloc hbr.size _).trans (z00 _ _ _),z01 hb0 _,z01 hb1 _,fun j hj=>(by
      by_cases q:j=m
      ·subst q;exact hl
      ·exact hno.out j (by omega))⟩
     case measure=>simp[intOf];omega
  ·obtain rfl:m=12:=by omega
   go_wp2_with (go_at_call 244;refine (z3w s _).mono ?_;rintro e w' ⟨rfl,rfl⟩)
   have hno':=hno.out
   clear hno hix
   have bV:Boxed (wr.alloc (.cells #[.pointer (some ⟨s,0,none⟩)] 222)) w.heap.size 3 (.int .i64 v):=z01 hb0 _
   have bR:Boxed (wr.alloc (.cells #[.pointer (some ⟨s,0,none⟩)] 222)) (w.heap.size+1) 4 (.bool false):=z01 hb1 _
   have bN:Boxed (wr.alloc (.cells #[.pointer (some ⟨s,0,none⟩)] 222)) wr.heap.size 222 (.pointer (some ⟨s,0,none⟩)):=heap_alloc_new _ _
   have hB0:=hbr.alloc hbr.size (.cells #[.pointer (some ⟨s,0,none⟩)] 222)
   have lV:=z02 hb0
   have lR:=z02 hb1
   refine (wpIn_wide (n:=5)).1 ?_
   refine wpIn_rangeFunc_ownF (F:=Fence.wide) (n:=5) rfl (by decide) (gf:=249) (lb:=#[.pointer (some ⟨wr.heap.size,0,none⟩)]) rfl trivial (enters_of Tryz.func249 (by kernel_rfl) rfl)
    (z4f 4 (by decide) wr.heap.size h hI hT hB0 bN) kp_t (kp_b (by simp;omega) (by simp)) (Below.refl _ _) (fun _=>rfl)
    (fun pre W=>(((∀ y∈pre,y≠v+1)∧Boxed W w.heap.size 3 (.int .i64 v)∧Boxed W (w.heap.size+1) 4 (.bool false))∧Below w.heap.size w W)∧Boxed W wr.heap.size 222 (.pointer (some ⟨s,0,none⟩)))
    (fun c pre W=>(c=.ret∧v+1∈pre∧Boxed W (w.heap.size+1) 4 (.bool false))∧Below w.heap.size w W)
    (OwnFrom.and (OwnFrom.and (OwnFrom.and (ownFrom_pure _ _) (OwnFrom.and (Own.from (boxed_own _ _ _) _) (Own.from (boxed_own _ _ _) _))) (ownFrom_below (Nat.le_refl _) (by simp;omega))) (Own.from (boxed_own _ _ _) _))
    (fun c=>OwnFrom.and (OwnFrom.and (ownFrom_pure _ _) (OwnFrom.and (ownFrom_pure _ _) (Own.from (boxed_own _ _ _) _))) (ownFrom_below (Nat.le_refl _) (by simp;omega)))
    ⟨⟨⟨by simp,bV,bR⟩,hB0⟩,bN⟩
    (fun x=>{ tmps:=#[.pointer (some ⟨s,0,none⟩),.int .i64 v,undef,.pointer (some ⟨w.heap.size,0,none⟩),.pointer (some ⟨w.heap.size+1,0,none⟩),undef,u6,.int .i64 x,.int .i64 v,.bool (decide (v<0)),.bool (decide (v<0)),.int .i64 v,.pointer (some ⟨s,0,none⟩),.pointer (some ⟨s,0,none⟩),.pointer (some ⟨s,1,none⟩),.pointer (some ⟨s,8,none⟩),.int .i64 cap,.bool false,.bool (decide (v<0)),.pointer (some ⟨s,0,none⟩),.pointer (some ⟨s,0,none⟩),.pointer (some ⟨s,9,none⟩),.agg A,.int .i64 12,.bool false,u25,u26,u27,u28,u29,u30,u31,.pointer (some ⟨s,0,none⟩),.func (.func 249) #[] #[.pointer (some ⟨wr.heap.size,0,none⟩)],.int .i64 x,undef,undef,undef,undef],defers:=[] }) ?assign ?body ?done ?stop
   case assign =>
    intro l x W K hK
    gi_wp2
    exact hK
   case body =>
    rintro l pre x W ⟨⟨⟨hp,hV,hR⟩,hB⟩,hN⟩ _
    have cV:=hV.cell
    have cR:=hR.cell
    have fR:=hR.frozen
    by_cases hx:x=v+1
    ·have hx':(x == v+1)=true:=by simp[hx]
     gi_wp2_with (refine⟨trivial,?_⟩;gi_at_call 174;refine (CallsIn.inRound l (callsIn_wide.2 (z1g v _ hv0 (by omega)))).mono ?_;rintro e w5 ⟨rfl,rfl⟩)
     exact⟨KeepsOthers.setCell _ _ _,⟨rfl,List.mem_append.2 (.inr (by simp[hx])),hR.set _⟩,hB.setCell (p:=⟨w.heap.size+1,0,none⟩) (by simp) _⟩
    ·have hx':(x == v+1)=false:=by simp[hx]
     gi_wp2_with (refine⟨trivial,?_⟩;gi_at_call 174;refine (CallsIn.inRound l (callsIn_wide.2 (z1g v _ hv0 (by omega)))).mono ?_;rintro e w5 ⟨rfl,rfl⟩)
     exact⟨KeepsOthers.refl _,⟨Below.refl _ _,rfl⟩,⟨⟨fun y hy=>(List.mem_append.1 hy).elim (hp y) (fun e=>by simp at e;subst e;exact hx),hV,hR⟩,hB⟩,hN⟩
   case done =>
    rintro D ys W hD rfl ⟨⟨⟨hne,hV,hR⟩,hB⟩,hN⟩ hK
    have cR:=hR.cell
    have fR:=hR.frozen
    have hres:Hid (R=true):=by rw[← HR.out];exact decide_eq_true ⟨hno',fun q=>hne _ q rfl⟩
    clear hne hno'
    go_wp2
    have hK':=(KeepsOthers.setCell W ⟨w.heap.size+1,0,none⟩ (.bool true)).same D _ hK rfl
    refine⟨by simp,.inl ⟨_,_,rfl,run_takeDeferred hK',?_⟩⟩
    have hc5:=cell_kept (hR.set (.bool true)).cell (grownBy_putObj' _ D (.deferred none)) (fun r e=>by cases e;exact⟨_,hK',rfl⟩)
    exact⟨_,z3f _ _ (w.heap.size+1) (.bool true) rfl hc5,by rw[hres.out],(hB.setCell (p:=⟨w.heap.size+1,0,none⟩) (by simp) _).trans (belowK_b (w:=w) (Nat.le_refl _) _ D _ _ (by have:=hB0.size;simp at this hD;omega) hK' rfl rfl)⟩
   case stop =>
    rintro D c pre W hD hpre ⟨⟨rfl,hin,hR⟩,hB⟩ hK
    have hres:Hid (R=false):=by rw[← HR.out];exact decide_eq_false (fun q=>q.2 (hpre.subset hin))
    gi_wp2
    refine⟨by simp,.inl ⟨_,_,rfl,run_takeDeferred hK,?_⟩⟩
    have hc5:=cell_kept hR.cell (grownBy_putObj' _ D (.deferred none)) (fun r e=>by cases e;exact⟨_,hK,rfl⟩)
    exact⟨_,z3f _ _ (w.heap.size+1) (.bool false) rfl hc5,by rw[hres.out],hB.trans (belowK_b (w:=w) (Nat.le_refl _) W D _ _ (by have:=hB0.size;simp at this hD;omega) hK rfl rfl)⟩
def May (cap:Nat) (ops:Nat→Op) (xs:List Int) (v:Int):Prop:=0≤v∧v<cap∧(∀ j,(ops j).link≠v+1)∧v+1 ∉ xs
theorem zaD (h:Stk w P s b bw bs bt bu bl W G base cap ws cs ops ob) (hI:Inv base cap ws ops T xs) (hT:T≤1000000000) (v:Int) (hm:May cap ops xs v):
  Calls Tryz.prog 246 #[.pointer (some ⟨s,0,none⟩),.int .i64 v] w fun e w'=>e=.returned (.bool true)∧Below w.heap.size w w':=by
 refine (zcy h hI hT v hm.1 hm.2.1).mono ?_
 rintro e w' ⟨rfl,hb⟩
 exact⟨by rw[decide_eq_true ⟨fun j _=>hm.2.2.1 j,hm.2.2.2⟩],hb⟩
end
end Go.Proofs.YthkelaeemefnaaaGreat
namespace Go.Proofs.YthkelaeemefnaaaGreat
open Go.RowKit Go.Shelf
attribute [local go_sem] Oper.semAt_some
theorem z9m {w:World}{P:Nat→Prop}{s b bw bs bt bu bl W G base cap:Nat}{ws cs:Nat→Int}{ops:Nat→Op}{ob:Nat→Nat}{T:Int}{xs:List Int}(h:Stk w P s b bw bs bt bu bl W G base cap ws cs ops ob) (hI:Inv base cap ws ops T xs) (hT:T≤1000000000) (m R:Nat) (hm:0<m) (hm2:m≤100000) (hR:R=min m xs.length):
  Calls Tryz.prog 238 #[.pointer (some ⟨s,0,none⟩),.int .i64 m] w fun e w'=>e=.returned (.int .i64 R)∧Below w.heap.size w w':=by
 have HR:Hid (R=min m xs.length):=hR
 clear hR
 have n1:=h.here.lt
 have hm0:decide ((m:Int)≤0)=false:=by simp;omega
 refine (callsIn_wide (n:=5)).1 ?_
 refine callsIn_of_wp_marks Tryz.func238 rfl trivial ?_ rfl
 simp only[Tryz.ntmps238,List.size_toArray,List.length_cons,List.length_nil,Nat.reduceAdd,Nat.reduceSub,Array.replicate_succ,Array.replicate_zero,List.push_toArray,List.append_toArray,List.nil_append,List.cons_append]
 gi_wp2_with (refine⟨trivial,?_⟩;gi_at_call 244;refine (callsIn_wide.2 (z3w s _)).mono ?_;rintro e w' ⟨rfl,rfl⟩)
 have bM:Boxed (((w.alloc (.cells #[.int .i64 m] 3)).alloc (.cells #[.int .i64 0] 3)).alloc (.cells #[.pointer (some ⟨s,0,none⟩)] 222)) w.heap.size 3 (.int .i64 m):=((Boxed.new w 3 (.int .i64 m)).alloc _).alloc _
 have bC:=(Boxed.new (w.alloc (.cells #[.int .i64 m] 3)) 3 (.int .i64 0)).alloc (.cells #[.pointer (some ⟨s,0,none⟩)] 222)
 have bN:=Boxed.new ((w.alloc (.cells #[.int .i64 m] 3)).alloc (.cells #[.int .i64 0] 3)) 222 (.pointer (some ⟨s,0,none⟩))
 simp only[World.size_alloc] at bC bN
 have hB0:Below w.heap.size w (((w.alloc (.cells #[.int .i64 m] 3)).alloc (.cells #[.int .i64 0] 3)).alloc (.cells #[.pointer (some ⟨s,0,none⟩)] 222)):=(((Below.refl _ w).alloc (Nat.le_refl _) _).alloc (by simp) _).alloc (by simp;omega) _
 refine wpIn_rangeFunc_ownF (F:=Fence.wide) (n:=5) rfl (by decide) (gf:=249) (lb:=#[.pointer (some ⟨w.heap.size+2,0,none⟩)]) rfl trivial (enters_of Tryz.func249 (by kernel_rfl) rfl)
  (z4f 4 (by decide) (w.heap.size+2) h hI hT hB0 bN) kp_t (kp_b (by simp;omega) (by simp)) (Below.refl _ _) (fun _=>rfl)
  (fun pre W=>((pre.length<m∧Boxed W w.heap.size 3 (.int .i64 m)∧Boxed W (w.heap.size+1) 3 (.int .i64 (pre.length:Nat)))∧Below w.heap.size w W)∧Boxed W (w.heap.size+2) 222 (.pointer (some ⟨s,0,none⟩)))
  (fun c pre W=>(c=.exit 0∧pre.length=m∧Boxed W (w.heap.size+1) 3 (.int .i64 (m:Nat)))∧Below w.heap.size w W)
  (OwnFrom.and (OwnFrom.and (OwnFrom.and (ownFrom_pure _ _) (OwnFrom.and (Own.from (boxed_own _ _ _) _) (Own.from (boxed_own _ _ (fun pre:List Int=>Value.int .i64 (pre.length:Nat))) _))) (ownFrom_below (Nat.le_refl _) (by simp;omega))) (Own.from (boxed_own _ _ _) _))
  (fun c=>OwnFrom.and (OwnFrom.and (ownFrom_pure _ _) (OwnFrom.and (ownFrom_pure _ _) (Own.from (boxed_own _ _ _) _))) (ownFrom_below (Nat.le_refl _) (by simp;omega)))
  ⟨⟨⟨hm,bM,bC⟩,hB0⟩,bN⟩
  (fun x=>{ tmps:=#[.pointer (some ⟨s,0,none⟩),.int .i64 m,undef,.pointer (some ⟨w.heap.size,0,none⟩),.int .i64 0,.pointer (some ⟨w.heap.size+1,0,none⟩),.pointer (some ⟨s,0,none⟩),.bool false,.bool false,.int .i64 m,.bool false,.bool false,undef,.pointer (some ⟨s,0,none⟩),.func (.func 249) #[] #[.pointer (some ⟨w.heap.size+2,0,none⟩)],.int .i64 x,undef,undef,undef,undef,undef,undef],defers:=[] }) ?assign ?body ?done ?stop
 case assign =>
  intro l x W K hK
  gi_wp2
  simpa using hK
 case body =>
  rintro l pre x W ⟨⟨⟨hlt,hM,hC⟩,hB⟩,hN⟩ _
  have cM:=hM.cell
  have cC:=hC.cell
  have fC:=hC.frozen
  have hC2:=hC.set (.int .i64 ((pre.length+1:Nat):Int))
  have hM2:=hM.other (B':=w.heap.size+1) (by omega) (.int .i64 ((pre.length+1:Nat):Int))
  have hN2:=hN.other (B':=w.heap.size+1) (by omega) (.int .i64 ((pre.length+1:Nat):Int))
  have cM2:=hM2.cell
  have cC2:=hC2.cell
  have hlen:(pre++[x]).length=pre.length+1:=by simp
  generalize hk:pre.length=k at *
  by_cases hx:k+1=m
  ·have hx':((k:Int)+1 == (m:Int))=true:=by simp;omega
   have hx2:(((k+1:Nat):Int) == (m:Int))=true:=by simp;omega
   gi_wp2
   refine⟨KeepsOthers.setCell _ _ _,⟨rfl,by rw[hlen];exact hx,?_⟩,hB.setCell (p:=⟨w.heap.size+1,0,none⟩) (by simp) _⟩
   rw[← hx];exact hC2
  ·have hx':((k:Int)+1 == (m:Int))=false:=by simp;omega
   have hx2:(((k+1:Nat):Int) == (m:Int))=false:=by simp;omega
   gi_wp2
   exact⟨KeepsOthers.setCell _ _ _,⟨(Below.refl _ _).setCell (p:=⟨w.heap.size+1,0,none⟩) (by simp) _,hN2.trans hN.symm⟩,⟨⟨by rw[hlen];omega,hM2,by rw[hlen];exact hC2⟩,hB.setCell (p:=⟨w.heap.size+1,0,none⟩) (by simp) _⟩,hN2⟩
 case done =>
  rintro D ys W hD rfl ⟨⟨⟨hlt,hM,hC⟩,hB⟩,hN⟩ hK
  have cC:=hC.cell
  have hres:Hid (R=ys.length):=by rw[HR.out];exact Nat.min_eq_right (by omega)
  gi_wp2
  refine⟨by simp,.inl ⟨_,_,rfl,run_takeDeferred hK,?_⟩⟩
  exact⟨_,results_tmp rfl _ _ _,by rw[hres.out];rfl,hB.trans (belowK_b (w:=w) (Nat.le_refl _) W D _ _ (by have:=hB0.size;simp at this hD;omega) hK rfl rfl)⟩
 case stop =>
  rintro D c pre W hD hpre ⟨⟨rfl,hlen,hC⟩,hB⟩ hK
  have cC:=hC.cell
  have hres:Hid (R=m):=by rw[HR.out];exact Nat.min_eq_left (by rw[← hlen];exact hpre.length_le)
  gi_wp2
  refine⟨by simp,.inl ⟨_,_,rfl,run_takeDeferred hK,?_⟩⟩
  exact⟨_,results_tmp rfl _ _ _,by rw[hres.out];rfl,hB.trans (belowK_b (w:=w) (Nat.le_refl _) W D _ _ (by have:=hB0.size;simp at this hD;omega) hK rfl rfl)⟩
end Go.Proofs.YthkelaeemefnaaaGreat
