import Derived.Test.YthkelaeemefnaaaGreatMP1qz
import Derived.Deep.QuietTactic
import Derived.BigRegion
namespace Go.Proofs.YthkelaeemefnaaaGreat
open Go.RowKit
def Old (q:St) (x:Ary):Prop:=q.c.on=true∧x.id≤q.c.last∧(q.c.id<x.id∨(x.id=q.c.id∧q.c.cop=true))
def tw (q:St) (x:Ary):Int:=if q.c.cop=true∧x.id=q.c.id then q.c.tgt+4 else 0
def Words (q:St) (f:Int→Int) (V:Int→Int→Int) (x:Ary):Prop:=f x.at_=x.at_+4∧f (x.at_+1)=tw q x∧∀ i,0≤i→i<x.n→f (x.at_+4+i)=V x.id i
structure SpInv (q:St) (W:Int) (f:Int→Int) (V:Int→Int→Int):Prop where
 base0:0≤q.base
 half0:0≤q.half
 big:q.base+2*q.half≤W
 sorted:z0h q.xs
 ids:∀ x∈q.xs,1≤x.id∧x.id≤q.given∧0≤x.n
 given0:0≤q.given
 sums:q.taken=sumG sz q.xs+q.dropped+q.leaving∧0≤q.dropped∧0≤q.leaving∧q.taken≤q.half
 off:q.c.on=false→q.leaving=0∧q.c.cop=false
 old_in:∀ x∈q.xs,Old q x→z22 q≤x.at_∧x.at_+(x.n+4)≤z22 q+q.half
 new_in:∀ x∈q.xs,¬ Old q x→z0m q≤x.at_∧x.at_+(x.n+4)≤z0B q
 dis:∀ x∈q.xs,∀ y∈q.xs,x.id≠y.id→x.at_+(x.n+4)≤y.at_∨y.at_+(y.n+4)≤x.at_
 words:∀ x∈q.xs,Words q f V x
 cyc:q.c.on=true→0≤q.c.id∧q.c.id≤q.c.last∧q.c.last≤q.given∧z0m q≤q.c.next∧q.c.next+remG sz q.c.id q.c.last q.xs≤z0B q
 done_in:q.c.on=true→∀ x∈q.xs,x.id≤q.c.last→¬ Old q x→x.at_+(x.n+4)≤q.c.next
 after:q.c.on=true→∀ x∈q.xs,q.c.last<x.id→q.c.next+remG sz q.c.id q.c.last q.xs≤x.at_
 copy:q.c.cop=true→q.c.on=true∧∀ x∈q.xs,x.id=q.c.id→0≤q.c.copied∧q.c.copied≤x.n∧z0m q≤q.c.tgt∧q.c.tgt+(x.n+4)=q.c.next∧(∀ y∈q.xs,y.id<q.c.id→y.at_+(y.n+4)≤q.c.tgt)∧∀ i,0≤i→i<q.c.copied→f (q.c.tgt+4+i)=V x.id i
 beyond:∀ a,a<q.base∨q.base+2*q.half≤a→f a=V (-1) a
section
variable {q:St}{W:Int}{f:Int→Int}{V:Int→Int→Int}
theorem SpInv.top (h:SpInv q W f V):z0m q≤z0B q∧z0B q≤z0m q+q.half∧0≤sumG sz q.xs:=by
 have h1:0≤sumG sz q.xs:=z7l fun x hx=>by have:=h.ids x hx;show 0≤x.n+4;omega
 have h2:=h.sums
 unfold z0B
 omega
theorem SpInv.rem0 (h:SpInv q W f V):0≤remG sz q.c.id q.c.last q.xs:=z31 fun x hx _ _=>by have:=h.ids x hx;show 0≤x.n+4;omega
theorem SpInv.lies (h:SpInv q W f V) {x:Ary}(hx:x∈q.xs):q.base≤x.at_∧x.at_+(x.n+4)≤q.base+2*q.half∧0≤x.n:=by
 have h1:=h.top
 have h2:=z1Y q
 have h3:=h.ids x hx
 have h4:=h.half0
 by_cases ho:Old q x
 ·have:=h.old_in x hx ho;omega
 ·have:=h.new_in x hx ho;omega
theorem Words.of {q':St}{f':Int→Int}{V':Int→Int→Int}{x:Ary}(h:Words q f V x) (hn:0≤x.n) (h1:∀ a,x.at_≤a→a<x.at_+(x.n+4)→f' a=f a) (h2:tw q' x=tw q x) (h3:∀ i,V' x.id i=V x.id i):Words q' f' V' x:=by
 refine⟨?_,?_,fun i h0 hi=>?_⟩
 ·rw[h1 _ (by omega) (by omega)];exact h.1
 ·rw[h1 _ (by omega) (by omega),h2];exact h.2.1
 ·rw[h1 _ (by omega) (by omega),h3];exact h.2.2 i h0 hi
theorem SpInv.target (h:SpInv q W f V) (hc:q.c.cop=true) {x:Ary}(hx:x∈q.xs) (e:x.id=q.c.id) {y:Ary}(hy:y∈q.xs):y.at_+(y.n+4)≤q.c.tgt∨q.c.tgt+(x.n+4)≤y.at_:=by
 obtain⟨hon,hcc⟩:=h.copy hc
 obtain⟨h1,h2,h3,h4,h5,_⟩:=hcc x hx e
 have ht:=h.top
 have hh:=z1Y q
 have hr:=h.rem0
 have hc2:=h.cyc hon
 by_cases ho:Old q y
 ·have:=h.old_in y hy ho
  have:=h.ids y hy
  have:=h.half0
  omega
 ·by_cases hl:y.id≤q.c.last
  ·left
   apply h5 y hy
   have:¬ (q.c.id<y.id∨(y.id=q.c.id∧q.c.cop=true)):=fun r=>ho ⟨hon,hl,r⟩
   have h6:y.id≠q.c.id:=fun r=>this (.inr ⟨r,hc⟩)
   have h7:¬ q.c.id<y.id:=fun r=>this (.inl r)
   omega
  ·have:=h.after hon y hy (by omega)
   omega
def made (q:St) (n:Int):St:={ q with given:=q.given+1,xs:=q.xs++[⟨q.given+1,z0B q,n⟩],taken:=q.taken+(n+4) }
theorem zbB (h:SpInv q W f V) {n:Int}(hn:0≤n) (hr:n+4≤q.half-q.taken) {f':Int→Int}(w0:f' (z0B q)=z0B q+4) (w1:f' (z0B q+1)=0) (w2:∀ i,0≤i→i<n→f' (z0B q+4+i)=0)
  (w3:∀ a,a<z0B q∨z0B q+4+n≤a→f' a=f a):SpInv (made q n) W f' (fun id i=>if id=q.given+1 then 0 else V id i):=by
 have ht:=h.top
 have hh:=z1Y q
 have hrem:=h.rem0
 have hs:=h.sums
 have hb:=h.half0
 have hfil:z0m (made q n)=z0m q:=rfl
 have hoth:z22 (made q n)=z22 q:=rfl
 have htop:z0B (made q n)=z0B q+(n+4):=by unfold z0B;rw[hfil];simp only[made];omega
 have htd:z0B q=z0m q+q.taken-q.leaving:=rfl
 have hmem:∀ y,y∈(made q n).xs→y∈q.xs∨y=⟨q.given+1,z0B q,n⟩:=fun y hy=>by simpa [made] using hy
 have hrm:∀ lo hi,hi≤q.given→remG sz lo hi (made q n).xs=remG sz lo hi q.xs:=by
  intro lo hi hle
  simp only[made,z3b,remG]
  rw[if_neg (by omega)];omega
 have sep:∀ y∈q.xs,y.at_+(y.n+4)≤z0B q∨z0B q+4+n≤y.at_:=by
  intro y hy
  by_cases ho:Old q y
  ·have:=h.old_in y hy ho
   have:=h.ids y hy
   omega
  ·exact .inl (h.new_in y hy ho).2
 have hold:∀ y,Old (made q n) y↔Old q y:=fun y=>Iff.rfl
 have nold:¬ Old (made q n) ⟨q.given+1,z0B q,n⟩:=by
  rintro⟨ho,hl,_⟩
  have:=h.cyc ho
  simp only[made] at hl
  omega
 have htw:∀ y,tw (made q n) y=tw q y:=fun y=>rfl
 refine⟨h.base0,h.half0,h.big,?_,?_,?_,?_,h.off,?_,?_,?_,?_,?_,?_,?_,?_,?_⟩
 ·show z0h (q.xs++[_])
  refine List.pairwise_append.2 ⟨h.sorted,List.pairwise_singleton _ _,?_⟩
  intro x hx y hy
  have:=h.ids x hx
  rw[List.mem_singleton.1 hy]
  show x.id<q.given+1
  omega
 ·intro x hx
  rcases hmem x hx with hx|rfl
  ·have:=h.ids x hx;refine⟨this.1,?_,this.2.2⟩;show x.id≤q.given+1;omega
  ·have:=h.given0;refine⟨?_,Int.le_refl _,hn⟩;show 1≤q.given+1;omega
 ·have:=h.given0;show 0≤q.given+1;omega
 ·simp only[made,z2d,sumG,sz];omega
 ·intro x hx ho
  rcases hmem x hx with hx|rfl
  ·exact h.old_in x hx ho
  ·exact absurd ho nold
 ·intro x hx ho
  rw[hfil,htop]
  rcases hmem x hx with hx|rfl
  ·have:=h.new_in x hx ho;omega
  ·exact⟨ht.1,by show z0B q+(n+4)≤_;omega⟩
 ·intro x hx y hy hne
  rcases hmem x hx with hx|rfl
  ·rcases hmem y hy with hy|rfl
   ·exact h.dis x hx y hy hne
   ·rcases sep x hx with r|r
    ·exact .inl r
    ·right;show z0B q+(n+4)≤_;omega
  ·rcases hmem y hy with hy|rfl
   ·rcases sep y hy with r|r
    ·exact .inr r
    ·left;show z0B q+(n+4)≤_;omega
   ·exact absurd rfl hne
 ·intro x hx
  rcases hmem x hx with hx|rfl
  ·have hi:=h.ids x hx
   refine (h.words x hx).of hi.2.2 (fun a h1 h2=>w3 a ?_) rfl (fun i=>if_neg (by omega))
   rcases sep x hx with r|r
   ·left;omega
   ·right;omega
  ·refine⟨w0,?_,fun i h0 hi=>?_⟩
   ·show f' (z0B q+1)=_
    rw[w1,htw]
    unfold tw
    rw[if_neg]
    rintro⟨hc,hid⟩
    have h1:=h.copy hc
    have h2:=h.cyc h1.1
    simp only at hid
    omega
   ·show f' (z0B q+4+i)=_
    rw[w2 i h0 hi];exact (if_pos rfl).symm
 ·intro hon
  have h1:=h.cyc hon
  rw[hfil,htop]
  have:remG sz (made q n).c.id (made q n).c.last (made q n).xs=remG sz q.c.id q.c.last q.xs:=hrm _ _ h1.2.2.1
  rw[this]
  refine⟨h1.1,h1.2.1,?_,h1.2.2.2.1,?_⟩
  ·show q.c.last≤q.given+1;omega
  ·show q.c.next+_≤_;omega
 ·intro hon x hx hl ho
  rcases hmem x hx with hx|rfl
  ·exact h.done_in hon x hx hl ho
  ·have:=h.cyc hon
   simp only[made] at hl
   omega
 ·intro hon x hx hl
  have h1:=h.cyc hon
  have:remG sz (made q n).c.id (made q n).c.last (made q n).xs=remG sz q.c.id q.c.last q.xs:=hrm _ _ h1.2.2.1
  rw[this]
  rcases hmem x hx with hx|rfl
  ·exact h.after hon x hx hl
  ·exact h1.2.2.2.2
 ·intro hc
  obtain⟨hon,hcc⟩:=h.copy hc
  have h1:=h.cyc hon
  refine⟨hon,fun x hx hid=>?_⟩
  have hid':x.id=q.c.id:=hid
  rcases hmem x hx with hx|rfl
  ·obtain⟨a1,a2,a3,a4,a5,a6⟩:=hcc x hx hid
   refine⟨a1,a2,a3,a4,fun y hy hlt=>?_,fun i h0 hi=>?_⟩
   ·rcases hmem y hy with hy|rfl
    ·exact a5 y hy hlt
    ·have h2:q.given+1<q.c.id:=hlt
     omega
   ·have hi':i<q.c.copied:=hi
    show f' (q.c.tgt+4+i)=if x.id=q.given+1 then 0 else V x.id i
    rw[w3 _ (by left;omega),if_neg (by omega)]
    exact a6 i h0 hi
  ·simp only at hid'
   omega
 ·intro a ha
  have ha':a<q.base∨q.base+2*q.half≤a:=ha
  have hg:=h.given0
  show f' a=if (-1:Int)=q.given+1 then 0 else V (-1) a
  rw[if_neg (by omega),w3 a (by omega)]
  exact h.beyond a ha'
end
end Go.Proofs.YthkelaeemefnaaaGreat
namespace Go.Proofs.YthkelaeemefnaaaGreat
open Go.RowKit
section
variable {q:St}{W:Int}{f:Int→Int}{V:Int→Int→Int}
def updV (V:Int→Int→Int) (t i v:Int):Int→Int→Int:=fun id j=>if id=t∧j=i then v else V id j
theorem z9w {x:Ary}(hc:q.c.cop=true) (e:x.id=q.c.id):tw q x=q.c.tgt+4:=if_pos ⟨hc,e⟩
theorem z2m {x:Ary}(h:¬ (q.c.cop=true∧x.id=q.c.id)):tw q x=0:=if_neg h
theorem SpInv.tw_ne (h:SpInv q W f V) {x:Ary}(hx:x∈q.xs) (h0:tw q x≠0):q.c.cop=true∧x.id=q.c.id∧tw q x=q.c.tgt+4∧z0m q≤q.c.tgt∧q.c.tgt+(x.n+4)≤z0m q+q.half:=by
 by_cases hc:q.c.cop=true∧x.id=q.c.id
 ·obtain⟨hon,hcc⟩:=h.copy hc.1
  have h1:=hcc x hx hc.2
  have h2:=h.cyc hon
  have h3:=h.top
  have h4:=h.rem0
  exact⟨hc.1,hc.2,if_pos hc,h1.2.2.1,by omega⟩
 ·exact absurd (if_neg hc) h0
theorem z9Q (h:SpInv q W f V) {x:Ary}(hx:x∈q.xs) {i v:Int}(h0:0≤i) (hi:i<x.n) {f':Int→Int}(w0:f' (x.at_+4+i)=v) (w1:tw q x≠0→f' (tw q x+i)=v)
  (w2:∀ a,a≠x.at_+4+i→(tw q x≠0→a≠tw q x+i)→f' a=f a):SpInv q W f' (updV V x.id i v):=by
 have hout:∀ y∈q.xs,y.id≠x.id→∀ a,y.at_≤a→a<y.at_+(y.n+4)→f' a=f a:=by
  intro y hy hne a h1 h2
  have h3:=h.dis y hy x hx hne
  refine w2 a (by omega) fun ht=>?_
  obtain⟨hc,e,et,_⟩:=h.tw_ne hx ht
  have h4:=h.target hc hx e hy
  omega
 have hin:∀ a,x.at_≤a→a<x.at_+(x.n+4)→a≠x.at_+4+i→f' a=f a:=by
  intro a h1 h2 h3
  refine w2 a h3 fun ht=>?_
  obtain⟨hc,e,et,_⟩:=h.tw_ne hx ht
  have h4:=h.target hc hx e hx
  omega
 refine⟨h.base0,h.half0,h.big,h.sorted,h.ids,h.given0,h.sums,h.off,h.old_in,h.new_in,h.dis,?_,h.cyc,h.done_in,h.after,?_,fun a ha=>?_⟩
 ·intro y hy
  by_cases e:y.id=x.id
  ·obtain rfl:=z1h h.sorted hy hx e
   obtain⟨a1,a2,a3⟩:=h.words y hy
   refine⟨?_,?_,fun j j0 jn=>?_⟩
   ·rw[hin _ (by omega) (by omega) (by omega)];exact a1
   ·rw[hin _ (by omega) (by omega) (by omega)];exact a2
   ·unfold updV
    by_cases ej:j=i
    ·subst ej;rw[if_pos ⟨rfl,rfl⟩];exact w0
    ·rw[if_neg (fun r=>ej r.2),hin _ (by omega) (by omega) (by omega)];exact a3 j j0 jn
  ·exact (h.words y hy).of (h.ids y hy).2.2 (hout y hy e) rfl (fun j=>if_neg (fun r=>e r.1))
 ·intro hc
  obtain⟨hon,hcc⟩:=h.copy hc
  refine⟨hon,fun y hy ey=>?_⟩
  obtain⟨a1,a2,a3,a4,a5,a6⟩:=hcc y hy ey
  refine⟨a1,a2,a3,a4,a5,fun j j0 jc=>?_⟩
  have hty:=h.target hc hy ey hx
  unfold updV
  by_cases e:y.id=x.id
  ·obtain rfl:=z1h h.sorted hy hx e
   have et:=z9w hc ey
   have et0:tw q y≠0:=by
    have:=h.base0;have:=z1Y q;have:=h.half0;rw[et];omega
   by_cases ej:j=i
   ·subst ej;rw[if_pos ⟨rfl,rfl⟩,← et];exact w1 et0
   ·rw[if_neg (fun r=>ej r.2),w2 _ (by omega) (fun _=>by rw[et];omega)];exact a6 j j0 jc
  ·rw[if_neg (fun r=>e r.1)]
   rw[w2 _ (by omega) (fun ht=>?_)]
   ·exact a6 j j0 jc
   ·obtain⟨_,ex,_⟩:=h.tw_ne hx ht
    exact absurd (ey.trans ex.symm) e
 ·have hl:=h.lies hx
  have hid:=h.ids x hx
  have hh:=z1Y q
  have hb:=h.half0
  unfold updV
  rw[if_neg (fun r=>by omega),w2 a (by omega) (fun ht=>by obtain⟨_,_,et,b1,b2⟩:=h.tw_ne hx ht;omega)]
  exact h.beyond a ha
def z0M (q:St) (k:Nat) (n:Int):St:={ q with xs:=q.xs.eraseIdx k,dropped:=q.dropped+(n+4) }
theorem zbK (h:SpInv q W f V) {k:Nat}{x:Ary}(hk:q.xs[k]?=some x):SpInv (z0M q k x.n) W f V:=by
 have hm:=fun y=>z2V (y:=y) h.sorted hk
 have hmem:∀ y,y∈(z0M q k x.n).xs→y∈q.xs:=fun y hy=>((hm y).1 hy).1
 have hsum:sumG sz q.xs=sumG sz (q.xs.eraseIdx k)+(x.n+4):=z2S hk
 have hxs:=h.ids x (List.mem_of_getElem? hk)
 have hrem:remG sz q.c.id q.c.last (q.xs.eraseIdx k)≤remG sz q.c.id q.c.last q.xs:=by
  rw[z4l hk]
  split
  ·have:0≤x.n+4:=by omega
   show _≤_+(x.n+4)
   omega
  ·omega
 refine⟨h.base0,h.half0,h.big,z5J h.sorted k,fun y hy=>h.ids y (hmem y hy),h.given0,?_,h.off,fun y hy=>h.old_in y (hmem y hy),fun y hy=>h.new_in y (hmem y hy),fun y hy z hz=>h.dis y (hmem y hy) z (hmem z hz),fun y hy=>h.words y (hmem y hy),?_,fun hon y hy=>h.done_in hon y (hmem y hy),?_,?_,h.beyond⟩
 ·have:=h.sums
  simp only[z0M];omega
 ·intro hon
  have h1:=h.cyc hon
  refine⟨h1.1,h1.2.1,h1.2.2.1,h1.2.2.2.1,?_⟩
  show q.c.next+remG sz q.c.id q.c.last (q.xs.eraseIdx k)≤z0B q
  omega
 ·intro hon y hy hl
  have h1:=h.after hon y (hmem y hy) hl
  show q.c.next+remG sz q.c.id q.c.last (q.xs.eraseIdx k)≤y.at_
  omega
 ·intro hc
  obtain⟨hon,hcc⟩:=h.copy hc
  refine⟨hon,fun y hy ey=>?_⟩
  obtain⟨a1,a2,a3,a4,a5,a6⟩:=hcc y (hmem y hy) ey
  exact⟨a1,a2,a3,a4,fun z hz=>a5 z (hmem z hz),a6⟩
def z0x (q:St):St:={ q with up:=!q.up,leaving:=q.dropped,dropped:=0,c:=⟨true,q.given,0,false,0,0,z22 q⟩ }
theorem zba (h:SpInv q W f V) (hoff:q.c.on=false):SpInv (z0x q) W f V:=by
 obtain⟨hl,hcop⟩:=h.off hoff
 have hfil:z0m (z0x q)=z22 q:=by unfold z0m z22 z0x;cases q.up<;>simp
 have hoth:z22 (z0x q)=z0m q:=by unfold z0m z22 z0x;cases q.up<;>simp
 have hs:=h.sums
 have htop:z0B (z0x q)=z22 q+sumG sz q.xs:=by unfold z0B;rw[hfil];simp only[z0x];omega
 have hnold:∀ x,¬ Old q x:=fun x ho=>by rw[ho.1] at hoff;simp at hoff
 have hold:∀ x∈q.xs,Old (z0x q) x:=fun x hx=>⟨rfl,(h.ids x hx).2.1,.inl (by have:=h.ids x hx;show 0<x.id;omega)⟩
 have hrem:remG sz 0 q.given q.xs=sumG sz q.xs:=z4Y fun x hx=>by have:=h.ids x hx;omega
 refine⟨h.base0,h.half0,h.big,h.sorted,h.ids,h.given0,?_,fun r=>by simp[z0x] at r,?_,fun x hx ho=>absurd (hold x hx) ho,h.dis,?_,?_,fun _ x hx _ ho=>absurd (hold x hx) ho,?_,fun r=>by simp[z0x] at r,h.beyond⟩
 ·simp only[z0x];omega
 ·intro x hx _
  rw[hoth]
  have h1:=h.new_in x hx (hnold x)
  have h2:=h.top
  show z0m q≤_∧_≤z0m q+q.half
  omega
 ·intro x hx
  refine (h.words x hx).of (h.ids x hx).2.2 (fun _ _ _=>rfl) ?_ (fun _=>rfl)
  rw[z2m (by simp[z0x]),z2m (by simp[hcop])]
 ·intro _
  rw[hfil,htop]
  have:=h.given0
  refine⟨Int.le_refl _,this,Int.le_refl _,Int.le_refl _,?_⟩
  show z22 q+remG sz 0 q.given q.xs≤_
  omega
 ·intro _ x hx hl
  have:=h.ids x hx
  have h2:q.given<x.id:=hl
  omega
def z0H (q:St):St:={ q with taken:=q.taken-q.leaving,leaving:=0,c:=⟨false,0,0,false,0,0,0⟩ }
theorem z9P (h:SpInv q W f V) (hcur:∀ x∈q.xs,¬ (q.c.cop=true∧x.id=q.c.id)) (hno:∀ x∈q.xs,¬ (q.c.id<x.id∧x.id≤q.c.last)):SpInv (z0H q) W f V:=by
 have hnold:∀ x∈q.xs,¬ Old q x:=by
  rintro x hx ⟨_,hl,r|r⟩
  ·exact hno x hx ⟨r,hl⟩
  ·exact hcur x hx ⟨r.2,r.1⟩
 have hfil:z0m (z0H q)=z0m q:=rfl
 have htop:z0B (z0H q)=z0B q:=by unfold z0B;rw[hfil];simp only[z0H];omega
 have hs:=h.sums
 refine⟨h.base0,h.half0,h.big,h.sorted,h.ids,h.given0,?_,fun _=>⟨rfl,rfl⟩,fun x _ ho=>by simp[Old,z0H] at ho,?_,h.dis,?_,fun r=>by simp[z0H] at r,fun r=>by simp[z0H] at r,fun r=>by simp[z0H] at r,fun r=>by simp[z0H] at r,h.beyond⟩
 ·simp only[z0H];omega
 ·intro x hx _
  rw[hfil,htop]
  exact h.new_in x hx (hnold x hx)
 ·intro x hx
  refine (h.words x hx).of (h.ids x hx).2.2 (fun _ _ _=>rfl) ?_ (fun _=>rfl)
  rw[z2m (by simp[z0H]),z2m (hcur x hx)]
def z0J (q:St) (x:Ary):St:={ q with c:={ q.c with id:=x.id,cop:=true,copied:=0,tgt:=q.c.next,next:=q.c.next+(x.n+4) } }
theorem z6M (h:SpInv q W f V) (hon:q.c.on=true) (hcur:∀ x∈q.xs,¬ (q.c.cop=true∧x.id=q.c.id)) {x:Ary}(hx:x∈q.xs) (h1:q.c.id<x.id) (h2:x.id≤q.c.last) (h3:∀ y∈q.xs,q.c.id<y.id→x.id≤y.id) {f':Int→Int}
  (w0:f' (x.at_+1)=q.c.next+4) (w1:∀ a,a≠x.at_+1→f' a=f a):SpInv (z0J q x) W f' V:=by
 have hold:∀ y∈q.xs,(Old (z0J q x) y↔Old q y):=by
  intro y hy
  constructor
  ·rintro⟨_,hl,r⟩
   have r':x.id<y.id∨(y.id=x.id∧true=true):=r
   exact⟨hon,hl,.inl (by omega)⟩
  ·rintro⟨_,hl,r|r⟩
   ·have:=h3 y hy r
    refine⟨hon,hl,?_⟩
    rcases Int.lt_or_eq_of_le this with r2|r2
    ·exact .inl r2
    ·exact .inr ⟨r2.symm,rfl⟩
   ·exact absurd ⟨r.2,r.1⟩ (hcur y hy)
 have hrem:remG sz q.c.id q.c.last q.xs=(x.n+4)+remG sz x.id q.c.last q.xs:=z2a h.sorted hx h1 h2 h3
 have hc1:=h.cyc hon
 have hxn:=(h.ids x hx).2.2
 refine⟨h.base0,h.half0,h.big,h.sorted,h.ids,h.given0,h.sums,fun r=>by rw[show (z0J q x).c.on=q.c.on from rfl,hon] at r;simp at r,fun y hy ho=>h.old_in y hy ((hold y hy).1 ho),fun y hy ho=>h.new_in y hy (fun r=>ho ((hold y hy).2 r)),h.dis,?_,?_,?_,?_,?_,fun a ha=>by have ha':a<q.base∨q.base+2*q.half≤a:=ha;have hl:=h.lies hx;exact (w1 a (by omega)).trans (h.beyond a ha')⟩
 ·intro y hy
  by_cases e:y.id=x.id
  ·obtain rfl:=z1h h.sorted hy hx e
   obtain⟨a1,a2,a3⟩:=h.words y hy
   refine⟨by rw[w1 _ (by omega)];exact a1,?_,fun j j0 jn=>by rw[w1 _ (by omega)];exact a3 j j0 jn⟩
   rw[w0]
   exact (z9w (q:=z0J q y) rfl rfl).symm
  ·have hd:=h.dis y hy x hx e
   refine (h.words y hy).of (h.ids y hy).2.2 (fun a b1 b2=>w1 a (by omega)) ?_ (fun _=>rfl)
   rw[z2m (q:=z0J q x) (fun r=>e r.2),z2m (hcur y hy)]
 ·intro _
  show 0≤x.id∧x.id≤q.c.last∧q.c.last≤q.given∧z0m q≤q.c.next+(x.n+4)∧q.c.next+(x.n+4)+remG sz x.id q.c.last q.xs≤z0B q
  omega
 ·intro _ y hy hl ho
  have:=h.done_in hon y hy hl (fun r=>ho ((hold y hy).2 r))
  show _≤q.c.next+(x.n+4)
  omega
 ·intro _ y hy hl
  have:=h.after hon y hy hl
  show q.c.next+(x.n+4)+remG sz x.id q.c.last q.xs≤_
  omega
 ·intro _
  refine⟨hon,fun y hy ey=>?_⟩
  obtain rfl:=z1h h.sorted hy hx ey
  refine⟨Int.le_refl _,hxn,hc1.2.2.2.1,rfl,fun z hz ez=>?_,fun i i0 ic=>?_⟩
  ·have ez':z.id<y.id:=ez
   refine h.done_in hon z hz (by omega) ?_
   rintro⟨_,_,r|r⟩
   ·have:=h3 z hz r;omega
   ·exact hcur z hz ⟨r.2,r.1⟩
  ·have:i<0:=ic
   omega
def z1G (q:St):St:={ q with c:={ q.c with copied:=q.c.copied+1 } }
theorem z90 (h:SpInv q W f V) (hcop:q.c.cop=true) {x:Ary}(hx:x∈q.xs) (ex:x.id=q.c.id) (hlt:q.c.copied<x.n) {f':Int→Int}(w0:f' (q.c.tgt+4+q.c.copied)=V x.id q.c.copied) (w1:∀ a,a≠q.c.tgt+4+q.c.copied→f' a=f a):SpInv (z1G q) W f' V:=by
 obtain⟨hon,hcc⟩:=h.copy hcop
 obtain⟨a1,a2,a3,a4,a5,a6⟩:=hcc x hx ex
 refine⟨h.base0,h.half0,h.big,h.sorted,h.ids,h.given0,h.sums,h.off,h.old_in,h.new_in,h.dis,?_,h.cyc,h.done_in,h.after,?_,fun a ha=>by have ha':a<q.base∨q.base+2*q.half≤a:=ha;have hh:=z1Y q;have hc2:=h.cyc hon;have h5:=h.rem0;have h6:=h.top;have h7:=h.half0;exact (w1 a (by omega)).trans (h.beyond a ha')⟩
 ·intro y hy
  have:=h.target hcop hx ex hy
  exact (h.words y hy).of (h.ids y hy).2.2 (fun a b1 b2=>w1 a (by omega)) rfl (fun _=>rfl)
 ·intro _
  refine⟨hon,fun y hy ey=>?_⟩
  obtain rfl:=z1h h.sorted hy hx (Eq.trans ey ex.symm)
  refine⟨by show 0≤q.c.copied+1;omega,by show q.c.copied+1≤_;omega,a3,a4,a5,fun i i0 ic=>?_⟩
  have ic':i<q.c.copied+1:=ic
  show f' (q.c.tgt+4+i)=V y.id i
  by_cases e:i=q.c.copied
  ·subst e;exact w0
  ·rw[w1 _ (by omega)];exact a6 i i0 (by omega)
def z0f (q:St) (k:Nat) (x:Ary):St:={ q with xs:=q.xs.set k ⟨x.id,q.c.tgt,x.n⟩,c:={ q.c with cop:=false } }
theorem z5c (h:SpInv q W f V) (hcop:q.c.cop=true) {k:Nat}{x:Ary}(hk:q.xs[k]?=some x) (ex:x.id=q.c.id) (hge:¬ q.c.copied<x.n) {f':Int→Int}(w0:f' q.c.tgt=q.c.tgt+4) (w1:f' (q.c.tgt+1)=0) (w2:∀ a,a≠q.c.tgt→a≠q.c.tgt+1→f' a=f a):
  SpInv (z0f q k x) W f' V:=by
 have hx:x∈q.xs:=List.mem_of_getElem? hk
 obtain⟨hon,hcc⟩:=h.copy hcop
 obtain⟨a1,a2,a3,a4,a5,a6⟩:=hcc x hx ex
 have hmem:∀ y,y∈(z0f q k x).xs→y=⟨x.id,q.c.tgt,x.n⟩∨(y∈q.xs∧y.id≠x.id):=fun y hy=>z8M h.sorted hk hy
 have hshape:(q.xs.set k ⟨x.id,q.c.tgt,x.n⟩).map (fun z=>(z.id,z.n))=q.xs.map (fun z=>(z.id,z.n)):=z3L hk rfl rfl
 have hsum:sumG sz (q.xs.set k ⟨x.id,q.c.tgt,x.n⟩)=sumG sz q.xs:=z84 hk rfl
 have hrem:remG sz q.c.id q.c.last (q.xs.set k ⟨x.id,q.c.tgt,x.n⟩)=remG sz q.c.id q.c.last q.xs:=z54 hk rfl rfl
 have hold:∀ y∈q.xs,y.id≠x.id→(Old (z0f q k x) y↔Old q y):=by
  intro y hy hne
  constructor
  ·rintro⟨_,hl,r|r⟩
   ·exact⟨hon,hl,.inl r⟩
   ·simp[z0f] at r
  ·rintro⟨_,hl,r|r⟩
   ·exact⟨hon,hl,.inl r⟩
   ·exact absurd (r.1.trans ex.symm) hne
 have hno:¬ Old (z0f q k x) ⟨x.id,q.c.tgt,x.n⟩:=by
  rintro⟨_,hl,r|r⟩
  ·have r':q.c.id<x.id:=r
   omega
  ·simp[z0f] at r
 have hc1:=h.cyc hon
 have hr0:=h.rem0
 refine⟨h.base0,h.half0,h.big,?_,?_,h.given0,?_,fun r=>by rw[show (z0f q k x).c.on=q.c.on from rfl,hon] at r;simp at r,?_,?_,?_,?_,?_,?_,?_,fun r=>by simp[z0f] at r,fun a ha=>by have ha':a<q.base∨q.base+2*q.half≤a:=ha;have hh:=z1Y q;have h6:=h.top;have h7:=h.half0;have h8:=(h.ids x hx).2.2;exact (w2 a (by omega) (by omega)).trans (h.beyond a ha')⟩
 ·exact (z4i _).2 (by rw[show (z0f q k x).xs=q.xs.set k ⟨x.id,q.c.tgt,x.n⟩ from rfl,hshape];exact (z4i _).1 h.sorted)
 ·intro y hy
  rcases hmem y hy with rfl|⟨hy,_⟩
  ·exact h.ids x hx
  ·exact h.ids y hy
 ·have:=h.sums
  simp only[z0f,hsum];exact this
 ·intro y hy ho
  rcases hmem y hy with rfl|⟨hy,e⟩
  ·exact absurd ho hno
  ·exact h.old_in y hy ((hold y hy e).1 ho)
 ·intro y hy ho
  rcases hmem y hy with rfl|⟨hy,e⟩
  ·exact⟨a3,by show q.c.tgt+(x.n+4)≤z0B q;omega⟩
  ·exact h.new_in y hy (fun r=>ho ((hold y hy e).2 r))
 ·intro y hy z hz hne
  rcases hmem y hy with rfl|⟨hy,e⟩
  ·rcases hmem z hz with rfl|⟨hz,e2⟩
   ·exact absurd rfl hne
   ·exact (h.target hcop hx ex hz).symm
  ·rcases hmem z hz with rfl|⟨hz,e2⟩
   ·exact h.target hcop hx ex hy
   ·exact h.dis y hy z hz hne
 ·intro y hy
  rcases hmem y hy with rfl|⟨hy,e⟩
  ·refine⟨w0,?_,fun i i0 ic=>?_⟩
   ·show f' (q.c.tgt+1)=_
    rw[w1,z2m (by simp[z0f])]
   ·have ic':i<x.n:=ic
    show f' (q.c.tgt+4+i)=V x.id i
    rw[w2 _ (by omega) (by omega)]
    exact a6 i i0 (by omega)
  ·have:=h.target hcop hx ex hy
   have hxn:=(h.ids x hx).2.2
   refine (h.words y hy).of (h.ids y hy).2.2 (fun a b1 b2=>w2 a (by omega) (by omega)) ?_ (fun _=>rfl)
   rw[z2m (by simp[z0f]),z2m (fun r=>e (r.2.trans ex.symm))]
 ·intro _
  show 0≤q.c.id∧q.c.id≤q.c.last∧q.c.last≤q.given∧z0m q≤q.c.next∧q.c.next+remG sz q.c.id q.c.last (q.xs.set k ⟨x.id,q.c.tgt,x.n⟩)≤z0B q
  rw[hrem];exact hc1
 ·intro _ y hy hl ho
  rcases hmem y hy with rfl|⟨hy,e⟩
  ·show q.c.tgt+(x.n+4)≤q.c.next;omega
  ·exact h.done_in hon y hy hl (fun r=>ho ((hold y hy e).2 r))
 ·intro _ y hy hl
  show q.c.next+remG sz q.c.id q.c.last (q.xs.set k ⟨x.id,q.c.tgt,x.n⟩)≤_
  rw[hrem]
  rcases hmem y hy with rfl|⟨hy,e⟩
  ·have:q.c.last<x.id:=hl
   omega
  ·exact h.after hon y hy hl
def z0D (q:St):Int:=1+remG wt q.c.id q.c.last q.xs+(if q.c.cop=true then remG (fun x=>x.n-q.c.copied+1) (q.c.id-1) q.c.id q.xs else 0)
theorem SpInv.rank1 (h:SpInv q W f V):1≤z0D q:=by
 have h1:0≤remG wt q.c.id q.c.last q.xs:=z31 fun x hx _ _=>by have:=h.ids x hx;show 0≤x.n+2;omega
 unfold z0D
 split
 ·rename_i hc
  have h2:0≤remG (fun x=>x.n-q.c.copied+1) (q.c.id-1) q.c.id q.xs:=z31 fun x hx l1 l2=>by
   have:=(h.copy hc).2 x hx (by omega)
   show 0≤x.n-q.c.copied+1
   omega
  omega
 ·omega
theorem z4S {g:Ary→Int}{xs:List Ary}(hs:z0h xs) {x:Ary}(hx:x∈xs):remG g (x.id-1) x.id xs=g x:=by
 rw[z2a hs hx (by omega) (Int.le_refl _) (fun y _ _=>by omega),z38 (fun y _ r=>by omega)];omega
theorem z8G (h:SpInv q W f V):z0D (z0x q)=1+sumG wt q.xs:=by
 unfold z0D
 have:remG wt 0 q.given q.xs=sumG wt q.xs:=z4Y fun x hx=>by have:=h.ids x hx;omega
 simp only[z0x,this]
 simp
theorem z5k (h:SpInv q W f V) (hcur:∀ x∈q.xs,¬ (q.c.cop=true∧x.id=q.c.id)) {x:Ary}(hx:x∈q.xs) (h1:q.c.id<x.id) (h2:x.id≤q.c.last) (h3:∀ y∈q.xs,q.c.id<y.id→x.id≤y.id):z0D (z0J q x)+1=z0D q:=by
 have e1:remG wt q.c.id q.c.last q.xs=(x.n+2)+remG wt x.id q.c.last q.xs:=z2a h.sorted hx h1 h2 h3
 have e2:remG (fun y=>y.n-0+1) (x.id-1) x.id q.xs=x.n-0+1:=z4S h.sorted hx
 have e3:(if q.c.cop=true then remG (fun x=>x.n-q.c.copied+1) (q.c.id-1) q.c.id q.xs else 0)=0:=by
  split
  ·rename_i hc
   exact z38 fun y hy r=>hcur y hy ⟨hc,by omega⟩
  ·rfl
 unfold z0D
 rw[e3,e1]
 simp only[z0J,if_true]
 rw[e2];omega
theorem z6N (h:SpInv q W f V) (hcop:q.c.cop=true) {x:Ary}(hx:x∈q.xs) (ex:x.id=q.c.id):z0D (z1G q)+1=z0D q:=by
 have e1:remG (fun y=>y.n-q.c.copied+1) (x.id-1) x.id q.xs=x.n-q.c.copied+1:=z4S h.sorted hx
 have e2:remG (fun y=>y.n-(q.c.copied+1)+1) (x.id-1) x.id q.xs=x.n-(q.c.copied+1)+1:=z4S h.sorted hx
 rw[ex] at e1 e2
 unfold z0D
 simp only[z1G,hcop,if_true,e1,e2];omega
theorem z4w (h:SpInv q W f V) (hcop:q.c.cop=true) {k:Nat}{x:Ary}(hk:q.xs[k]?=some x) (ex:x.id=q.c.id):z0D (z0f q k x)<z0D q:=by
 have hx:x∈q.xs:=List.mem_of_getElem? hk
 have e1:remG (fun y=>y.n-q.c.copied+1) (x.id-1) x.id q.xs=x.n-q.c.copied+1:=z4S h.sorted hx
 have a2:=((h.copy hcop).2 x hx ex).2.1
 have e2:remG wt q.c.id q.c.last (q.xs.set k ⟨x.id,q.c.tgt,x.n⟩)=remG wt q.c.id q.c.last q.xs:=z54 hk rfl rfl
 rw[ex] at e1
 unfold z0D
 rw[if_pos hcop,e1]
 simp only[z0f,e2]
 simp;omega
end
end Go.Proofs.YthkelaeemefnaaaGreat
namespace Go.Proofs.YthkelaeemefnaaaGreat
open Go.RowKit
theorem Bt.of_grown {P:Nat→Prop}{w w':World}{r:Option Nat}(h:w.grownBy w' r) (hr:∀ k,r=some k→P k):Bt P w w':=⟨h.os,h.tape,h.output,h.size,fun k hk e=>h.block k hk (fun q=>e (hr k q.symm))⟩
def natf (f:Int→Int):Nat→Int:=fun i=>f (i:Int)
def updI (f:Int→Int) (a v:Int):Int→Int:=fun j=>if j=a then v else f j
theorem z1j (f:Int→Int) (a v:Int):updI f a v a=v:=by simp[updI]
theorem z0o (f:Int→Int) {a j:Int}(v:Int) (h:j≠a):updI f a v j=f j:=by simp[updI,h]
theorem z4x (f:Int→Int) (a:Nat) (v:Int):upd (natf f) a v=natf (updI f (a:Int) v):=by
 funext j;simp only[upd,natf,updI,Int.ofNat_inj]
def tick (c:Int→Int) (g:Int):Int→Int:=updI c g (wrap64 (c g+1))
section
variable {w:World}{b bw bs W G:Nat}{f c:Int→Int}
theorem zgc (h:Ar w b bw bs W G (natf f) (natf c)) (g a:Int) (hg:0≤g∧g<G) (ha:0≤a∧a<W):
  Calls Tryz.prog 201 #[.pointer (some ⟨b,0,none⟩),.int .i64 g,.int .i64 a] w fun e w'=>e=.returned (.tuple #[.int .i64 (f a),.int .i64 0])∧Ar w' b bw bs W G (natf f) (natf (tick c g))∧But bw bs w w':=by
 obtain⟨g,rfl⟩:=Int.eq_ofNat_of_zero_le hg.1
 obtain⟨a,rfl⟩:=Int.eq_ofNat_of_zero_le ha.1
 refine (zaw h g a (by omega) (by omega)).mono ?_
 rintro e w' ⟨rfl,hA,hB⟩
 rw[z4x] at hA
 exact⟨rfl,hA,hB⟩
theorem zfz (h:Ar w b bw bs W G (natf f) (natf c)) (g a x:Int) (hg:0≤g∧g<G) (ha:0≤a∧a<W):
  Calls Tryz.prog 232 #[.pointer (some ⟨b,0,none⟩),.int .i64 g,.int .i64 a,.int .i64 x] w fun e w'=>e=.returned (.int .i64 0)∧Ar w' b bw bs W G (natf (updI f a x)) (natf (tick c g))∧But bw bs w w':=by
 obtain⟨g,rfl⟩:=Int.eq_ofNat_of_zero_le hg.1
 obtain⟨a,rfl⟩:=Int.eq_ofNat_of_zero_le ha.1
 refine (z7T h g a x (by omega) (by omega)).mono ?_
 rintro e w' ⟨rfl,hA,hB⟩
 rw[z4x,z4x] at hA
 exact⟨rfl,hA,hB⟩
end
structure Sp (w:World) (P:Nat→Prop) (s b bw bs W G:Nat) (v:Value) (q:St) (f c:Int→Int):Prop where
 here:w.heap[s]?=some (.cells #[.pointer (some ⟨b,0,none⟩),.int .i64 q.base,.int .i64 q.half,.bool q.up,.int .i64 q.given,v,.int .i64 q.taken,.int .i64 q.dropped,.int .i64 q.leaving,.bool q.c.on,.int .i64 q.c.last,.int .i64 q.c.id,.bool q.c.cop,.int .i64 q.c.copied,.int .i64 q.c.tgt,.int .i64 q.c.next] 213 (0,0))
 ar:Ar w b bw bs W G (natf f) (natf c)
 row:Arys w v q.xs
 own:P s∧P b∧P bw∧P bs∧∀ k,v.ownBlock=some k→P k
section
variable {w:World}{P:Nat→Prop}{s b bw bs W G:Nat}{v:Value}{q:St}{f c:Int→Int}
theorem Sp.lt (h:Sp w P s b bw bs W G v q f c):s<w.heap.size:=(Array.getElem?_eq_some_iff.1 h.here).1
theorem Sp.below {w':World}(h:Sp w P s b bw bs W G v q f c) (k:Below w.heap.size w w'):Sp w' P s b bw bs W G v q f c :=
 ⟨(k.block _ h.lt).trans h.here,h.ar.below k,h.row.below k,h.own⟩
theorem Sp.same {w':World}{P':Nat→Prop}{v':Value}{q':St}{f' c':Int→Int}(h:Sp w P s b bw bs W G v q f c) (h':Sp w' P' s b bw bs W G v' q' f' c'):w'.heap[b]?=w.heap[b]?:=h'.ar.here.trans h.ar.here.symm
theorem Sp.s_bw (h:Sp w P s b bw bs W G v q f c):s≠bw:=by
 rintro rfl
 obtain⟨c,hc,_⟩:=h.ar.words
 rw[h.here] at hc;simp at hc
theorem Sp.s_bs (h:Sp w P s b bw bs W G v q f c):s≠bs:=by
 rintro rfl
 obtain⟨c,hc,_⟩:=h.ar.steps
 rw[h.here] at hc;simp at hc
theorem Sp.s_b (h:Sp w P s b bw bs W G v q f c):s≠b:=by
 rintro rfl
 have:=h.ar.here
 rw[h.here] at this;simp at this
theorem Sp.row_ne (h:Sp w P s b bw bs W G v q f c) {k:Nat}(hk:v.ownBlock=some k):k≠s∧k≠b∧k≠bw∧k≠bs∧k<w.heap.size:=by
 rcases h.row.shape with ⟨rfl,_⟩|⟨p,cap,rfl,_,_,cur,hp,_⟩
 ·simp[Value.ownBlock] at hk
 ·simp only[Value.ownBlock,Option.some.injEq] at hk
  subst hk
  refine⟨?_,?_,?_,?_,(Array.getElem?_eq_some_iff.1 hp).1⟩
  ·rintro rfl;rw[h.here] at hp;simp at hp
  ·rintro rfl;rw[h.ar.here] at hp;simp at hp
  ·rintro rfl;obtain⟨c,hc,_⟩:=h.ar.words;rw[hp] at hc;simp at hc
  ·rintro rfl;obtain⟨c,hc,_⟩:=h.ar.steps;rw[hp] at hc;simp at hc
theorem Arys.of_block {w w':World}{v:Value}{xs:List Ary}(h:Arys w v xs) (e:∀ k,v.ownBlock=some k→w'.heap[k]?=w.heap[k]?):Arys w' v xs:=by
 refine⟨h.1,?_⟩
 rcases h.2 with r|⟨g,cap,cur,rfl,h1,h2,h3⟩
 ·exact .inl r
 ·exact .inr ⟨g,cap,cur,rfl,h1,(e g rfl).trans h2,h3⟩
theorem Sp.rows {w':World}{f' c':Int→Int}(h:Sp w P s b bw bs W G v q f c) (hA:Ar w' b bw bs W G (natf f') (natf c')) (hB:But bw bs w w'):Sp w' P s b bw bs W G v q f' c'∧Bt P w w' :=
 ⟨⟨(hB.block _ h.lt h.s_bw h.s_bs).trans h.here,hA,h.row.of_block fun k hk=>have r:=h.row_ne hk;hB.block k r.2.2.2.2 r.2.2.1 r.2.2.2.1,h.own⟩,Bt.of_but hB h.own.2.2.1 h.own.2.2.2.1⟩
theorem z7s {w:World}{s k:Nat}{arr:Array Value}{t:TypeId}(h:w.heap[s]?=some (.cells arr t (0,0))) (x:Value):(w.setCell ⟨s,k,none⟩ x).heap[s]?=some (.cells (arr.setIfInBounds k x) t (0,0)):=by
 simp[World.setCell,Array.getElem?_modify,h]
theorem Sp.poke (h:Sp w P s b bw bs W G v q f c) (k:Nat) (x:Value) {q':St}(hx:q'.xs=q.xs) (e:(#[.pointer (some ⟨b,0,none⟩),.int .i64 q.base,.int .i64 q.half,.bool q.up,.int .i64 q.given,v,.int .i64 q.taken,.int .i64 q.dropped,.int .i64 q.leaving,.bool q.c.on,.int .i64 q.c.last,.int .i64 q.c.id,.bool q.c.cop,.int .i64 q.c.copied,.int .i64 q.c.tgt,.int .i64 q.c.next]:Array Value).setIfInBounds k x=(fun q:St=>#[.pointer (some ⟨b,0,none⟩),.int .i64 q.base,.int .i64 q.half,.bool q.up,.int .i64 q.given,v,.int .i64 q.taken,.int .i64 q.dropped,.int .i64 q.leaving,.bool q.c.on,.int .i64 q.c.last,.int .i64 q.c.id,.bool q.c.cop,.int .i64 q.c.copied,.int .i64 q.c.tgt,.int .i64 q.c.next]) q'):Sp (w.setCell ⟨s,k,none⟩ x) P s b bw bs W G v q' f c∧Bt P w (w.setCell ⟨s,k,none⟩ x):=by
 refine⟨⟨by rw[z7s h.here,e],?_,?_,h.own⟩,(Bt.refl _ _).set _ _ _ (.inl h.own.1)⟩
 ·exact⟨by rw[Below.heap_setCell _ _ _ _ (fun r=>h.s_b r.symm)];exact h.ar.here,h.ar.words.setOther (fun r=>h.s_bw r.symm) _,h.ar.steps.setOther (fun r=>h.s_bs r.symm) _,h.ar.part⟩
 ·rw[hx]
  exact h.row.of_block fun k hk=>Below.heap_setCell _ _ _ _ (h.row_ne hk).1
theorem Sp.cells (h:Sp w P s b bw bs W G v q f c):w.cell? ⟨s,0,none⟩=some (.pointer (some ⟨b,0,none⟩))∧w.cell? ⟨s,1,none⟩=some (.int .i64 q.base)∧w.cell? ⟨s,2,none⟩=some (.int .i64 q.half)∧w.cell? ⟨s,3,none⟩=some (.bool q.up)∧w.cell? ⟨s,4,none⟩=some (.int .i64 q.given)∧w.cell? ⟨s,5,none⟩=some v∧w.cell? ⟨s,6,none⟩=some (.int .i64 q.taken)∧w.cell? ⟨s,7,none⟩=some (.int .i64 q.dropped)∧w.cell? ⟨s,8,none⟩=some (.int .i64 q.leaving)∧w.cell? ⟨s,9,none⟩=some (.bool q.c.on)∧w.cell? ⟨s,10,none⟩=some (.int .i64 q.c.last)∧w.cell? ⟨s,11,none⟩=some (.int .i64 q.c.id)∧w.cell? ⟨s,12,none⟩=some (.bool q.c.cop)∧w.cell? ⟨s,13,none⟩=some (.int .i64 q.c.copied)∧w.cell? ⟨s,14,none⟩=some (.int .i64 q.c.tgt)∧w.cell? ⟨s,15,none⟩=some (.int .i64 q.c.next):=by
 simp[World.cell?,h.here]
theorem Sp.c0 (h:Sp w P s b bw bs W G v q f c):w.cell? ⟨s,0,none⟩=some (.pointer (some ⟨b,0,none⟩)):=h.cells.1
theorem Sp.frozen (h:Sp w P s b bw bs W G v q f c) (k:Nat):w.frozen? ⟨s,k,none⟩=false:=by simp[World.frozen?,h.here]
theorem z51 (h:Sp w P s b bw bs W G v q f c) (g a:Int) (hg:0≤g∧g<G) (ha:0≤a∧a<W):
  Calls Tryz.prog 201 #[.pointer (some ⟨b,0,none⟩),.int .i64 g,.int .i64 a] w fun e w'=>e=.returned (.tuple #[.int .i64 (f a),.int .i64 0])∧Sp w' P s b bw bs W G v q f (tick c g)∧Bt P w w' :=
 (zgc h.ar g a hg ha).mono fun _ _ r=>⟨r.1,h.rows r.2.1 r.2.2⟩
theorem z1M (h:Sp w P s b bw bs W G v q f c) (g a x:Int) (hg:0≤g∧g<G) (ha:0≤a∧a<W):
  Calls Tryz.prog 232 #[.pointer (some ⟨b,0,none⟩),.int .i64 g,.int .i64 a,.int .i64 x] w fun e w'=>e=.returned (.int .i64 0)∧Sp w' P s b bw bs W G v q (updI f a x) (tick c g)∧Bt P w w' :=
 (zfz h.ar g a x hg ha).mono fun _ _ r=>⟨r.1,h.rows r.2.1 r.2.2⟩
theorem z35 (n:Int) (w:World) (h0:-1000000≤n) (h1:n≤1000000):Calls Tryz.prog 263 #[.int .i64 n] w fun e w'=>e=.returned (.int .i64 (n+4))∧w'=w:=by
 go_enter Tryz.func263,Tryz.ntmps263
 go_wp2
 go_ret
 exact⟨rfl,rfl⟩
theorem z2h (n:Int) (w:World) (h0:-1000000≤n) (h1:n≤1000000):Calls Tryz.prog 268 #[.int .i64 n] w fun e w'=>e=.returned (.int .i64 (n+4))∧w'=w:=by
 go_enter Tryz.func268,Tryz.ntmps268
 go_wp2
 go_ret
 exact⟨rfl,rfl⟩
theorem z7O (h:Sp w P s b bw bs W G v q f c) (h0:0≤q.base∧q.base≤100000) (h1:0≤q.half∧q.half≤100000):Calls Tryz.prog 265 #[.pointer (some ⟨s,0,none⟩)] w fun e w'=>e=.returned (.int .i64 (z0m q))∧Below w.heap.size w w':=by
 have cc:=h.cells
 cases hu:q.up with
 | true =>
  rw[hu] at cc
  have e:z0m q=q.base+q.half:=by simp[z0m,hu]
  rw[e]
  clear h hu e
  go_enter Tryz.func265,Tryz.ntmps265
  go_wp2
  go_quiet (fail)
  go_wp2
  go_ret
  exact⟨rfl,z00 _ _ _⟩
 | false =>
  rw[hu] at cc
  have e:z0m q=q.base:=by simp[z0m,hu]
  rw[e]
  clear h hu e
  go_enter Tryz.func265,Tryz.ntmps265
  go_wp2
  go_ret
  exact⟨rfl,Below.refl _ _⟩
theorem zd0 (h:Sp w P s b bw bs W G v q f c) (h0:0≤q.taken∧q.taken≤100000) (h1:0≤q.half∧q.half≤100000):Calls Tryz.prog 264 #[.pointer (some ⟨s,0,none⟩)] w fun e w'=>e=.returned (.int .i64 (q.half-q.taken))∧Below w.heap.size w w':=by
 have cc:=h.cells
 clear h
 go_enter Tryz.func264,Tryz.ntmps264
 go_wp2
 go_quiet (fail)
 go_wp2
 go_ret
 exact⟨rfl,z00 _ _ _⟩
theorem z0P (h:Sp w P s b bw bs W G v q f c) (st i:Int) (hs:0≤st∧st≤1000000) (hi:0≤i∧i≤1000000) (h0:0≤q.base∧q.base≤100000) (h1:0≤q.half∧q.half≤100000) (h2:q.base≤st+i) (h3:st+i<q.base+2*q.half):
  Calls Tryz.prog 267 #[.pointer (some ⟨s,0,none⟩),.int .i64 st,.int .i64 i] w fun e w'=>e=.returned (.int .i64 (st+i))∧Below w.heap.size w w':=by
 have cc:=h.cells
 have d1:decide (st+i<q.base)=false:=by simp;omega
 have d2:decide (q.base+2*q.half≤st+i)=false:=by simp;omega
 clear h
 go_enter Tryz.func267,Tryz.ntmps267
 go_wp2
 go_quiet (fail)
 go_wp2
 go_ret
 exact⟨rfl,z00 _ _ _⟩
end
end Go.Proofs.YthkelaeemefnaaaGreat
namespace Go.Proofs.YthkelaeemefnaaaGreat
open Go.RowKit
section
variable {w:World}{P:Nat→Prop}{s b bw bs W G:Nat}{v:Value}{q:St}{f c:Int→Int}
theorem Sp.elem (h:Sp w P s b bw bs W G v q f c) {p k:Nat}{x:Ary}(hp:v.ownBlock=some p) (hk:q.xs[k]?=some x):
  w.cell? ⟨p,k*3,none⟩=some (.int .i64 x.id)∧w.cell? ⟨p,k*3+1,none⟩=some (.int .i64 x.at_)∧w.cell? ⟨p,k*3+2,none⟩=some (.int .i64 x.n)∧w.frozen? ⟨p,k*3+1,none⟩=false:=by
 obtain⟨p',cap,rfl,_,_,hf,hc⟩:=h.row.cells (by have:=(List.getElem?_eq_some_iff.1 hk).1;omega)
 simp only[Value.ownBlock,Option.some.injEq] at hp
 subst hp
 obtain⟨a,b,c⟩:=hc k x hk
 exact⟨a,b,c,hf _⟩
theorem Sp.drewn (h:Sp w P s b bw bs W G v q f c) (n:Nat):Sp (w.drewN n) P s b bw bs W G v q f c:=h.below (z00 w n _)
theorem z0i (w:World) (n:Nat):Bt P w (w.drewN n):=Bt.of_below (z00 w n _)
theorem z4A (h:Sp w P s b bw bs W G v q f c) (g:Int) {p k:Nat}{x:Ary}(hp:v.ownBlock=some p) (hk:q.xs[k]?=some x) (hg:0≤g∧g<G) (ha:0≤x.at_∧x.at_<W):
  Calls Tryz.prog 284 #[.pointer (some ⟨s,0,none⟩),.int .i64 g,.pointer (some ⟨p,k*3,none⟩)] w fun e w'=>e=.returned (.int .i64 (f x.at_))∧Sp w' P s b bw bs W G v q f (tick c g)∧Bt P w w':=by
 have c0:=h.c0
 have c1:=(h.elem hp hk).2.1
 have hd:=h.drewn 1
 go_enter Tryz.func284,Tryz.ntmps284
 go_wp2
 go_region_held3 (fun w'=>w'.cell? ⟨s,0,none⟩=some (.pointer (some ⟨b,0,none⟩))∧w'.cell? ⟨p,k*3+1,none⟩=some (.int .i64 x.at_)) (go_keep)
  ((go_at_call 201;refine (z51 hd g x.at_ hg ha).mono ?_;rintro e w3 ⟨rfl,hS,hB⟩;have d1:=hS.c0;have d2:=(hS.elem hp hk).2.1))
 go_wp2
 go_ret
 exact⟨rfl,hS,(z0i w 1).trans hB⟩
theorem z6D (h:Sp w P s b bw bs W G v q f c) (g:Int) {p k:Nat}{x:Ary}(hp:v.ownBlock=some p) (hk:q.xs[k]?=some x) (hg:0≤g∧g<G) (ha:0≤x.at_∧x.at_+1<W) (hW:W≤65536):
  Calls Tryz.prog 285 #[.pointer (some ⟨s,0,none⟩),.int .i64 g,.pointer (some ⟨p,k*3,none⟩)] w fun e w'=>e=.returned (.int .i64 (f (x.at_+1)))∧Sp w' P s b bw bs W G v q f (tick c g)∧Bt P w w':=by
 have c0:=h.c0
 have c1:=(h.elem hp hk).2.1
 have hd:=h.drewn 1
 obtain⟨xi,xa,xn⟩:=x
 simp only at c1 ha
 have hb0:0≤xa:=ha.1
 have hb:xa≤65536:=by omega
 have ew:IntKind.i64.wrap (xa+1)=xa+1:=by rw[IntKind.wrap_i64];omega
 go_enter Tryz.func285,Tryz.ntmps285
 go_wp2
 go_region_held3 (fun w'=>w'.cell? ⟨s,0,none⟩=some (.pointer (some ⟨b,0,none⟩))∧w'.cell? ⟨p,k*3+1,none⟩=some (.int .i64 xa)) (go_keep)
  ((go_at_call 201;refine (z51 hd g (xa+1) hg (by omega)).mono ?_;rintro e w3 ⟨rfl,hS,hB⟩;have d1:=hS.c0;have d2:=(hS.elem hp hk).2.1))
 go_wp2
 go_ret
 exact⟨rfl,hS,(z0i w 1).trans hB⟩
theorem z4g (h:Sp w P s b bw bs W G v q f c) (g a st:Int) (hg:0≤g∧g<G) (ha:0≤a∧a+1<W) (hW:W≤65536):
  Calls Tryz.prog 270 #[.pointer (some ⟨s,0,none⟩),.int .i64 g,.int .i64 a,.int .i64 st] w fun e w'=>e=.returned (.tuple #[])∧Sp w' P s b bw bs W G v q (updI f (a+1) st) (tick c g)∧Bt P w w':=by
 have c0:=h.c0
 have hb:a≤65536:=by omega
 go_enter Tryz.func270,Tryz.ntmps270
 go_wp2_with (go_at_call 232;refine (z1M h g (a+1) st hg (by omega)).mono ?_;rintro e w3 ⟨rfl,hS,hB⟩)
 go_end0
 exact⟨rfl,hS,hB⟩
theorem zdm (h:Sp w P s b bw bs W G v q f c) (g a:Int) (hg:0≤g∧g<G) (ha:0≤a∧a+1<W) (hW:W≤65536):
  Calls Tryz.prog 266 #[.pointer (some ⟨s,0,none⟩),.int .i64 g,.int .i64 a] w fun e w'=>e=.returned (.tuple #[])∧Sp w' P s b bw bs W G v q (updI (updI f a (a+4)) (a+1) 0) (tick (tick c g) g)∧Bt P w w':=by
 have c0:=h.c0
 have hd:=h.drewn 1
 have hb:a≤65536:=by omega
 go_enter Tryz.func266,Tryz.ntmps266
 go_wp2
 go_region_held3 (fun w'=>w'.cell? ⟨s,0,none⟩=some (.pointer (some ⟨b,0,none⟩))) (go_keep)
  (first
   | (go_at_call 232;refine (z1M hd g a (a+4) hg (by omega)).mono ?_;rintro e w3 ⟨rfl,hS,hB⟩;have d1:=hS.c0)
   | (go_at_call 268;refine (z2h a _ (by omega) (by omega)).mono ?_;rintro e w2 ⟨rfl,rfl⟩))
 go_wp2_with (go_at_call 270;refine (z4g hS g a 0 hg ha hW).mono ?_;rintro e w4 ⟨rfl,hS4,hB4⟩)
 go_end0
 exact⟨rfl,hS4,((z0i w 1).trans hB).trans hB4⟩
theorem z5E (h:Sp w P s b bw bs W G v q f c) (hs:z0h q.xs) (hl:q.xs.length<1000000) (g t i:Int) {x:Ary}(hh:has q.xs t=true) (hk:q.xs[pos q.xs t]?=some x) (hg:0≤g∧g<G) (hi:0≤i∧i<x.n):
  Calls Tryz.prog 283 #[.pointer (some ⟨s,0,none⟩),.int .i64 g,.int .i64 t,.int .i64 i] w fun e w'=>∃ p,v.ownBlock=some p∧e=.returned (.tuple #[.pointer (some ⟨p,pos q.xs t*3,none⟩),.int .i64 0])∧Below w.heap.size w w':=by
 have cc:=h.cells
 have hF:=z4J h.row hs hl t hh
 have hA:=fun (w1:World) (hb:Below w.heap.size w w1)=>z0k (h.below hb).ar g hg.1 hg.2
 have hE:=fun (w1:World) (hb:Below w.heap.size w w1) (p:Nat) (hp:v.ownBlock=some p)=>And.intro ((h.below hb).elem hp hk).2.2.1 (h.below hb).c0
 have d1:decide (x.n≤i)=false:=by simp;omega
 generalize pos q.xs t=k at *
 clear hh hk hs h
 go_enter Tryz.func283,Tryz.ntmps283
 go_wp2_with (first
  | (go_at_call 281;refine hF.mono ?_;rintro e w1 ⟨p,hp,rfl,hb⟩;obtain⟨e1,e2⟩:=hE w1 hb p hp)
  | (go_at_call 115;refine (hA _ hb).mono ?_;rintro e w9 ⟨rfl,rfl⟩))
 go_ret2
 exact⟨p,hp,rfl,hb⟩
end
end Go.Proofs.YthkelaeemefnaaaGreat
