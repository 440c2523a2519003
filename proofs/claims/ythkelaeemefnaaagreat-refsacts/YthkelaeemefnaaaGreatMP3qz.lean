import Derived.Test.YthkelaeemefnaaaGreatMP2qz
set_option maxRecDepth 20000
set_option maxHeartbeats 1000000
namespace Go.Proofs.YthkelaeemefnaaaGreat
open Go.RowKit
theorem zc1 (a b:Int):wrap64 (wrap64 a+b)=wrap64 (a+b):=by
 simp only[wrap64];omega
def Ticked (c c':Int→Int) (g k:Int):Prop:=(∀ j,j≠g→c' j=c j)∧∃ d,0≤d∧d≤k∧c' g=wrap64 (c g+d)
theorem Ticked.refl {c:Int→Int}{g k:Int}(hk:0≤k) (hc:wrap64 (c g)=c g):Ticked c c g k:=⟨fun _ _=>rfl,0,by omega,hk,by rw[Int.add_zero];exact hc.symm⟩
theorem Ticked.first (c:Int→Int) (g:Int):Ticked c (tick c g) g 1:=⟨fun j hj=>z0o _ _ hj,1,by omega,by omega,z1j _ _ _⟩
theorem Ticked.tick {c c':Int→Int}{g k:Int}(h:Ticked c c' g k):Ticked c (tick c' g) g (k+1):=by
 obtain⟨h1,d,h2,h3,h4⟩:=h
 refine⟨fun j hj=>(z0o _ _ hj).trans (h1 j hj),d+1,by omega,by omega,?_⟩
 unfold YthkelaeemefnaaaGreat.tick
 rw[z1j,h4,zc1]
 congr 1;omega
theorem Ticked.mono {c c':Int→Int}{g k k':Int}(h:Ticked c c' g k) (hk:k≤k'):Ticked c c' g k':=⟨h.1,by obtain⟨d,a,b,e⟩:=h.2;exact⟨d,a,by omega,e⟩⟩
def Gd (w:World) (P:Nat→Prop) (s b W G:Nat) (q:St) (V:Int→Int→Int) (c:Int→Int):Prop:=W≤65536∧∃ bw bs v f,Sp w P s b bw bs W G v q f c∧SpInv q W f V
def SpTurn (w:World) (P:Nat→Prop) (s b W G:Nat) (q:St) (V:Int→Int→Int) (c:Int→Int) (w':World):Prop:=∃ P',Gd w' P' s b W G q V c∧Bt P w w'∧Wider P P' w∧w'.heap[b]?=w.heap[b]?
section
variable {w:World}{P:Nat→Prop}{s b W G:Nat}{q:St}{V:Int→Int→Int}{c:Int→Int}
theorem Gd.below {w':World}(h:Gd w P s b W G q V c) (hb:Below w.heap.size w w'):Gd w' P s b W G q V c:=by
 obtain⟨h1,bw,bs,v,f,h2,h3⟩:=h
 exact⟨h1,bw,bs,v,f,h2.below hb,h3⟩
theorem zaV:∀ {xs:List Ary},(∀ x∈xs,0≤x.n)→(xs.length:Int)*4≤sumG sz xs
 | [],_=>by simp[sumG]
 | x::r,h=>by
  have h1:=zaV (xs:=r) fun y hy=>h y (List.mem_cons_of_mem _ hy)
  have:=h x (by simp)
  simp only[sumG,List.length_cons,sz]
  omega
theorem SpInv.short {f:Int→Int}(h:SpInv q W f V) (hW:W≤65536):q.xs.length<1000000:=by
 have h1:=zaV fun x hx=>(h.ids x hx).2.2
 have h2:=h.sums
 have h3:=h.big
 have h4:=h.base0
 omega
theorem SpInv.at_id {f:Int→Int}(h:SpInv q W f V) {x:Ary}(hx:x∈q.xs):has q.xs x.id=true∧q.xs[pos q.xs x.id]?=some x:=by
 have h1:has q.xs x.id=true:=(z4B _ _).2 ⟨x,hx,rfl⟩
 obtain⟨y,hy,e⟩:=z5m h.sorted h1
 obtain rfl:=z1h h.sorted (List.mem_of_getElem? hy) hx e
 exact⟨h1,hy⟩
theorem zeZ (h:Gd w P s b W G q V c) {x:Ary}(hx:x∈q.xs) (g i:Int) (hg:0≤g∧g<G) (hi:0≤i∧i<x.n):
  Calls Tryz.prog 277 #[.pointer (some ⟨s,0,none⟩),.int .i64 g,.int .i64 x.id,.int .i64 i] w fun e w'=>e=.returned (.tuple #[.int .i64 (V x.id i),.int .i64 0])∧∃ c',Ticked c c' g 2∧SpTurn w P s b W G q V c' w':=by
 obtain⟨hW,bw,bs,v,f,h,hI⟩:=h
 obtain⟨hh,hk⟩:=hI.at_id hx
 obtain⟨l1,l2,l3⟩:=hI.lies hx
 have hb0:=hI.base0
 have hb1:=hI.half0
 have hb2:=hI.big
 have hA:=z5E h hI.sorted (hI.short hW) g x.id i hh hk hg hi
 have Z1:Hid (f x.at_=x.at_+4):=(hI.words x hx).1
 have Z3:Hid (f (x.at_+4+i)=V x.id i):=(hI.words x hx).2.2 i hi.1 hi.2
 have HI:Hid (SpInv q W f V):=hI
 clear hI
 generalize pos q.xs x.id=k at *
 go_enter Tryz.func277,Tryz.ntmps277
 go_wp2_with (go_at_call 283;refine hA.mono ?_;rintro e w1 ⟨p,hp,rfl,hb⟩;have h1:=h.below hb;have d0:=h1.c0)
 have hd:=h1.drewn 1
 go_region_held3 (fun w'=>w'.cell? ⟨s,0,none⟩=some (.pointer (some ⟨b,0,none⟩))) (go_keep)
  (first
   | (go_at_call 284;refine (z4A hd g hp hk hg (by omega)).mono ?_;rintro e w2 ⟨rfl,hS2,hB2⟩;have d2:=hS2.c0;rw[Z1.out])
   | (go_at_call 267;refine (z0P hS2 (x.at_+4) i (by omega) (by omega) (by omega) (by omega) (by omega) (by omega)).mono ?_;rintro e w3 ⟨rfl,hb3⟩;have hS3:=hS2.below hb3;have d3:=hS3.c0)
   | (go_at_call 201;refine (z51 hS3 g (x.at_+4+i) hg (by omega)).mono ?_;rintro e w4 ⟨rfl,hS4,hB4⟩;have d4:=hS4.c0))
 go_wp2
 go_ret2
 refine⟨by rw[Z3.out];rfl,_,(Ticked.first c g).tick.mono (by omega),P,⟨hW,bw,bs,v,f,hS4,HI.out⟩,?_,Wider.refl _ _,h.same hS4⟩
 exact ((Bt.of_below hb).trans ((z0i w1 1).trans hB2)).trans ((Bt.of_below hb3).trans hB4)
theorem z9M (h:Gd w P s b W G q V c) {x:Ary}(hx:x∈q.xs) (g i y:Int) (hg:0≤g∧g<G) (hi:0≤i∧i<x.n):
  Calls Tryz.prog 278 #[.pointer (some ⟨s,0,none⟩),.int .i64 g,.int .i64 x.id,.int .i64 i,.int .i64 y] w fun e w'=>e=.returned (.int .i64 0)∧∃ c',Ticked c c' g 4∧SpTurn w P s b W G q (updV V x.id i y) c' w':=by
 obtain⟨hW,bw,bs,v,f,h,hI⟩:=h
 obtain⟨hh,hk⟩:=hI.at_id hx
 obtain⟨l1,l2,l3⟩:=hI.lies hx
 have hb0:=hI.base0
 have hb1:=hI.half0
 have hb2:=hI.big
 have hA:=z5E h hI.sorted (hI.short hW) g x.id i hh hk hg hi
 have Z1:Hid (f x.at_=x.at_+4):=(hI.words x hx).1
 have hfi:=z1Y q
 have hfh:=hI.half0
 have Z2:Hid (updI f (x.at_+4+i) y (x.at_+1)=tw q x):=(z0o _ _ (by omega)).trans (hI.words x hx).2.1
 generalize pos q.xs x.id=k at *
 by_cases ht:tw q x=0
 ·have HI:Hid (SpInv q W (updI f (x.at_+4+i) y) (updV V x.id i y)):=z9Q hI hx hi.1 hi.2 (z1j _ _ _) (fun r=>absurd ht r) (fun a r _=>z0o _ _ r)
  rw[ht] at Z2
  clear hI ht hfi
  go_enter Tryz.func278,Tryz.ntmps278
  go_wp2_with (go_at_call 283;refine hA.mono ?_;rintro e w1 ⟨p,hp,rfl,hb⟩;have h1:=h.below hb;have d0:=h1.c0)
  have hd:=h1.drewn 1
  go_region_held3 (fun w'=>w'.cell? ⟨s,0,none⟩=some (.pointer (some ⟨b,0,none⟩))) (go_keep)
   (first
    | (go_at_call 284;refine (z4A hd g hp hk hg (by omega)).mono ?_;rintro e w2 ⟨rfl,hS2,hB2⟩;have d2:=hS2.c0;rw[Z1.out])
    | (go_at_call 267;refine (z0P hS2 (x.at_+4) i (by omega) (by omega) (by omega) (by omega) (by omega) (by omega)).mono ?_;rintro e w3 ⟨rfl,hb3⟩;have hS3:=hS2.below hb3;have d3:=hS3.c0)
    | (go_at_call 232;refine (z1M hS3 g (x.at_+4+i) y hg (by omega)).mono ?_;rintro e w4 ⟨rfl,hS4,hB4⟩;have d4:=hS4.c0))
  go_wp2_with (go_at_call 285;refine (z6D hS4 g hp hk hg (by omega) hW).mono ?_;rintro e w5 ⟨rfl,hS5,hB5⟩;rw[Z2.out])
  go_ret
  exact⟨rfl,_,(Ticked.first c g).tick.tick.mono (by omega),P,⟨hW,bw,bs,v,_,hS5,HI.out⟩,(((Bt.of_below hb).trans ((z0i w1 1).trans hB2)).trans ((Bt.of_below hb3).trans hB4)).trans hB5,Wider.refl _ _,h.same hS5⟩
 ·obtain⟨u1,u2,u3,u4,u5⟩:=hI.tw_ne hx ht
  have HI:Hid (SpInv q W (updI (updI f (x.at_+4+i) y) (tw q x+i) y) (updV V x.id i y)):=z9Q hI hx hi.1 hi.2
   (by
    show (if _ then y else (if _ then y else _))=y
    split
    ·rfl
    ·rw[if_pos rfl])
   (fun _=>z1j _ _ _) (fun a r r2=>by rw[z0o _ _ (r2 ht),z0o _ _ r])
  have t1:(tw q x != 0)=true:=by simpa using ht
  have t2:0≤tw q x∧tw q x≤1000000∧q.base≤tw q x+i∧tw q x+i<q.base+2*q.half:=by omega
  clear hI ht u1 u2 u3 u4 u5 hfi
  generalize tw q x=T at *
  go_enter Tryz.func278,Tryz.ntmps278
  go_wp2_with (go_at_call 283;refine hA.mono ?_;rintro e w1 ⟨p,hp,rfl,hb⟩;have h1:=h.below hb;have d0:=h1.c0)
  have hd:=h1.drewn 1
  go_region_held3 (fun w'=>w'.cell? ⟨s,0,none⟩=some (.pointer (some ⟨b,0,none⟩))) (go_keep)
   (first
    | (go_at_call 284;refine (z4A hd g hp hk hg (by omega)).mono ?_;rintro e w2 ⟨rfl,hS2,hB2⟩;have d2:=hS2.c0;rw[Z1.out])
    | (go_at_call 267;refine (z0P hS2 (x.at_+4) i (by omega) (by omega) (by omega) (by omega) (by omega) (by omega)).mono ?_;rintro e w3 ⟨rfl,hb3⟩;have hS3:=hS2.below hb3;have d3:=hS3.c0)
    | (go_at_call 232;refine (z1M hS3 g (x.at_+4+i) y hg (by omega)).mono ?_;rintro e w4 ⟨rfl,hS4,hB4⟩;have d4:=hS4.c0))
  go_wp2_with (go_at_call 285;refine (z6D hS4 g hp hk hg (by omega) hW).mono ?_;rintro e w5 ⟨rfl,hS5,hB5⟩;rw[Z2.out];have d5:=hS5.c0)
  have hd5:=hS5.drewn 1
  go_region_held3 (fun w'=>w'.cell? ⟨s,0,none⟩=some (.pointer (some ⟨b,0,none⟩))) (go_keep)
   (first
    | (go_at_call 267;refine (z0P hd5 T i (by omega) (by omega) (by omega) (by omega) (by omega) (by omega)).mono ?_;rintro e w6 ⟨rfl,hb6⟩;have hS6:=hd5.below hb6;have d6:=hS6.c0)
    | (go_at_call 232;refine (z1M hS6 g (T+i) y hg (by omega)).mono ?_;rintro e w7 ⟨rfl,hS7,hB7⟩;have d7:=hS7.c0))
  go_wp2
  go_ret
  refine⟨rfl,_,(Ticked.first c g).tick.tick.tick.mono (by omega),P,⟨hW,bw,bs,v,_,hS7,HI.out⟩,?_,Wider.refl _ _,h.same hS7⟩
  exact ((((Bt.of_below hb).trans ((z0i w1 1).trans hB2)).trans ((Bt.of_below hb3).trans hB4)).trans hB5).trans (((z0i w5 1).trans (Bt.of_below hb6)).trans hB7)
theorem zfQ (h:Gd w P s b W G q V c):Calls Tryz.prog 264 #[.pointer (some ⟨s,0,none⟩)] w fun e w'=>e=.returned (.int .i64 (q.half-q.taken))∧Below w.heap.size w w':=by
 obtain⟨hW,bw,bs,v,f,h,hI⟩:=h
 have h1:=hI.top
 have h2:=hI.sums
 have h3:=hI.half0
 have h4:=hI.big
 have h5:=hI.base0
 exact zd0 h (by omega) (by omega)
end
end Go.Proofs.YthkelaeemefnaaaGreat
namespace Go.Proofs.YthkelaeemefnaaaGreat
open Go.RowKit
section
variable {w:World}{P:Nat→Prop}{s b W G:Nat}{q:St}{V:Int→Int→Int}{c:Int→Int}
theorem SpInv.bounds {f:Int→Int}(h:SpInv q W f V) (hW:W≤65536):0≤q.base∧q.base≤65536∧0≤q.half∧q.half≤65536∧0≤q.taken∧q.taken≤q.half∧q.base+2*q.half≤W∧0≤q.leaving∧q.leaving≤q.taken∧0≤q.dropped∧q.dropped≤q.taken∧0≤q.given:=by
 have h1:=h.top
 have h2:=h.sums
 have h3:=h.half0
 have h4:=h.big
 have h5:=h.base0
 have h6:=h.given0
 omega
theorem z9T (h:Gd w P s b W G q V c) (g n:Int) (hg:0≤g∧g<G) (hn:0≤n∧n≤1000) (hr:q.half-q.taken<n+4):
  Calls Tryz.prog 261 #[.pointer (some ⟨s,0,none⟩),.int .i64 g,.int .i64 n] w fun e w'=>e=.returned (.tuple #[.int .i64 0,.int .i64 702])∧Below w.heap.size w w':=by
 have hR:=zfQ h
 obtain⟨hW,bw,bs,v,f,h,hI⟩:=h
 have c0:=h.c0
 have hA:=z0k h.ar g hg.1 hg.2
 have hS:=z35 n w (by omega) (by omega)
 have d1:decide (n<0)=false:=by simp;omega
 have d2:decide (1000<n)=false:=by simp;omega
 clear h hI hg
 go_enter Tryz.func261,Tryz.ntmps261
 go_wp2_with (first
  | (go_at_call 115;refine hA.mono ?_;rintro e w9 ⟨rfl,rfl⟩)
  | (go_at_call 263;refine hS.mono ?_;rintro e w9 ⟨rfl,rfl⟩)
  | (go_at_call 264;refine hR.mono ?_;rintro e w8 ⟨rfl,hb⟩))
 go_ret2
 exact⟨rfl,hb⟩
def Laid (f f':Int→Int) (a i:Int):Prop:=f' a=a+4∧f' (a+1)=0∧(∀ j,0≤j→j<i→f' (a+4+j)=0)∧∀ j,j<a∨a+4+i≤j→f' j=f j
theorem Laid.first (f:Int→Int) (a:Int):Laid f (updI (updI f a (a+4)) (a+1) 0) a 0:=by
 refine⟨?_,z1j _ _ _,fun j h0 h1=>by omega,fun j hj=>?_⟩
 ·rw[z0o _ _ (by omega),z1j]
 ·rw[z0o _ _ (by omega),z0o _ _ (by omega)]
theorem Laid.next {f f':Int→Int}{a i:Int}(h:Laid f f' a i) (h0:0≤i):Laid f (updI f' (a+4+i) 0) a (i+1):=by
 refine⟨?_,?_,fun j j0 j1=>?_,fun j hj=>?_⟩
 ·rw[z0o _ _ (by omega)];exact h.1
 ·rw[z0o _ _ (by omega)];exact h.2.1
 ·by_cases e:j=i
  ·subst e;exact z1j _ _ _
  ·rw[z0o _ _ (by omega)];exact h.2.2.1 j j0 (by omega)
 ·rw[z0o _ _ (by omega)];exact h.2.2.2 j (by omega)
theorem zaA {w w1:World}{P:Nat→Prop}{s b bw bs W G:Nat}{v v':Value}{q q':St}{f c:Int→Int}(h:Sp w P s b bw bs W G v q f c) (hA:Arys w1 v' q'.xs) (hg:w.grownBy w1 v.ownBlock) (hv:v'.ownBlock=v.ownBlock∨∃ k,v'.ownBlock=some k∧w.heap.size≤k)
  (e:(#[.pointer (some ⟨b,0,none⟩),.int .i64 q.base,.int .i64 q.half,.bool q.up,.int .i64 q.given,v,.int .i64 q.taken,.int .i64 q.dropped,.int .i64 q.leaving,.bool q.c.on,.int .i64 q.c.last,.int .i64 q.c.id,.bool q.c.cop,.int .i64 q.c.copied,.int .i64 q.c.tgt,.int .i64 q.c.next]:Array Value).setIfInBounds 5 v'=(fun (v:Value) (q:St)=>#[.pointer (some ⟨b,0,none⟩),.int .i64 q.base,.int .i64 q.half,.bool q.up,.int .i64 q.given,v,.int .i64 q.taken,.int .i64 q.dropped,.int .i64 q.leaving,.bool q.c.on,.int .i64 q.c.last,.int .i64 q.c.id,.bool q.c.cop,.int .i64 q.c.copied,.int .i64 q.c.tgt,.int .i64 q.c.next]) v' q'):
  Sp (w1.setCell ⟨s,5,none⟩ v') (fun k=>P k∨v'.ownBlock=some k) s b bw bs W G v' q' f c∧Bt P w (w1.setCell ⟨s,5,none⟩ v')∧Wider P (fun k=>P k∨v'.ownBlock=some k) w:=by
 have hlt:=h.lt
 have hbl:∀ k,k=s∨k=b∨k=bw∨k=bs→w1.heap[k]?=w.heap[k]?:=by
  intro k hk
  have hkl:k<w.heap.size:=by
   rcases hk with rfl|rfl|rfl|rfl
   ·exact hlt
   ·exact h.ar.lt
   ·exact h.ar.words.lt
   ·exact h.ar.steps.lt
  refine hg.block k hkl fun r=>?_
  have:=h.row_ne r.symm
  omega
 have hs1:s<w1.heap.size:=Nat.lt_of_lt_of_le hlt hg.size
 have hvs:∀ k,v'.ownBlock=some k→k≠s:=by
  intro k hk
  rcases hv with r|⟨j,r,hj⟩
  ·exact (h.row_ne (r ▸ hk)).1
  ·rw[r] at hk;simp at hk;omega
 refine⟨⟨?_,⟨?_,?_,?_,h.ar.part⟩,?_,⟨.inl h.own.1,.inl h.own.2.1,.inl h.own.2.2.1,.inl h.own.2.2.2.1,fun k hk=>.inr hk⟩⟩,?_,?_⟩
 ·rw[z7s ((hbl s (.inl rfl)).trans h.here),e]
 ·rw[Below.heap_setCell _ _ _ _ (fun r=>h.s_b r.symm),hbl b (.inr (.inl rfl))];exact h.ar.here
 ·exact (h.ar.words.of_block (hbl bw (.inr (.inr (.inl rfl))))).setOther (fun r=>h.s_bw r.symm) _
 ·exact (h.ar.steps.of_block (hbl bs (.inr (.inr (.inr rfl))))).setOther (fun r=>h.s_bs r.symm) _
 ·exact hA.of_block fun k hk=>Below.heap_setCell _ _ _ _ (hvs k hk)
 ·exact (Bt.of_grown hg h.own.2.2.2.2).set _ _ _ (.inl h.own.1)
 ·intro k hk
  rcases hk with r|r
  ·exact .inl r
  ·rcases hv with e2|⟨j,e2,hj⟩
   ·exact .inl (h.own.2.2.2.2 k (e2 ▸ r))
   ·rw[e2] at r;simp at r;subst r;exact .inr hj
theorem z4h (h:Gd w P s b W G q V c) (g n:Int) (hg:0≤g∧g<G) (hn:0≤n∧n≤1000) (hr:n+4≤q.half-q.taken) (hgi:q.given<1000000000):
  Calls Tryz.prog 261 #[.pointer (some ⟨s,0,none⟩),.int .i64 g,.int .i64 n] w fun e w'=>e=.returned (.tuple #[.int .i64 (q.given+1),.int .i64 0])∧∃ c',Ticked c c' g (n+2)∧SpTurn w P s b W G (made q n) (fun id i=>if id=q.given+1 then 0 else V id i) c' w':=by
 have hR:=zfQ h
 obtain⟨hW,bw,bs,v,f,h,hI⟩:=h
 obtain⟨b1,b2,b3,b4,b5,b6,b7,b8,b9,b10,b11,b12⟩:=hI.bounds hW
 have htp:=hI.top
 have hhv:=z1Y q
 have hshort:=hI.short hW
 have hA:=z0k h.ar g hg.1 hg.2
 have hSz:=fun u=>z35 n u (by omega) (by omega)
 have htd:z0B q=z0m q+q.taken-q.leaving:=rfl
 have HMI:Hid (∀ f',Laid f f' (z0B q) n→SpInv (made q n) W f' (fun id i=>if id=q.given+1 then 0 else V id i)):=fun f' hL=>zbB hI hn.1 hr hL.1 hL.2.1 hL.2.2.1 hL.2.2.2
 have hFil:=fun {u:World} {c:Int→Int} {f:Int→Int} (hu:Sp u P s b bw bs W G v q f c)=>z7O hu ⟨b1,by omega⟩ ⟨b3,by omega⟩
 have ew1:IntKind.i64.wrap (z0m q+q.taken)=z0m q+q.taken:=by rw[IntKind.wrap_i64];omega
 have ew2:IntKind.i64.wrap (z0m q+q.taken-q.leaving)=z0m q+q.taken-q.leaving:=by rw[IntKind.wrap_i64];omega
 have ew3:IntKind.i64.wrap (q.taken+(n+4))=q.taken+(n+4):=by rw[IntKind.wrap_i64];omega
 have ew4:IntKind.i64.wrap (q.given+1)=q.given+1:=by rw[IntKind.wrap_i64];omega
 clear hI
 obtain⟨N,rfl⟩:=Int.eq_ofNat_of_zero_le hn.1
 have d1:decide ((N:Int)<0)=false:=by simp
 have d2:decide (1000<(N:Int))=false:=by simp;omega
 have d3:decide (q.half-q.taken<(N:Int)+4)=false:=by simp;omega
 have cc:=h.cells
 go_enter Tryz.func261,Tryz.ntmps261
 go_wp2_with (first
  | (go_at_call 115;refine hA.mono ?_;rintro e w9 ⟨rfl,hw9⟩;replace hw9:=hw9.symm;subst hw9)
  | (go_at_call 263;refine (hSz _).mono ?_;rintro e w9 ⟨rfl,hw9⟩;replace hw9:=hw9.symm;subst hw9)
  | (go_at_call 264;refine hR.mono ?_;rintro e w8 ⟨rfl,hb8⟩;have h8:=h.below hb8;have c8:=h8.cells))
 have hd8:=h8.drewn 1
 go_region_held3 (fun w'=>w'.cell? ⟨s,6,none⟩=some (.int .i64 q.taken)∧w'.cell? ⟨s,8,none⟩=some (.int .i64 q.leaving)) (go_keep)
  ((go_at_call 265;refine (hFil hd8).mono ?_;rintro e w7 ⟨rfl,hb7⟩;have h7:=hd8.below hb7;have c7:=h7.cells))
 generalize hAt:z0m q+q.taken-q.leaving=A at *
 have HAt:Hid (z0B q=A):=htd
 have HMJ:Hid (∀ f',Laid f f' A N→SpInv (made q N) W f' (fun id i=>if id=q.given+1 then 0 else V id i)):=fun f' hL=>HMI.out f' (by rw[HAt.out];exact hL)
 clear HMI
 have ha:0≤A∧A+1<W:=by omega
 have ha2:q.base≤A∧A+4+N≤q.base+2*q.half:=by omega
 have HB7:Hid (Bt P w w7):=(Bt.of_below hb8).trans ((z0i w8 1).trans (Bt.of_below hb7))
 clear hAt htd ew1 ew2 cc c8 hhv htp hb7 hb8
 go_wp2_with (go_at_call 266;refine (zdm h7 g A hg ha hW).mono ?_;rintro e w6 ⟨rfl,h6,hB6⟩)
 have HB6:Hid (Bt P w w6):=HB7.out.trans hB6
 go_loopg [9,53] (N+1) (fun kx s9 s53 wr=>∃ i:Nat,s53=.int .i64 i∧i≤N∧N-i≤kx∧∃ f' c',Sp wr P s b bw bs W G v q f' c'∧Hid (Laid f f' A i∧Ticked c c' g (i+2)∧Bt P w wr))
 case atStart=>exact⟨0,rfl,by omega,by omega,_,_,h6,⟨Laid.first f A,(Ticked.first c g).tick.mono (by omega),HB6.out⟩⟩
 case round =>
  obtain⟨i,rfl,hi,hk,f1,c1,hS,HL⟩:=hrel
  have cS:=hS.c0
  have hdS:=hS.drewn 1
  by_cases hlt:i<N
  ·go_wp2
   go_region_held3 (fun w'=>w'.cell? ⟨s,0,none⟩=some (.pointer (some ⟨b,0,none⟩))) (go_keep)
    (first
     | (go_at_call 268;refine (z2h A _ (by omega) (by omega)).mono ?_;rintro e w5 ⟨rfl,hw5⟩;subst hw5)
     | (go_at_call 267;refine (z0P hdS (A+4) i (by omega) (by omega) (by omega) (by omega) (by omega) (by omega)).mono ?_;rintro e w4 ⟨rfl,hb4⟩;have hS4:=hdS.below hb4;have d4:=hS4.c0)
     | (go_at_call 232;refine (z1M hS4 g (A+4+i) 0 hg (by omega)).mono ?_;rintro e w3 ⟨rfl,hS3,hB3⟩;have d3:=hS3.c0))
   go_wp2
   go_roundg (N-(i+1))
   case measure=>omega
   case rel=>exact⟨i+1,by go_num,by omega,by omega,_,_,hS3,⟨HL.out.1.next (by omega),HL.out.2.1.tick.mono (by omega),HL.out.2.2.trans (((z0i wr 1).trans (Bt.of_below hb4)).trans hB3)⟩⟩
  ·obtain rfl:i=N:=by omega
   have cS2:=hS.cells
   have fS:=hS.frozen 6
   have fS2:=hS.frozen 4
   go_wp2
   go_region_with (go_at_call 263;refine (hSz _).mono ?_;rintro e w9 ⟨rfl,hw9⟩;replace hw9:=hw9.symm;subst hw9)
   go_wp2
   all_goals
    have hp1:=(hS.poke 6 (.int .i64 (q.taken+((i:Int)+4))) (q':={ q with taken:=q.taken+((i:Int)+4) }) rfl rfl)
    have hp2:=(hp1.1.poke 4 (.int .i64 (q.given+1)) (q':={ q with taken:=q.taken+((i:Int)+4),given:=q.given+1 }) rfl rfl)
    have hp3:=hp2.1.below (w':=World.drew _) (z00 _ 1 _)
    have HB3:Hid (Bt P wr (World.drew _)):=(hp1.2.trans hp2.2).trans (z0i _ 1)
    generalize World.drew _=U at *
    have cU:U.cell? ⟨s,4,none⟩=some (.int .i64 (q.given+1)):=hp3.cells.2.2.2.2.1
    have hdU:=hp3.drewn 1
    have c5:(U.drewN 1).cell? ⟨s,5,none⟩=some v:=hdU.cells.2.2.2.2.2.1
    have hAdd:=zfs hdU.row hshort (q.given+1) A i c5 (hdU.frozen 5) (fun r=>(hdU.row_ne r).1 rfl)
    go_region_held3 (fun w'=>w'.cell? ⟨s,4,none⟩=some (.int .i64 (q.given+1))) (go_keep)
     ((go_at_call 269;refine hAdd.mono ?_;rintro e w2 ⟨rfl,v2,w1,hw2,hA2,hg2,hv2⟩;have hO:=zaA (q':=made q i) hdU (by show Arys w1 v2 (q.xs++[⟨q.given+1,z0B q,i⟩]);rw[HAt.out];exact hA2) hg2 hv2 rfl;rw[← hw2] at hO;clear hw2 hA2 hg2 hv2;have d2:w2.cell? ⟨s,4,none⟩=some (.int .i64 (q.given+1)):=hO.1.cells.2.2.2.2.1))
    go_wp2
    go_ret2
    refine⟨rfl,c1,HL.out.2.1,_,⟨hW,bw,bs,v2,f1,hO.1,HMJ.out f1 HL.out.1⟩,?_,?_,h.same hO.1⟩
    ·exact (HL.out.2.2.trans HB3.out).trans ((z0i U 1).trans hO.2.1)
    ·exact fun k hk=>(hO.2.2 k hk).elim .inl (fun r=>.inr (Nat.le_trans (Nat.le_trans HL.out.2.2.size HB3.out.size) r))
end
end Go.Proofs.YthkelaeemefnaaaGreat
