import Derived.Test.YthkelaeemefnaaaGreatMY5
import Derived.Deep.RegionLaw
import Derived.Deep.LoopGhost
import Derived.Lib.SliceRun
import Derived.Lib.LazyBuf
set_option maxRecDepth 20000
set_option maxHeartbeats 2000000
namespace Go.Proofs.YthkelaeemefnaaaGreat
open Go.RowKit
structure Ary where
 id:Int
 at_:Int
 n:Int
instance:Inhabited Ary:=⟨⟨0,0,0⟩⟩
def z0l:List Ary→List Value
 | []=>[]
 | x::r=>.int .i64 x.id::.int .i64 x.at_::.int .i64 x.n::z0l r
theorem z0s:∀ xs:List Ary,(z0l xs).length=xs.length*3
 | []=>rfl
 | x::r=>by simp[z0l,z0s r];omega
theorem z0S:∀ xs ys:List Ary,z0l (xs++ys)=z0l xs++z0l ys
 | [],_=>rfl
 | x::r,ys=>by simp[z0l,z0S r ys]
theorem z4b:∀ (xs:List Ary),∀ u∈z0l xs,u.oneCell'=true
 | [],u,h=>by simp[z0l] at h
 | x::r,u,h=>by
  simp only[z0l,List.mem_cons] at h
  rcases h with rfl|rfl|rfl|h
  ·rfl
  ·rfl
  ·rfl
  ·exact z4b r u h
theorem z5g:∀ (xs:List Ary) (i:Nat) (x:Ary),xs[i]?=some x→(z0l xs)[i*3]?=some (.int .i64 x.id)∧(z0l xs)[i*3+1]?=some (.int .i64 x.at_)∧(z0l xs)[i*3+2]?=some (.int .i64 x.n)
 | [],i,x,h=>by simp at h
 | y::r,0,x,h=>by
  simp at h;subst h
  exact⟨rfl,rfl,rfl⟩
 | y::r,i+1,x,h=>by
  have h':r[i]?=some x:=by simpa using h
  obtain⟨a,b,c⟩:=z5g r i x h'
  rw[show (i+1)*3=i*3+1+1+1 by omega]
  refine⟨?_,?_,?_⟩
  ·simpa [z0l] using a
  ·rw[show i*3+1+1+1+1=(i*3+1)+1+1+1 by omega];simpa [z0l] using b
  ·rw[show i*3+1+1+1+2=(i*3+2)+1+1+1 by omega];simpa [z0l] using c
def Arys (w:World) (v:Value) (xs:List Ary):Prop:=w.ownsRow 0 324 3 v xs.length (z0l xs)
theorem Arys.below {w w':World}{v:Value}{xs:List Ary}(h:Arys w v xs) (k:Below w.heap.size w w'):Arys w' v xs :=
 World.ownsRow.kept h (row:=none) ⟨k.os,k.tape,k.output,k.size,fun i hi _=>k.block i hi⟩ (by cases h:v.ownBlock<;>simp)
theorem Arys.nil (w:World):Arys w (.slice none 0 0) []:=World.ownsRow_nil w 0 _ 3
theorem Arys.shape {w:World}{v:Value}{xs:List Ary}(h:Arys w v xs):(v=.slice none 0 0∧xs=[]) ∨
  ∃ p cap,v=.slice (some ⟨p,0,none⟩) xs.length cap∧xs.length≤cap∧cap≤maxLen∧∃ cur:Array Value,w.heap[p]?=some (.cells cur 324 (0,0))∧cur.size=cap*3∧cur.toList.take (xs.length*3)=z0l xs:=by
 rcases h.2 with ⟨h1,h2⟩|⟨g,cap,cur,rfl,_,hg,hc,hm,hs,ht⟩
 ·exact .inl ⟨h1,List.length_eq_zero_iff.1 h2⟩
 ·exact .inr ⟨g,cap,rfl,hc,hm,cur,hg,hs,ht⟩
theorem Arys.cells {w:World}{v:Value}{xs:List Ary}(h:Arys w v xs) (hn:0<xs.length):∃ p cap,v=.slice (some ⟨p,0,none⟩) xs.length cap∧p<w.heap.size∧xs.length≤cap∧(∀ j,w.frozen? ⟨p,j,none⟩=false) ∧
  ∀ i x,xs[i]?=some x→w.cell? ⟨p,i*3,none⟩=some (.int .i64 x.id)∧w.cell? ⟨p,i*3+1,none⟩=some (.int .i64 x.at_)∧w.cell? ⟨p,i*3+2,none⟩=some (.int .i64 x.n):=by
 rcases h.shape with ⟨_,rfl⟩|⟨p,cap,rfl,hc,_,cur,hp,hs,ht⟩
 ·simp at hn
 ·refine⟨p,cap,rfl,(Array.getElem?_eq_some_iff.1 hp).1,hc,fun j=>by simp[World.frozen?,hp],fun i x hx=>?_⟩
  have hi:i<xs.length:=(List.getElem?_eq_some_iff.1 hx).1
  obtain⟨a,b,c⟩:=z5g xs i x hx
  rw[← ht] at a b c
  rw[List.getElem?_take,if_pos (by omega)] at a b c
  simp only[World.cell?,hp]
  refine⟨by simpa using a,by simpa using b,by simpa using c⟩
theorem z89 (x:Int) (w:World):Calls Tryz.prog 143 #[.int .i64 x] w fun e w'=>e=.returned (.bool false)∧w'=w:=by
 go_enter Tryz.func143,Tryz.ntmps143
 go_wp2
 go_ret
 exact⟨rfl,rfl⟩
theorem zaS (a b:Int) (w:World) (h:a<b):Calls Tryz.prog 139 #[.int .i64 a,.int .i64 b] w fun e w'=>e=.returned (.int .i64 (-1))∧w'=w:=by
 go_enter Tryz.func139,Tryz.ntmps139
 go_wp2_with (go_at_call 143;refine (z89 _ _).mono ?_;rintro e w1 ⟨rfl,rfl⟩)
 go_ret
 exact⟨rfl,rfl⟩
theorem zax (a:Int) (w:World):Calls Tryz.prog 139 #[.int .i64 a,.int .i64 a] w fun e w'=>e=.returned (.int .i64 0)∧w'=w:=by
 go_enter Tryz.func139,Tryz.ntmps139
 go_wp2_with (go_at_call 143;refine (z89 _ _).mono ?_;rintro e w1 ⟨rfl,rfl⟩)
 go_ret
 exact⟨rfl,rfl⟩
theorem zaQ (a b:Int) (w:World) (h:b<a):Calls Tryz.prog 139 #[.int .i64 a,.int .i64 b] w fun e w'=>e=.returned (.int .i64 1)∧w'=w:=by
 have h1:decide (a<b)=false:=by simp;omega
 go_enter Tryz.func139,Tryz.ntmps139
 go_wp2_with (go_at_call 143;refine (z89 _ _).mono ?_;rintro e w1 ⟨rfl,rfl⟩)
 go_ret
 exact⟨rfl,rfl⟩
theorem zdC (x y z t:Int) (w:World) (h:x<t):Calls Tryz.prog 288 #[.agg #[.int .i64 x,.int .i64 y,.int .i64 z],.int .i64 t] w fun e w'=>e=.returned (.int .i64 (-1))∧Below w.heap.size w w':=by
 go_enter Tryz.func288,Tryz.ntmps288
 go_wp2_with (go_at_call 139;refine (zaS _ _ _ h).mono ?_;rintro e w1 ⟨rfl,rfl⟩)
 go_ret
 exact⟨rfl,(Below.refl _ _).alloc (Nat.le_refl _) _⟩
theorem zb2 (y z t:Int) (w:World):Calls Tryz.prog 288 #[.agg #[.int .i64 t,.int .i64 y,.int .i64 z],.int .i64 t] w fun e w'=>e=.returned (.int .i64 0)∧Below w.heap.size w w':=by
 go_enter Tryz.func288,Tryz.ntmps288
 go_wp2_with (go_at_call 139;refine (zax _ _).mono ?_;rintro e w1 ⟨rfl,rfl⟩)
 go_ret
 exact⟨rfl,(Below.refl _ _).alloc (Nat.le_refl _) _⟩
theorem zaR (x y z t:Int) (w:World) (h:t<x):Calls Tryz.prog 288 #[.agg #[.int .i64 x,.int .i64 y,.int .i64 z],.int .i64 t] w fun e w'=>e=.returned (.int .i64 1)∧Below w.heap.size w w':=by
 go_enter Tryz.func288,Tryz.ntmps288
 go_wp2_with (go_at_call 139;refine (zaQ _ _ _ h).mono ?_;rintro e w1 ⟨rfl,rfl⟩)
 go_ret
 exact⟨rfl,(Below.refl _ _).alloc (Nat.le_refl _) _⟩
theorem ze2 (x y z t:Int) (w:World) (h:t≤x):Calls Tryz.prog 288 #[.agg #[.int .i64 x,.int .i64 y,.int .i64 z],.int .i64 t] w fun e w'=>∃ r:Int,e=.returned (.int .i64 r)∧0≤r∧Below w.heap.size w w':=by
 by_cases hh:x=t
 ·subst hh
  exact (zb2 _ _ _ _).mono fun e w' q=>⟨0,q.1,by omega,q.2⟩
 ·exact (zaR _ _ _ _ _ (by omega)).mono fun e w' q=>⟨1,q.1,by omega,q.2⟩
def z0h (xs:List Ary):Prop:=xs.Pairwise fun x y=>x.id<y.id
def pos (xs:List Ary) (t:Int):Nat:=xs.countP fun x=>decide (x.id<t)
def has (xs:List Ary) (t:Int):Bool:=xs.any fun x=>decide (x.id=t)
theorem zdy (xs:List Ary) (t:Int):pos xs t≤xs.length:=List.countP_le_length
theorem zcJ {xs:List Ary}{t:Int}(h:∀ x∈xs,t≤x.id):pos xs t=0:=by
 unfold pos
 rw[List.countP_eq_zero]
 intro x hx
 have:=h x hx
 simp;omega
theorem z1C:∀ (xs:List Ary) (t:Int),z0h xs→∀ (i:Nat) (x:Ary),xs[i]?=some x→(i<pos xs t↔x.id<t)
 | [],_,_,i,x,h=>by simp at h
 | y::r,t,hs,i,x,h=>by
  have hs':z0h r:=(List.pairwise_cons.1 hs).2
  have hy:=(List.pairwise_cons.1 hs).1
  by_cases ht:y.id<t
  ·have e:pos (y::r) t=pos r t+1:=by unfold pos;rw[List.countP_cons_of_pos (by simpa using ht)]
   rw[e]
   cases i with
   | zero=>simp at h;subst h;simp[ht]
   | succ i =>
    have h':r[i]?=some x:=by simpa using h
    have:=z1C r t hs' i x h'
    omega
  ·have e:pos (y::r) t=0:=zcJ (by
    intro z hz
    rcases List.mem_cons.1 hz with rfl|hz
    ·omega
    ·have:=hy z hz;omega)
   rw[e]
   have:t≤x.id:=by
    have hx:x∈y::r:=List.mem_of_getElem? h
    rcases List.mem_cons.1 hx with rfl|hz
    ·omega
    ·have:=hy x hz;omega
   omega
theorem z4B (xs:List Ary) (t:Int):has xs t=true↔∃ x∈xs,x.id=t:=by simp[has]
theorem z5m {xs:List Ary}{t:Int}(hs:z0h xs) (h:has xs t=true):∃ x,xs[pos xs t]?=some x∧x.id=t:=by
 obtain⟨x,hx,rfl⟩:=(z4B xs t).1 h
 obtain⟨i,hi,e⟩:=List.getElem_of_mem hx
 have hi':xs[i]?=some x:=by rw[List.getElem?_eq_getElem hi,e]
 have h1:=z1C xs x.id hs i x hi'
 have h2:¬ pos xs x.id<i:=by
  intro hlt
  have hlt':pos xs x.id<xs.length:=by omega
  have h3:=z1C xs x.id hs _ _ (List.getElem?_eq_getElem hlt')
  have h4:=List.pairwise_iff_getElem.1 hs (pos xs x.id) i hlt' hi hlt
  rw[e] at h4
  omega
 refine⟨x,?_,rfl⟩
 rw[show pos xs x.id=i by omega];exact hi'
theorem zdQ {xs:List Ary}{t:Int}(h:has xs t=false) {i:Nat}{x:Ary}(hx:xs[i]?=some x):x.id≠t:=by
 intro e
 have:has xs t=true:=(z4B xs t).2 ⟨x,List.mem_of_getElem? hx,e⟩
 rw[h] at this;simp at this
theorem z62 {w:World}{v:Value}{xs:List Ary}(h:Arys w v xs) (hs:z0h xs) (hl:xs.length<1000000) (t:Int):
  Calls Tryz.prog 287 #[v,.int .i64 t,.func (.func 288) #[] #[]] w fun e w'=>e=.returned (.tuple #[.int .i64 (pos xs t),.bool (has xs t)])∧Below w.heap.size w w':=by
 have hV:∃ ao cap,v=.slice ao xs.length cap:=by
  rcases h.shape with ⟨rfl,rfl⟩|⟨p,cap,rfl,_⟩
  ·exact⟨none,0,rfl⟩
  ·exact⟨_,cap,rfl⟩
 have hpl:=zdy xs t
 have HS:Hid (∀ (i:Nat) (x:Ary),xs[i]?=some x→(i<pos xs t↔x.id<t)):=z1C xs t hs
 have HA:Hid (has xs t=true→∃ x,xs[pos xs t]?=some x∧x.id=t):=z5m hs
 have HN:Hid (has xs t=false→∀ (i:Nat) (x:Ary),xs[i]?=some x→x.id≠t):=fun q i x=>zdQ q
 have HT:Hid (Arys w v xs):=h
 generalize hP:pos xs t=P at *
 generalize hF:has xs t=F at *
 clear hP hF hs h
 generalize hN:xs.length=N at *
 have HL:Hid (xs.length=N):=hN
 clear hN
 obtain⟨ao,cap,rfl⟩:=hV
 go_enter Tryz.func287,Tryz.ntmps287
 go_wp2
 go_loopg [9,10] N (fun kx s9 s10 wr=>∃ lo hi:Nat,s9=.int .i64 lo∧s10=.int .i64 hi∧lo≤P∧P≤hi∧hi≤N∧hi-lo≤kx∧Below w.heap.size w wr)
 case atStart=>exact⟨0,N,rfl,rfl,by omega,by omega,by omega,by omega,Below.refl _ _⟩
 case round =>
  obtain⟨lo,hi,rfl,rfl,h1,h2,h3,h4,hb⟩:=hrel
  by_cases hlt:lo<hi
  ·have hm:(lo+hi)/2<N:=by omega
   obtain⟨p,cap',hv,_,_,_,hc⟩:=Arys.cells (HT.out.below hb) (by rw[HL.out];omega)
   obtain⟨x,hx⟩:∃ x,xs[(lo+hi)/2]?=some x:=⟨_,List.getElem?_eq_getElem (by rw[HL.out];omega)⟩
   obtain⟨c0,c1,c2⟩:=hc _ _ hx
   have hx':=HS.out _ _ hx
   rw[HL.out] at hv
   injection hv with e1 e2 e3
   subst e1
   clear hc hx e2 e3
   obtain⟨xi,xa,xn⟩:=x
   by_cases hyx:xi<t
   ·have hlp:(lo+hi)/2<P:=hx'.2 hyx
    clear hx'
    go_wp2_with (go_at_call 288;refine (zdC _ _ _ _ _ hyx).mono ?_;rintro e w1 ⟨rfl,hb1⟩)
    go_roundg (hi-((lo+hi)/2+1))
    case measure=>omega
    case rel=>exact⟨(lo+hi)/2+1,hi,by rw[show ((lo:Int)+(hi:Int))/2+1=(((lo+hi)/2+1:Nat):Int) by omega],rfl,by omega,h2,h3,by omega,hb.trans (hb1.mono hb.size)⟩
   ·have hlp:P≤(lo+hi)/2:=by
     have:¬ (lo+hi)/2<P:=fun q=>hyx (hx'.1 q)
     omega
    clear hx'
    go_wp2_with (go_at_call 288;refine (ze2 _ _ _ _ _ (by omega)).mono ?_;rintro e w1 ⟨rr,rfl,hr0,hb1⟩)
    go_roundg ((lo+hi)/2-lo)
    case measure=>omega
    case rel=>exact⟨lo,(lo+hi)/2,rfl,by rw[show ((lo:Int)+(hi:Int))/2=(((lo+hi)/2:Nat):Int) by omega],h1,by omega,by omega,by omega,hb.trans (hb1.mono hb.size)⟩
  ·obtain rfl:hi=lo:=by omega
   obtain rfl:P=hi:=by omega
   by_cases hn:P<N
   ·obtain⟨p,cap',hv,_,_,_,hc⟩:=Arys.cells (HT.out.below hb) (by rw[HL.out];omega)
    obtain⟨x,hx⟩:∃ x,xs[P]?=some x:=⟨_,List.getElem?_eq_getElem (by rw[HL.out];omega)⟩
    obtain⟨c0,c1,c2⟩:=hc _ _ hx
    have hx':=HS.out _ _ hx
    rw[HL.out] at hv
    injection hv with e1 e2 e3
    subst e1
    clear hc e2 e3
    cases hF:F with
    | true =>
     subst hF
     obtain⟨y,hy,hyt⟩:=HA.out rfl
     rw[hx] at hy
     obtain rfl:=Option.some.inj hy
     subst hyt
     obtain⟨xi,xa,xn⟩:=x
     clear hx hy hx' HA HN
     go_wp2_with (go_at_call 288;refine (zb2 _ _ _ _).mono ?_;rintro e w1 ⟨rfl,hb1⟩)
     go_ret2
     exact⟨rfl,hb.trans (hb1.mono hb.size)⟩
    | false =>
     subst hF
     have hne:=HN.out rfl _ _ hx
     obtain⟨xi,xa,xn⟩:=x
     have hgt:t<xi:=by
      have h5:¬ xi<t:=fun q=>Nat.lt_irrefl _ (hx'.2 q)
      have h6:xi≠t:=hne
      omega
     clear hx hx' hne HA HN
     go_wp2_with (go_at_call 288;refine (zaR _ _ _ _ _ hgt).mono ?_;rintro e w1 ⟨rfl,hb1⟩)
     go_ret2
     exact⟨rfl,hb.trans (hb1.mono hb.size)⟩
   ·have hF:F=false:=by
     cases hF:F with
     | false=>rfl
     | true =>
      obtain⟨y,hy,_⟩:=HA.out hF
      have:=(List.getElem?_eq_some_iff.1 hy).1
      rw[HL.out] at this
      omega
    subst hF
    clear HA HN
    go_wp2
    go_ret2
    exact⟨rfl,hb⟩
theorem zfn:(Tryz.prog.info? 324).map (fun i=>(i.zero,i.size,i.bytes))=some (some (.agg #[.int .i64 0,.int .i64 0,.int .i64 0]),3,24):=by kernel_rfl
theorem z4J {w:World}{v:Value}{xs:List Ary}(h:Arys w v xs) (hs:z0h xs) (hl:xs.length<1000000) (t:Int) (hh:has xs t=true):
  Calls Tryz.prog 281 #[v,.int .i64 t] w fun e w'=>∃ p,v.ownBlock=some p∧e=.returned (.pointer (some ⟨p,pos xs t*3,none⟩))∧Below w.heap.size w w':=by
 obtain⟨x,hx,_⟩:=z5m hs hh
 have hp:pos xs t<xs.length:=(List.getElem?_eq_some_iff.1 hx).1
 have hB:=z62 h hs hl t
 obtain⟨p,cap,rfl,_⟩:=h.cells (by omega)
 rw[hh] at hB
 generalize pos xs t=k at *
 generalize xs.length=N at *
 clear hx hh hs h
 go_enter Tryz.func281,Tryz.ntmps281
 go_wp2_with (go_at_call 287;refine hB.mono ?_;rintro e w1 ⟨rfl,hb⟩)
 go_ret
 exact⟨p,rfl,by simp,hb⟩
theorem z8f {w:World}{v:Value}{xs:List Ary}(h:Arys w v xs) (hs:z0h xs) (hl:xs.length<1000000) (t:Int) (hh:has xs t=false):
  Calls Tryz.prog 281 #[v,.int .i64 t] w fun e w'=>e=.returned (.pointer none)∧Below w.heap.size w w':=by
 have hB:=z62 h hs hl t
 rw[hh] at hB
 generalize pos xs t=k at *
 clear hh hs h
 go_enter Tryz.func281,Tryz.ntmps281
 go_wp2_with (go_at_call 287;refine hB.mono ?_;rintro e w1 ⟨rfl,hb⟩)
 go_ret
 exact⟨rfl,hb⟩
theorem z4e {w:World}{v:Value}{xs:List Ary}(h:Arys w v xs) (hs:z0h xs) (hl:xs.length<1000000) (t:Int) (ht:-1000000≤t∧t<4611686018427387904) (hp:pos xs (t+1)<xs.length):
  Calls Tryz.prog 294 #[v,.int .i64 t] w fun e w'=>∃ p,v.ownBlock=some p∧e=.returned (.pointer (some ⟨p,pos xs (t+1)*3,none⟩))∧Below w.heap.size w w':=by
 have hB:=z62 h hs hl (t+1)
 obtain⟨p,cap,rfl,_⟩:=h.cells (by omega)
 have h2:(((pos xs (t+1):Nat):Int) == (xs.length:Int))=false:=by simp;omega
 generalize pos xs (t+1)=k at *
 generalize has xs (t+1)=F at *
 generalize xs.length=N at *
 clear hs h
 go_enter Tryz.func294,Tryz.ntmps294
 go_wp2_with (go_at_call 287;refine hB.mono ?_;rintro e w1 ⟨rfl,hb⟩)
 go_ret
 exact⟨p,rfl,by simp,hb⟩
theorem zab {w:World}{v:Value}{xs:List Ary}(h:Arys w v xs) (hs:z0h xs) (hl:xs.length<1000000) (t:Int) (ht:-1000000≤t∧t<4611686018427387904) (hp:pos xs (t+1)=xs.length):
  Calls Tryz.prog 294 #[v,.int .i64 t] w fun e w'=>e=.returned (.pointer none)∧Below w.heap.size w w':=by
 have hB:=z62 h hs hl (t+1)
 have hV:∃ ao cap,v=.slice ao xs.length cap:=by
  rcases h.shape with ⟨rfl,rfl⟩|⟨p,cap,rfl,_⟩
  ·exact⟨none,0,rfl⟩
  ·exact⟨_,cap,rfl⟩
 rw[hp] at hB
 generalize has xs (t+1)=F at *
 clear hp hs h
 obtain⟨ao,cap,rfl⟩:=hV
 generalize xs.length=N at *
 go_enter Tryz.func294,Tryz.ntmps294
 go_wp2_with (go_at_call 287;refine hB.mono ?_;rintro e w1 ⟨rfl,hb⟩)
 go_ret
 exact⟨rfl,hb⟩
theorem Arys.row {w:World}{p cap:Nat}{xs:List Ary}{n:Nat}(h:Arys w (.slice (some ⟨p,0,none⟩) n cap) xs):n=xs.length∧n≤cap∧cap≤maxLen∧∃ F:Nat→Value,w.rowIs p 324 (cap*3) F∧∀ j,j<xs.length*3→(z0l xs)[j]?=some (F j):=by
 rcases h.shape with ⟨hq,_⟩|⟨p',cap',hq,hc,hm,cur,hp,hs,ht⟩
 ·simp at hq
 ·simp only[Value.slice.injEq,Option.some.injEq,Addr.mk.injEq] at hq
  obtain⟨⟨rfl,_⟩,rfl,rfl⟩:=hq
  refine⟨rfl,hc,hm,fun j=>cur[j]?.getD default,⟨cur,hp,hs,fun j hj=>?_⟩,fun j hj=>?_⟩
  ·show cur[j]?=some (cur[j]?.getD default)
   rw[Array.getElem?_eq_getElem (by omega)];rfl
  ·show _=some (cur[j]?.getD default)
   rw[← ht,List.getElem?_take,if_pos (by omega),Array.getElem?_toList,Array.getElem?_eq_getElem (by omega)];rfl
theorem Arys.of_row {w:World}{p cap:Nat}{xs:List Ary}{F:Nat→Value}(hr:w.rowIs p 324 (cap*3) F) (hc:xs.length≤cap) (hm:cap≤maxLen) (hF:∀ j,j<xs.length*3→(z0l xs)[j]?=some (F j)):Arys w (.slice (some ⟨p,0,none⟩) xs.length cap) xs:=by
 obtain⟨c,hp,hs,hcell⟩:=hr
 refine⟨z0s xs,.inr ⟨p,cap,c,rfl,Nat.zero_le _,hp,hc,hm,hs,?_⟩⟩
 apply List.ext_getElem?
 intro j
 rw[List.getElem?_take]
 by_cases hj:j<xs.length*3
 ·rw[if_pos hj,hF j hj,Array.getElem?_toList,hcell j (by omega)]
 ·rw[if_neg hj,List.getElem?_eq_none (by rw[z0s];omega)]
theorem z7d (xs:List Ary) (i j:Nat) (hj:j<i*3) (hi:i≤xs.length):(z0l (xs.take i))[j]?=(z0l xs)[j]?:=by
 conv=>rhs;rw[← List.take_append_drop i xs,z0S]
 rw[List.getElem?_append_left (by rw[z0s,List.length_take];omega)]
theorem z79 (xs:List Ary) (i j:Nat) (hi:i≤xs.length):(z0l (xs.drop i))[j]?=(z0l xs)[i*3+j]?:=by
 conv=>rhs;rw[← List.take_append_drop i xs,z0S]
 have e:(z0l (xs.take i)).length=i*3:=by rw[z0s,List.length_take,Nat.min_eq_left hi]
 rw[List.getElem?_append_right (by rw[e];omega),e,Nat.add_sub_cancel_left]
theorem z6Y (xs:List Ary) (i:Nat) (hi:i<xs.length) (F:Nat→Value) (hF:∀ j,j<xs.length*3→(z0l xs)[j]?=some (F j)) (j:Nat) (hj:j<(xs.length-1)*3):
  (z0l (xs.eraseIdx i))[j]?=some (if i*3≤j∧j<i*3+(z0l (xs.drop (i+1))).length then (z0l (xs.drop (i+1)))[j-i*3]?.getD default else F j):=by
 have hl:(z0l (xs.drop (i+1))).length=(xs.length-(i+1))*3:=by rw[z0s,List.length_drop]
 have e:(z0l (xs.take i)).length=i*3:=by rw[z0s,List.length_take,Nat.min_eq_left (by omega)]
 rw[List.eraseIdx_eq_take_drop_succ,z0S]
 by_cases h:i*3≤j
 ·rw[if_pos ⟨h,by rw[hl];omega⟩,List.getElem?_append_right (by rw[e];exact h),e]
  rw[List.getElem?_eq_getElem (by rw[hl];omega)];rfl
 ·rw[if_neg (fun q=>h q.1),List.getElem?_append_left (by rw[e];omega),z7d xs i j (by omega) (by omega)]
  exact hF j (by omega)
theorem zg5 (w:World) (t ty:TypeId) (ht:Tryz.prog.underlying t=some (.slice 324)) (b o c:Nat)
  (hc:∀ j,j<3→(w.cell? ⟨b,o+j,none⟩).isSome=true) (hf:∀ j,j<3→w.frozen? ⟨b,o+j,none⟩=false):
  (Builtin.clear_ #[t] ty #[.slice (some ⟨b,o,none⟩) 1 c]).run Tryz.prog w=.ok (.tuple #[]) (w.setCells b o [.int .i64 0,.int .i64 0,.int .i64 0]):=by
 have hz:∀ w,(zeroValue 324).run Tryz.prog w=.ok (.agg #[.int .i64 0,.int .i64 0,.int .i64 0]) w:=fun w=>by kernel_rfl
 have hst:=run_storeCells_cells (P:=Tryz.prog) b o [.int .i64 0,.int .i64 0,.int .i64 0] 0 w (by simpa using hc) (by simpa using hf) (by simp[Value.oneCell'])
 simp only[Nat.add_zero] at hst
 have hzc:(Builtin.zeroCells (Value.agg #[.int .i64 0,.int .i64 0,.int .i64 0]).cells 1).toList=[.int .i64 0,.int .i64 0,.int .i64 0]:=by kernel_rfl
 simp[Builtin.clear_,run_underlying ht,hz,hzc,hst]
theorem z0G (w:World) (b o:Nat) (vs:List Value):w.grownBy (w.setCells b o vs) (some b):=by
 induction vs generalizing w o with
 | nil=>exact⟨rfl,rfl,rfl,Nat.le_refl _,fun _ _ _=>rfl⟩
 | cons v r ih =>
  have h:=ih (w.setCell ⟨b,o,none⟩ v) (o+1)
  refine⟨h.os,h.tape,h.output,Nat.le_trans (by simp[World.setCell]) h.size,fun k hk e=>(h.block k (by simp[World.setCell];exact hk) e).trans (Below.heap_setCell _ _ _ _ (fun q=>e (by rw[q])))⟩
theorem z9B {w:World}{p cap n:Nat}{xs:List Ary}(h:Arys w (.slice (some ⟨p,0,none⟩) n cap) xs) (i:Nat) (J:Int) (hi:i<n) (hJ:J=(i:Int)+1):
  Calls Tryz.prog 289 #[.slice (some ⟨p,0,none⟩) n cap,.int .i64 i,.int .i64 J] w fun e w'=>e=.returned (.slice (some ⟨p,0,none⟩) (n-1) cap)∧Arys w' (.slice (some ⟨p,0,none⟩) (n-1) cap) (xs.eraseIdx i)∧w.grownBy w' (some p):=by
 obtain⟨hn,hcap,hm,F,hR,hF⟩:=h.row
 obtain⟨j,hj⟩:∃ j:Nat,j=i+1:=⟨_,rfl⟩
 have hJ':J=(j:Int):=by omega
 subst hJ'
 have hjn:j≤n:=by omega
 clear hJ
 obtain⟨i0,hi0,hzz⟩:=Option.map_eq_some_iff.1 zfn
 simp only[Prod.mk.injEq] at hzz
 obtain⟨_,hz1,_⟩:=hzz
 obtain⟨news,hnews⟩:∃ news,news=z0l (xs.drop j):=⟨_,rfl⟩
 have hlen:news.length=(n-j)*3:=by rw[hnews,z0s,List.length_drop,hn]
 have hget:∀ t,t<(n-j)*3→news[t]?=some (F (j*3+t)):=by
  intro t ht
  rw[hnews,z79 xs j t (by omega)]
  exact hF _ (by omega)
 obtain⟨A,hA,hsrc⟩:∃ A:Addr,(if cap=j then some (⟨p,0,none⟩:Addr) else some ⟨p,j*3,none⟩)=some A∧Hid (∀ t u,news[t]?=some u→w.drew.cell? (A.add t)=some u):=by
  by_cases hcj:cap=j
  ·refine⟨⟨p,0,none⟩,by simp[hcj],fun t u hu=>?_⟩
   have h0:news.length=0:=by rw[hlen];omega
   rw[List.length_eq_zero_iff.1 h0] at hu
   simp at hu
  ·refine⟨⟨p,j*3,none⟩,by simp[hcj],fun t u hu=>?_⟩
   have ht:t<(n-j)*3:=by
    have:=(List.getElem?_eq_some_iff.1 hu).1
    rwa [hlen] at this
   rw[hget t ht] at hu
   rw[z1D]
   exact (hR.cell (by omega)).trans hu
 have s1:Hid (news.length=(n-j)*3):=hlen
 have s2:Hid (∀ u∈news,u.oneCell'=true):=by rw[hnews];exact z4b _
 have s3:Hid (∀ t,t<news.length→(w.drew.cell? ⟨p,0+i*3+t,none⟩).isSome=true∧w.drew.frozen? ⟨p,0+i*3+t,none⟩=false):=by
  intro t ht
  rw[hlen] at ht
  rw[Nat.zero_add]
  exact⟨by show (w.cell? _).isSome=true;rw[hR.cell (by omega)];rfl,hR.frozen _⟩
 obtain⟨W1,hW1⟩:∃ W1,W1=w.drew.setCells p (0+i*3) news:=⟨_,rfl⟩
 have hR1:=Go.rowIs_setCells news (0+i*3) w.drew F hR.drew
 rw[← hW1] at hR1
 have hcl:∀ ty,(Builtin.clear_ #[207] ty #[.slice (some ⟨p,(i+(n-j))*3,none⟩) (n-(i+(n-j))) (cap-(i+(n-j)))]).run Tryz.prog W1=.ok (.tuple #[]) (W1.setCells p ((i+(n-j))*3) [.int .i64 0,.int .i64 0,.int .i64 0]):=by
  intro ty
  rw[show n-(i+(n-j))=1 by omega]
  exact zg5 W1 _ ty Tryz.underlying207 p _ _ (fun t ht=>by rw[hR1.cell (by omega)];rfl) (fun t _=>hR1.frozen _)
 have hfin:Hid (Arys (W1.setCells p ((i+(n-j))*3) [.int .i64 0,.int .i64 0,.int .i64 0]) (.slice (some ⟨p,0,none⟩) (n-1) cap) (xs.eraseIdx i)∧w.grownBy (W1.setCells p ((i+(n-j))*3) [.int .i64 0,.int .i64 0,.int .i64 0]) (some p)):=by
  constructor
  ·have hR2:=Go.rowIs_setCells [.int .i64 0,.int .i64 0,.int .i64 0] ((i+(n-j))*3) W1 _ hR1
   have hel:(xs.eraseIdx i).length=n-1:=by rw[List.length_eraseIdx,if_pos (by omega),hn]
   have:=Arys.of_row (xs:=xs.eraseIdx i) hR2 (by omega) hm (fun t ht=>by
    rw[hel] at ht
    rw[if_neg (by omega),z6Y xs i (by omega) F hF t (by omega),hnews,hj]
    simp only[Nat.zero_add])
   rw[hel] at this
   exact this
  ·have g1:w.grownBy W1 (some p):=by
    have:=z0G w.drew p (0+i*3) news
    rw[← hW1] at this
    exact⟨this.os,this.tape,this.output,this.size,this.block⟩
   have g2:=z0G W1 p ((i+(n-j))*3) [.int .i64 0,.int .i64 0,.int .i64 0]
   exact⟨g2.os.trans g1.os,g2.tape.trans g1.tape,g2.output.trans g1.output,Nat.le_trans g1.size g2.size,fun k hk e=>(g2.block k (Nat.lt_of_lt_of_le hk g1.size) e).trans (g1.block k hk e)⟩
 have hW:Hid (W1=w.drew.setCells p (0+i*3) news):=hW1
 have hic:i≤cap:=by omega
 have hjc:j≤cap:=by omega
 have hne:((i:Int) == (j:Int))=false:=by simp;omega
 have hend:Hid (n-1=i+(n-j)):=(by omega:n-1=i+(n-j))
 have hij:i≤j:=by omega
 have hni:¬ n=i:=by omega
 have hnc:¬ cap=i+(n-j):=by omega
 clear hW1 hR1 hR hF hget hnews hlen h hn hj hi
 go_enter Tryz.func289,Tryz.ntmps289
 go_wp2_with fail
 go_region_law (refine step_append_room rfl (.tmp 22) (.tmp 25) 207 rfl 324 i0 3 Tryz.underlying207 hi0 hz1 p 0 i cap (by simp[Act.eval,Act.put]) A (n-j) (cap-j) news (by simp[Act.eval,Act.put]) s1.out hsrc.out s2.out (by omega) s3.out ?_;rw[← hW.out])
 go_wp2
 go_ret
 refine⟨?_,hfin.out⟩
 rw[hend.out]
 rfl
theorem zaT {w:World}{v:Value}{xs:List Ary}{s:Nat}(h:Arys w v xs) (hs:z0h xs) (hl:xs.length<1000000) (t:Int) (hh:has xs t=true) (hc:w.cell? ⟨s,5,none⟩=some v) (hf:w.frozen? ⟨s,5,none⟩=false) (hne:v.ownBlock≠some s):
  Calls Tryz.prog 282 #[.pointer (some ⟨s,5,none⟩),.int .i64 t] w fun e w'=>e=.returned (.tuple #[])∧∃ v' w1,w'=w1.setCell ⟨s,5,none⟩ v'∧Arys w1 v' (xs.eraseIdx (pos xs t))∧w.grownBy w1 v.ownBlock∧v'.ownBlock=v.ownBlock:=by
 obtain⟨x,hx,_⟩:=z5m hs hh
 have hp:pos xs t<xs.length:=(List.getElem?_eq_some_iff.1 hx).1
 have hB:=z62 h hs hl t
 obtain⟨p,cap,rfl,hpw,_⟩:=h.cells (by omega)
 have hsw:s<w.heap.size:=World.block_lt_of_cell? w _ hc
 rw[hh] at hB
 have key:∀ w1,Below w.heap.size w w1→Arys w1 (.slice (some ⟨p,0,none⟩) xs.length cap) xs:=fun w1 hb=>h.below hb
 have HG:Hid (∀ w1,w.grownBy w1 (some p)→w1.cell? ⟨s,5,none⟩=some (.slice (some ⟨p,0,none⟩) xs.length cap)∧w1.frozen? ⟨s,5,none⟩=false):=fun w1 hg=>by
  have e:=hg.block s hsw (fun q=>hne q.symm)
  exact⟨(World.cell?_of_block (a:=⟨s,5,none⟩) e).trans hc,(World.frozen?_of_block (a:=⟨s,5,none⟩) e).trans hf⟩
 generalize pos xs t=k at *
 generalize hN:xs.length=N at *
 clear hx hh hs hN
 go_enter Tryz.func282,Tryz.ntmps282
 go_wp2_with (first
  | (go_at_call 287;refine hB.mono ?_;rintro e w1 ⟨rfl,hb⟩;have c1:=(HG.out w1 ⟨hb.os,hb.tape,hb.output,hb.size,fun j hj _=>hb.block j hj⟩).1)
  | (go_at_call 289;refine (z9B (key _ hb) k _ hp rfl).mono ?_;rintro e w2 ⟨rfl,hA,hg⟩;have hg2:w.grownBy w2 (some p):=⟨hg.os.trans hb.os,hg.tape.trans hb.tape,hg.output.trans hb.output,Nat.le_trans hb.size hg.size,fun j hj q=>(hg.block j (Nat.lt_of_lt_of_le hj hb.size) q).trans (hb.block j hj)⟩;obtain⟨c2,f2⟩:=HG.out w2 hg2))
 go_end0
 exact⟨rfl,_,_,rfl,hA,hg2,rfl⟩
def appA (ats:Array TypeId) (ty:TypeId) (args:Array Value):Sem Value:=Builtin.append_ ats ty args
theorem zfC (ats:Array TypeId) (ty:TypeId) (args:Array Value):Builtin.append_ ats ty args=appA ats ty args:=rfl
attribute [local go_sem ↓] zfC
theorem zfs {w:World}{v:Value}{xs:List Ary}{s:Nat}(h:Arys w v xs) (hl:xs.length<1000000) (x y z:Int) (hc:w.cell? ⟨s,5,none⟩=some v) (hf:w.frozen? ⟨s,5,none⟩=false) (hne:v.ownBlock≠some s):
  Calls Tryz.prog 269 #[.pointer (some ⟨s,5,none⟩),.agg #[.int .i64 x,.int .i64 y,.int .i64 z]] w fun e w'=>e=.returned (.tuple #[])∧∃ v' w1,w'=w1.setCell ⟨s,5,none⟩ v'∧Arys w1 v' (xs++[⟨x,y,z⟩])∧w.grownBy w1 v.ownBlock∧(v'.ownBlock=v.ownBlock∨∃ k,v'.ownBlock=some k∧w.heap.size≤k):=by
 have hsw:s<w.heap.size:=World.block_lt_of_cell? w _ hc
 obtain⟨i0,hi0,hzz⟩:=Option.map_eq_some_iff.1 zfn
 simp only[Prod.mk.injEq] at hzz
 obtain⟨hz0,hz1,hz2⟩:=hzz
 obtain⟨W,hW⟩:∃ W,W=((w.alloc (.cells #[.int .i64 x,.int .i64 y,.int .i64 z] 324)).alloc (.cells #[.int .i64 x,.int .i64 y,.int .i64 z] 324)).drew:=⟨_,rfl⟩
 have hbW:Below w.heap.size w W:=by rw[hW];exact (((Below.refl _ w).alloc (Nat.le_refl _) _).alloc (by simp) _).drew
 have hnew:∀ j u,([.int .i64 x,.int .i64 y,.int .i64 z]:List Value)[j]?=some u→W.cell? ((⟨w.heap.size+1,0,none⟩:Addr).add j)=some u:=by
  intro j u hu
  rw[z1D,Nat.zero_add]
  have e:W.heap[w.heap.size+1]?=some (.cells #[.int .i64 x,.int .i64 y,.int .i64 z] 324 (0,0)):=by
   rw[hW]
   have:=heap_alloc_new (w.alloc (.cells #[.int .i64 x,.int .i64 y,.int .i64 z] 324)) (.cells #[.int .i64 x,.int .i64 y,.int .i64 z] 324)
   rw[Go.Deep.nblk_alloc] at this
   exact this
  simp only[World.cell?,e]
  simpa using hu
 obtain⟨v',w',hrun,hown,hg,_,hat⟩:=run_append_own_at (P:=Tryz.prog) W 0 207 207 324 i0 _ 3 24 Tryz.underlying207 hi0 hz0 hz1 hz2 rfl (by decide) v xs.length (z0l xs) (h.below hbW) ⟨w.heap.size+1,0,none⟩ 1 1 [.int .i64 x,.int .i64 y,.int .i64 z] rfl hnew (by simp[Value.oneCell']) (by unfold maxLen;omega) (by omega) (Nat.zero_le _)
 have hA:Arys w' v' (xs++[⟨x,y,z⟩]):=by
  unfold Arys
  rw[z0S,List.length_append]
  exact hown
 have hg2:w.grownBy w' v.ownBlock:=⟨hg.os.trans hbW.os,hg.tape.trans hbW.tape,hg.output.trans hbW.output,Nat.le_trans hbW.size hg.size,fun j hj q=>(hg.block j (Nat.lt_of_lt_of_le hj hbW.size) q).trans (hbW.block j hj)⟩
 have hat2:v'.ownBlock=v.ownBlock∨∃ k,v'.ownBlock=some k∧w.heap.size≤k:=by
  rcases hat with q|q
  ·exact .inl q
  ·exact .inr ⟨_,q,hbW.size⟩
 obtain⟨n',cap',ao,rfl⟩:∃ n' cap' ao,v'=.slice ao n' cap':=by
  rcases hA.shape with ⟨rfl,_⟩|⟨p,cap,rfl,_⟩
  ·exact⟨_,_,_,rfl⟩
  ·exact⟨_,_,_,rfl⟩
 obtain⟨n0,cap0,ao0,rfl⟩:∃ n' cap' ao,v=.slice ao n' cap':=by
  rcases h.shape with ⟨rfl,_⟩|⟨p,cap,rfl,_⟩
  ·exact⟨_,_,_,rfl⟩
  ·exact⟨_,_,_,rfl⟩
 have e:=hg2.block s hsw (fun q=>hne q.symm)
 have c1:w'.cell? ⟨s,5,none⟩=some (.slice ao0 n0 cap0):=(World.cell?_of_block (a:=⟨s,5,none⟩) e).trans hc
 have f1:w'.frozen? ⟨s,5,none⟩=false:=(World.frozen?_of_block (a:=⟨s,5,none⟩) e).trans hf
 rw[zfC,hW] at hrun
 have HA:Hid _:=hA
 have HG:Hid _:=hg2
 have HT:Hid _:=hat2
 clear hA hg2 hat2 hat hg hown hnew hbW hW h e
 go_enter Tryz.func269,Tryz.ntmps269
 go_wp2
 go_region
 go_wp2
 go_end0
 exact⟨rfl,_,_,rfl,HA.out,HG.out,HT.out⟩
structure Cyc where
 on:Bool
 last:Int
 id:Int
 cop:Bool
 copied:Int
 tgt:Int
 next:Int
structure St where
 base:Int
 half:Int
 up:Bool
 given:Int
 xs:List Ary
 taken:Int
 dropped:Int
 leaving:Int
 c:Cyc
def z0m (q:St):Int:=if q.up=true then q.base+q.half else q.base
def z22 (q:St):Int:=if q.up=true then q.base else q.base+q.half
def z0B (q:St):Int:=z0m q+q.taken-q.leaving
theorem z1Y (q:St):(z0m q=q.base∧z22 q=q.base+q.half)∨(z0m q=q.base+q.half∧z22 q=q.base):=by
 unfold z0m z22;cases q.up<;>simp
def remG (g:Ary→Int) (lo hi:Int):List Ary→Int
 | []=>0
 | x::r=>(if lo<x.id∧x.id≤hi then g x else 0)+remG g lo hi r
def sumG (g:Ary→Int):List Ary→Int
 | []=>0
 | x::r=>g x+sumG g r
abbrev sz (x:Ary):Int:=x.n+4
abbrev wt (x:Ary):Int:=x.n+2
theorem z31 {g:Ary→Int}{lo hi:Int}:∀ {xs:List Ary},(∀ x∈xs,lo<x.id→x.id≤hi→0≤g x)→0≤remG g lo hi xs
 | [],_=>Int.le_refl _
 | x::r,h=>by
  have h1:=z31 (g:=g) (lo:=lo) (hi:=hi) (xs:=r) fun y hy=>h y (List.mem_cons_of_mem _ hy)
  unfold remG
  split
  ·have:=h x (by simp) (by omega) (by omega);omega
  ·omega
theorem z7l {g:Ary→Int}:∀ {xs:List Ary},(∀ x∈xs,0≤g x)→0≤sumG g xs
 | [],_=>Int.le_refl _
 | x::r,h=>by
  have h1:=z7l (g:=g) (xs:=r) fun y hy=>h y (List.mem_cons_of_mem _ hy)
  have:=h x (by simp)
  unfold sumG;omega
theorem z3b (g:Ary→Int) (lo hi:Int):∀ xs ys:List Ary,remG g lo hi (xs++ys)=remG g lo hi xs+remG g lo hi ys
 | [],ys=>by simp[remG]
 | x::r,ys=>by simp only[List.cons_append,remG,z3b g lo hi r ys];omega
theorem z2d (g:Ary→Int):∀ xs ys:List Ary,sumG g (xs++ys)=sumG g xs+sumG g ys
 | [],ys=>by simp[sumG]
 | x::r,ys=>by simp only[List.cons_append,sumG,z2d g r ys];omega
theorem z38 {g:Ary→Int}{lo hi:Int}:∀ {xs:List Ary},(∀ x∈xs,¬ (lo<x.id∧x.id≤hi))→remG g lo hi xs=0
 | [],_=>rfl
 | x::r,h=>by
  unfold remG
  rw[if_neg (h x (by simp)),z38 (xs:=r) fun y hy=>h y (List.mem_cons_of_mem _ hy)];rfl
theorem z4Y {g:Ary→Int}{lo hi:Int}:∀ {xs:List Ary},(∀ x∈xs,lo<x.id∧x.id≤hi)→remG g lo hi xs=sumG g xs
 | [],_=>rfl
 | x::r,h=>by
  unfold remG sumG
  rw[if_pos (h x (by simp)),z4Y (xs:=r) fun y hy=>h y (List.mem_cons_of_mem _ hy)]
theorem z2a {g:Ary→Int}{lo hi:Int}:∀ {xs:List Ary} {x:Ary},z0h xs→x∈xs→lo<x.id→x.id≤hi→(∀ y∈xs,lo<y.id→x.id≤y.id)→remG g lo hi xs=g x+remG g x.id hi xs
 | [],x,_,hx,_,_,_=>by simp at hx
 | y::r,x,hs,hx,h1,h2,h3=>by
  have hy:=(List.pairwise_cons.1 hs).1
  have hs':z0h r:=(List.pairwise_cons.1 hs).2
  rcases List.mem_cons.1 hx with e|hx
  ·subst e
   unfold remG
   rw[if_pos ⟨h1,h2⟩,if_neg (by omega)]
   have:remG g lo hi r=remG g x.id hi r:=by
    rw[show remG g lo hi r=remG g x.id hi r from ?_]
    have aux:∀ zs:List Ary,(∀ z∈zs,x.id<z.id)→remG g lo hi zs=remG g x.id hi zs:=by
     intro zs
     induction zs with
     | nil=>intro _;rfl
     | cons z zs ih =>
      intro hz
      have:=hz z (by simp)
      unfold remG
      rw[ih fun u hu=>hz u (List.mem_cons_of_mem _ hu)]
      by_cases hzh:z.id≤hi
      ·rw[if_pos ⟨by omega,hzh⟩,if_pos ⟨this,hzh⟩]
      ·rw[if_neg (fun q=>hzh q.2),if_neg (fun q=>hzh q.2)]
    exact aux r hy
   omega
  ·have hyx:=hy x hx
   have hny:¬ lo<y.id:=fun q=>by have:=h3 y (by simp) q;omega
   have ih:=z2a (g:=g) (lo:=lo) (hi:=hi) (xs:=r) hs' hx h1 h2 fun z hz=>h3 z (List.mem_cons_of_mem _ hz)
   unfold remG
   rw[if_neg (fun q=>hny q.1),if_neg (by omega),ih];omega
theorem z4l {g:Ary→Int}{lo hi:Int}:∀ {xs:List Ary} {i:Nat} {x:Ary},xs[i]?=some x→remG g lo hi xs=remG g lo hi (xs.eraseIdx i)+(if lo<x.id∧x.id≤hi then g x else 0)
 | [],i,x,h=>by simp at h
 | y::r,0,x,h=>by
  simp at h;subst h
  simp only[remG,List.eraseIdx_cons_zero];omega
 | y::r,i+1,x,h=>by
  have h':r[i]?=some x:=by simpa using h
  have ih:=z4l (g:=g) (lo:=lo) (hi:=hi) h'
  simp only[remG,List.eraseIdx_cons_succ];omega
theorem z2S {g:Ary→Int}:∀ {xs:List Ary} {i:Nat} {x:Ary},xs[i]?=some x→sumG g xs=sumG g (xs.eraseIdx i)+g x
 | [],i,x,h=>by simp at h
 | y::r,0,x,h=>by
  simp at h;subst h
  simp only[sumG,List.eraseIdx_cons_zero];omega
 | y::r,i+1,x,h=>by
  have h':r[i]?=some x:=by simpa using h
  have ih:=z2S (g:=g) h'
  simp only[sumG,List.eraseIdx_cons_succ];omega
theorem z54 {g:Ary→Int}{lo hi:Int}:∀ {xs:List Ary} {i:Nat} {x y:Ary},xs[i]?=some x→y.id=x.id→g y=g x→remG g lo hi (xs.set i y)=remG g lo hi xs
 | [],i,x,y,h,_,_=>by simp at h
 | z::r,0,x,y,h,e1,e2=>by
  simp at h;subst h
  simp only[remG,List.set_cons_zero,e1,e2]
 | z::r,i+1,x,y,h,e1,e2=>by
  have h':r[i]?=some x:=by simpa using h
  simp only[remG,List.set_cons_succ,z54 h' e1 e2]
theorem z84 {g:Ary→Int}:∀ {xs:List Ary} {i:Nat} {x y:Ary},xs[i]?=some x→g y=g x→sumG g (xs.set i y)=sumG g xs
 | [],i,x,y,h,_=>by simp at h
 | z::r,0,x,y,h,e2=>by
  simp at h;subst h
  simp only[sumG,List.set_cons_zero,e2]
 | z::r,i+1,x,y,h,e2=>by
  have h':r[i]?=some x:=by simpa using h
  simp only[sumG,List.set_cons_succ,z84 h' e2]
theorem z3L:∀ {xs:List Ary}{i:Nat}{x y:Ary},xs[i]?=some x→y.id=x.id→y.n=x.n→(xs.set i y).map (fun z=>(z.id,z.n))=xs.map (fun z=>(z.id,z.n))
 | [],i,x,y,h,_,_=>by simp at h
 | z::r,0,x,y,h,e1,e2=>by
  simp at h;subst h
  simp[e1,e2]
 | z::r,i+1,x,y,h,e1,e2=>by
  have h':r[i]?=some x:=by simpa using h
  simp only[List.set_cons_succ,List.map_cons,z3L h' e1 e2]
theorem z4i (xs:List Ary):z0h xs↔(xs.map (fun z=>(z.id,z.n))).Pairwise (fun a b=>a.1<b.1):=by
 unfold z0h;rw[List.pairwise_map]
theorem z1h {xs:List Ary}(hs:z0h xs) {x y:Ary}(hx:x∈xs) (hy:y∈xs) (e:x.id=y.id):x=y:=by
 obtain⟨i,hi,rfl⟩:=List.getElem_of_mem hx
 obtain⟨j,hj,rfl⟩:=List.getElem_of_mem hy
 have h:=List.pairwise_iff_getElem.1 hs
 rcases Nat.lt_trichotomy i j with q|q|q
 ·have:=h i j hi hj q;omega
 ·subst q;rfl
 ·have:=h j i hj hi q;omega
theorem z8M {xs:List Ary}(hs:z0h xs) {k:Nat}{x x' y:Ary}(hk:xs[k]?=some x) (h:y∈xs.set k x'):y=x'∨(y∈xs∧y.id≠x.id):=by
 have hk':k<xs.length:=(List.getElem?_eq_some_iff.1 hk).1
 obtain⟨j,hj,rfl⟩:=List.getElem_of_mem h
 have hj':j<xs.length:=by simpa using hj
 by_cases ejk:k=j
 ·left;subst ejk;simp
 ·right
  rw[List.getElem_set_ne ejk]
  refine⟨List.getElem_mem _,fun q=>ejk ?_⟩
  have hx:x=xs[k]:=by rw[List.getElem?_eq_getElem hk'] at hk;exact (Option.some.inj hk).symm
  have h:=List.pairwise_iff_getElem.1 hs
  rcases Nat.lt_trichotomy k j with r|r|r
  ·have:=h k j hk' hj' r;rw[← hx] at this;omega
  ·exact r
  ·have:=h j k hj' hk' r;rw[← hx] at this;omega
theorem z2V {xs:List Ary}(hs:z0h xs) {k:Nat}{x y:Ary}(hk:xs[k]?=some x):y∈xs.eraseIdx k↔y∈xs∧y.id≠x.id:=by
 have hk':k<xs.length:=(List.getElem?_eq_some_iff.1 hk).1
 have hx:x=xs[k]:=by rw[List.getElem?_eq_getElem hk'] at hk;exact (Option.some.inj hk).symm
 have h:=List.pairwise_iff_getElem.1 hs
 rw[List.mem_eraseIdx_iff_getElem]
 constructor
 ·rintro⟨j,hj,hjk,rfl⟩
  refine⟨List.getElem_mem _,fun q=>?_⟩
  rcases Nat.lt_trichotomy k j with r|r|r
  ·have:=h k j hk' hj r;rw[← hx] at this;omega
  ·exact hjk r.symm
  ·have:=h j k hj hk' r;rw[← hx] at this;omega
 ·rintro⟨hy,hne⟩
  obtain⟨j,hj,rfl⟩:=List.getElem_of_mem hy
  refine⟨j,hj,fun q=>hne ?_,rfl⟩
  subst q;rw[hx]
theorem z5J {xs:List Ary}(hs:z0h xs) (k:Nat):z0h (xs.eraseIdx k):=List.Pairwise.sublist (List.eraseIdx_sublist xs k) hs
end Go.Proofs.YthkelaeemefnaaaGreat
