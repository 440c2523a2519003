import Derived.Test.YthkelaeemefnaaaGreatMHKeyqz
import Derived.BigRegion
set_option maxRecDepth 20000
set_option maxHeartbeats 2000000
namespace Go.Proofs.YthkelaeemefnaaaGreat
open Go.RowKit
theorem z2l {w:World}{p o:Nat}{a b c d e f:Value}(h:w.rangeAt p o [a,b,c,d,e,f]):w.cell? ⟨p,o,none⟩=some a∧w.cell? ⟨p,o+1,none⟩=some b∧w.cell? ⟨p,o+2,none⟩=some c∧w.cell? ⟨p,o+3,none⟩=some d∧w.cell? ⟨p,o+4,none⟩=some e∧w.cell? ⟨p,o+5,none⟩=some f :=
 ⟨h 0 a rfl,h 1 b rfl,h 2 c rfl,h 3 d rfl,h 4 e rfl,h 5 f rfl⟩
theorem z2R {w:World}{p o:Nat}{a b c d:Value}(h:w.rangeAt p o [a,b,c,d]):w.cell? ⟨p,o,none⟩=some a∧w.cell? ⟨p,o+1,none⟩=some b∧w.cell? ⟨p,o+2,none⟩=some c∧w.cell? ⟨p,o+3,none⟩=some d :=
 ⟨h 0 a rfl,h 1 b rfl,h 2 c rfl,h 3 d rfl⟩
theorem z1f {w:World}{z ty:Nat}{a b c d e a' b' c' d' e':Value}(h:w.heap[z]?=some (.cells #[a,b,c,d,e] ty (0,0))):(((((w.setCell ⟨z,0,none⟩ a').setCell ⟨z,1,none⟩ b').setCell ⟨z,2,none⟩ c').setCell ⟨z,3,none⟩ d').setCell ⟨z,4,none⟩ e').heap[z]?=some (.cells #[a',b',c',d',e'] ty (0,0)) :=
 z05 (z05 (z05 (z05 (z05 h 0 a') 1 b') 2 c') 3 d') 4 e'
theorem z0F {w w1:World}{B z:Nat}{a b c d e:Value}(hb:Below B w w1) (hz:B≤z):Below B w (((((w1.setCell ⟨z,0,none⟩ a).setCell ⟨z,1,none⟩ b).setCell ⟨z,2,none⟩ c).setCell ⟨z,3,none⟩ d).setCell ⟨z,4,none⟩ e) :=
 ((((hb.setCell (p:=⟨z,0,none⟩) hz a).setCell (p:=⟨z,1,none⟩) hz b).setCell (p:=⟨z,2,none⟩) hz c).setCell (p:=⟨z,3,none⟩) hz d).setCell (p:=⟨z,4,none⟩) hz e
theorem z25 {w:World}{z ty:Nat}{a b c a' b' c':Value}(h:w.heap[z]?=some (.cells #[a,b,c] ty (0,0))):(((w.setCell ⟨z,0,none⟩ a').setCell ⟨z,1,none⟩ b').setCell ⟨z,2,none⟩ c').heap[z]?=some (.cells #[a',b',c'] ty (0,0)) :=
 z05 (z05 (z05 h 0 a') 1 b') 2 c'
theorem z0X {w w1:World}{B z:Nat}{a b c:Value}(hb:Below B w w1) (hz:B≤z):Below B w (((w1.setCell ⟨z,0,none⟩ a).setCell ⟨z,1,none⟩ b).setCell ⟨z,2,none⟩ c) :=
 ((hb.setCell (p:=⟨z,0,none⟩) hz a).setCell (p:=⟨z,1,none⟩) hz b).setCell (p:=⟨z,2,none⟩) hz c
theorem zdh {w:World}{z ty:Nat}{a b c d e:Value}(h:w.heap[z]?=some (.cells #[a,b,c,d,e] ty (0,0))):w.cell? ⟨z,0,none⟩=some a∧w.cell? ⟨z,1,none⟩=some b∧w.cell? ⟨z,2,none⟩=some c∧w.cell? ⟨z,3,none⟩=some d∧w.cell? ⟨z,4,none⟩=some e:=by
 simp[World.cell?,h]
theorem zdA {w:World}{z ty:Nat}{a b c:Value}(h:w.heap[z]?=some (.cells #[a,b,c] ty (0,0))):w.cell? ⟨z,0,none⟩=some a∧w.cell? ⟨z,1,none⟩=some b∧w.cell? ⟨z,2,none⟩=some c:=by
 simp[World.cell?,h]
theorem z4D:(Tryz.prog.info? 137).map (·.size)=some 5:=by kernel_rfl
def KeyC (R:List (List Value)) (K:List Int):Prop:=R.length=K.length∧∀ (i:Nat) (r:List Value),R[i]?=some r→∃ (x a b c u:Int) (ty:TypeId) (d:Value),K[i]?=some x∧r=[.int .i64 x,.int .i64 a,.int .i64 b,.int .i64 c,.iface ty d,.int .i64 u]
theorem ltC (x a b c u t:Int) (ty:TypeId) (d:Value) (w:World) (h:x<t):Calls Tryz.prog 142 #[.agg #[.int .i64 x,.int .i64 a,.int .i64 b,.int .i64 c,.iface ty d,.int .i64 u],.int .i64 t] w fun e w'=>e=.returned (.int .i64 (-1))∧Below w.heap.size w w':=by
 go_enter Tryz.func142,Tryz.ntmps142
 go_wp2_with (go_at_call 139;refine (zaS _ _ _ h).mono ?_;rintro e w1 ⟨rfl,rfl⟩)
 go_ret
 exact⟨rfl,(Below.refl _ _).alloc (Nat.le_refl _) _⟩
theorem eqC (a b c u t:Int) (ty:TypeId) (d:Value) (w:World):Calls Tryz.prog 142 #[.agg #[.int .i64 t,.int .i64 a,.int .i64 b,.int .i64 c,.iface ty d,.int .i64 u],.int .i64 t] w fun e w'=>e=.returned (.int .i64 0)∧Below w.heap.size w w':=by
 go_enter Tryz.func142,Tryz.ntmps142
 go_wp2_with (go_at_call 139;refine (zax _ _).mono ?_;rintro e w1 ⟨rfl,rfl⟩)
 go_ret
 exact⟨rfl,(Below.refl _ _).alloc (Nat.le_refl _) _⟩
theorem gtC (x a b c u t:Int) (ty:TypeId) (d:Value) (w:World) (h:t<x):Calls Tryz.prog 142 #[.agg #[.int .i64 x,.int .i64 a,.int .i64 b,.int .i64 c,.iface ty d,.int .i64 u],.int .i64 t] w fun e w'=>e=.returned (.int .i64 1)∧Below w.heap.size w w':=by
 go_enter Tryz.func142,Tryz.ntmps142
 go_wp2_with (go_at_call 139;refine (zaQ _ _ _ h).mono ?_;rintro e w1 ⟨rfl,rfl⟩)
 go_ret
 exact⟨rfl,(Below.refl _ _).alloc (Nat.le_refl _) _⟩
theorem geC (x a b c u t:Int) (ty:TypeId) (d:Value) (w:World) (h:t≤x):Calls Tryz.prog 142 #[.agg #[.int .i64 x,.int .i64 a,.int .i64 b,.int .i64 c,.iface ty d,.int .i64 u],.int .i64 t] w fun e w'=>∃ r:Int,e=.returned (.int .i64 r)∧0≤r∧Below w.heap.size w w':=by
 by_cases hh:x=t
 ·subst hh
  exact (eqC _ _ _ _ _ _ _ _).mono fun e w' q=>⟨0,q.1,by omega,q.2⟩
 ·exact (gtC _ _ _ _ _ _ _ _ _ (by omega)).mono fun e w' q=>⟨1,q.1,by omega,q.2⟩
theorem bsC {w:World}{v:Value}{R:List (List Value)}{K:List Int}(h:Rs w 0 170 6 v R) (hk:KeyC R K) (hs:z0g K) (hl:K.length<1000000) (t:Int):
  Calls Tryz.prog 141 #[v,.int .i64 t,.func (.func 142) #[] #[]] w fun e w'=>e=.returned (.tuple #[.int .i64 (posK K t),.bool (hasK K t)])∧Below w.heap.size w w':=by
 obtain⟨ao,cap,rfl⟩:=h.form
 rw[hk.1] at h ⊢
 have hpl:=z6O K t
 have HS:Hid (∀ (i:Nat) (x:Int),K[i]?=some x→(i<posK K t↔x<t)):=z1t K t hs
 have HA:Hid (hasK K t=true→K[posK K t]?=some t):=z1P hs
 have HN:Hid (hasK K t=false→∀ (i:Nat) (x:Int),K[i]?=some x→x≠t):=fun q i x=>z4s q
 have HC:Hid (∀ w1,Below w.heap.size w w1→∀ i,i<K.length→∃ (p:Nat) (x a b c u:Int) (ty:TypeId) (d:Value),ao=some ⟨p,0,none⟩∧K[i]?=some x∧p<w1.heap.size∧w1.rangeAt p (i*6) [.int .i64 x,.int .i64 a,.int .i64 b,.int .i64 c,.iface ty d,.int .i64 u]):=fun w1 hb i hi=>by
  obtain⟨p,rfl,hp,_,_,hc⟩:=h.cells (by rw[hk.1];omega)
  obtain⟨r,hri⟩:∃ r,R[i]?=some r:=⟨_,List.getElem?_eq_getElem (by rw[hk.1];exact hi)⟩
  obtain⟨x,a,b,c,u,ty,d,hx,hr⟩:=hk.2 i _ hri
  refine⟨p,x,a,b,c,u,ty,d,rfl,hx,Nat.lt_of_lt_of_le hp.2 hb.size,fun j u hu=>?_⟩
  rw[← hr] at hu
  exact (z0q (hb.block p hp.2)).trans (hc i _ hri j u hu)
 generalize hP:posK K t=P at *
 generalize hF:hasK K t=F at *
 clear hP hF hs h hk
 generalize hN:K.length=N at *
 have HL:Hid (K.length=N):=hN
 clear hN
 go_enter Tryz.func141,Tryz.ntmps141
 go_wp2
 go_loopg [9,10] N (fun kx s9 s10 wr=>∃ lo hi:Nat,s9=.int .i64 lo∧s10=.int .i64 hi∧lo≤P∧P≤hi∧hi≤N∧hi-lo≤kx∧Below w.heap.size w wr)
 case atStart=>exact⟨0,N,rfl,rfl,by omega,by omega,by omega,by omega,Below.refl _ _⟩
 case round =>
  obtain⟨lo,hi,rfl,rfl,h1,h2,h3,h4,hb⟩:=hrel
  by_cases hlt:lo<hi
  ·have hm:(lo+hi)/2<N:=by omega
   obtain⟨p,x,a,b,c,u,ty,d,rfl,hx,hp,hr⟩:=HC.out wr hb ((lo+hi)/2) (by omega)
   have cc:=z2l hr
   have hx':=HS.out _ _ hx
   clear hr hx
   by_cases hyx:x<t
   ·have hlp:(lo+hi)/2<P:=hx'.2 hyx
    clear hx'
    go_wp2_with (go_at_call 142;refine (ltC _ _ _ _ _ _ _ _ _ hyx).mono ?_;rintro e w1 ⟨rfl,hb1⟩)
    go_roundg (hi-((lo+hi)/2+1))
    case measure=>omega
    case rel=>exact⟨(lo+hi)/2+1,hi,by rw[show ((lo:Int)+(hi:Int))/2+1=(((lo+hi)/2+1:Nat):Int) by omega],rfl,by omega,h2,h3,by omega,hb.trans (hb1.mono hb.size)⟩
   ·have hlp:P≤(lo+hi)/2:=by
     have:¬ (lo+hi)/2<P:=fun q=>hyx (hx'.1 q)
     omega
    clear hx'
    go_wp2_with (go_at_call 142;refine (geC _ _ _ _ _ _ _ _ _ (by omega)).mono ?_;rintro e w1 ⟨rr,rfl,hr0,hb1⟩)
    go_roundg ((lo+hi)/2-lo)
    case measure=>omega
    case rel=>exact⟨lo,(lo+hi)/2,rfl,by rw[show ((lo:Int)+(hi:Int))/2=(((lo+hi)/2:Nat):Int) by omega],h1,by omega,by omega,by omega,hb.trans (hb1.mono hb.size)⟩
  ·obtain rfl:hi=lo:=by omega
   obtain rfl:P=hi:=by omega
   by_cases hn:P<N
   ·obtain⟨p,x,a,b,c,u,ty,d,rfl,hx,hp,hr⟩:=HC.out wr hb P hn
    have cc:=z2l hr
    have hx':=HS.out _ _ hx
    clear hr
    cases hF:F with
    | true =>
     subst hF
     have hy:=HA.out rfl
     rw[hx] at hy
     obtain rfl:=Option.some.inj hy
     clear hx hy hx' HA HN
     go_wp2_with (go_at_call 142;refine (eqC _ _ _ _ _ _ _ _).mono ?_;rintro e w1 ⟨rfl,hb1⟩)
     go_ret2
     exact⟨rfl,hb.trans (hb1.mono hb.size)⟩
    | false =>
     subst hF
     have hne:=HN.out rfl _ _ hx
     have hgt:t<x:=by
      have h5:¬ x<t:=fun q=>Nat.lt_irrefl _ (hx'.2 q)
      omega
     clear hx hx' hne HA HN
     go_wp2_with (go_at_call 142;refine (gtC _ _ _ _ _ _ _ _ _ hgt).mono ?_;rintro e w1 ⟨rfl,hb1⟩)
     go_ret2
     exact⟨rfl,hb.trans (hb1.mono hb.size)⟩
   ·have hF:F=false:=by
     cases hF:F with
     | false=>rfl
     | true =>
      have:=(List.getElem?_eq_some_iff.1 (HA.out hF)).1
      rw[HL.out] at this
      omega
    subst hF
    clear HA HN
    go_wp2
    go_ret2
    exact⟨rfl,hb⟩
theorem z9I {w:World}{h:Nat}{v:Value}{R:List (List Value)}{K:List Int}(c3:w.cell? ⟨h,3,none⟩=some v) (hR:Rs w 0 170 6 v R) (hk:KeyC R K) (hs:z0g K) (hl:K.length<1000000) (t:Int):
  Calls Tryz.prog 117 #[.pointer (some ⟨h,3,none⟩),.int .i64 t] w fun e w'=>e=.returned (.tuple #[.int .i64 (posK K t),.bool (hasK K t)])∧Below w.heap.size w w':=by
 have hh:h<w.heap.size:=z1E c3
 have hB:=bsC hR hk hs hl t
 generalize posK K t=P at *
 generalize hasK K t=F at *
 obtain⟨ao,cap,rfl⟩:=hR.form
 clear hR hk hs hl
 go_enter Tryz.func117,Tryz.ntmps117
 go_wp2_with (go_at_call 141;refine hB.mono ?_;rintro e w1 ⟨rfl,hb⟩)
 go_ret2
 exact⟨rfl,hb⟩
theorem zcc {w:World}{h:Nat}{v:Value}{R:List (List Value)}{K:List Int}(c3:w.cell? ⟨h,3,none⟩=some v) (hR:Rs w 0 170 6 v R) (hk:KeyC R K) (hs:z0g K) (hl:K.length<1000000) (t:Int) (ht:hasK K t=false):
  Calls Tryz.prog 95 #[.pointer (some ⟨h,3,none⟩),.int .i64 t] w fun e w'=>e=.returned (.tuple #[.agg #[.int .i64 0,.int .i64 0,.int .i64 0,.nilIface,.int .i64 0],.bool false])∧Below w.heap.size w w':=by
 have hh:h<w.heap.size:=z1E c3
 have hb0:=(Below.refl w.heap.size w).alloc (Nat.le_refl _) (.cells #[.int .i64 0,.int .i64 0,.int .i64 0,.nilIface,.int .i64 0] 137)
 have hz0:=heap_alloc_new w (.cells #[.int .i64 0,.int .i64 0,.int .i64 0,.nilIface,.int .i64 0] 137)
 have hP:=z9I ((z0q (hb0.block h hh)).trans c3) (hR.below hb0) hk hs hl t
 rw[ht] at hP
 have HB:Hid (∀ w1,Below (w.alloc (.cells #[.int .i64 0,.int .i64 0,.int .i64 0,.nilIface,.int .i64 0] 137)).heap.size (w.alloc (.cells #[.int .i64 0,.int .i64 0,.int .i64 0,.nilIface,.int .i64 0] 137)) w1→Below w.heap.size w w1∧w1.heap[w.heap.size]?=some (.cells #[.int .i64 0,.int .i64 0,.int .i64 0,.nilIface,.int .i64 0] 137 (0,0))):=fun w1 hb =>
  ⟨hb0.trans (hb.mono hb0.size),(hb.block _ (by rw[Go.Deep.nblk_alloc];omega)).trans hz0⟩
 clear hR hk hs hl ht hb0 hz0
 generalize posK K t=P at *
 go_enter Tryz.func95,Tryz.ntmps95
 go_wp2_with (go_at_call 117;refine hP.mono ?_;rintro e w1 ⟨rfl,hb⟩;obtain⟨hb1,hz1⟩:=HB.out w1 hb;have k2:=frz hz1;have k3:=z02 hz1;have k4:=zdh hz1;clear hP hb)
 exact bodyPost_ret (z0j rfl _ _ w.heap.size 137 _ (0,0) _ rfl (z01 (z1f hz1) _) Tryz.underlying137 rfl z4D) rfl ⟨rfl,(z0F hb1 (Nat.le_refl _)).alloc (z0F hb1 (Nat.le_refl _)).size _⟩
theorem zc3 {w:World}{h:Nat}{v:Value}{R:List (List Value)}{K:List Int}(c3:w.cell? ⟨h,3,none⟩=some v) (hR:Rs w 0 170 6 v R) (hk:KeyC R K) (hs:z0g K) (hl:K.length<100000) {i:Nat}{x a b c u:Int}{ty:TypeId}{d:Value}(hi:R[i]?=some [.int .i64 x,.int .i64 a,.int .i64 b,.int .i64 c,.iface ty d,.int .i64 u]) (t:Int) (ht:t=x):
  Calls Tryz.prog 95 #[.pointer (some ⟨h,3,none⟩),.int .i64 t] w fun e w'=>e=.returned (.tuple #[.agg #[.int .i64 a,.int .i64 b,.int .i64 c,.iface ty d,.int .i64 u],.bool true])∧Below w.heap.size w w':=by
 have hh:h<w.heap.size:=z1E c3
 subst ht
 have hxK:K[i]?=some t:=by
  obtain⟨x',a',b',c',u',ty',d',h1,h2⟩:=hk.2 i _ hi
  simp only[List.cons.injEq,Value.int.injEq,true_and] at h2
  rw[h1,h2.1]
 have hil:i<K.length:=(List.getElem?_eq_some_iff.1 hxK).1
 have hpa:=z1b hs hxK
 have hb0:=(Below.refl w.heap.size w).alloc (Nat.le_refl _) (.cells #[.int .i64 0,.int .i64 0,.int .i64 0,.nilIface,.int .i64 0] 137)
 have hz0:=heap_alloc_new w (.cells #[.int .i64 0,.int .i64 0,.int .i64 0,.nilIface,.int .i64 0] 137)
 have hP:=z9I ((z0q (hb0.block h hh)).trans c3) (hR.below hb0) hk hs (by omega) t
 rw[hpa.1,hpa.2] at hP
 obtain⟨ao,cap,rfl⟩:=hR.form
 obtain⟨p,rfl,hp,_,_,hc⟩:=hR.cells (by rw[hk.1];omega)
 have hrow:=hc i _ hi
 have HB:Hid (∀ w1,Below (w.alloc (.cells #[.int .i64 0,.int .i64 0,.int .i64 0,.nilIface,.int .i64 0] 137)).heap.size (w.alloc (.cells #[.int .i64 0,.int .i64 0,.int .i64 0,.nilIface,.int .i64 0] 137)) w1→Below w.heap.size w w1∧w1.heap[w.heap.size]?=some (.cells #[.int .i64 0,.int .i64 0,.int .i64 0,.nilIface,.int .i64 0] 137 (0,0))∧w1.cell? ⟨h,3,none⟩=some (.slice (some ⟨p,0,none⟩) R.length cap)∧h<w1.heap.size∧p<w1.heap.size∧w1.rangeAt p (i*6) [.int .i64 t,.int .i64 a,.int .i64 b,.int .i64 c,.iface ty d,.int .i64 u]):=fun w1 hb=>by
  have hb1:Below w.heap.size w w1:=hb0.trans (hb.mono hb0.size)
  exact⟨hb1,(hb.block _ (by rw[Go.Deep.nblk_alloc];omega)).trans hz0,(z0q (hb1.block h hh)).trans c3,Nat.lt_of_lt_of_le hh hb1.size,Nat.lt_of_lt_of_le hp.2 hb1.size,fun j u hu=>(z0q (hb1.block p hp.2)).trans (hrow j u hu)⟩
 have hiR:(i:Int)<(R.length:Int):=by rw[hk.1];omega
 have hi2:i<100000:=by omega
 clear hR hk hs hl hb0 hz0 hrow hc hi hpa hxK hp c3
 generalize R.length=N at *
 go_enter Tryz.func95,Tryz.ntmps95
 go_wp2_with (go_at_call 117;refine hP.mono ?_;rintro e w1 ⟨rfl,hb⟩;obtain⟨hb1,hz1,k5,k6,k7,k8⟩:=HB.out w1 hb;have k2:=frz hz1;have k3:=z02 hz1;have k4:=zdh hz1;have k9:=z2l k8;clear hP hb k8)
 exact bodyPost_ret (z0j rfl _ _ w.heap.size 137 _ (0,0) _ rfl (z1f hz1) Tryz.underlying137 rfl z4D) rfl ⟨rfl,z0F hb1 (Nat.le_refl _)⟩
theorem zfV:(Tryz.prog.info? 133).map (·.size)=some 3:=by kernel_rfl
def KeyK (R:List (List Value)) (K:List Int):Prop:=R.length=K.length∧∀ (i:Nat) (r:List Value),R[i]?=some r→∃ (x a b:Int) (ty:TypeId) (d:Value),K[i]?=some x∧r=[.int .i64 x,.int .i64 a,.int .i64 b,.iface ty d]
theorem ltK (x a b t:Int) (ty:TypeId) (d:Value) (w:World) (h:x<t):Calls Tryz.prog 138 #[.agg #[.int .i64 x,.int .i64 a,.int .i64 b,.iface ty d],.int .i64 t] w fun e w'=>e=.returned (.int .i64 (-1))∧Below w.heap.size w w':=by
 go_enter Tryz.func138,Tryz.ntmps138
 go_wp2_with (go_at_call 139;refine (zaS _ _ _ h).mono ?_;rintro e w1 ⟨rfl,rfl⟩)
 go_ret
 exact⟨rfl,(Below.refl _ _).alloc (Nat.le_refl _) _⟩
theorem eqK (a b t:Int) (ty:TypeId) (d:Value) (w:World):Calls Tryz.prog 138 #[.agg #[.int .i64 t,.int .i64 a,.int .i64 b,.iface ty d],.int .i64 t] w fun e w'=>e=.returned (.int .i64 0)∧Below w.heap.size w w':=by
 go_enter Tryz.func138,Tryz.ntmps138
 go_wp2_with (go_at_call 139;refine (zax _ _).mono ?_;rintro e w1 ⟨rfl,rfl⟩)
 go_ret
 exact⟨rfl,(Below.refl _ _).alloc (Nat.le_refl _) _⟩
theorem gtK (x a b t:Int) (ty:TypeId) (d:Value) (w:World) (h:t<x):Calls Tryz.prog 138 #[.agg #[.int .i64 x,.int .i64 a,.int .i64 b,.iface ty d],.int .i64 t] w fun e w'=>e=.returned (.int .i64 1)∧Below w.heap.size w w':=by
 go_enter Tryz.func138,Tryz.ntmps138
 go_wp2_with (go_at_call 139;refine (zaQ _ _ _ h).mono ?_;rintro e w1 ⟨rfl,rfl⟩)
 go_ret
 exact⟨rfl,(Below.refl _ _).alloc (Nat.le_refl _) _⟩
theorem geK (x a b t:Int) (ty:TypeId) (d:Value) (w:World) (h:t≤x):Calls Tryz.prog 138 #[.agg #[.int .i64 x,.int .i64 a,.int .i64 b,.iface ty d],.int .i64 t] w fun e w'=>∃ r:Int,e=.returned (.int .i64 r)∧0≤r∧Below w.heap.size w w':=by
 by_cases hh:x=t
 ·subst hh
  exact (eqK _ _ _ _ _ _).mono fun e w' q=>⟨0,q.1,by omega,q.2⟩
 ·exact (gtK _ _ _ _ _ _ _ (by omega)).mono fun e w' q=>⟨1,q.1,by omega,q.2⟩
theorem bsK {w:World}{v:Value}{R:List (List Value)}{K:List Int}(h:Rs w 0 166 4 v R) (hk:KeyK R K) (hs:z0g K) (hl:K.length<1000000) (t:Int):
  Calls Tryz.prog 137 #[v,.int .i64 t,.func (.func 138) #[] #[]] w fun e w'=>e=.returned (.tuple #[.int .i64 (posK K t),.bool (hasK K t)])∧Below w.heap.size w w':=by
 obtain⟨ao,cap,rfl⟩:=h.form
 rw[hk.1] at h ⊢
 have hpl:=z6O K t
 have HS:Hid (∀ (i:Nat) (x:Int),K[i]?=some x→(i<posK K t↔x<t)):=z1t K t hs
 have HA:Hid (hasK K t=true→K[posK K t]?=some t):=z1P hs
 have HN:Hid (hasK K t=false→∀ (i:Nat) (x:Int),K[i]?=some x→x≠t):=fun q i x=>z4s q
 have HC:Hid (∀ w1,Below w.heap.size w w1→∀ i,i<K.length→∃ (p:Nat) (x a b:Int) (ty:TypeId) (d:Value),ao=some ⟨p,0,none⟩∧K[i]?=some x∧p<w1.heap.size∧w1.rangeAt p (i*4) [.int .i64 x,.int .i64 a,.int .i64 b,.iface ty d]):=fun w1 hb i hi=>by
  obtain⟨p,rfl,hp,_,_,hc⟩:=h.cells (by rw[hk.1];omega)
  obtain⟨r,hri⟩:∃ r,R[i]?=some r:=⟨_,List.getElem?_eq_getElem (by rw[hk.1];exact hi)⟩
  obtain⟨x,a,b,ty,d,hx,hr⟩:=hk.2 i _ hri
  refine⟨p,x,a,b,ty,d,rfl,hx,Nat.lt_of_lt_of_le hp.2 hb.size,fun j u hu=>?_⟩
  rw[← hr] at hu
  exact (z0q (hb.block p hp.2)).trans (hc i _ hri j u hu)
 generalize hP:posK K t=P at *
 generalize hF:hasK K t=F at *
 clear hP hF hs h hk
 generalize hN:K.length=N at *
 have HL:Hid (K.length=N):=hN
 clear hN
 go_enter Tryz.func137,Tryz.ntmps137
 go_wp2
 go_loopg [9,10] N (fun kx s9 s10 wr=>∃ lo hi:Nat,s9=.int .i64 lo∧s10=.int .i64 hi∧lo≤P∧P≤hi∧hi≤N∧hi-lo≤kx∧Below w.heap.size w wr)
 case atStart=>exact⟨0,N,rfl,rfl,by omega,by omega,by omega,by omega,Below.refl _ _⟩
 case round =>
  obtain⟨lo,hi,rfl,rfl,h1,h2,h3,h4,hb⟩:=hrel
  by_cases hlt:lo<hi
  ·have hm:(lo+hi)/2<N:=by omega
   obtain⟨p,x,a,b,ty,d,rfl,hx,hp,hr⟩:=HC.out wr hb ((lo+hi)/2) (by omega)
   have cc:=z2R hr
   have hx':=HS.out _ _ hx
   clear hr hx
   by_cases hyx:x<t
   ·have hlp:(lo+hi)/2<P:=hx'.2 hyx
    clear hx'
    go_wp2_with (go_at_call 138;refine (ltK _ _ _ _ _ _ _ hyx).mono ?_;rintro e w1 ⟨rfl,hb1⟩)
    go_roundg (hi-((lo+hi)/2+1))
    case measure=>omega
    case rel=>exact⟨(lo+hi)/2+1,hi,by rw[show ((lo:Int)+(hi:Int))/2+1=(((lo+hi)/2+1:Nat):Int) by omega],rfl,by omega,h2,h3,by omega,hb.trans (hb1.mono hb.size)⟩
   ·have hlp:P≤(lo+hi)/2:=by
     have:¬ (lo+hi)/2<P:=fun q=>hyx (hx'.1 q)
     omega
    clear hx'
    go_wp2_with (go_at_call 138;refine (geK _ _ _ _ _ _ _ (by omega)).mono ?_;rintro e w1 ⟨rr,rfl,hr0,hb1⟩)
    go_roundg ((lo+hi)/2-lo)
    case measure=>omega
    case rel=>exact⟨lo,(lo+hi)/2,rfl,by rw[show ((lo:Int)+(hi:Int))/2=(((lo+hi)/2:Nat):Int) by omega],h1,by omega,by omega,by omega,hb.trans (hb1.mono hb.size)⟩
  ·obtain rfl:hi=lo:=by omega
   obtain rfl:P=hi:=by omega
   by_cases hn:P<N
   ·obtain⟨p,x,a,b,ty,d,rfl,hx,hp,hr⟩:=HC.out wr hb P hn
    have cc:=z2R hr
    have hx':=HS.out _ _ hx
    clear hr
    cases hF:F with
    | true =>
     subst hF
     have hy:=HA.out rfl
     rw[hx] at hy
     obtain rfl:=Option.some.inj hy
     clear hx hy hx' HA HN
     go_wp2_with (go_at_call 138;refine (eqK _ _ _ _ _ _).mono ?_;rintro e w1 ⟨rfl,hb1⟩)
     go_ret2
     exact⟨rfl,hb.trans (hb1.mono hb.size)⟩
    | false =>
     subst hF
     have hne:=HN.out rfl _ _ hx
     have hgt:t<x:=by
      have h5:¬ x<t:=fun q=>Nat.lt_irrefl _ (hx'.2 q)
      omega
     clear hx hx' hne HA HN
     go_wp2_with (go_at_call 138;refine (gtK _ _ _ _ _ _ _ hgt).mono ?_;rintro e w1 ⟨rfl,hb1⟩)
     go_ret2
     exact⟨rfl,hb.trans (hb1.mono hb.size)⟩
   ·have hF:F=false:=by
     cases hF:F with
     | false=>rfl
     | true =>
      have:=(List.getElem?_eq_some_iff.1 (HA.out hF)).1
      rw[HL.out] at this
      omega
    subst hF
    clear HA HN
    go_wp2
    go_ret2
    exact⟨rfl,hb⟩
theorem zdo {w:World}{h:Nat}{v:Value}{R:List (List Value)}{K:List Int}(c3:w.cell? ⟨h,1,none⟩=some v) (hR:Rs w 0 166 4 v R) (hk:KeyK R K) (hs:z0g K) (hl:K.length<1000000) (t:Int):
  Calls Tryz.prog 114 #[.pointer (some ⟨h,1,none⟩),.int .i64 t] w fun e w'=>e=.returned (.tuple #[.int .i64 (posK K t),.bool (hasK K t)])∧Below w.heap.size w w':=by
 have hh:h<w.heap.size:=z1E c3
 have hB:=bsK hR hk hs hl t
 generalize posK K t=P at *
 generalize hasK K t=F at *
 obtain⟨ao,cap,rfl⟩:=hR.form
 clear hR hk hs hl
 go_enter Tryz.func114,Tryz.ntmps114
 go_wp2_with (go_at_call 137;refine hB.mono ?_;rintro e w1 ⟨rfl,hb⟩)
 go_ret2
 exact⟨rfl,hb⟩
theorem zbP {w:World}{h:Nat}{v:Value}{R:List (List Value)}{K:List Int}(c3:w.cell? ⟨h,1,none⟩=some v) (hR:Rs w 0 166 4 v R) (hk:KeyK R K) (hs:z0g K) (hl:K.length<1000000) (t:Int) (ht:hasK K t=false):
  Calls Tryz.prog 93 #[.pointer (some ⟨h,1,none⟩),.int .i64 t] w fun e w'=>e=.returned (.tuple #[.agg #[.int .i64 0,.int .i64 0,.nilIface],.bool false])∧Below w.heap.size w w':=by
 have hh:h<w.heap.size:=z1E c3
 have hb0:=(Below.refl w.heap.size w).alloc (Nat.le_refl _) (.cells #[.int .i64 0,.int .i64 0,.nilIface] 133)
 have hz0:=heap_alloc_new w (.cells #[.int .i64 0,.int .i64 0,.nilIface] 133)
 have hP:=zdo ((z0q (hb0.block h hh)).trans c3) (hR.below hb0) hk hs hl t
 rw[ht] at hP
 have HB:Hid (∀ w1,Below (w.alloc (.cells #[.int .i64 0,.int .i64 0,.nilIface] 133)).heap.size (w.alloc (.cells #[.int .i64 0,.int .i64 0,.nilIface] 133)) w1→Below w.heap.size w w1∧w1.heap[w.heap.size]?=some (.cells #[.int .i64 0,.int .i64 0,.nilIface] 133 (0,0))):=fun w1 hb =>
  ⟨hb0.trans (hb.mono hb0.size),(hb.block _ (by rw[Go.Deep.nblk_alloc];omega)).trans hz0⟩
 clear hR hk hs hl ht hb0 hz0
 generalize posK K t=P at *
 go_enter Tryz.func93,Tryz.ntmps93
 go_wp2_with (go_at_call 114;refine hP.mono ?_;rintro e w1 ⟨rfl,hb⟩;obtain⟨hb1,hz1⟩:=HB.out w1 hb;have k2:=frz hz1;have k3:=z02 hz1;have k4:=zdA hz1;clear hP hb)
 exact bodyPost_ret (z0j rfl _ _ w.heap.size 133 _ (0,0) _ rfl (z01 (z25 hz1) _) Tryz.underlying133 rfl zfV) rfl ⟨rfl,(z0X hb1 (Nat.le_refl _)).alloc (z0X hb1 (Nat.le_refl _)).size _⟩
theorem z36 {w:World}{h:Nat}{v:Value}{R:List (List Value)}{K:List Int}(c3:w.cell? ⟨h,1,none⟩=some v) (hR:Rs w 0 166 4 v R) (hk:KeyK R K) (hs:z0g K) (hl:K.length<100000) {i:Nat}{x a b:Int}{ty:TypeId}{d:Value}(hi:R[i]?=some [.int .i64 x,.int .i64 a,.int .i64 b,.iface ty d]) (t:Int) (ht:t=x):
  Calls Tryz.prog 93 #[.pointer (some ⟨h,1,none⟩),.int .i64 t] w fun e w'=>e=.returned (.tuple #[.agg #[.int .i64 a,.int .i64 b,.iface ty d],.bool true])∧Below w.heap.size w w':=by
 have hh:h<w.heap.size:=z1E c3
 subst ht
 have hxK:K[i]?=some t:=by
  obtain⟨x',a',b',ty',d',h1,h2⟩:=hk.2 i _ hi
  simp only[List.cons.injEq,Value.int.injEq,true_and] at h2
  rw[h1,h2.1]
 have hil:i<K.length:=(List.getElem?_eq_some_iff.1 hxK).1
 have hpa:=z1b hs hxK
 have hb0:=(Below.refl w.heap.size w).alloc (Nat.le_refl _) (.cells #[.int .i64 0,.int .i64 0,.nilIface] 133)
 have hz0:=heap_alloc_new w (.cells #[.int .i64 0,.int .i64 0,.nilIface] 133)
 have hP:=zdo ((z0q (hb0.block h hh)).trans c3) (hR.below hb0) hk hs (by omega) t
 rw[hpa.1,hpa.2] at hP
 obtain⟨ao,cap,rfl⟩:=hR.form
 obtain⟨p,rfl,hp,_,_,hc⟩:=hR.cells (by rw[hk.1];omega)
 have hrow:=hc i _ hi
 have HB:Hid (∀ w1,Below (w.alloc (.cells #[.int .i64 0,.int .i64 0,.nilIface] 133)).heap.size (w.alloc (.cells #[.int .i64 0,.int .i64 0,.nilIface] 133)) w1→Below w.heap.size w w1∧w1.heap[w.heap.size]?=some (.cells #[.int .i64 0,.int .i64 0,.nilIface] 133 (0,0))∧w1.cell? ⟨h,1,none⟩=some (.slice (some ⟨p,0,none⟩) R.length cap)∧h<w1.heap.size∧p<w1.heap.size∧w1.rangeAt p (i*4) [.int .i64 t,.int .i64 a,.int .i64 b,.iface ty d]):=fun w1 hb=>by
  have hb1:Below w.heap.size w w1:=hb0.trans (hb.mono hb0.size)
  exact⟨hb1,(hb.block _ (by rw[Go.Deep.nblk_alloc];omega)).trans hz0,(z0q (hb1.block h hh)).trans c3,Nat.lt_of_lt_of_le hh hb1.size,Nat.lt_of_lt_of_le hp.2 hb1.size,fun j u hu=>(z0q (hb1.block p hp.2)).trans (hrow j u hu)⟩
 have hiR:(i:Int)<(R.length:Int):=by rw[hk.1];omega
 have hi2:i<100000:=by omega
 clear hR hk hs hl hb0 hz0 hrow hc hi hpa hxK hp c3
 generalize R.length=N at *
 go_enter Tryz.func93,Tryz.ntmps93
 go_wp2_with (go_at_call 114;refine hP.mono ?_;rintro e w1 ⟨rfl,hb⟩;obtain⟨hb1,hz1,k5,k6,k7,k8⟩:=HB.out w1 hb;have k2:=frz hz1;have k3:=z02 hz1;have k4:=zdA hz1;have k9:=z2R k8;clear hP hb k8)
 exact bodyPost_ret (z0j rfl _ _ w.heap.size 133 _ (0,0) _ rfl (z25 hz1) Tryz.underlying133 rfl zfV) rfl ⟨rfl,z0X hb1 (Nat.le_refl _)⟩
theorem zda:(Tryz.prog.info? 170).map (fun i=>(i.zero,i.size,i.bytes))=some (some (.agg #[.int .i64 0,.int .i64 0,.int .i64 0,.int .i64 0,.nilIface,.int .i64 0]),6,56):=by kernel_rfl
def appC (ats:Array TypeId) (ty:TypeId) (args:Array Value):Sem Value:=Builtin.append_ ats ty args
theorem z1I (ats:Array TypeId) (ty:TypeId) (args:Array Value):Builtin.append_ ats ty args=appC ats ty args:=rfl
theorem Rs.place {w:World}{B:Nat}{v:Value}{R:List (List Value)}(h:Rs w B 170 6 v R) (hB:B≤w.heap.size) (hn:R.length≤100000) (x:List Value) (hx:x.length=6) (h1:∀ u∈x,u.oneCell'=true) {W:World}{a:Nat}(hW:W.heap[a]?=some (.cells x.toArray 170 (0,0))) (hbW:Below w.heap.size w W):
  ∃ ao cap w',(appC #[123,123] 123 #[v,.slice (some ⟨a,0,none⟩) 1 1]).run Tryz.prog W=.ok (.slice ao (R.length+1) cap) w'∧Rs w' B 170 6 (.slice ao (R.length+1) cap) (R++[x])∧w.grownBy w' v.ownBlock∧((Value.slice ao (R.length+1) cap).ownBlock=v.ownBlock∨∃ j,(Value.slice ao (R.length+1) cap).ownBlock=some j∧w.heap.size≤j):=by
 obtain⟨i0,hi0,hzz⟩:=Option.map_eq_some_iff.1 zda
 simp only[Prod.mk.injEq] at hzz
 obtain⟨hz0,hz1,hz2⟩:=hzz
 obtain⟨v',w',hrun,hR,hg,hat⟩:=h.app (P:=Tryz.prog) (t:=123) (ty:=123) Tryz.underlying123 hi0 hz0 hz1 hz2 rfl (by decide) x hx h1 hB (by unfold maxLen;omega) (by omega) hW hbW
 obtain⟨ao,cap,e⟩:=hR.form
 rw[List.length_append,List.length_singleton] at e
 subst e
 exact⟨ao,cap,w',hrun,hR,hg,hat⟩
attribute [local go_sem ↓] z1I
theorem zd5 {w:World}{h:Nat}{a0 a1 a2 r:Value}{ln:Nat}{vc:Value}{R:List (List Value)}(hH:w.heap[h]?=some (.cells #[a0,a1,a2,vc,.int .i64 ln,r] 127 (0,0))) (hR:Rs w 0 170 6 vc R) (hL:R.length≤100000) (hln:ln≤100000) (x y z u:Int) (ty:TypeId) (d:Value):
  Calls Tryz.prog 116 #[.pointer (some ⟨h,3,none⟩),.agg #[.int .i64 x,.int .i64 y,.int .i64 z,.iface ty d,.int .i64 u]] w fun e w'=>∃ v',e=.returned (.int .i64 ((ln:Int)+1))∧Rs w' 0 170 6 v' (R++[[.int .i64 ((ln:Int)+1),.int .i64 x,.int .i64 y,.int .i64 z,.iface ty d,.int .i64 u]]) ∧
   w'.heap[h]?=some (.cells #[a0,a1,a2,v',.int .i64 ((ln:Int)+1),r] 127 (0,0))∧Bt (fun k=>k=h∨vc.ownBlock=some k) w w'∧(v'.ownBlock=vc.ownBlock∨∃ j,v'.ownBlock=some j∧w.heap.size≤j):=by
 have hh:h<w.heap.size:=z02 hH
 obtain⟨ao,cap,rfl⟩:=hR.form
 have c3:w.cell? ⟨h,3,none⟩=some (.slice ao R.length cap):=by simp[World.cell?,hH]
 have c4:w.cell? ⟨h,4,none⟩=some (.int .i64 ln):=by simp[World.cell?,hH]
 have f4:=frz hH 4
 obtain⟨w0,hw0⟩:∃ w0,w0=(w.setCell ⟨h,4,none⟩ (.int .i64 ((ln:Int)+1))).alloc (.cells #[.int .i64 x,.int .i64 y,.int .i64 z,.iface ty d,.int .i64 u] 137):=⟨_,rfl⟩
 obtain⟨C,hC⟩:∃ C:Obj,C=.cells #[.int .i64 ((ln:Int)+1),.int .i64 x,.int .i64 y,.int .i64 z,.iface ty d,.int .i64 u] 170:=⟨_,rfl⟩
 have s0:w0.heap.size=w.heap.size+1:=by rw[hw0,Go.Deep.nblk_alloc];simp[World.setCell]
 have hne:∀ k,(Value.slice ao R.length cap).ownBlock=some k→k≠h:=fun k hk e=>by
  subst e
  obtain⟨cur,hc⟩:=hR.kind hk
  rw[hH] at hc;simp at hc
 have k0:∀ k,k<w.heap.size→k≠h→w0.heap[k]?=w.heap[k]?:=fun k hk hn=>by rw[hw0,Below.heap_alloc _ _ _ (by simpa [World.setCell] using hk)];exact z03 _ _ hn
 have H0:w0.heap[h]?=some (.cells #[a0,a1,a2,.slice ao R.length cap,.int .i64 ((ln:Int)+1),r] 127 (0,0)):=by rw[hw0];exact z01 (z05 hH 4 _) _
 have R0:Rs w0 0 170 6 (.slice ao R.length cap) R:=hR.of_block fun j hj=>k0 j (hR.lt hj).2 (hne j hj)
 have hW:(w0.alloc C).drew.heap[w.heap.size+1]?=some (.cells [.int .i64 ((ln:Int)+1),.int .i64 x,.int .i64 y,.int .i64 z,.iface ty d,.int .i64 u].toArray 170 (0,0)):=by
  have e:=heap_alloc_new w0 C
  rw[s0,hC] at e
  rw[hC]
  exact e
 have hbW:Below w0.heap.size w0 (w0.alloc C).drew:=((Below.refl _ _).alloc (Nat.le_refl _) _).drew
 obtain⟨ao',cap',w',hrun,hR',hg,hat⟩:=R0.place (Nat.zero_le _) hL [.int .i64 ((ln:Int)+1),.int .i64 x,.int .i64 y,.int .i64 z,.iface ty d,.int .i64 u] rfl (by simp[Value.oneCell']) hW hbW
 have hH':w'.heap[h]?=some (.cells #[a0,a1,a2,.slice ao R.length cap,.int .i64 ((ln:Int)+1),r] 127 (0,0)):=(hg.block h (by omega) (fun e=>hne h e.symm rfl)).trans H0
 rw[hw0,hC] at hrun
 have f3:=frz hH' 3
 have c3':w'.cell? ⟨h,3,none⟩=some (.slice ao R.length cap):=by simp[World.cell?,hH']
 have c4':w'.cell? ⟨h,4,none⟩=some (.int .i64 ((ln:Int)+1)):=by simp[World.cell?,hH']
 have hh':=z02 hH'
 have HF:Hid (∃ v',Value.slice ao' (R.length+1) cap'=v'∧Rs (w'.setCell ⟨h,3,none⟩ (.slice ao' (R.length+1) cap')) 0 170 6 v' (R++[[.int .i64 ((ln:Int)+1),.int .i64 x,.int .i64 y,.int .i64 z,.iface ty d,.int .i64 u]]) ∧
   (w'.setCell ⟨h,3,none⟩ (.slice ao' (R.length+1) cap')).heap[h]?=some (.cells #[a0,a1,a2,v',.int .i64 ((ln:Int)+1),r] 127 (0,0))∧Bt (fun k=>k=h∨(Value.slice ao R.length cap).ownBlock=some k) w (w'.setCell ⟨h,3,none⟩ (.slice ao' (R.length+1) cap'))∧(v'.ownBlock=(Value.slice ao R.length cap).ownBlock∨∃ j,v'.ownBlock=some j∧w.heap.size≤j)):=by
  have HN:∀ k,(Value.slice ao' (R.length+1) cap').ownBlock=some k→k≠h:=fun k hk e=>by
   subst e
   obtain⟨cur,hc⟩:=hR'.kind hk
   rw[hH'] at hc;simp at hc
  have e1:w0.os=w.os∧w0.tape=w.tape∧w0.output=w.output:=by rw[hw0];exact⟨rfl,rfl,rfl⟩
  refine⟨_,rfl,hR'.of_block (fun j hj=>z03 _ _ (HN j hj)),z05 hH' 3 _,⟨hg.os.trans e1.1,hg.tape.trans e1.2.1,hg.output.trans e1.2.2,?_,fun k hk e=>?_⟩,?_⟩
  ·have:=hg.size;simp[World.setCell];omega
  ·exact (z03 _ _ (fun q=>e (.inl q))).trans ((hg.block k (by omega) (fun q=>e (.inr q.symm))).trans (k0 k hk (fun q=>e (.inl q))))
  ·rcases hat with q|⟨j,q1,q2⟩
   ·exact .inl q
   ·exact .inr ⟨j,q1,by omega⟩
 clear hR' hg hat hR R0 H0 hH hH' hW hbW hw0 hC hne k0
 generalize hN:R.length=N at *
 go_enter Tryz.func116,Tryz.ntmps116
 go_wp2
 go_region
 go_wp2
 go_ret
 obtain⟨v',rfl,h2⟩:=HF.out
 exact⟨_,rfl,h2⟩
theorem zge (w:World) (t ty:TypeId) (ht:Tryz.prog.underlying t=some (.slice 170)) (b o c:Nat)
  (hc:∀ j,j<6→(w.cell? ⟨b,o+j,none⟩).isSome=true) (hf:∀ j,j<6→w.frozen? ⟨b,o+j,none⟩=false):
  (Builtin.clear_ #[t] ty #[.slice (some ⟨b,o,none⟩) 1 c]).run Tryz.prog w=.ok (.tuple #[]) (w.setCells b o [.int .i64 0,.int .i64 0,.int .i64 0,.int .i64 0,.nilIface,.int .i64 0]):=by
 have hz:∀ w,(zeroValue 170).run Tryz.prog w=.ok (.agg #[.int .i64 0,.int .i64 0,.int .i64 0,.int .i64 0,.nilIface,.int .i64 0]) w:=fun w=>by kernel_rfl
 have hst:=run_storeCells_cells (P:=Tryz.prog) b o [.int .i64 0,.int .i64 0,.int .i64 0,.int .i64 0,.nilIface,.int .i64 0] 0 w (by simpa using hc) (by simpa using hf) (by simp[Value.oneCell'])
 simp only[Nat.add_zero] at hst
 have hzc:(Builtin.zeroCells (Value.agg #[.int .i64 0,.int .i64 0,.int .i64 0,.int .i64 0,.nilIface,.int .i64 0]).cells 1).toList=[.int .i64 0,.int .i64 0,.int .i64 0,.int .i64 0,.nilIface,.int .i64 0]:=by kernel_rfl
 simp[Builtin.clear_,run_underlying ht,hz,hzc,hst]
theorem z8B {w:World}{p cap n:Nat}{R:List (List Value)}(h:Rs w 0 170 6 (.slice (some ⟨p,0,none⟩) n cap) R) (h1:∀ r∈R,∀ u∈r,u.oneCell'=true) (i:Nat) (J:Int) (hi:i<n) (hJ:J=(i:Int)+1):
  Calls Tryz.prog 166 #[.slice (some ⟨p,0,none⟩) n cap,.int .i64 i,.int .i64 J] w fun e w'=>e=.returned (.slice (some ⟨p,0,none⟩) (n-1) cap)∧Rs w' 0 170 6 (.slice (some ⟨p,0,none⟩) (n-1) cap) (R.eraseIdx i)∧w.grownBy w' (some p):=by
 obtain⟨hn,hcap,hm,hB,F,hR,hF⟩:=h.row
 have hlen6:=h.len
 obtain⟨j,hj⟩:∃ j:Nat,j=i+1:=⟨_,rfl⟩
 have hJ':J=(j:Int):=by omega
 subst hJ'
 have hjn:j≤n:=by omega
 clear hJ
 obtain⟨i0,hi0,hzz⟩:=Option.map_eq_some_iff.1 zda
 simp only[Prod.mk.injEq] at hzz
 obtain⟨_,hz1,_⟩:=hzz
 obtain⟨news,hnews⟩:∃ news,news=(R.drop j).flatten:=⟨_,rfl⟩
 have hlen:news.length=(n-j)*6:=by rw[hnews,z14 _ (fun r hr=>hlen6 r (List.mem_of_mem_drop hr)),List.length_drop,hn]
 have hget:∀ t,t<(n-j)*6→news[t]?=some (F (j*6+t)):=by
  intro t ht
  rw[hnews,z5u hlen6 j t (by omega)]
  exact hF _ (by omega)
 obtain⟨A,hA,hsrc⟩:∃ A:Addr,(if cap=j then some (⟨p,0,none⟩:Addr) else some ⟨p,j*6,none⟩)=some A∧Hid (∀ t u,news[t]?=some u→w.drew.cell? (A.add t)=some u):=by
  by_cases hcj:cap=j
  ·refine⟨⟨p,0,none⟩,by simp[hcj],fun t u hu=>?_⟩
   have h0:news.length=0:=by rw[hlen];omega
   rw[List.length_eq_zero_iff.1 h0] at hu
   simp at hu
  ·refine⟨⟨p,j*6,none⟩,by simp[hcj],fun t u hu=>?_⟩
   have ht:t<(n-j)*6:=by
    have:=(List.getElem?_eq_some_iff.1 hu).1
    rwa [hlen] at this
   rw[hget t ht] at hu
   rw[z1D]
   exact (hR.cell (by omega)).trans hu
 have s1:Hid (news.length=(n-j)*6):=hlen
 have s2:Hid (∀ u∈news,u.oneCell'=true):=fun u hu=>by
  rw[hnews] at hu
  obtain⟨r,hr,hur⟩:=List.mem_flatten.1 hu
  exact h1 r (List.mem_of_mem_drop hr) u hur
 have s3:Hid (∀ t,t<news.length→(w.drew.cell? ⟨p,0+i*6+t,none⟩).isSome=true∧w.drew.frozen? ⟨p,0+i*6+t,none⟩=false):=by
  intro t ht
  rw[hlen] at ht
  rw[Nat.zero_add]
  exact⟨by show (w.cell? _).isSome=true;rw[hR.cell (by omega)];rfl,hR.frozen _⟩
 obtain⟨W1,hW1⟩:∃ W1,W1=w.drew.setCells p (0+i*6) news:=⟨_,rfl⟩
 have hR1:=Go.rowIs_setCells news (0+i*6) w.drew F hR.drew
 rw[← hW1] at hR1
 have hcl:∀ ty,(Builtin.clear_ #[123] ty #[.slice (some ⟨p,(i+(n-j))*6,none⟩) (n-(i+(n-j))) (cap-(i+(n-j)))]).run Tryz.prog W1=.ok (.tuple #[]) (W1.setCells p ((i+(n-j))*6) [.int .i64 0,.int .i64 0,.int .i64 0,.int .i64 0,.nilIface,.int .i64 0]):=by
  intro ty
  rw[show n-(i+(n-j))=1 by omega]
  exact zge W1 _ ty Tryz.underlying123 p _ _ (fun t ht=>by rw[hR1.cell (by omega)];rfl) (fun t _=>hR1.frozen _)
 have hfin:Hid (Rs (W1.setCells p ((i+(n-j))*6) [.int .i64 0,.int .i64 0,.int .i64 0,.int .i64 0,.nilIface,.int .i64 0]) 0 170 6 (.slice (some ⟨p,0,none⟩) (n-1) cap) (R.eraseIdx i)∧w.grownBy (W1.setCells p ((i+(n-j))*6) [.int .i64 0,.int .i64 0,.int .i64 0,.int .i64 0,.nilIface,.int .i64 0]) (some p)):=by
  constructor
  ·have hR2:=Go.rowIs_setCells [.int .i64 0,.int .i64 0,.int .i64 0,.int .i64 0,.nilIface,.int .i64 0] ((i+(n-j))*6) W1 _ hR1
   have hel:(R.eraseIdx i).length=n-1:=by rw[List.length_eraseIdx,if_pos (by omega),hn]
   have:=Rs.of_row (B:=0) (R:=R.eraseIdx i) hR2 (by omega) (by omega) hm (fun r hr=>hlen6 r (List.mem_of_mem_eraseIdx hr)) (fun t ht=>by
    rw[hel] at ht
    rw[if_neg (by omega),z4d hlen6 i (by omega) F hF t (by omega),hnews,hj]
    simp only[Nat.zero_add])
   rw[hel] at this
   exact this
  ·have g1:w.grownBy W1 (some p):=by
    have:=z0G w.drew p (0+i*6) news
    rw[← hW1] at this
    exact⟨this.os,this.tape,this.output,this.size,this.block⟩
   have g2:=z0G W1 p ((i+(n-j))*6) [.int .i64 0,.int .i64 0,.int .i64 0,.int .i64 0,.nilIface,.int .i64 0]
   exact⟨g2.os.trans g1.os,g2.tape.trans g1.tape,g2.output.trans g1.output,Nat.le_trans g1.size g2.size,fun k hk e=>(g2.block k (Nat.lt_of_lt_of_le hk g1.size) e).trans (g1.block k hk e)⟩
 have hW:Hid (W1=w.drew.setCells p (0+i*6) news):=hW1
 have hic:i≤cap:=by omega
 have hjc:j≤cap:=by omega
 have hne:((i:Int) == (j:Int))=false:=by simp;omega
 have hend:Hid (n-1=i+(n-j)):=(by omega:n-1=i+(n-j))
 have hij:i≤j:=by omega
 have hni:¬ n=i:=by omega
 have hnc:¬ cap=i+(n-j):=by omega
 clear hW1 hR1 hR hF hget hnews hlen h hn hj hi h1 hlen6
 go_enter Tryz.func166,Tryz.ntmps166
 go_wp2_with fail
 go_region_law (refine step_append_room rfl (.tmp 22) (.tmp 25) 123 rfl 170 i0 6 Tryz.underlying123 hi0 hz1 p 0 i cap (by simp[Act.eval,Act.put]) A (n-j) (cap-j) news (by simp[Act.eval,Act.put]) s1.out hsrc.out s2.out (by omega) s3.out ?_;rw[← hW.out])
 go_wp2
 go_ret
 refine⟨?_,hfin.out⟩
 rw[hend.out]
 rfl
def zdS (w:World) (h:Nat) (a0 a1 a2 ln r:Value) (R:List (List Value)) (vc:Value) (i:Nat) (w':World):Prop :=
 ∃ v',Rs w' 0 170 6 v' (R.eraseIdx i)∧w'.heap[h]?=some (.cells #[a0,a1,a2,v',ln,r] 127 (0,0))∧Bt (fun k=>k=h∨vc.ownBlock=some k) w w'∧v'.ownBlock=vc.ownBlock
theorem z8V {w:World}{h:Nat}{a0 a1 a2 ln r vc:Value}{R:List (List Value)}{K:List Int}(hH:w.heap[h]?=some (.cells #[a0,a1,a2,vc,ln,r] 127 (0,0)))
  (hR:Rs w 0 170 6 vc R) (hk:KeyC R K) (h1:∀ r∈R,∀ u∈r,u.oneCell'=true) (hs:z0g K) (hl:K.length<100000) (t:Int) {i:Nat} (hi:K[i]?=some t):
  Calls Tryz.prog 158 #[.pointer (some ⟨h,3,none⟩),.int .i64 t] w fun e w'=>e=.returned (.tuple #[])∧zdS w h a0 a1 a2 ln r R vc i w':=by
 have hh:h<w.heap.size:=z02 hH
 have hil:i<K.length:=(List.getElem?_eq_some_iff.1 hi).1
 have c3:w.cell? ⟨h,3,none⟩=some vc:=by simp[World.cell?,hH]
 have hP:=z9I c3 hR hk hs (by omega) t
 have hpa:=z1b hs hi
 rw[hpa.1,hpa.2] at hP
 obtain⟨ao,cap,rfl⟩:=hR.form
 obtain⟨p,rfl,hp,_⟩:=hR.cells (by rw[hk.1];omega)
 have nep:p≠h:=fun e=>by
  subst e
  obtain⟨cur,hc⟩:=hR.kind (j:=p) rfl
  rw[hH] at hc;simp at hc
 have HD:Hid (∀ w1,Below w.heap.size w w1→(w1.cell? ⟨h,3,none⟩=some (.slice (some ⟨p,0,none⟩) R.length cap)∧h<w1.heap.size)∧Calls Tryz.prog 166 #[.slice (some ⟨p,0,none⟩) R.length cap,.int .i64 i,.int .i64 ((i:Int)+1)] w1 fun e w2=>e=.returned (.slice (some ⟨p,0,none⟩) (R.length-1) cap)∧(w2.cell? ⟨h,3,none⟩=some (.slice (some ⟨p,0,none⟩) R.length cap)∧h<w2.heap.size∧w2.frozen? ⟨h,3,none⟩=false)∧zdS w h a0 a1 a2 ln r R (.slice (some ⟨p,0,none⟩) R.length cap) i (w2.setCell ⟨h,3,none⟩ (.slice (some ⟨p,0,none⟩) (R.length-1) cap))):=fun w1 hb=>by
  have hH1:=(hb.block h hh).trans hH
  refine⟨⟨by simp[World.cell?,hH1],z02 hH1⟩,(z8B (hR.below hb) h1 i _ (by rw[hk.1];exact hil) rfl).mono ?_⟩
  rintro e w2 ⟨rfl,hR2,hg⟩
  have hH2:w2.heap[h]?=_:=(hg.block h (z02 hH1) (fun q=>by simp only[Option.some.injEq] at q;exact nep q.symm)).trans hH1
  refine⟨rfl,⟨by simp[World.cell?,hH2],z02 hH2,frz hH2 3⟩,_,hR2.of_block (fun j hj=>?_),z05 hH2 3 _,⟨hg.os.trans hb.os,hg.tape.trans hb.tape,hg.output.trans hb.output,?_,fun k hk e=>?_⟩,rfl⟩
  ·simp only[Value.ownBlock,Option.some.injEq] at hj
   subst hj
   exact z03 _ _ nep
  ·have:=hg.size;have:=hb.size;simp[World.setCell];omega
  ·exact (z03 _ _ (fun q=>e (.inl q))).trans ((hg.block k (Nat.lt_of_lt_of_le hk hb.size) (fun q=>e (.inr q.symm))).trans (hb.block k hk))
 have hi2:i<100000:=by omega
 clear hR hk h1 hs hl hpa hi hH c3 hp
 generalize R.length=N at *
 go_enter Tryz.func158,Tryz.ntmps158
 go_wp2_with (first
  | (go_at_call 117;refine hP.mono ?_;rintro e w1 ⟨rfl,hb⟩;obtain⟨k1,hD⟩:=HD.out w1 hb;clear hP HD hb)
  | (go_at_call 166;refine hD.mono ?_;rintro e w2 ⟨rfl,k2,hF⟩;have HF:Hid (zdS w h a0 a1 a2 ln r R (.slice (some ⟨p,0,none⟩) N cap) i (w2.setCell ⟨h,3,none⟩ (.slice (some ⟨p,0,none⟩) (N-1) cap))):=hF;clear hF hD))
 go_end0
 exact⟨rfl,HF.out⟩
end Go.Proofs.YthkelaeemefnaaaGreat
