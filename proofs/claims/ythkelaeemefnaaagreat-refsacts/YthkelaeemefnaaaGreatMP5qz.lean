import Derived.Test.YthkelaeemefnaaaGreatMY20
import Derived.OwnWalk
namespace Go.Proofs.YthkelaeemefnaaaGreat
open Go.RowKit
theorem za1 {xs:List Ary}(hs:z0h xs) {t:Int}{x:Ary}(hk:xs[pos xs t]?=some x):t≤x.id∧∀ y∈xs,t≤y.id→x.id≤y.id:=by
 have hp:pos xs t<xs.length:=(List.getElem?_eq_some_iff.1 hk).1
 have hx:xs[pos xs t]=x:=by rw[List.getElem?_eq_getElem hp] at hk;exact Option.some.inj hk
 refine⟨?_,fun y hy hty=>?_⟩
 ·have:=z1C xs t hs _ _ hk
  omega
 ·obtain⟨j,hj,rfl⟩:=List.getElem_of_mem hy
  have h1:=z1C xs t hs j _ (List.getElem?_eq_getElem hj)
  rcases Nat.lt_or_ge (pos xs t) j with r|r
  ·have:=List.pairwise_iff_getElem.1 hs (pos xs t) j hp hj r
   rw[hx] at this;omega
  ·have:j=pos xs t:=by omega
   subst this
   rw[hx];omega
theorem zdI {xs:List Ary}(hs:z0h xs) {t:Int}(hp:pos xs t=xs.length):∀ y∈xs,y.id<t:=by
 intro y hy
 obtain⟨j,hj,rfl⟩:=List.getElem_of_mem hy
 exact (z1C xs t hs j _ (List.getElem?_eq_getElem hj)).1 (by omega)
section
variable {w:World}{P:Nat→Prop}{s b bw bs W G:Nat}{v:Value}{q:St}{f c:Int→Int}
theorem z6J (g:Int) {Q:World→Prop}(hM:Calls Tryz.prog 290 #[.pointer (some ⟨s,0,none⟩)] w fun e w'=>e=.returned (.pointer none)∧Below w.heap.size w w')
  (hN:∀ w1,Below w.heap.size w w1→Calls Tryz.prog 291 #[.pointer (some ⟨s,0,none⟩),.int .i64 g] w1 fun e w'=>e=.returned (.tuple #[])∧Q w'):
  Calls Tryz.prog 286 #[.pointer (some ⟨s,0,none⟩),.int .i64 g] w fun e w'=>e=.returned (.tuple #[])∧Q w':=by
 go_enter Tryz.func286,Tryz.ntmps286
 go_wp2_with (first
  | (go_at_call 290;refine hM.mono ?_;rintro e w1 ⟨rfl,hb⟩)
  | (go_at_call 291;refine (hN _ hb).mono ?_;rintro e w2 ⟨rfl,hQ⟩))
 go_end0
 exact⟨rfl,hQ⟩
theorem z61 (h:Sp w P s b bw bs W G v q f c) (g:Int) {Q:World→Prop}{k:Nat}{x:Ary}(hk:q.xs[k]?=some x) (hlt:q.c.copied<x.n) (hM:Calls Tryz.prog 290 #[.pointer (some ⟨s,0,none⟩)] w fun e w'=>∃ p,v.ownBlock=some p∧e=.returned (.pointer (some ⟨p,k*3,none⟩))∧Below w.heap.size w w')
  (hN:∀ w1 p,Below w.heap.size w w1→v.ownBlock=some p→Calls Tryz.prog 292 #[.pointer (some ⟨s,0,none⟩),.int .i64 g,.pointer (some ⟨p,k*3,none⟩)] w1 fun e w'=>e=.returned (.tuple #[])∧Q w'):
  Calls Tryz.prog 286 #[.pointer (some ⟨s,0,none⟩),.int .i64 g] w fun e w'=>e=.returned (.tuple #[])∧Q w':=by
 go_enter Tryz.func286,Tryz.ntmps286
 go_wp2_with (go_at_call 290;refine hM.mono ?_;rintro e w1 ⟨p,hp,rfl,hb⟩;have c1:=(h.below hb).cells;have e1:=((h.below hb).elem hp hk).2.2.1)
 go_quiet (fail)
 go_wp2_with (go_at_call 292;refine (hN _ p (hb.trans (z00 w1 nq _)) hp).mono ?_;rintro e w2 ⟨rfl,hQ⟩)
 go_end0
 exact⟨rfl,hQ⟩
theorem z3O (h:Sp w P s b bw bs W G v q f c) (g:Int) {Q:World→Prop}{k:Nat}{x:Ary}(hk:q.xs[k]?=some x) (hlt:¬ q.c.copied<x.n) (hM:Calls Tryz.prog 290 #[.pointer (some ⟨s,0,none⟩)] w fun e w'=>∃ p,v.ownBlock=some p∧e=.returned (.pointer (some ⟨p,k*3,none⟩))∧Below w.heap.size w w')
  (hN:∀ w1 p,Below w.heap.size w w1→v.ownBlock=some p→Calls Tryz.prog 293 #[.pointer (some ⟨s,0,none⟩),.int .i64 g,.pointer (some ⟨p,k*3,none⟩)] w1 fun e w'=>e=.returned (.tuple #[])∧Q w'):
  Calls Tryz.prog 286 #[.pointer (some ⟨s,0,none⟩),.int .i64 g] w fun e w'=>e=.returned (.tuple #[])∧Q w':=by
 have d1:decide (q.c.copied<x.n)=false:=by simpa using hlt
 clear hlt
 go_enter Tryz.func286,Tryz.ntmps286
 go_wp2_with (go_at_call 290;refine hM.mono ?_;rintro e w1 ⟨p,hp,rfl,hb⟩;have c1:=(h.below hb).cells;have e1:=((h.below hb).elem hp hk).2.2.1)
 go_quiet (fail)
 go_wp2_with (go_at_call 293;refine (hN _ p (hb.trans (z00 w1 nq _)) hp).mono ?_;rintro e w2 ⟨rfl,hQ⟩)
 go_end0
 exact⟨rfl,hQ⟩
end
structure z2G (q q':St):Prop where
 shape:q'.xs.map (fun z=>(z.id,z.n))=q.xs.map (fun z=>(z.id,z.n))
 base:q'.base=q.base
 half:q'.half=q.half
 given:q'.given=q.given
 dropped:q'.dropped=q.dropped
 on:q'.c.on=true→q'.taken=q.taken∧q'.leaving=q.leaving∧z0D q'<z0D q
 off:q'.c.on=false→q'.taken=q.taken-q.leaving∧q'.leaving=0
section
variable {w:World}{P:Nat→Prop}{s b W G:Nat}{q:St}{V:Int→Int→Int}{c:Int→Int}
theorem z8o (h:Gd w P s b W G q V c) (hon:q.c.on=true) (g:Int) (hg:0≤g∧g<G) (hgi:q.given≤1000000000) (hc:wrap64 (c g)=c g):
  Calls Tryz.prog 286 #[.pointer (some ⟨s,0,none⟩),.int .i64 g] w fun e w'=>e=.returned (.tuple #[])∧∃ q' c',z2G q q'∧Ticked c c' g 4∧SpTurn w P s b W G q' V c' w':=by
 obtain⟨hW,bw,bs,v,f,h,hI⟩:=h
 obtain⟨b1,b2,b3,b4,b5,b6,b7,b8,b9,b10,b11,b12⟩:=hI.bounds hW
 have hs:=hI.sorted
 have hl:=hI.short hW
 have hcy:=hI.cyc hon
 have hrm:=hI.rem0
 have htp:=hI.top
 have hhv:=z1Y q
 by_cases hm:q.c.cop=true∧has q.xs q.c.id=true
 ·obtain⟨x,hk,ex⟩:=z5m hs hm.2
  have hx:x∈q.xs:=List.mem_of_getElem? hk
  obtain⟨l1,l2,l3⟩:=hI.lies hx
  obtain⟨a1,a2,a3,a4,a5,a6⟩:=(hI.copy hm.1).2 x hx ex
  obtain⟨z1,z2,z3⟩:=hI.words x hx
  have ht:tw q x=q.c.tgt+4:=z9w hm.1 ex
  by_cases hlt:q.c.copied<x.n
  ·refine z61 h g hk hlt (z4q h hs hl hm.1 hm.2) fun w1 p hb hp=>?_
   refine (z74 (h.below hb) g hp hk hg hW ⟨b1,b7⟩ b3 l1 l2 ⟨a1,hlt⟩ z1 (z2.trans ht) (by omega) (by omega)).mono ?_
   rintro e w' ⟨rfl,hS,hB⟩
   refine⟨rfl,z1G q,_,⟨rfl,rfl,rfl,rfl,rfl,fun _=>⟨rfl,rfl,by have:=z6N hI hm.1 hx ex;omega⟩,fun r=>by rw[show (z1G q).c.on=q.c.on from rfl,hon] at r;simp at r⟩,(Ticked.first c g).tick.tick.tick.mono (by omega),P,⟨hW,bw,bs,v,_,hS,?_⟩,(Bt.of_below hb).trans hB,Wider.refl _ _,h.same hS⟩
   exact z90 hI hm.1 hx ex hlt (by rw[z1j];exact z3 _ a1 hlt) (fun a ha=>z0o _ _ ha)
  ·refine z3O h g hk hlt (z4q h hs hl hm.1 hm.2) fun w1 p hb hp=>?_
   refine (zaW (h.below hb) g hp hk hg hW (by omega)).mono ?_
   rintro e w' ⟨rfl,hS,hB⟩
   refine⟨rfl,z0f q (pos q.xs q.c.id) x,_,⟨z3L hk rfl rfl,rfl,rfl,rfl,rfl,fun _=>⟨rfl,rfl,z4w hI hm.1 hk ex⟩,fun r=>by rw[show (z0f q (pos q.xs q.c.id) x).c.on=q.c.on from rfl,hon] at r;simp at r⟩,(Ticked.first c g).tick.mono (by omega),P,⟨hW,bw,bs,v,_,hS,?_⟩,(Bt.of_below hb).trans hB,Wider.refl _ _,h.same hS⟩
   exact z5c hI hm.1 hk ex hlt (by rw[z0o _ _ (by omega),z1j]) (z1j _ _ _) (fun a h1 h2=>by rw[z0o _ _ h2,z0o _ _ h1])
 ·have hcur:∀ x∈q.xs,¬ (q.c.cop=true∧x.id=q.c.id):=fun x hx r=>hm ⟨r.1,(z4B _ _).2 ⟨x,hx,r.2⟩⟩
  refine z6J g (z9G h hs hl hm) fun w1 hb=>?_
  have h1:=h.below hb
  have hend:∀ {e:Ending} {w':World},(∀ x∈q.xs,¬ (q.c.id<x.id∧x.id≤q.c.last))→(e=.returned (.tuple #[])∧Sp w' P s b bw bs W G v (z0H q) f c∧Bt P w1 w')→e=.returned (.tuple #[])∧∃ q' c',z2G q q'∧Ticked c c' g 4∧SpTurn w P s b W G q' V c' w':=by
   rintro e w' hno ⟨rfl,hS,hB⟩
   exact⟨rfl,z0H q,c,⟨rfl,rfl,rfl,rfl,rfl,fun r=>by simp[z0H] at r,fun _=>⟨rfl,rfl⟩⟩,Ticked.refl (by omega) hc,P,⟨hW,bw,bs,v,f,hS,z9P hI hcur hno⟩,(Bt.of_below hb).trans hB,Wider.refl _ _,h.same hS⟩
  by_cases hp:pos q.xs (q.c.id+1)=q.xs.length
  ·refine (z3M h1 hs hl g hp (by omega) (by omega) (by omega)).mono fun e w' r=>hend ?_ r
   intro x hx r2
   have:=zdI hs hp x hx
   omega
  ·have hp':pos q.xs (q.c.id+1)<q.xs.length:=by have:=zdy q.xs (q.c.id+1);omega
   obtain⟨x,hk⟩:∃ x,q.xs[pos q.xs (q.c.id+1)]?=some x:=⟨_,List.getElem?_eq_getElem hp'⟩
   have hx:x∈q.xs:=List.mem_of_getElem? hk
   obtain⟨f1,f2⟩:=za1 hs hk
   by_cases hle:x.id≤q.c.last
   ·obtain⟨l1,l2,l3⟩:=hI.lies hx
    refine (z5v h1 hs hl g hk hle (by omega) hg hW (by omega) (by omega) (by omega)).mono ?_
    rintro e w' ⟨rfl,hS,hB⟩
    have g1:q.c.id<x.id:=by omega
    have g3:∀ y∈q.xs,q.c.id<y.id→x.id≤y.id:=fun y hy r=>f2 y hy (by omega)
    refine⟨rfl,z0J q x,_,⟨rfl,rfl,rfl,rfl,rfl,fun _=>⟨rfl,rfl,by have:=z5k hI hcur hx g1 hle g3;omega⟩,fun r=>by rw[show (z0J q x).c.on=q.c.on from rfl,hon] at r;simp at r⟩,(Ticked.first c g).mono (by omega),P,⟨hW,bw,bs,v,_,hS,?_⟩,(Bt.of_below hb).trans hB,Wider.refl _ _,h.same hS⟩
    exact z6M hI hon hcur hx g1 hle g3 (z1j _ _ _) (fun a ha=>z0o _ _ ha)
   ·refine (z3N h1 hs hl g hk (by omega) (by omega) (by omega) (by omega)).mono fun e w' r=>hend ?_ r
    intro y hy r2
    have:=f2 y hy (by omega)
    omega
theorem Gd.cell9 (h:Gd w P s b W G q V c):w.cell? ⟨s,9,none⟩=some (.bool q.c.on)∧w.cell? ⟨s,0,none⟩=some (.pointer (some ⟨b,0,none⟩)):=by
 obtain⟨_,bw,bs,v,f,h,_⟩:=h
 exact⟨h.cells.2.2.2.2.2.2.2.2.2.1,h.c0⟩
theorem Gd.agent_yes (h:Gd w P s b W G q V c) (g:Int) (hg:0≤g∧g<G):Calls Tryz.prog 115 #[.pointer (some ⟨b,0,none⟩),.int .i64 g] w fun e w'=>e=.returned (.bool true)∧w'=w:=by
 obtain⟨_,bw,bs,v,f,h,_⟩:=h
 exact z0k h.ar g hg.1 hg.2
theorem Gd.agent_no (h:Gd w P s b W G q V c) (g:Int) (hg:¬ (0≤g∧g<G)):Calls Tryz.prog 115 #[.pointer (some ⟨b,0,none⟩),.int .i64 g] w fun e w'=>e=.returned (.bool false)∧w'=w:=by
 obtain⟨_,bw,bs,v,f,h,_⟩:=h
 exact z3g h.ar g hg
theorem zbe (h:Gd w P s b W G q V c) (hon:q.c.on=true) (g:Int) (hg:0≤g∧g<G) (hgi:q.given≤1000000000) (hc:wrap64 (c g)=c g):
  Calls Tryz.prog 280 #[.pointer (some ⟨s,0,none⟩),.int .i64 g] w fun e w'=>∃ q' c',e=.returned (.tuple #[.bool q'.c.on,.int .i64 0])∧z2G q q'∧Ticked c c' g 4∧SpTurn w P s b W G q' V c' w':=by
 have hA:=h.agent_yes g hg
 have hV:=z8o h hon g hg hgi hc
 obtain⟨c9,c0⟩:=h.cell9
 rw[hon] at c9
 clear h hg hon hc
 go_enter Tryz.func280,Tryz.ntmps280
 go_wp2_with (first
  | (go_at_call 115;refine hA.mono ?_;rintro e w9 ⟨rfl,hw9⟩;replace hw9:=hw9.symm;subst hw9)
  | (go_at_call 286;refine hV.mono ?_;rintro e w1 ⟨rfl,q',c',hst,htk,hT⟩;have HT:Hid (z2G q q'∧Ticked c c' g 4∧SpTurn w P s b W G q' V c' w1):=⟨hst,htk,hT⟩;obtain⟨P',hG,_⟩:=hT;have d9:=hG.cell9.1;clear hG hst htk))
 go_ret2
 exact⟨q',c',rfl,HT.out⟩
end
end Go.Proofs.YthkelaeemefnaaaGreat
namespace Go.Proofs.YthkelaeemefnaaaGreat
open Go.RowKit
def q0 (base half:Int):St:=⟨base,half,false,0,[],0,0,0,⟨false,0,0,false,0,0,0⟩⟩
theorem zfB {base half:Int}{W:Int}{f:Int→Int}{V:Int→Int→Int}(h1:0≤base) (h2:0≤half) (h3:base+2*half≤W) (h4:∀ a,f a=V (-1) a):SpInv (q0 base half) W f V :=
 ⟨h1,h2,h3,List.Pairwise.nil,fun x hx=>by simp[q0] at hx,Int.le_refl _,⟨rfl,Int.le_refl _,Int.le_refl _,h2⟩,fun _=>⟨rfl,rfl⟩,fun x hx=>by simp[q0] at hx,fun x hx=>by simp[q0] at hx,fun x hx=>by simp[q0] at hx,fun x hx=>by simp[q0] at hx,fun r=>by simp[q0] at r,fun r=>by simp[q0] at r,fun r=>by simp[q0] at r,fun r=>by simp[q0] at r,fun a _=>h4 a⟩
theorem Gd.shrink {w:World}{P:Nat→Prop}{s b W G:Nat}{q:St}{V:Int→Int→Int}{c:Int→Int}(h:Gd w P s b W G q V c):Gd w (fun k=>P k∧k<w.heap.size) s b W G q V c:=by
 obtain⟨hW,bw,bs,v,f,h,hI⟩:=h
 obtain⟨o1,o2,o3,o4,o5⟩:=h.own
 exact⟨hW,bw,bs,v,f,⟨h.here,h.ar,h.row,⟨o1,h.lt⟩,⟨o2,h.ar.lt⟩,⟨o3,h.ar.words.lt⟩,⟨o4,h.ar.steps.lt⟩,fun k hk=>⟨o5 k hk,(h.row_ne hk).2.2.2.2⟩⟩,hI⟩
theorem zeE {w:World}{b bw bs W G:Nat}{f c:Int→Int}{V:Int→Int→Int}(h:Ar w b bw bs W G (natf f) (natf c)) (hV:∀ a,f a=V (-1) a) (base words:Int) (h1:32≤words∧words≤65536) (h2:0≤base) (h3:base+words≤W) (hW:W≤65536):
  Calls Tryz.prog 134 #[.pointer (some ⟨b,0,none⟩),.int .i64 base,.int .i64 words] w fun e w'=>∃ s P,e=.returned (.tuple #[.pointer (some ⟨s,0,none⟩),.int .i64 0])∧Gd w' P s b W G (q0 base (words/2)) V c∧Below w.heap.size w w'∧∀ k,P k→k=b∨k=bw∨k=bs∨w.heap.size≤k:=by
 have hWd:=z3j h
 have d1:decide (words<32)=false:=by simp;omega
 have d2:decide (base<0)=false:=by simp;omega
 have d3:decide ((W:Int)-words<base)=false:=by simp;omega
 have ed:words.tdiv 2=words/2:=Int.tdiv_eq_ediv_of_nonneg (by omega)
 have HE:Hid (∃ P,Gd (w.alloc (.cells #[.pointer (some ⟨b,0,none⟩),.int .i64 base,.int .i64 (words/2),.bool false,.int .i64 0,.slice none 0 0,.int .i64 0,.int .i64 0,.int .i64 0,.bool false,.int .i64 0,.int .i64 0,.bool false,.int .i64 0,.int .i64 0,.int .i64 0] 213)) P w.heap.size b W G (q0 base (words/2)) V c∧∀ k,P k→k=b∨k=bw∨k=bs∨w.heap.size≤k):=by
  refine⟨fun k=>k=w.heap.size∨k=b∨k=bw∨k=bs,⟨hW,bw,bs,.slice none 0 0,f,⟨?_,h.alloc _,Arys.nil _,⟨.inl rfl,.inr (.inl rfl),.inr (.inr (.inl rfl)),.inr (.inr (.inr rfl)),fun k hk=>by simp[Value.ownBlock] at hk⟩⟩,zfB h2 (by omega) (by omega) hV⟩,?_⟩
  ·exact heap_alloc_new w _
  ·rintro k (r|r|r|r)
   ·exact .inr (.inr (.inr (by omega)))
   ·exact .inl r
   ·exact .inr (.inl r)
   ·exact .inr (.inr (.inl r))
 clear h
 go_enter Tryz.func134,Tryz.ntmps134
 go_wp2_with (go_at_call 131;refine hWd.mono ?_;rintro e w9 ⟨rfl,hw9⟩;replace hw9:=hw9.symm;subst hw9)
 go_ret2
 obtain⟨P,hP⟩:=HE.out
 exact⟨w.heap.size,P,rfl,hP.1,(Below.refl _ _).alloc (Nat.le_refl _) _,hP.2⟩
def intf (ws:Nat→Int):Int→Int:=fun a=>ws a.toNat
theorem z1l (ws:Nat→Int):natf (intf ws)=ws:=funext fun a=>by simp[natf,intf]
theorem SpInv.rewords {q:St}{W:Int}{f f':Int→Int}{V V':Int→Int→Int}(h:SpInv q W f V) (hz:∀ a,q.base≤a→a<q.base+2*q.half→f' a=f a) (hV:∀ t,t≠-1→∀ i,V' t i=V t i) (hb:∀ a,a<q.base∨q.base+2*q.half≤a→f' a=V' (-1) a):SpInv q W f' V':=by
 refine⟨h.base0,h.half0,h.big,h.sorted,h.ids,h.given0,h.sums,h.off,h.old_in,h.new_in,h.dis,fun x hx=>?_,h.cyc,h.done_in,h.after,fun hc=>?_,hb⟩
 ·have hl:=h.lies hx
  have hi:=h.ids x hx
  exact (h.words x hx).of hi.2.2 (fun a h1 h2=>hz a (by omega) (by omega)) rfl (hV _ (by omega))
 ·obtain⟨hon,hcc⟩:=h.copy hc
  refine⟨hon,fun x hx ex=>?_⟩
  obtain⟨a1,a2,a3,a4,a5,a6⟩:=hcc x hx ex
  have hh:=z1Y q
  have h2:=h.cyc hon
  have h3:=h.top
  have h4:=h.rem0
  have h5:=h.half0
  have hi:=h.ids x hx
  exact⟨a1,a2,a3,a4,a5,fun i i0 ic=>by rw[hz _ (by omega) (by omega),hV _ (by omega)];exact a6 i i0 ic⟩
section
variable {w w':World}{P:Nat→Prop}{s b W G:Nat}{q:St}{V:Int→Int→Int}{c:Int→Int}
def reV (V:Int→Int→Int) (ws:Nat→Int):Int→Int→Int:=fun t i=>if t=-1 then intf ws i else V t i
theorem zd6 (V:Int→Int→Int) (ws:Nat→Int) {t:Int}(h:t≠-1) (i:Int):reV V ws t i=V t i:=if_neg h
theorem Gd.ar (h:Gd w P s b W G q V c):∃ bw bs f,Ar w b bw bs W G (natf f) (natf c)∧SpInv q W f V∧P s∧P b∧P bw∧P bs:=by
 obtain⟨_,bw,bs,v,f,h,hI⟩:=h
 exact⟨bw,bs,f,h.ar,hI,h.own.1,h.own.2.1,h.own.2.2.1,h.own.2.2.2.1⟩
theorem Gd.tells (h:Gd w P s b W G q V c) {bw bs:Nat}{ws cs:Nat→Int}(hA:Ar w b bw bs W G ws cs):(∀ a:Nat,a<W→(a:Int)<q.base∨q.base+2*q.half≤a→ws a=V (-1) a)∧∀ j:Nat,j<G→cs j=c j:=by
 obtain⟨bw',bs',f,hA',hI,_⟩:=h.ar
 obtain⟨_,_,_,_,e1,e2⟩:=hA'.one hA
 exact⟨fun a ha hb=>(e1 a ha).trans (hI.beyond a hb),fun j hj=>e2 j hj⟩
theorem Gd.rerow (h:Gd w P s b W G q V c) {bw bs bw' bs':Nat}{ws cs ws' cs':Nat→Int}(hA:Ar w b bw bs W G ws cs) (hA':Ar w' b bw' bs' W G ws' cs') (e:∀ k,P k→k≠b→k≠bw→k≠bs→w'.heap[k]?=w.heap[k]?)
  (hz:∀ a:Nat,q.base≤a→(a:Int)<q.base+2*q.half→ws' a=ws a):Gd w' (fun k=>(P k∧k≠bw∧k≠bs)∨k=bw'∨k=bs') s b W G q (reV V ws') (intf cs'):=by
 obtain⟨hW,bw0,bs0,v,f,h,hI⟩:=h
 obtain⟨rfl,rfl,_,_,e1,_⟩:=hA.one h.ar
 have h0:=hI.base0
 have h1:=hI.big
 refine⟨hW,bw',bs',v,intf ws',⟨?_,?_,?_,?_⟩,hI.rewords (fun a l1 l2=>?_) (fun t ht i=>zd6 _ _ ht i) (fun a _=>(if_pos rfl:reV V ws' (-1) a=_).symm)⟩
 ·exact (e s h.own.1 h.s_b h.s_bw h.s_bs).trans h.here
 ·rw[z1l,z1l];exact hA'
 ·exact h.row.of_block fun k hk=>by
   obtain⟨_,r2,r3,r4,_⟩:=h.row_ne hk
   exact e k (h.own.2.2.2.2 k hk) r2 r3 r4
 ·refine⟨.inl ⟨h.own.1,h.s_bw,h.s_bs⟩,.inl ⟨h.own.2.1,h.ar.b_bw,h.ar.b_bs⟩,.inr (.inl rfl),.inr (.inr rfl),fun k hk=>?_⟩
  obtain⟨_,r2,r3,r4,_⟩:=h.row_ne hk
  exact .inl ⟨h.own.2.2.2.2 k hk,r3,r4⟩
 ·obtain⟨n,rfl⟩:=Int.eq_ofNat_of_zero_le (show 0≤a by omega)
  show ws' (Int.toNat n)=f n
  rw[Int.toNat_natCast,hz n l1 l2]
  exact (e1 n (by omega)).symm
theorem SpTurn.other {q':St}{V':Int→Int→Int}{c':Int→Int}(h:Gd w P s b W G q V c) (ht:SpTurn w P s b W G q' V' c' w') (e1:q'.base=q.base) (e2:q'.half=q.half) (hV:∀ a,V' (-1) a=V (-1) a) {Q:Nat→Prop}(hlt:∀ k,Q k→k<w.heap.size) (hm:Meet w P Q b)
  {lo hi:Nat} (hz:(hi:Int)≤q.base∨q.base+2*q.half≤lo) (hW:hi≤W):∃ ws',Else w w' Q b W G lo hi ws' (natf c'):=by
 obtain⟨P',hG,hB,hWd,hb⟩:=ht
 obtain⟨bw0,bs0,f,hA0,hI,_⟩:=h.ar
 obtain⟨bw1,bs1,f',hA1,hI',_⟩:=hG.ar
 have eh:=hA1.here
 rw[hb,hA0.here] at eh
 simp only[Option.some.injEq,Obj.cells.injEq,Array.mk.injEq,List.cons.injEq,Value.slice.injEq,Addr.mk.injEq,and_true] at eh
 obtain⟨rfl,rfl⟩:=eh
 refine⟨natf f',⟨fun bw bs ws cs hA=>?_,hB.size⟩⟩
 obtain⟨rfl,rfl,_,_,ew,_⟩:=hA0.one hA
 refine⟨hA1,fun a l1 l2=>?_,fun k hk n1 n2=>?_⟩
 ·rw[ew a (by omega)]
  have ha:(a:Int)<q.base∨q.base+2*q.half≤a:=by omega
  exact (hI'.beyond a (by rw[e1,e2];exact ha)).trans ((hV a).trans (hI.beyond a ha).symm)
 ·by_cases e:k=b
  ·subst e;exact hb
  ·exact hB.block k (hlt k hk) (hm.symm.far hA hk e n1 n2)
theorem SpTurn.meet {q':St}{V':Int→Int→Int}{c':Int→Int}(h:Gd w P s b W G q V c) {P':Nat→Prop}(hG:Gd w' P' s b W G q' V' c') (hWd:Wider P P' w) (hb:w'.heap[b]?=w.heap[b]?) {Q:Nat→Prop}(hlt:∀ k,Q k→k<w.heap.size) (hm:Meet w P Q b):Meet w' P' Q b:=by
 obtain⟨bw0,bs0,f,hA0,hI,_⟩:=h.ar
 obtain⟨bw1,bs1,f',hA1,hI',_⟩:=hG.ar
 have eh:=hA1.here
 rw[hb,hA0.here] at eh
 simp only[Option.some.injEq,Obj.cells.injEq,Array.mk.injEq,List.cons.injEq,Value.slice.injEq,Addr.mk.injEq,and_true] at eh
 obtain⟨rfl,rfl⟩:=eh
 intro k hk hq
 by_cases e0:k=b
 ·exact .inl e0
 refine .inr ⟨_,_,W,G,_,_,hA1,?_⟩
 refine Classical.byContradiction fun hn=>?_
 have:=hlt k hq
 rcases hWd k hk with r|r
 ·exact hm.far hA0 r e0 (fun e=>hn (.inl e)) (fun e=>hn (.inr e)) hq
 ·omega
theorem Gd.other {Q Q':Nat→Prop}(h:Gd w P s b W G q V c) (hp:∀ k,P k→k<w.heap.size) (hm:Meet w P Q b) {bw bs bw' bs':Nat}{ws cs ws' cs':Nat→Int}(hA:Ar w b bw bs W G ws cs) (hA':Ar w' b bw' bs' W G ws' cs') (hB:Bt Q w w') (hW:Wider Q Q' w) (hQ:Q' bw'∧Q' bs')
  (hz:∀ a:Nat,q.base≤a→(a:Int)<q.base+2*q.half→ws' a=ws a):∃ P',Gd w' P' s b W G q (reV V ws') (intf cs')∧Meet w' P' Q' b∧(∀ k,P' k→P k∨Q' k)∧∀ k,P' k→k<w'.heap.size:=by
 have hG:=h.rerow hA hA' (fun k hk n0 n1 n2=>hB.block k (hp k hk) (hm.far hA hk n0 n1 n2)) hz
 refine⟨_,hG,fun k hk hq=>?_,fun k hk=>?_,fun k hk=>?_⟩
 ·by_cases e0:k=b
  ·exact .inl e0
  refine .inr ⟨_,_,W,G,_,_,hA',?_⟩
  rcases hk with ⟨r1,r2,r3⟩|r|r
  ·refine (hW k hq).elim (fun r=>absurd r (hm.far hA r1 e0 r2 r3)) (fun r=>?_)
   have:=hp k r1
   omega
  ·exact .inl r
  ·exact .inr r
 ·rcases hk with ⟨r1,_⟩|r|r
  ·exact .inl r1
  ·exact .inr (r ▸ hQ.1)
  ·exact .inr (r ▸ hQ.2)
 ·rcases hk with ⟨r1,_⟩|r|r
  ·exact Nat.lt_of_lt_of_le (hp k r1) hB.size
  ·subst r;exact hA'.words.lt
  ·subst r;exact hA'.steps.lt
end
end Go.Proofs.YthkelaeemefnaaaGreat
