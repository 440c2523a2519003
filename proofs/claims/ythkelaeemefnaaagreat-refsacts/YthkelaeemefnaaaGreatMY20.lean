import Derived.Test.YthkelaeemefnaaaGreatMP3qz
set_option maxRecDepth 20000
set_option maxHeartbeats 6000000
namespace Go.Proofs.YthkelaeemefnaaaGreat
open Go.RowKit
section
variable {w:World}{P:Nat→Prop}{s b W G:Nat}{q:St}{V:Int→Int→Int}{c:Int→Int}
theorem zen (h:Gd w P s b W G q V c) {x:Ary}(hx:x∈q.xs):
  Calls Tryz.prog 276 #[.pointer (some ⟨s,0,none⟩),.int .i64 x.id] w fun e w'=>e=.returned (.int .i64 0)∧SpTurn w P s b W G (z0M q (pos q.xs x.id) x.n) V c w':=by
 obtain⟨hW,bw,bs,v,f,h,hI⟩:=h
 obtain⟨hh,hk⟩:=hI.at_id hx
 obtain⟨b1,b2,b3,b4,b5,b6,b7,b8,b9,b10,b11,b12⟩:=hI.bounds hW
 obtain⟨l1,l2,l3⟩:=hI.lies hx
 have hF:=z4J h.row hI.sorted (hI.short hW) x.id hh
 have HI:Hid (SpInv (z0M q (pos q.xs x.id) x.n) W f V):=zbK hI hk
 have HR:Hid (z0h q.xs∧q.xs.length<1000000∧has q.xs x.id=true):=⟨hI.sorted,hI.short hW,hh⟩
 have hSz:=fun u=>z35 x.n u (by omega) (by omega)
 have ew1:IntKind.i64.wrap (q.dropped+(x.n+4))=q.dropped+(x.n+4):=by rw[IntKind.wrap_i64];omega
 have HK:Hid (q.xs[pos q.xs x.id]?=some x):=hk
 clear hI hk hh hx
 have cc:=h.cells
 obtain⟨k,hkk⟩:∃ k,k=pos q.xs x.id:=⟨_,rfl⟩
 rw[← hkk] at hF HI HK
 have HKK:Hid (k=pos q.xs x.id):=hkk
 rw[← hkk]
 clear hkk
 go_enter Tryz.func276,Tryz.ntmps276
 go_wp2_with (go_at_call 281;refine hF.mono ?_;rintro e w1 ⟨p,hp,rfl,hb⟩;have h1:=h.below hb;have c1:=h1.cells;have f1:=h1.frozen 7;have e1:=(h1.elem hp HK.out).2.2.1)
 have hps:p≠s:=(h1.row_ne hp).1
 go_region_with (go_at_call 263;refine (hSz _).mono ?_;rintro e w9 ⟨rfl,hw9⟩;replace hw9:=hw9.symm;subst hw9)
 all_goals
  have hp1:=(h1.poke 7 (.int .i64 (q.dropped+(x.n+4))) (q':={ q with dropped:=q.dropped+(x.n+4) }) rfl rfl)
  have hp3:=hp1.1.below (w':=World.drew _) (z00 _ 1 _)
  have HB3:Hid (Bt P w1 (World.drew _)):=hp1.2.trans (z0i _ 1)
  generalize World.drew _=U at *
  have c5:U.cell? ⟨s,5,none⟩=some v:=hp3.cells.2.2.2.2.2.1
  have hRm:=zaT hp3.row HR.out.1 HR.out.2.1 x.id HR.out.2.2 c5 (hp3.frozen 5) (fun r=>(hp3.row_ne r).1 rfl)
  go_wp2_with (go_at_call 282;refine hRm.mono ?_;rintro e w2 ⟨rfl,v2,w3,hw2,hA2,hg2,hv2⟩;have hO:=zaA (q':=z0M q k x.n) hp3 (by show Arys w3 v2 (q.xs.eraseIdx k);rw[HKK.out];exact hA2) hg2 (.inl hv2) rfl;rw[← hw2] at hO;clear hw2 hA2 hg2 hv2)
  go_ret
  refine⟨rfl,_,⟨hW,bw,bs,v2,f,hO.1,HI.out⟩,?_,?_,h.same hO.1⟩
  ·exact ((Bt.of_below hb).trans HB3.out).trans hO.2.1
  ·exact fun j hj=>(hO.2.2 j hj).elim .inl (fun r=>.inr (Nat.le_trans (Nat.le_trans hb.size HB3.out.size) r))
theorem Sp.poke7 {bw bs:Nat}{v:Value}{f:Int→Int}(h:Sp w P s b bw bs W G v q f c) (C:Cyc):
  Sp (((((((w.setCell ⟨s,9,none⟩ (.bool C.on)).setCell ⟨s,10,none⟩ (.int .i64 C.last)).setCell ⟨s,11,none⟩ (.int .i64 C.id)).setCell ⟨s,12,none⟩ (.bool C.cop)).setCell ⟨s,13,none⟩ (.int .i64 C.copied)).setCell ⟨s,14,none⟩ (.int .i64 C.tgt)).setCell ⟨s,15,none⟩ (.int .i64 C.next)) P s b bw bs W G v { q with c:=C } f c ∧
  Bt P w (((((((w.setCell ⟨s,9,none⟩ (.bool C.on)).setCell ⟨s,10,none⟩ (.int .i64 C.last)).setCell ⟨s,11,none⟩ (.int .i64 C.id)).setCell ⟨s,12,none⟩ (.bool C.cop)).setCell ⟨s,13,none⟩ (.int .i64 C.copied)).setCell ⟨s,14,none⟩ (.int .i64 C.tgt)).setCell ⟨s,15,none⟩ (.int .i64 C.next)):=by
 have r1:=h.poke 9 (.bool C.on) (q':={ q with c:={ q.c with on:=C.on } }) rfl rfl
 have r2:=r1.1.poke 10 (.int .i64 C.last) (q':={ q with c:={ q.c with on:=C.on,last:=C.last } }) rfl rfl
 have r3:=r2.1.poke 11 (.int .i64 C.id) (q':={ q with c:={ q.c with on:=C.on,last:=C.last,id:=C.id } }) rfl rfl
 have r4:=r3.1.poke 12 (.bool C.cop) (q':={ q with c:={ q.c with on:=C.on,last:=C.last,id:=C.id,cop:=C.cop } }) rfl rfl
 have r5:=r4.1.poke 13 (.int .i64 C.copied) (q':={ q with c:={ q.c with on:=C.on,last:=C.last,id:=C.id,cop:=C.cop,copied:=C.copied } }) rfl rfl
 have r6:=r5.1.poke 14 (.int .i64 C.tgt) (q':={ q with c:=⟨C.on,C.last,C.id,C.cop,C.copied,C.tgt,q.c.next⟩ }) rfl rfl
 have r7:=r6.1.poke 15 (.int .i64 C.next) (q':={ q with c:=C }) rfl rfl
 exact⟨r7.1,r1.2.trans (r2.2.trans (r3.2.trans (r4.2.trans (r5.2.trans (r6.2.trans r7.2)))))⟩
theorem zbl (h:Gd w P s b W G q V c) (hoff:q.c.on=false):
  Calls Tryz.prog 279 #[.pointer (some ⟨s,0,none⟩)] w fun e w'=>e=.returned (.int .i64 0)∧SpTurn w P s b W G (z0x q) V c w':=by
 obtain⟨hW,bw,bs,v,f,h,hI⟩:=h
 obtain⟨b1,b2,b3,b4,b5,b6,b7,b8,b9,b10,b11,b12⟩:=hI.bounds hW
 have HI:Hid (SpInv (z0x q) W f V):=zba hI hoff
 have cc:=h.cells
 rw[hoff] at cc
 have f3:=h.frozen 3
 have f8:=h.frozen 8
 have f7:=h.frozen 7
 have p1:=(h.poke 3 (.bool (!q.up)) (q':={ q with up:=!q.up }) rfl rfl)
 have p2:=(p1.1.poke 8 (.int .i64 q.dropped) (q':={ q with up:=!q.up,leaving:=q.dropped }) rfl rfl)
 have p3:=(p2.1.poke 7 (.int .i64 0) (q':={ q with up:=!q.up,leaving:=q.dropped,dropped:=0 }) rfl rfl)
 have HB:Hid (Bt P w _):=(p1.2.trans p2.2).trans p3.2
 have hfil:z0m { q with up:=!q.up,leaving:=q.dropped,dropped:=0 }=z22 q:=by unfold z0m z22;cases q.up<;>simp
 have hFil:=fun {u:World} (hu:Sp u P s b bw bs W G v { q with up:=!q.up,leaving:=q.dropped,dropped:=0 } f c)=>z7O hu ⟨b1,by show q.base≤_;omega⟩ ⟨b3,by show q.half≤_;omega⟩
 rw[hfil] at hFil
 clear hI hoff hfil
 go_enter Tryz.func279,Tryz.ntmps279
 go_wp2
 have p4:=p3.1
 clear p1 p2 p3
 generalize World.setCell _ _ _=U at *
 have c4:U.cell? ⟨s,4,none⟩=some (.int .i64 q.given):=p4.cells.2.2.2.2.1
 have hd:=p4.drewn 1
 have fz:=fun k=>p4.frozen k
 have hcs:=p4.cells
 go_region_with (go_at_call 265;refine (hFil hd).mono ?_;rintro e w1 ⟨rfl,hb1⟩;have h1:=hd.below hb1;have d1:=h1.cells;have d2:=fun k=>h1.frozen k)
 all_goals
  have r:=h1.poke7 ⟨true,q.given,0,false,0,0,z22 q⟩
  go_wp2
  go_ret
  exact⟨rfl,P,⟨hW,bw,bs,v,f,r.1,HI.out⟩,(HB.out.trans ((z0i U 1).trans (Bt.of_below hb1))).trans r.2,Wider.refl _ _,h.same r.1⟩
end
end Go.Proofs.YthkelaeemefnaaaGreat
namespace Go.Proofs.YthkelaeemefnaaaGreat
open Go.RowKit
section
variable {w:World}{P:Nat→Prop}{s b bw bs W G:Nat}{v:Value}{q:St}{f c:Int→Int}
theorem zdl (h:Sp w P s b bw bs W G v q f c) (b1:0≤q.taken∧q.taken≤65536) (b2:0≤q.leaving∧q.leaving≤q.taken):
  Calls Tryz.prog 262 #[.pointer (some ⟨s,0,none⟩)] w fun e w'=>e=.returned (.tuple #[])∧Sp w' P s b bw bs W G v (z0H q) f c∧Bt P w w':=by
 have cc:=h.cells
 have fz:=fun k=>h.frozen k
 have ew1:IntKind.i64.wrap (q.taken-q.leaving)=q.taken-q.leaving:=by rw[IntKind.wrap_i64];omega
 have p1:=(h.poke 6 (.int .i64 (q.taken-q.leaving)) (q':={ q with taken:=q.taken-q.leaving }) rfl rfl)
 have p2:=(p1.1.poke 8 (.int .i64 0) (q':={ q with taken:=q.taken-q.leaving,leaving:=0 }) rfl rfl)
 have p3:=p2.1.poke7 ⟨false,0,0,false,0,0,0⟩
 have HP:Hid (Sp _ P s b bw bs W G v (z0H q) f c∧Bt P w _):=⟨p3.1.drewn 1,(p1.2.trans (p2.2.trans p3.2)).trans (z0i _ 1)⟩
 clear p1 p2 p3
 go_enter Tryz.func262,Tryz.ntmps262
 go_wp2
 go_region
 go_wp2
 go_end0
 exact⟨rfl,HP.out⟩
theorem z9G (h:Sp w P s b bw bs W G v q f c) (hs:z0h q.xs) (hl:q.xs.length<1000000) (hh:¬ (q.c.cop=true∧has q.xs q.c.id=true)):
  Calls Tryz.prog 290 #[.pointer (some ⟨s,0,none⟩)] w fun e w'=>e=.returned (.pointer none)∧Below w.heap.size w w':=by
 have cc:=h.cells
 cases hc:q.c.cop with
 | false =>
  rw[hc] at cc
  clear h hs hl hh hc
  go_enter Tryz.func290,Tryz.ntmps290
  go_wp2
  go_ret
  exact⟨rfl,Below.refl _ _⟩
 | true =>
  rw[hc] at cc
  have hd:=h.drewn 1
  have hF:=z8f hd.row hs hl q.c.id (by cases r:has q.xs q.c.id with|false=>rfl|true=>exact absurd ⟨hc,r⟩ hh)
  clear hs hl hh hc
  go_enter Tryz.func290,Tryz.ntmps290
  go_wp2
  go_region_held3 (fun w'=>w'.cell? ⟨s,5,none⟩=some v∧w'.cell? ⟨s,11,none⟩=some (.int .i64 q.c.id)) (go_keep)
   ((go_at_call 281;refine hF.mono ?_;rintro e w1 ⟨rfl,hb⟩;have h1:=(hd.below hb).cells))
  go_wp2
  go_ret
  exact⟨rfl,(z00 w 1 _).trans hb⟩
theorem z4q (h:Sp w P s b bw bs W G v q f c) (hs:z0h q.xs) (hl:q.xs.length<1000000) (hc:q.c.cop=true) (hh:has q.xs q.c.id=true):
  Calls Tryz.prog 290 #[.pointer (some ⟨s,0,none⟩)] w fun e w'=>∃ p,v.ownBlock=some p∧e=.returned (.pointer (some ⟨p,pos q.xs q.c.id*3,none⟩))∧Below w.heap.size w w':=by
 have cc:=h.cells
 rw[hc] at cc
 have hd:=h.drewn 1
 have hF:=z4J hd.row hs hl q.c.id hh
 generalize pos q.xs q.c.id=k at *
 clear hs hl hh hc
 go_enter Tryz.func290,Tryz.ntmps290
 go_wp2
 go_region_held3 (fun w'=>w'.cell? ⟨s,5,none⟩=some v∧w'.cell? ⟨s,11,none⟩=some (.int .i64 q.c.id)) (go_keep)
  ((go_at_call 281;refine hF.mono ?_;rintro e w1 ⟨p,hp,rfl,hb⟩;have h1:=(hd.below hb).cells))
 go_wp2
 go_ret
 exact⟨p,hp,rfl,(z00 w 1 _).trans hb⟩
theorem z74 (h:Sp w P s b bw bs W G v q f c) (g:Int) {p k:Nat}{x:Ary}{T:Int}(hp:v.ownBlock=some p) (hk:q.xs[k]?=some x) (hg:0≤g∧g<G) (hW:W≤65536) (b0:0≤q.base∧q.base+2*q.half≤W) (bh:0≤q.half) (l1:q.base≤x.at_) (l2:x.at_+(x.n+4)≤q.base+2*q.half) (l3:0≤q.c.copied∧q.c.copied<x.n)
  (z1:f x.at_=x.at_+4) (z2:f (x.at_+1)=T) (t1:q.base≤T) (t2:T+q.c.copied<q.base+2*q.half):
  Calls Tryz.prog 292 #[.pointer (some ⟨s,0,none⟩),.int .i64 g,.pointer (some ⟨p,k*3,none⟩)] w fun e w'=>e=.returned (.tuple #[])∧Sp w' P s b bw bs W G v (z1G q) (updI f (T+q.c.copied) (f (x.at_+4+q.c.copied))) (tick (tick (tick (tick c g) g) g) g)∧Bt P w w':=by
 have cc:=h.cells
 have Z1:Hid (f x.at_=x.at_+4):=z1
 have Z2:Hid (f (x.at_+1)=T):=z2
 have hd:=h.drewn 1
 clear z1 z2
 have ew:IntKind.i64.wrap (q.c.copied+1)=q.c.copied+1:=by rw[IntKind.wrap_i64];omega
 go_enter Tryz.func292,Tryz.ntmps292
 go_wp2
 go_region_held3 (fun w'=>w'.cell? ⟨s,0,none⟩=some (.pointer (some ⟨b,0,none⟩))) (go_keep)
  (first
   | (go_at_call 284;refine (z4A hd g hp hk hg (by omega)).mono ?_;rintro e w2 ⟨rfl,hS2,hB2⟩;have d2:=hS2.c0;rw[Z1.out])
   | (go_at_call 267;refine (z0P hS2 (x.at_+4) q.c.copied (by omega) (by omega) (by omega) (by omega) (by omega) (by omega)).mono ?_;rintro e w3 ⟨rfl,hb3⟩;have hS3:=hS2.below hb3;have d3:=hS3.c0)
   | (go_at_call 201;refine (z51 hS3 g (x.at_+4+q.c.copied) hg (by omega)).mono ?_;rintro e w4 ⟨rfl,hS4,hB4⟩;have d4:=hS4.c0))
 generalize hY:f (x.at_+4+q.c.copied)=Y at *
 have HY:Hid (f (x.at_+4+q.c.copied)=Y):=hY
 clear hY
 have HB4:Hid (Bt P w w4):=((z0i w 1).trans hB2).trans ((Bt.of_below hb3).trans hB4)
 have hd4:=hS4.drewn 1
 go_wp2
 go_region_held3 (fun w'=>w'.cell? ⟨s,0,none⟩=some (.pointer (some ⟨b,0,none⟩))) (go_keep)
  (first
   | (go_at_call 285;refine (z6D hd4 g hp hk hg (by omega) hW).mono ?_;rintro e w5 ⟨rfl,hS5,hB5⟩;have d5:=hS5.c0;rw[Z2.out])
   | (go_at_call 267;refine (z0P hS5 T q.c.copied (by omega) (by omega) (by omega) (by omega) (by omega) (by omega)).mono ?_;rintro e w6 ⟨rfl,hb6⟩;have hS6:=hS5.below hb6;have d6:=hS6.c0)
   | (go_at_call 232;refine (z1M hS6 g (T+q.c.copied) Y hg (by omega)).mono ?_;rintro e w7 ⟨rfl,hS7,hB7⟩;have d7:=hS7.c0))
 have c7:=hS7.cells
 have f7:=hS7.frozen 13
 have p1:=hS7.poke 13 (.int .i64 (q.c.copied+1)) (q':=z1G q) rfl rfl
 go_wp2
 go_end0
 rw[← HY.out] at p1
 exact⟨rfl,p1.1,(HB4.out.trans ((z0i w4 1).trans hB5)).trans (((Bt.of_below hb6).trans hB7).trans p1.2)⟩
end
end Go.Proofs.YthkelaeemefnaaaGreat
namespace Go.Proofs.YthkelaeemefnaaaGreat
open Go.RowKit
theorem z45:∀ (xs:List Ary) (k:Nat) (x:Ary) (T:Int),xs[k]?=some x→z0l (xs.set k ⟨x.id,T,x.n⟩)=(z0l xs).set (k*3+1) (.int .i64 T)
 | [],k,x,T,h=>by simp at h
 | y::r,0,x,T,h=>by
  simp at h;subst h
  simp[z0l]
 | y::r,k+1,x,T,h=>by
  have h':r[k]?=some x:=by simpa using h
  rw[show (k+1)*3+1=(k*3+1)+1+1+1 by omega]
  simp only[List.set_cons_succ,z0l,z45 r k x T h']
section
variable {w:World}{P:Nat→Prop}{s b bw bs W G:Nat}{v:Value}{q:St}{f c:Int→Int}
theorem Sp.reat (h:Sp w P s b bw bs W G v q f c) {p k:Nat}{x:Ary}(hp:v.ownBlock=some p) (hk:q.xs[k]?=some x) (T:Int):
  Sp (w.setCell ⟨p,k*3+1,none⟩ (.int .i64 T)) P s b bw bs W G v { q with xs:=q.xs.set k ⟨x.id,T,x.n⟩ } f c∧Bt P w (w.setCell ⟨p,k*3+1,none⟩ (.int .i64 T)):=by
 obtain⟨n1,n2,n3,n4,_⟩:=h.row_ne hp
 refine⟨⟨?_,⟨?_,h.ar.words.setOther (fun r=>n3 r.symm) _,h.ar.steps.setOther (fun r=>n4 r.symm) _,h.ar.part⟩,?_,h.own⟩,(Bt.refl _ _).set _ _ _ (.inl (h.own.2.2.2.2 p hp))⟩
 ·rw[Below.heap_setCell _ _ _ _ (fun r=>n1 r.symm)];exact h.here
 ·rw[Below.heap_setCell _ _ _ _ (fun r=>n2 r.symm)];exact h.ar.here
 ·have hkl:k<q.xs.length:=(List.getElem?_eq_some_iff.1 hk).1
  rcases h.row.shape with ⟨rfl,_⟩|⟨p',cap,rfl,hc,hm,_⟩
  ·simp[Value.ownBlock] at hp
  ·simp only[Value.ownBlock,Option.some.injEq] at hp
   subst hp
   obtain⟨_,_,_,F,hR,hF⟩:=h.row.row
   have hl:(q.xs.set k ⟨x.id,T,x.n⟩).length=q.xs.length:=List.length_set
   have:=Arys.of_row (xs:=q.xs.set k ⟨x.id,T,x.n⟩) (hR.set (k*3+1) (.int .i64 T)) (by omega) hm (fun j hj=>by
    rw[hl] at hj
    rw[z45 _ _ _ _ hk,List.getElem?_set]
    by_cases e:k*3+1=j
    ·subst e
     rw[if_pos rfl,if_pos (by rw[z0s];omega)]
     exact congrArg some (if_pos rfl).symm
    ·rw[if_neg e,hF j hj]
     exact congrArg some (if_neg (fun r=>e r.symm)).symm)
   rw[hl] at this
   exact this
theorem zaW (h:Sp w P s b bw bs W G v q f c) (g:Int) {p k:Nat}{x:Ary}(hp:v.ownBlock=some p) (hk:q.xs[k]?=some x) (hg:0≤g∧g<G) (hW:W≤65536) (ht:0≤q.c.tgt∧q.c.tgt+1<W):
  Calls Tryz.prog 293 #[.pointer (some ⟨s,0,none⟩),.int .i64 g,.pointer (some ⟨p,k*3,none⟩)] w fun e w'=>e=.returned (.tuple #[])∧Sp w' P s b bw bs W G v (z0f q k x) (updI (updI f q.c.tgt (q.c.tgt+4)) (q.c.tgt+1) 0) (tick (tick c g) g)∧Bt P w w':=by
 have cc:=h.cells
 go_enter Tryz.func293,Tryz.ntmps293
 go_wp2_with (go_at_call 266;refine (zdm h g q.c.tgt hg ht hW).mono ?_;rintro e w1 ⟨rfl,h1,hB1⟩;have c1:=h1.cells;have f1:=fun j=>h1.frozen j;have e1:=(h1.elem hp hk).2.1;have e2:=(h1.elem hp hk).2.2.2;have e3:=(h1.row_ne hp).1)
 have p1:=h1.reat hp hk q.c.tgt
 have p2:=p1.1.poke 12 (.bool false) (q':=z0f q k x) rfl rfl
 go_end0
 exact⟨rfl,p2.1,hB1.trans (p1.2.trans p2.2)⟩
theorem z3M (h:Sp w P s b bw bs W G v q f c) (hs:z0h q.xs) (hl:q.xs.length<1000000) (g:Int) (hp:pos q.xs (q.c.id+1)=q.xs.length) (hc:0≤q.c.id∧q.c.id≤1000000000) (b1:0≤q.taken∧q.taken≤65536) (b2:0≤q.leaving∧q.leaving≤q.taken):
  Calls Tryz.prog 291 #[.pointer (some ⟨s,0,none⟩),.int .i64 g] w fun e w'=>e=.returned (.tuple #[])∧Sp w' P s b bw bs W G v (z0H q) f c∧Bt P w w':=by
 have cc:=h.cells
 have hd:=h.drewn 1
 have hF:=zab hd.row hs hl q.c.id (by omega) hp
 clear hp hs hl
 go_enter Tryz.func291,Tryz.ntmps291
 go_wp2
 go_region_held3 (fun w'=>w'.cell? ⟨s,5,none⟩=some v∧w'.cell? ⟨s,11,none⟩=some (.int .i64 q.c.id)) (go_keep)
  ((go_at_call 294;refine hF.mono ?_;rintro e w1 ⟨rfl,hb⟩;have h1:=hd.below hb;have c1:=h1.cells))
 go_wp2
 go_quiet (fail)
 have h2:=h1.drewn nq
 go_wp2_with (go_at_call 262;refine (zdl h2 b1 b2).mono ?_;rintro e w2 ⟨rfl,h3,hB3⟩)
 refine bodyPost_ret (results_none rfl _ _ _) rfl ?_
 exact⟨rfl,h3,((z0i w 1).trans (Bt.of_below hb)).trans ((z0i w1 nq).trans hB3)⟩
theorem z3N (h:Sp w P s b bw bs W G v q f c) (hs:z0h q.xs) (hl:q.xs.length<1000000) (g:Int) {x:Ary}(hk:q.xs[pos q.xs (q.c.id+1)]?=some x) (hx:q.c.last<x.id) (hc:0≤q.c.id∧q.c.id≤1000000000) (b1:0≤q.taken∧q.taken≤65536) (b2:0≤q.leaving∧q.leaving≤q.taken):
  Calls Tryz.prog 291 #[.pointer (some ⟨s,0,none⟩),.int .i64 g] w fun e w'=>e=.returned (.tuple #[])∧Sp w' P s b bw bs W G v (z0H q) f c∧Bt P w w':=by
 have cc:=h.cells
 have hd:=h.drewn 1
 have hF:=z4e hd.row hs hl q.c.id (by omega) (List.getElem?_eq_some_iff.1 hk).1
 generalize pos q.xs (q.c.id+1)=k at *
 clear hs hl
 go_enter Tryz.func291,Tryz.ntmps291
 go_wp2
 go_region_held3 (fun w'=>w'.cell? ⟨s,5,none⟩=some v∧w'.cell? ⟨s,11,none⟩=some (.int .i64 q.c.id)) (go_keep)
  ((go_at_call 294;refine hF.mono ?_;rintro e w1 ⟨p,hp,rfl,hb⟩;have h1:=hd.below hb;have c1:=h1.cells;have e1:=(h1.elem hp hk).1))
 go_wp2
 go_quiet (fail)
 have h2:=h1.drewn nq
 go_wp2_with (go_at_call 262;refine (zdl h2 b1 b2).mono ?_;rintro e w2 ⟨rfl,h3,hB3⟩)
 refine bodyPost_ret (results_none rfl _ _ _) rfl ?_
 exact⟨rfl,h3,((z0i w 1).trans (Bt.of_below hb)).trans ((z0i w1 nq).trans hB3)⟩
theorem z5v (h:Sp w P s b bw bs W G v q f c) (hs:z0h q.xs) (hl:q.xs.length<1000000) (g:Int) {x:Ary}(hk:q.xs[pos q.xs (q.c.id+1)]?=some x) (hx:x.id≤q.c.last) (hc:0≤q.c.id∧q.c.id≤1000000000) (hg:0≤g∧g<G) (hW:W≤65536) (hn:0≤q.c.next∧q.c.next≤65536) (hxn:0≤x.n∧x.n≤65536) (ha:0≤x.at_∧x.at_+1<W):
  Calls Tryz.prog 291 #[.pointer (some ⟨s,0,none⟩),.int .i64 g] w fun e w'=>e=.returned (.tuple #[])∧Sp w' P s b bw bs W G v (z0J q x) (updI f (x.at_+1) (q.c.next+4)) (tick c g)∧Bt P w w':=by
 have cc:=h.cells
 have hd:=h.drewn 1
 have hF:=z4e hd.row hs hl q.c.id (by omega) (List.getElem?_eq_some_iff.1 hk).1
 generalize pos q.xs (q.c.id+1)=k at *
 have hx':decide (q.c.last<x.id)=false:=by simp;omega
 have ew:IntKind.i64.wrap (q.c.next+(x.n+4))=q.c.next+(x.n+4):=by rw[IntKind.wrap_i64];omega
 have hSz:=fun u=>z35 x.n u (by omega) (by omega)
 clear hs hl hx
 go_enter Tryz.func291,Tryz.ntmps291
 go_wp2
 go_region_held3 (fun w'=>w'.cell? ⟨s,5,none⟩=some v∧w'.cell? ⟨s,11,none⟩=some (.int .i64 q.c.id)) (go_keep)
  ((go_at_call 294;refine hF.mono ?_;rintro e w1 ⟨p,hp,rfl,hb⟩;have h1:=hd.below hb;have c1:=h1.cells;have e1:=(h1.elem hp hk).1))
 go_wp2
 go_quiet (fail)
 have h2:=h1.drewn nq
 have HB2:Hid (Bt P w (w1.drewN nq)):=((z0i w 1).trans (Bt.of_below hb)).trans (z0i w1 nq)
 generalize w1.drewN nq=u2 at *
 have c2:=h2.cells
 have f2:=fun j=>h2.frozen j
 have e2:=h2.elem hp hk
 have e3:=(h2.row_ne hp).1
 have p1:=h2.poke 11 (.int .i64 x.id) (q':={ q with c:={ q.c with id:=x.id } }) rfl rfl
 have p2:=p1.1.poke 12 (.bool true) (q':={ q with c:={ q.c with id:=x.id,cop:=true } }) rfl rfl
 have p3:=p2.1.poke 13 (.int .i64 0) (q':={ q with c:={ q.c with id:=x.id,cop:=true,copied:=0 } }) rfl rfl
 go_wp2
 have h4:=p3.1
 have HB4:Hid (Bt P w _):=HB2.out.trans (p1.2.trans (p2.2.trans p3.2))
 clear p1 p2 p3 c2 f2 e2
 generalize World.setCell _ _ _=u4 at *
 have c15:u4.cell? ⟨s,15,none⟩=some (.int .i64 q.c.next):=h4.cells.2.2.2.2.2.2.2.2.2.2.2.2.2.2.2
 have c14:u4.cell? ⟨s,14,none⟩=some (.int .i64 q.c.tgt):=h4.cells.2.2.2.2.2.2.2.2.2.2.2.2.2.2.1
 have f4:=fun j=>h4.frozen j
 have e4:=h4.elem (k:=k) (x:=x) hp hk
 go_region_with (go_at_call 263;refine (hSz _).mono ?_;rintro e w9 ⟨rfl,hw9⟩;replace hw9:=hw9.symm;subst hw9)
 all_goals
  have p4:=h4.poke 14 (.int .i64 q.c.next) (q':={ q with c:=⟨q.c.on,q.c.last,x.id,true,0,q.c.next,q.c.next⟩ }) rfl rfl
  have p5:=p4.1.poke 15 (.int .i64 (q.c.next+(x.n+4))) (q':=z0J q x) rfl rfl
  have h6:=p5.1.below (w':=World.drew _) (z00 _ 1 _)
  have HB6:Hid (Bt P w (World.drew _)):=HB4.out.trans ((p4.2.trans p5.2).trans (z0i _ 1))
  clear p4 p5 c14 c15 f4 e4
  go_wp2
  generalize World.drew _=u6 at *
  have c6:u6.cell? ⟨s,14,none⟩=some (.int .i64 q.c.next):=h6.cells.2.2.2.2.2.2.2.2.2.2.2.2.2.2.1
  have e6:=(h6.elem (k:=k) (x:=x) hp hk).2.1
  have hd6:=h6.drewn 1
  go_region_held3 (fun w'=>w'.cell? ⟨s,14,none⟩=some (.int .i64 q.c.next)∧w'.cell? ⟨p,k*3+1,none⟩=some (.int .i64 x.at_)) (go_keep)
   (first
    | (go_at_call 268;refine (z2h q.c.next _ (by omega) (by omega)).mono ?_;rintro e w8 ⟨rfl,hw8⟩;subst hw8)
    | (go_at_call 270;refine (z4g hd6 g x.at_ (q.c.next+4) hg ha hW).mono ?_;rintro e w7 ⟨rfl,h7,hB7⟩;have c7:w7.cell? ⟨s,14,none⟩=some (.int .i64 q.c.next):=h7.cells.2.2.2.2.2.2.2.2.2.2.2.2.2.2.1;have e7:=(h7.elem (k:=k) (x:=x) hp hk).2.1))
  go_wp2
  go_end0
  exact⟨rfl,h7,HB6.out.trans ((z0i u6 1).trans hB7)⟩
end
end Go.Proofs.YthkelaeemefnaaaGreat
