import Derived.Test.YthkelaeemefnaaaGreatMY24
set_option maxRecDepth 20000
set_option maxHeartbeats 1000000
namespace Go.Proofs.YthkelaeemefnaaaGreat
open Go.RowKit
attribute [local go_sem ↓] z1I
theorem zfi:(Tryz.prog.info? 166).map (fun i=>(i.zero,i.size,i.bytes))=some (some (.agg #[.int .i64 0,.int .i64 0,.int .i64 0,.nilIface]),4,40):=by kernel_rfl
theorem zeT:(Tryz.prog.info? 121).map (·.size)=some 2:=by kernel_rfl
theorem Rs.kplace {w:World}{B:Nat}{v:Value}{R:List (List Value)}(h:Rs w B 166 4 v R) (hB:B≤w.heap.size) (hn:R.length≤100000) (x:List Value) (hx:x.length=4) (h1:∀ u∈x,u.oneCell'=true) {W:World}{a:Nat}(hW:W.heap[a]?=some (.cells x.toArray 166 (0,0))) (hbW:Below w.heap.size w W):
  ∃ ao cap w',(appC #[119,119] 119 #[v,.slice (some ⟨a,0,none⟩) 1 1]).run Tryz.prog W=.ok (.slice ao (R.length+1) cap) w'∧Rs w' B 166 4 (.slice ao (R.length+1) cap) (R++[x])∧w.grownBy w' v.ownBlock:=by
 obtain⟨i0,hi0,hzz⟩:=Option.map_eq_some_iff.1 zfi
 simp only[Prod.mk.injEq] at hzz
 obtain⟨hz0,hz1,hz2⟩:=hzz
 obtain⟨v',w',hrun,hR,hg,hat⟩:=h.app (P:=Tryz.prog) (t:=119) (ty:=119) Tryz.underlying119 hi0 hz0 hz1 hz2 rfl (by decide) x hx h1 hB (by unfold maxLen;omega) (by omega) hW hbW
 obtain⟨ao,cap,e⟩:=hR.form
 rw[List.length_append,List.length_singleton] at e
 subst e
 exact⟨ao,cap,w',hrun,hR,hg⟩
def zdb (w:World) (x B:Nat) (R:List (List Value)) (e:Ending) (w':World):Prop:=∃ z v',e=.returned z∧Rs w' B 166 4 v' R∧w'.heap[x]?=some (.cells #[v',.int .i64 R.length] 121 (0,0))∧Below x w w'
theorem z2y {w:World}{x B:Nat}{v:Value}{R:List (List Value)}(hX:w.heap[x]?=some (.cells #[v,.int .i64 R.length] 121 (0,0))) (hR:Rs w B 166 4 v R) (hB:x<B∧B≤w.heap.size) (hL:R.length≤100) (lo hi:Int) (ty:TypeId) (d:Value):
  Calls Tryz.prog 111 #[.pointer (some ⟨x,0,none⟩),.agg #[.int .i64 lo,.int .i64 hi,.iface ty d]] w (zdb w x B (R++[[.int .i64 ((R.length:Int)+1),.int .i64 lo,.int .i64 hi,.iface ty d]])):=by
 have hh:x<w.heap.size:=z02 hX
 obtain⟨ao,cap,rfl⟩:=hR.form
 have c3:w.cell? ⟨x,0,none⟩=some (.slice ao R.length cap):=by simp[World.cell?,hX]
 have c4:w.cell? ⟨x,1,none⟩=some (.int .i64 R.length):=by simp[World.cell?,hX]
 have f4:=frz hX 1
 obtain⟨w0,hw0⟩:∃ w0,w0=(w.setCell ⟨x,1,none⟩ (.int .i64 ((R.length:Int)+1))).alloc (.cells #[.int .i64 lo,.int .i64 hi,.iface ty d] 133):=⟨_,rfl⟩
 obtain⟨C,hC⟩:∃ C:Obj,C=.cells #[.int .i64 ((R.length:Int)+1),.int .i64 lo,.int .i64 hi,.iface ty d] 166:=⟨_,rfl⟩
 have s0:w0.heap.size=w.heap.size+1:=by rw[hw0,Go.Deep.nblk_alloc];simp[World.setCell]
 have hne:∀ k,(Value.slice ao R.length cap).ownBlock=some k→x<k:=fun k hk=>by have:=(hR.lt hk).1;omega
 have k0:∀ k,k<w.heap.size→k≠x→w0.heap[k]?=w.heap[k]?:=fun k hk hn=>by rw[hw0,Below.heap_alloc _ _ _ (by simpa [World.setCell] using hk)];exact z03 _ _ hn
 have X0:w0.heap[x]?=some (.cells #[.slice ao R.length cap,.int .i64 ((R.length:Int)+1)] 121 (0,0)):=by rw[hw0];exact z01 (z05 hX 1 _) _
 have R0:Rs w0 B 166 4 (.slice ao R.length cap) R:=hR.of_block fun j hj=>k0 j (hR.lt hj).2 (by have:=hne j hj;omega)
 have hW:(w0.alloc C).drew.heap[w.heap.size+1]?=some (.cells [.int .i64 ((R.length:Int)+1),.int .i64 lo,.int .i64 hi,.iface ty d].toArray 166 (0,0)):=by
  have e:=heap_alloc_new w0 C
  rw[s0,hC] at e
  rw[hC]
  exact e
 have hbW:Below w0.heap.size w0 (w0.alloc C).drew:=((Below.refl _ _).alloc (Nat.le_refl _) _).drew
 obtain⟨ao',cap',w',hrun,hR',hg⟩:=R0.kplace (by omega) (by omega) [.int .i64 ((R.length:Int)+1),.int .i64 lo,.int .i64 hi,.iface ty d] rfl (by simp[Value.oneCell']) hW hbW
 rw[hw0,hC] at hrun
 have hX':w'.heap[x]?=some (.cells #[.slice ao R.length cap,.int .i64 ((R.length:Int)+1)] 121 (0,0)):=(hg.block x (by omega) (fun e=>by have:=hne x e.symm;omega)).trans X0
 have f3:=frz hX' 0
 have c3':w'.cell? ⟨x,0,none⟩=some (.slice ao R.length cap):=by simp[World.cell?,hX']
 have c4':w'.cell? ⟨x,1,none⟩=some (.int .i64 ((R.length:Int)+1)):=by simp[World.cell?,hX']
 have HF:Hid (zdb w x B (R++[[.int .i64 ((R.length:Int)+1),.int .i64 lo,.int .i64 hi,.iface ty d]]) (.returned (.int .i64 ((R.length:Int)+1))) (w'.setCell ⟨x,0,none⟩ (.slice ao' (R.length+1) cap'))):=by
  have e1:w0.os=w.os∧w0.tape=w.tape∧w0.output=w.output:=by rw[hw0];exact⟨rfl,rfl,rfl⟩
  refine⟨_,_,rfl,hR'.of_block (fun j hj=>z03 _ _ (by have:=(hR'.lt hj).1;show j≠x;omega)),?_,⟨hg.os.trans e1.1,hg.tape.trans e1.2.1,hg.output.trans e1.2.2,by have:=hg.size;simp[World.setCell];omega,fun k hk=>?_⟩⟩
  ·rw[List.length_append];exact z05 hX' 0 _
  ·exact (z03 _ _ (by show k≠x;omega)).trans ((hg.block k (by omega) (fun q=>by have:=hne k q.symm;omega)).trans (k0 k (by omega) (by omega)))
 have hx2:x<w'.heap.size:=z02 hX'
 clear hR' hg hR hX hX' hW hbW hw0 hC hne k0 X0 R0
 have hl2:R.length≤100:=hL
 generalize hN:R.length=N at *
 go_enter Tryz.func111,Tryz.ntmps111
 go_wp2
 go_region
 go_wp2
 go_ret
 exact HF.out
theorem kix0 (so s:Nat) (u:World):(Instr.index 156 (.agg #[.int .i64 0,.int .i64 64,.iface 150 (.pointer (some ⟨so,0,none⟩)),.int .i64 0,.int .i64 1000,.iface 153 (.agg #[.pointer (some ⟨s,0,none⟩)]),.int .i64 0,.int .i64 1000,.iface 153 (.agg #[.pointer (some ⟨s,0,none⟩)]),.int .i64 1,.int .i64 1,.iface 150 (.pointer (some ⟨so,0,none⟩))]) (.int .i64 0)).run Tryz.prog u=.ok (.agg #[.int .i64 0,.int .i64 64,.iface 150 (.pointer (some ⟨so,0,none⟩))]) u:=by kernel_rfl
theorem kix1 (so s:Nat) (u:World):(Instr.index 156 (.agg #[.int .i64 0,.int .i64 64,.iface 150 (.pointer (some ⟨so,0,none⟩)),.int .i64 0,.int .i64 1000,.iface 153 (.agg #[.pointer (some ⟨s,0,none⟩)]),.int .i64 0,.int .i64 1000,.iface 153 (.agg #[.pointer (some ⟨s,0,none⟩)]),.int .i64 1,.int .i64 1,.iface 150 (.pointer (some ⟨so,0,none⟩))]) (.int .i64 1)).run Tryz.prog u=.ok (.agg #[.int .i64 0,.int .i64 1000,.iface 153 (.agg #[.pointer (some ⟨s,0,none⟩)])]) u:=by kernel_rfl
theorem kix2 (so s:Nat) (u:World):(Instr.index 156 (.agg #[.int .i64 0,.int .i64 64,.iface 150 (.pointer (some ⟨so,0,none⟩)),.int .i64 0,.int .i64 1000,.iface 153 (.agg #[.pointer (some ⟨s,0,none⟩)]),.int .i64 0,.int .i64 1000,.iface 153 (.agg #[.pointer (some ⟨s,0,none⟩)]),.int .i64 1,.int .i64 1,.iface 150 (.pointer (some ⟨so,0,none⟩))]) (.int .i64 2)).run Tryz.prog u=.ok (.agg #[.int .i64 0,.int .i64 1000,.iface 153 (.agg #[.pointer (some ⟨s,0,none⟩)])]) u:=by kernel_rfl
theorem kix3 (so s:Nat) (u:World):(Instr.index 156 (.agg #[.int .i64 0,.int .i64 64,.iface 150 (.pointer (some ⟨so,0,none⟩)),.int .i64 0,.int .i64 1000,.iface 153 (.agg #[.pointer (some ⟨s,0,none⟩)]),.int .i64 0,.int .i64 1000,.iface 153 (.agg #[.pointer (some ⟨s,0,none⟩)]),.int .i64 1,.int .i64 1,.iface 150 (.pointer (some ⟨so,0,none⟩))]) (.int .i64 3)).run Tryz.prog u=.ok (.agg #[.int .i64 1,.int .i64 1,.iface 150 (.pointer (some ⟨so,0,none⟩))]) u:=by kernel_rfl
theorem z8c {w:World}{b:Nat}{Q:Nat→Nat→World→Prop}(hK:Calls Tryz.prog 110 #[.pointer (some ⟨b,0,none⟩)] (w.alloc (.cells #[.slice none 0 0,.int .i64 0] 121)) fun e w1=>∃ so s,e=.returned (.tuple #[.pointer (some ⟨so,0,none⟩),.agg #[.pointer (some ⟨s,0,none⟩)]])∧Q so s w1∧w1.heap[w.heap.size]?=some (.cells #[.slice none 0 0,.int .i64 0] 121 (0,0))):
  Calls Tryz.prog 90 #[.pointer (some ⟨b,0,none⟩)] w fun e w'=>∃ so s w1 kb kc,e=.returned (.agg #[.slice (some ⟨kb,0,none⟩) 4 kc,.int .i64 4])∧Q so s w1∧Rs w' w1.heap.size 166 4 (.slice (some ⟨kb,0,none⟩) 4 kc) (z1y so s)∧Bt (fun k=>k=w.heap.size) w1 w':=by
 go_enter Tryz.func90,Tryz.ntmps90
 go_wp2_with (go_at_call 110;refine hK.mono ?_;rintro e w1 ⟨so,s,rfl,hQ,hr⟩;have hrl:=z02 hr;clear hK)
 obtain⟨wk,hwk⟩:∃ wk,wk=(w1.alloc (.cells #[.pointer (some ⟨s,0,none⟩)] 153)).alloc (.cells #[.slice none 0 0,.int .i64 0] 121):=⟨_,rfl⟩
 have hx0:=heap_alloc_new (w1.alloc (.cells #[.pointer (some ⟨s,0,none⟩)] 153)) (.cells #[.slice none 0 0,.int .i64 0] 121)
 rw[Go.Deep.nblk_alloc,← hwk] at hx0
 have hbk:Below w1.heap.size w1 wk:=by rw[hwk];exact z3I _ _ _
 have hsz:wk.heap.size=w1.heap.size+2:=by rw[hwk,Go.Deep.nblk_alloc,Go.Deep.nblk_alloc]
 rw[← hwk]
 clear hwk
 obtain⟨x,hx⟩:∃ x,x=w1.heap.size+1:=⟨_,rfl⟩
 obtain⟨B,hBe⟩:∃ B,B=x+1:=⟨_,rfl⟩
 rw[← hx] at hx0 ⊢
 have HX:Hid (x=w1.heap.size+1∧wk.heap.size=w1.heap.size+2∧Below w1.heap.size w1 wk):=⟨hx,hsz,hbk⟩
 clear hx hbk
 go_loopg [26] 5 (fun kx s26 wr=>∃ (J:Int) (v:Value),s26=.int .i64 J∧(0≤J∧J≤4)∧4-J≤(kx:Int)∧wr.heap[x]?=some (.cells #[v,.int .i64 (((z1y so s).take J.toNat).length:Nat)] 121 (0,0))∧Rs wr B 166 4 v ((z1y so s).take J.toNat)∧Below x wk wr∧B≤wr.heap.size)
 case atStart=>exact⟨0,_,rfl,by omega,by omega,hx0,Rs.nil _ _ _ _,Below.refl _ _,by have:=HX.out;omega⟩
 case round =>
  obtain⟨J,v,rfl,hJ,hk,hX,hR,hB,hs⟩:=hrel
  have hc:J=0∨J=1∨J=2∨J=3∨J=4:=by omega
  clear hJ
  rcases hc with rfl|rfl|rfl|rfl|rfl
  ·have hA:=z2y (z01 hX (.cells #[.int .i64 0,.int .i64 64,.iface 150 (.pointer (some ⟨so,0,none⟩))] 133)) (hR.below ((Below.refl _ _).alloc (Nat.le_refl _) _)) ⟨by omega,by rw[Go.Deep.nblk_alloc];omega⟩ (by simp[z1y]) 0 64 150 (.pointer (some ⟨so,0,none⟩))
   have HB:Hid (Below x wk wr∧B≤wr.heap.size∧x<wr.heap.size):=⟨hB,hs,z02 hX⟩
   have hix:=kix0 so s
   clear hX hR hB hs
   go_wp2_with (go_at_call 111;refine hA.mono ?_;rintro e w2 ⟨z,v',rfl,hR2,hX2,hB2⟩;clear hA)
   go_roundg (3)
   case measure=>omega
   case rel =>
    have hs2:=hB2.size
    rw[Go.Deep.nblk_alloc] at hs2
    exact⟨1,v',rfl,by omega,by omega,hX2,hR2,HB.out.1.trans (((Below.refl _ wr).alloc (Nat.le_of_lt HB.out.2.2) _).trans hB2),by have:=HB.out.2.1;omega⟩
  ·have hA:=z2y (z01 hX (.cells #[.int .i64 0,.int .i64 1000,.iface 153 (.agg #[.pointer (some ⟨s,0,none⟩)])] 133)) (hR.below ((Below.refl _ _).alloc (Nat.le_refl _) _)) ⟨by omega,by rw[Go.Deep.nblk_alloc];omega⟩ (by simp[z1y]) 0 1000 153 (.agg #[.pointer (some ⟨s,0,none⟩)])
   have HB:Hid (Below x wk wr∧B≤wr.heap.size∧x<wr.heap.size):=⟨hB,hs,z02 hX⟩
   have hix:=kix1 so s
   clear hX hR hB hs
   go_wp2_with (go_at_call 111;refine hA.mono ?_;rintro e w2 ⟨z,v',rfl,hR2,hX2,hB2⟩;clear hA)
   go_roundg (2)
   case measure=>omega
   case rel =>
    have hs2:=hB2.size
    rw[Go.Deep.nblk_alloc] at hs2
    exact⟨2,v',rfl,by omega,by omega,hX2,hR2,HB.out.1.trans (((Below.refl _ wr).alloc (Nat.le_of_lt HB.out.2.2) _).trans hB2),by have:=HB.out.2.1;omega⟩
  ·have hA:=z2y (z01 hX (.cells #[.int .i64 0,.int .i64 1000,.iface 153 (.agg #[.pointer (some ⟨s,0,none⟩)])] 133)) (hR.below ((Below.refl _ _).alloc (Nat.le_refl _) _)) ⟨by omega,by rw[Go.Deep.nblk_alloc];omega⟩ (by simp[z1y]) 0 1000 153 (.agg #[.pointer (some ⟨s,0,none⟩)])
   have HB:Hid (Below x wk wr∧B≤wr.heap.size∧x<wr.heap.size):=⟨hB,hs,z02 hX⟩
   have hix:=kix2 so s
   clear hX hR hB hs
   go_wp2_with (go_at_call 111;refine hA.mono ?_;rintro e w2 ⟨z,v',rfl,hR2,hX2,hB2⟩;clear hA)
   go_roundg (1)
   case measure=>omega
   case rel =>
    have hs2:=hB2.size
    rw[Go.Deep.nblk_alloc] at hs2
    exact⟨3,v',rfl,by omega,by omega,hX2,hR2,HB.out.1.trans (((Below.refl _ wr).alloc (Nat.le_of_lt HB.out.2.2) _).trans hB2),by have:=HB.out.2.1;omega⟩
  ·have hA:=z2y (z01 hX (.cells #[.int .i64 1,.int .i64 1,.iface 150 (.pointer (some ⟨so,0,none⟩))] 133)) (hR.below ((Below.refl _ _).alloc (Nat.le_refl _) _)) ⟨by omega,by rw[Go.Deep.nblk_alloc];omega⟩ (by simp[z1y]) 1 1 150 (.pointer (some ⟨so,0,none⟩))
   have HB:Hid (Below x wk wr∧B≤wr.heap.size∧x<wr.heap.size):=⟨hB,hs,z02 hX⟩
   have hix:=kix3 so s
   clear hX hR hB hs
   go_wp2_with (go_at_call 111;refine hA.mono ?_;rintro e w2 ⟨z,v',rfl,hR2,hX2,hB2⟩;clear hA)
   go_roundg (0)
   case measure=>omega
   case rel =>
    have hs2:=hB2.size
    rw[Go.Deep.nblk_alloc] at hs2
    exact⟨4,v',rfl,by omega,by omega,hX2,hR2,HB.out.1.trans (((Below.refl _ wr).alloc (Nat.le_of_lt HB.out.2.2) _).trans hB2),by have:=HB.out.2.1;omega⟩
  ·obtain⟨ao,cap,rfl⟩:=hR.form
   obtain⟨kb,rfl,hkb,_⟩:=hR.cells (by simp[z1y])
   have cX:=blk2 hX
   have hxl:=z02 hX
   have hr2:wr.heap[w.heap.size]?=some (.cells #[.slice none 0 0,.int .i64 0] 121 (0,0)):=by
    have h1:=HX.out
    exact (hB.block _ (by omega)).trans ((h1.2.2.block _ hrl).trans hr)
   have cR:=blk2 hr2
   have hrl2:=z02 hr2
   have hQ2:Hid (Q so s w1):=hQ
   have hb4:Hid (Bt (fun k=>k=w.heap.size) w1 ((wr.setCell ⟨w.heap.size,0,none⟩ (.slice (some ⟨kb,0,none⟩) 4 cap)).setCell ⟨w.heap.size,1,none⟩ (.int .i64 4))):=by
    have h1:=HX.out
    have hs1:=hB.size
    refine⟨hB.os.trans h1.2.2.os,hB.tape.trans h1.2.2.tape,hB.output.trans h1.2.2.output,by simp[World.setCell];omega,fun k hk hn=>?_⟩
    rw[z03 _ _ hn,z03 _ _ hn]
    exact (hB.block k (by omega)).trans (h1.2.2.block k hk)
   have HR:Hid (Rs ((wr.setCell ⟨w.heap.size,0,none⟩ (.slice (some ⟨kb,0,none⟩) 4 cap)).setCell ⟨w.heap.size,1,none⟩ (.int .i64 4)) w1.heap.size 166 4 (.slice (some ⟨kb,0,none⟩) 4 cap) (z1y so s)):=by
    have h1:=HX.out
    refine Rs.lower (Rs.of_block hR fun j hj=>?_) (by omega)
    have:=(hR.lt hj).1
    have hn:j≠w.heap.size:=by omega
    rw[z03 _ _ hn,z03 _ _ hn]
   clear hQ hB hR hX
   go_wp2
   exact bodyPost_ret (results_cell_row rfl _ _ w.heap.size 121 _ (0,0) _ rfl (z05 (z05 hr2 0 _) 1 _) Tryz.underlying121 rfl zeT) rfl ⟨so,s,w1,kb,cap,rfl,hQ2.out,HR.out,hb4.out⟩
theorem z8q {P:Program}{fn:Func}{p u:Tmp}{ty:TypeId}(h:fn.results=#[.tmp u,.cell p ty]) (tmps:Array Value) (w:World) (g:Nat) (t:TypeId) (cs:Array Value) (fr:Nat×Nat) (d:TypeDesc)
  (hp:tmps.getD p undef=.pointer (some ⟨g,0,none⟩)) (hg:w.heap[g]?=some (.cells cs t fr))
  (hu:P.underlying ty=some d) (hd:(match d with | .struct _ | .array _ _=>true|_=>false)=true) (hi:(P.info? ty).map (·.size)=some cs.size):
  (results fn tmps).run P w=.ok (.tuple #[tmps.getD u undef,.agg cs]) w:=by
 have hp':tmps[p]?.getD undef=.pointer (some ⟨g,0,none⟩):=by simpa using hp
 simp[results,h,hp',asAddr,run_loadVar_row w g t ty cs fr d hg hu hd hi]
theorem zeX:(Tryz.prog.info? 153).map (·.size)=some 1:=by kernel_rfl
theorem zbg {u:World}{b:Nat}{ao:Option Addr}{W k:Nat}(c0:u.cell? ⟨b,0,none⟩=some (.slice ao W k)):Calls Tryz.prog 131 #[.pointer (some ⟨b,0,none⟩)] u fun e w'=>e=.returned (.int .i64 W)∧w'=u:=by
 go_enter Tryz.func131,Tryz.ntmps131
 go_wp2
 go_ret
 exact⟨rfl,rfl⟩
theorem z7h (n:Nat) (h1:1≤n) (h2:n≤999) (w:World):Calls Tryz.prog 135 #[.int .i64 n] w fun e w'=>e=.returned (.int .i64 (11*(n:Int)+8))∧w'=w :=
 (z6X n (by omega) w).mono fun e w' ⟨h3,h4⟩=>⟨by rw[h3];have:=zbr h1 h2;exact congrArg (fun x=>Ending.returned (Value.int .i64 x)) (by omega),h4⟩
def KQ (w:World) (b bw bs W G:Nat) (so s:Nat) (w':World):Prop :=
 ∃ (P1 P2:Nat→Prop) (mb p N:Nat) (xs:List Int) (ws:Nat→Int) (V:Int→Int→Int),Sto w' P2 so mb p b W 0 N G (fun _=>0) 0 xs ws 0 (.map []) []∧Gd w' P1 s b W G (q0 (11*(N:Int)+8) (((W:Int)-(11*N+8))/2)) V (fun _=>0)∧Meet w' P1 P2 b∧(∀ k,P1 k→k<w'.heap.size)∧Enough W N∧11*N+8≤W ∧
  (∀ k,P1 k∨P2 k→k=b∨k=bw∨k=bs∨w.heap.size≤k)∧Bt (fun k=>k=bw∨k=bs) w w'
theorem z5b {w:World}{b bw bs W G:Nat}(h:Ar w b bw bs W G (fun _=>0) (fun _=>0)) (hW:512≤W∧W≤20000) (hG:G≤12):
  Calls Tryz.prog 110 #[.pointer (some ⟨b,0,none⟩)] w fun e w'=>∃ so s,e=.returned (.tuple #[.pointer (some ⟨so,0,none⟩),.agg #[.pointer (some ⟨s,0,none⟩)]])∧KQ w b bw bs W G so s w':=by
 have c0:=h.c0
 have hbl:=h.lt
 have hRo:=z6j W (by omega)
 have hFr:=z3E (z06 W) (by unfold z06;omega)
 have b0:=(Below.refl w.heap.size w).alloc (Nat.le_refl _) (.cells #[.pointer none] 153)
 have hA0:Ar (w.alloc (.cells #[.pointer none] 153)) b bw bs W G (fun _=>0) (fun _=>0):=h.alloc _
 have hz0:=heap_alloc_new w (.cells #[.pointer none] 153)
 have hlts:=h.lts
 have HW:Hid (512≤W∧W≤20000):=hW
 have n1:=h.b_bw
 have n2:=h.b_bs
 clear h
 go_enter Tryz.func110,Tryz.ntmps110
 go_wp2_with (first
  | (go_at_call 131;refine (zbg (by first|exact hA0.c0|exact cw)).mono ?_;rintro e w9 ⟨rfl,hw9⟩;replace hw9:=hw9.symm;subst hw9)
  | (go_at_call 91;refine (hRo _).mono ?_;rintro e w9 ⟨rfl,hw9⟩;replace hw9:=hw9.symm;subst hw9)
  | (go_at_call 130;refine (hFr _).mono ?_;rintro e w9 ⟨N,rfl,hw9,hE1,hE2⟩;replace hw9:=hw9.symm;subst hw9;have HE:Hid (Enough W N):=⟨hE1,hE2⟩;have hft:=HE.out.fits hW.1 (by omega);have hN7:=hft.2.2.2 hW.2;have hPN:=zdE hA0 0 N 0 N rfl rfl hft.1 (by omega) (by omega) (by omega) hG;clear hE1 hE2)
  | (go_at_call 132;refine hPN.mono ?_;rintro e w1 ⟨p,P0,rfl,hP,hB1,hQ1⟩;have hON:=zdV hP (by rw[zg2];exact OInv.none _ _ _);clear hPN)
  | (go_at_call 133;refine hON.mono ?_;rintro e w2 ⟨so,mb,rfl,hS,hb2,l1,l2⟩;obtain⟨PP,hPl,hsub,_⟩:=hS.raw.pl;obtain⟨bw2,bs2,w0,hA2,hO2,q1,q2,q3⟩:=hPl.ar;have cw:=hA2.c0;have hSN:=zeE (f:=intf w0) (c:=fun _=>0) (V:=fun _ a=>intf w0 a) (by rw[z1l];exact hA2) (fun _=>rfl) (11*(N:Int)+8) ((W:Int)-(11*(N:Int)+8)) (by omega) (by omega) (by omega) (by omega);clear hON)
  | (go_at_call 134;refine hSN.mono ?_;rintro e w3 ⟨s,P1,rfl,hG3,hb3,hP1⟩;have hz1:=(hB1.block w.heap.size (by rw[Go.Deep.nblk_alloc];omega) (by omega)).trans hz0;have hz2:=(hb2.block w.heap.size (z02 hz1)).trans hz1;have hz3:=(hb3.block w.heap.size (z02 hz2)).trans hz2;have k3:=z08 hz3;have k4:=frz hz3 0;have k5:=z02 hz3;clear hSN)
  | (go_at_call 135;refine (z7h N (by omega) (by omega) _).mono ?_;rintro e w9 ⟨rfl,hw9⟩;replace hw9:=hw9.symm;subst hw9))
 have hS3:=hS.below hb3
 have hbb:w2.heap[b]?=(w.alloc (.cells #[.pointer none] 153)).heap[b]?:=(hb2.block b (Nat.lt_of_lt_of_le hA0.lt hB1.size)).trans (hB1.block b hA0.lt (fun z=>z.elim n1 n2))
 obtain⟨rfl,rfl⟩:=hA0.stays hA2 hbb
 have hA3:Ar w3 b bw2 bs2 W G w0 (fun _=>0):=hA2.below hb3
 have hB3:Bt (fun k=>k=bw2∨k=bs2) w w3:=((Bt.of_below b0).trans hB1).trans (Bt.of_below (hb2.trans (hb3.mono hb2.size)))
 have hs0:=b0.size
 have hs1:=hB1.size
 have hs2:=hb2.size
 have hsz:w3.heap.size=(w3.setCell ⟨w.heap.size,0,none⟩ (.pointer (some ⟨s,0,none⟩))).heap.size:=by simp[World.setCell]
 have fr:∀ k,k≠w.heap.size→(w3.setCell ⟨w.heap.size,0,none⟩ (.pointer (some ⟨s,0,none⟩))).heap[k]?=w3.heap[k]?:=fun k hk=>z03 _ _ hk
 have hP2:∀ k,(P0 k∨k=so∨k=mb)→k=b∨k=bw2∨k=bs2∨w.heap.size+1≤k:=fun k hk=>by
  rw[Go.Deep.nblk_alloc] at hQ1 hs1 hs0
  rcases hk with r|r|r
  ·rcases hQ1 k r with e|e|e|e
   ·exact .inl e
   ·exact .inr (.inl e)
   ·exact .inr (.inr (.inl e))
   ·exact .inr (.inr (.inr e))
  ·exact .inr (.inr (.inr (by omega)))
  ·exact .inr (.inr (.inr (by omega)))
 have hP1':∀ k,P1 k→k=b∨k=bw2∨k=bs2∨w2.heap.size≤k:=hP1
 have far:∀ k,(P1 k∨(P0 k∨k=so∨k=mb))→k≠w.heap.size:=fun k hk e=>by
  rw[Go.Deep.nblk_alloc] at hs1
  rcases hk with r|r
  ·rcases hP1' k r with z|z|z|z<;>omega
  ·rcases hP2 k r with z|z|z|z<;>omega
 refine bodyPost_ret (z8q rfl _ _ w.heap.size 153 _ (0,0) _ rfl (z05 hz3 0 _) Tryz.underlying153 rfl zeX) rfl ⟨so,s,rfl,fun k=>P1 k∧k<w3.heap.size,_,mb,p,N,_,_,_,⟨hS3.raw.keep (fun k hk=>fr k (far k (.inr hk))) (by omega),hS3.inv,hS3.mp⟩,hG3.shrink.keep (fun k hk=>fr k (far k (.inl hk.1))),?_,fun k hk=>by rw[← hsz];exact hk.2,HE.out,by omega,fun k hk=>?_,?_⟩
 ·intro k hk hq
  have e1:=hS.raw.lt k hq
  rcases hP1' k hk.1 with z|z|z|z
  ·exact .inl z
  ·exact .inr ⟨bw2,bs2,W,G,w0,_,⟨(fr b (by omega)).trans hA3.here,hA3.words.of_block (fr bw2 (by omega)),hA3.steps.of_block (fr bs2 (by omega)),hA3.part⟩,.inl z⟩
  ·exact .inr ⟨bw2,bs2,W,G,w0,_,⟨(fr b (by omega)).trans hA3.here,hA3.words.of_block (fr bw2 (by omega)),hA3.steps.of_block (fr bs2 (by omega)),hA3.part⟩,.inr z⟩
  ·omega
 ·rcases hk with r|r
  ·rcases hP1' k r.1 with z|z|z|z
   ·exact .inl z
   ·exact .inr (.inl z)
   ·exact .inr (.inr (.inl z))
   ·exact .inr (.inr (.inr (by omega)))
  ·rcases hP2 k r with z|z|z|z
   ·exact .inl z
   ·exact .inr (.inl z)
   ·exact .inr (.inr (.inl z))
   ·exact .inr (.inr (.inr (by omega)))
 ·exact⟨hB3.os,hB3.tape,hB3.output,by rw[← hsz];exact hB3.size,fun k hk e=>(fr k (by omega)).trans (hB3.block k hk e)⟩
def zfm (w:World) (W G:Nat) (e:Ending) (w':World):Prop :=
 ∃ h X,e=.returned (.tuple #[.pointer (some ⟨h,0,none⟩),.int .i64 0])∧HpC w' h W G 0 (fun _=>0) [] (fun _ _=>0) X∧Below w.heap.size w w'∧∀ k,X.own h k→w.heap.size≤k
theorem zdW (W G:Nat) (w:World) (hW:512≤W∧W≤20000) (hG:1≤G∧G≤12):
  Calls Tryz.prog 53 #[.int .i64 W,.int .i64 G] w (zfm w W G):=by
 have hN:=zfl W G w (by omega) (by omega) (by omega) (by omega)
 have hRo:=z6j W (by omega)
 have h2:decide ((W:Int)<512)=false:=by simp;omega
 have HW:Hid ((512≤W∧W≤20000)∧1≤G∧G≤12):=⟨hW,hG⟩
 clear hW hG
 go_enter Tryz.func53,Tryz.ntmps53
 go_wp2_with (first
  | (go_at_call 89;refine hN.mono ?_;rintro e w1 ⟨b,bw,bs,rfl,hA,hb,l0,l1,l2⟩;have hlts:=hA.lts;have hbl:=hA.lt;have hK:=z8c (w:=w1) (b:=b) (Q:=fun so s w2=>KQ (w1.alloc (.cells #[.slice none 0 0,.int .i64 0] 121)) b bw bs W G so s w2) ((z5b (hA.alloc _) HW.out.1 HW.out.2.2).mono (by rintro e w2 ⟨so,s,rfl,hq⟩;refine⟨so,s,rfl,hq,?_⟩;obtain⟨_,_,_,_,_,_,_,_,_,_,_,_,_,_,_,hB⟩:=hq;exact (hB.block w1.heap.size (by rw[Go.Deep.nblk_alloc];omega) (by omega)).trans (heap_alloc_new w1 _)));clear hN)
  | (go_at_call 90;refine hK.mono ?_;rintro e w4 ⟨so,s,w2,kb,kc,rfl,hQ,hR,hB4⟩;clear hK)
  | (go_at_call 91;refine (hRo _).mono ?_;rintro e w9 ⟨rfl,hw9⟩;replace hw9:=hw9.symm;subst hw9))
 go_ret2
 obtain⟨P1,P2,mb,p,N,xs,ws,V,hS,hG,hM,hlt,hE,hz,hP,hB⟩:=hQ
 rw[Go.Deep.nblk_alloc] at hP
 have hs1:=hb.size
 have far:∀ k,P1 k∨P2 k→k≠w1.heap.size:=fun k hk=>by rcases hP k hk with z|z|z|z<;>omega
 have e4:∀ k,P1 k∨P2 k→w4.heap[k]?=w2.heap[k]?:=fun k hk=>hB4.block k (hk.elim (hlt k) (hS.raw.lt k)) (far k hk)
 have hS4:Sto w4 P2 so mb p b W 0 N G (fun _=>0) 0 xs ws 0 (.map []) []:=⟨hS.raw.keep (fun k hk=>e4 k (.inr hk)) hB4.size,hS.inv,hS.mp⟩
 have hG4:=hG.keep (w':=w4) (fun k hk=>e4 k (.inl hk))
 have hM4:=hM.keep (w':=w4) hG (fun k hk=>e4 k (.inl hk))
 have a5:=(Below.refl w4.heap.size w4).alloc (Nat.le_refl _) (.cells #[.pointer (some ⟨b,0,none⟩),.slice (some ⟨kb,0,none⟩) 4 kc,.int .i64 4,.slice none 0 0,.int .i64 0,.int .i64 (z06 W)] 127)
 have hkb:=hR.lt (j:=kb) rfl
 have hs4:=hB4.size
 refine⟨w4.heap.size,⟨P1,P2,b,so,mb,p,s,N,0,xs,ws,0,.map [],[],q0 (11*(N:Int)+8) (((W:Int)-(11*N+8))/2),V,kb,kc,.slice none 0 0,0⟩,rfl,⟨⟨hS4.below a5,hG4.below a5,?_,fun k hk=>?_,?_,(hR.lower (Nat.zero_le _)).below a5,Rs.nil _ _ _ _,fun k hk=>?_,⟨rfl,hz⟩⟩,Tab.nil,Lnk.nil _ _ _,hE,HW.out.1,Nat.zero_le _,rfl,rfl,⟨by show (0:Int)≤_;omega,Nat.le_refl _,by show (0:Int)≤_;omega,Nat.le_refl _⟩,fun j=>⟨Int.le_refl _,by show (0:Int)≤_;omega⟩⟩,?_,fun k hk=>?_⟩
 ·intro k hk hq
  rcases hM4 k hk hq with r|⟨bw',bs',W',G',ws',cs',hA',r⟩
  ·exact .inl r
  ·exact .inr ⟨bw',bs',W',G',ws',cs',hA'.alloc _,r⟩
 ·have:=hlt k hk
  rw[Go.Deep.nblk_alloc];omega
 ·have e:=heap_alloc_new w4 (.cells #[.pointer (some ⟨b,0,none⟩),.slice (some ⟨kb,0,none⟩) 4 kc,.int .i64 4,.slice none 0 0,.int .i64 0,.int .i64 (z06 W)] 127)
  rw[show (z06 W:Int)-(sumS []:Nat)=z06 W by simp[sumS]]
  exact e
 ·have hk':k=w4.heap.size∨k=kb∨(Value.slice none 0 0).ownBlock=some k:=hk
  rcases hk' with z|z|z
  ·exact⟨fun r=>by have:=hlt k r;omega,fun r=>by have:=hS.raw.lt k r;omega⟩
  ·exact⟨fun r=>by have:=hlt k r;omega,fun r=>by have:=hS.raw.lt k r;omega⟩
  ·simp[Value.ownBlock] at z
 ·have h1:=hb.alloc hb.size (.cells #[.slice none 0 0,.int .i64 0] 121)
  have h2:=Bt.under h1 (by rw[Go.Deep.nblk_alloc];omega) (fun k hk=>by rcases hk with z|z<;>omega) hB
  have h3:=Bt.under h2 h2.size (fun k hk=>by omega) hB4
  exact h3.trans (a5.mono h3.size)
 ·have hk':P1 k∨P2 k∨(k=w4.heap.size∨k=kb∨(Value.slice none 0 0).ownBlock=some k):=hk
  have h1:=hb.alloc hb.size (.cells #[.slice none 0 0,.int .i64 0] 121)
  have hs2:=hB.size
  rw[Go.Deep.nblk_alloc] at hs2
  rcases hk' with z|z|z|z|z
  ·rcases hP k (.inl z) with z|z|z|z<;>omega
  ·rcases hP k (.inr z) with z|z|z|z<;>omega
  ·omega
  ·omega
  ·simp[Value.ownBlock] at z
end Go.Proofs.YthkelaeemefnaaaGreat
