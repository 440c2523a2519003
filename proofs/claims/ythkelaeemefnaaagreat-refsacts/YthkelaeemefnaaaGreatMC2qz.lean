import Derived.Test.YthkelaeemefnaaaGreatMC1qz
set_option maxRecDepth 20000
set_option maxHeartbeats 2000000
namespace Go.Proofs.YthkelaeemefnaaaGreat
open Go.RowKit
section
variable {B:Nat}{w0 w w':World}{hb:Nat}{X:Cm}{Z:Cx}
theorem CcT.later {X':Cm}{w2:World}(h:CcT B w0 w hb Z X' w') (b:Below w'.heap.size w' w2):CcT B w0 w hb Z X' w2:=by
 obtain⟨Z',h1,h2,h3⟩:=h
 exact⟨Z',h1.below b,h2.trans (Bt.of_below b),h3⟩
def SwPost (B:Nat) (w0 w:World) (hb:Nat) (Z:Cx) (X:Cm) (b:Bool) (w':World):Prop :=
 (X.tr.sw<X.tr.row.length∧b=decide (X.tr.sw+1<X.tr.row.length)∧∃ (r:Int) (c':Int→Int),X.tr.row[X.tr.sw]?=some r∧CcT B w0 w hb Z { X with m:=X.frm (if X.tr.col X.tr.sw=1 then delS X.S r else X.S),c:=c',S:=if X.tr.col X.tr.sw=1 then delS X.S r else X.S,tr:={ X.tr with sw:=X.tr.sw+1 } } w') ∨
 (¬ X.tr.sw<X.tr.row.length∧b=false∧CcT B w0 w hb Z X w')
theorem SwPost.later {b:Bool}{w2:World}(h:SwPost B w0 w hb Z X b w') (k:Below w'.heap.size w' w2):SwPost B w0 w hb Z X b w2:=by
 rcases h with ⟨h1,h2,r,c',h3,h4⟩|⟨h1,h2,h3⟩
 ·exact .inl ⟨h1,h2,r,c',h3,h4.later k⟩
 ·exact .inr ⟨h1,h2,h3.later k⟩
theorem zbn (H:CvC B w0 w hb X Z) (hm:X.m≤1999999) (r:Int):
  Calls Tryz.prog 147 #[.pointer (some ⟨Z.h,0,none⟩),.int .i64 X.T,.int .i64 r] w fun e w'=>(∃ c:Int,e=.returned (.int .i64 c))∧∃ c',CcH B w0 w hb Z { X with m:=X.frm (delS X.S r),c:=c',S:=delS X.S r } w':=by
 cases hc:z0a X.S r with
 | none =>
  have e:delS X.S r=X.S:=by unfold delS;rw[hc];rfl
  rw[e,X.frm_same]
  refine (zaO H.hv (by omega) X.T r (fun q=>?_)).mono ?_
  ·obtain⟨k,cl,hr,hk⟩:=q.2
   exact z0Y hc k cl hr hk
  ·rintro e w' ⟨rfl,hb1⟩
   exact⟨⟨_,rfl⟩,X.c,Z.P,H.below hb1,Bt.of_below hb1,Wider.refl _ _⟩
 | some cl =>
  obtain⟨k,rfl,hk⟩:=z0d hc
  have e:delS X.S ((k:Int)+1)=X.S.set k none:=by unfold delS;simp[hc]
  have em:X.frm (X.S.set k none)=X.m+500:=by have:=(z0E X.S k cl hk).2;unfold Cm.frm;omega
  rw[e,em]
  refine (zfA H.hv (by omega) hk X.T (by omega)).mono ?_
  rintro e' w' ⟨rfl,c',hT⟩
  refine⟨⟨_,rfl⟩,c',?_⟩
  have h2:=zcP X.S ((k:Int)+1)
  rw[e] at h2
  exact H.cells (Nat.le_trans h2 H.fit) hT
theorem z7C (H:CvC B w0 w hb X Z) (p:Nat) (hp:p<X.tr.row.length):
  Calls Tryz.prog 129 #[.pointer (some ⟨hb,4,none⟩),.int .i64 p] w fun e w'=>e=.returned (.bool (X.tr.col p == 1))∧w'=w:=by
 have hlt:=H.hlt
 have c7:=H.c7
 have hC:=z2N H.wk p (Nat.lt_of_lt_of_le hp H.ok.few)
 generalize X.tr.col p=co at *
 clear H hp
 go_enter Tryz.func129,Tryz.ntmps129
 go_wp2_with (go_at_call 121;refine hC.mono ?_;rintro e w9 ⟨rfl,hw9⟩;replace hw9:=hw9.symm;subst hw9)
 go_ret
 exact⟨rfl,rfl⟩
theorem CvC.swept (H:CvC B w0 w hb X Z) (hs:X.tr.sw<X.tr.row.length):CcT B w0 w hb Z { X with tr:={ X.tr with sw:=X.tr.sw+1 } } (w.setCell ⟨hb,11,none⟩ (.int .i64 ((X.tr.sw:Int)+1))):=by
 obtain⟨h1,h2⟩:=H.set 11 (.int .i64 ((X.tr.sw:Int)+1)) (tr:={ X.tr with sw:=X.tr.sw+1 }) (ph:=X.ph) (cy:=X.cy) rfl rfl rfl (by show X.tr.sw+1≤X.tr.row.length;omega) H.ok.lk (by simp[cst])
 exact⟨Z,h1,h2,Wider.refl _ _⟩
theorem z8A {h T rp N cap sw:Nat}{r:Int}{Q:Bool→World→Prop}(_hlt:hb<w.heap.size) (c4:w.cell? ⟨hb,4,none⟩=some (.pointer (some ⟨h,0,none⟩))) (c5:w.cell? ⟨hb,5,none⟩=some (.int .i64 T)) (c6:w.cell? ⟨hb,6,none⟩=some (.slice (some ⟨rp,0,none⟩) N cap)) (c11:w.cell? ⟨hb,11,none⟩=some (.int .i64 sw)) (_hrp:rp<w.heap.size) (hrc:w.cell? ⟨rp,sw,none⟩=some (.int .i64 r)) (hs:sw<N) (hN:N<1000)
  (hcol:∀ w1,Below w.heap.size w w1→Calls Tryz.prog 129 #[.pointer (some ⟨hb,4,none⟩),.int .i64 sw] w1 fun e w'=>e=.returned (.bool true)∧w'=w1)
  (HX:Hid (∀ w1,Below w.heap.size w w1→Calls Tryz.prog 147 #[.pointer (some ⟨h,0,none⟩),.int .i64 T,.int .i64 r] w1 fun e w2=>(∃ c:Int,e=.returned (.int .i64 c))∧(w2.cell? ⟨hb,11,none⟩=some (.int .i64 sw)∧(w2.cell? ⟨hb,4,none⟩=some (.pointer (some ⟨h,0,none⟩))∧w2.cell? ⟨hb,5,none⟩=some (.int .i64 T)∧w2.cell? ⟨hb,6,none⟩=some (.slice (some ⟨rp,0,none⟩) N cap)∧w2.cell? ⟨rp,sw,none⟩=some (.int .i64 r))∧hb<w2.heap.size∧w2.frozen? ⟨hb,11,none⟩=false)∧∀ n,Q (decide (sw+1<N)) ((w2.setCell ⟨hb,11,none⟩ (.int .i64 ((sw:Int)+1))).drewN n))):
  Calls Tryz.prog 128 #[.pointer (some ⟨hb,4,none⟩)] w fun e w'=>∃ b,e=.returned (.bool b)∧Q b w':=by
 have hli:(sw:Int)<(N:Int):=by omega
 go_enter Tryz.func128,Tryz.ntmps128
 go_wp2
 go_region
 go_wp2_with (go_at_call 129;refine (hcol _ (by first|exact (Below.refl _ _).drew.drew|exact (Below.refl _ _).drew)).mono ?_;rintro e w9 ⟨rfl,hw9⟩;replace hw9:=hw9.symm;subst hw9;clear hcol)
 go_region_held3 (fun w'=>w'.cell? ⟨hb,4,none⟩=some (.pointer (some ⟨h,0,none⟩))∧w'.cell? ⟨hb,5,none⟩=some (.int .i64 T)∧w'.cell? ⟨hb,6,none⟩=some (.slice (some ⟨rp,0,none⟩) N cap)∧w'.cell? ⟨hb,11,none⟩=some (.int .i64 sw)∧w'.cell? ⟨rp,sw,none⟩=some (.int .i64 r)) (go_keep) ((go_at_call 147;refine (HX.out _ (by first|exact (Below.refl _ _).drew.drew.drew|exact (Below.refl _ _).drew.drew)).mono ?_;rintro e w2 ⟨⟨cz,rfl⟩,⟨k1,⟨k21,k22,k23,k24⟩,k3,k4⟩,hP⟩;have HP:Hid (∀ n,Q (decide (sw+1<N)) ((w2.setCell ⟨hb,11,none⟩ (.int .i64 ((sw:Int)+1))).drewN n)):=hP;clear hP HX))
 go_wp2
 go_region
 go_wp2
 go_ret
 refine⟨_,?_,HP.out 1⟩
 have hdd:decide ((sw:Int)+1<(N:Int))=decide (sw+1<N):=by congr 1;exact propext (by omega)
 rw[← hdd];rfl
theorem zcj (H:CvC B w0 w hb X Z) (hm:X.m≤1999999):
  Calls Tryz.prog 128 #[.pointer (some ⟨hb,4,none⟩)] w fun e w'=>∃ b,e=.returned (.bool b)∧SwPost B w0 w hb Z X b w':=by
 have hlt:=H.hlt
 have hfew:=H.row_few
 have cs:=H.c11
 have cr:=H.c6
 obtain⟨ao,cap,hv⟩:=H.row.form
 rw[hv] at cr
 by_cases h1:X.tr.sw<X.tr.row.length
 ·have hcol:∀ w1,Below w.heap.size w w1→Calls Tryz.prog 129 #[.pointer (some ⟨hb,4,none⟩),.int .i64 X.tr.sw] w1 fun e w'=>e=.returned (.bool (X.tr.col X.tr.sw == 1))∧w'=w1:=fun w1 hb1=>z7C (H.below hb1) X.tr.sw h1
  have hli:(X.tr.sw:Int)<(X.tr.row.length:Int):=by omega
  obtain⟨r,hr⟩:∃ r,X.tr.row[X.tr.sw]?=some r:=⟨_,List.getElem?_eq_getElem h1⟩
  have hrow:=H.row
  rw[hv] at hrow
  obtain⟨rp,rfl,hrp,_,_,hrc⟩:=hrow.cells (by omega)
  have hrc1:=hrc X.tr.sw r hr
  have hrp2:=hrp.2
  have hf11:=H.fz 11
  by_cases hc:X.tr.col X.tr.sw=1
  ·rw[show (X.tr.col X.tr.sw == 1)=true by rw[hc];rfl] at hcol
   refine z8A (Q:=fun b w'=>SwPost B w0 w hb Z X b w') hlt H.c4 H.c5 cr cs hrp2 hrc1 h1 hfew hcol fun w1 hb1=>?_
   refine (zbn (H.below hb1) hm r).mono ?_
   rintro e w2 ⟨h2,c',hT⟩
   obtain⟨P2,H2,b2,d2⟩:=CcH.after hb1 hT
   have hrow2:=H2.row
   rw[show ({ Z with P:=P2 }:Cx).vw=_ from hv] at hrow2
   obtain⟨rp',e',hrp',_,_,hrc2⟩:=hrow2.cells (by show 0<X.tr.row.length;omega)
   simp only[Option.some.injEq,Addr.mk.injEq,and_true] at e'
   subst e'
   refine⟨h2,⟨H2.c11,⟨H2.c4,H2.c5,by rw[H2.c6];exact congrArg some hv,hrc2 X.tr.sw r hr⟩,H2.hlt,H2.fz 11⟩,fun n=>SwPost.later (.inl ⟨h1,rfl,r,c',hr,?_⟩) (z00 _ n _)⟩
   rw[if_pos hc]
   exact CcT.then b2 d2 (H2.swept h1)
  ·have hc1:(X.tr.col X.tr.sw == 1)=false:=by simpa using hc
   rw[hc1] at hcol
   clear hc1
   have HX:Hid (∀ w1,Below w.heap.size w w1→SwPost B w0 w hb Z X (decide (X.tr.sw+1<X.tr.row.length)) (w1.setCell ⟨hb,11,none⟩ (.int .i64 ((X.tr.sw:Int)+1)))):=fun w1 hb1=>by
    refine .inl ⟨h1,rfl,r,X.c,hr,?_⟩
    rw[if_neg hc,X.frm_same]
    exact CcT.after hb1 ((H.below hb1).swept h1)
   generalize hsw:X.tr.sw=sw at *
   generalize hN:X.tr.row.length=N at *
   have hs1000:sw<1000:=(by omega:sw<1000)
   clear H hrow hrc hv hrp
   go_enter Tryz.func128,Tryz.ntmps128
   go_wp2
   go_region
   go_wp2_with (go_at_call 129;refine (hcol _ (by first|exact (Below.refl _ _).drew.drew|exact (Below.refl _ _).drew)).mono ?_;rintro e w9 ⟨rfl,hw9⟩;replace hw9:=hw9.symm;subst hw9;clear hcol)
   go_region
   go_wp2
   go_ret
   refine⟨_,?_,(HX.out _ (Below.refl _ _)).later ((Below.refl _ _).drew.drew)⟩
   have hdd:decide ((sw:Int)+1<(N:Int))=decide (sw+1<N):=by congr 1;exact propext (by omega)
   rw[← hdd];rfl
 ·have hd:decide (X.tr.sw<X.tr.row.length)=false:=by simpa using h1
  have HF:Hid (∀ w1,Below w.heap.size w w1→SwPost B w0 w hb Z X false w1):=fun w1 hb1=>.inr ⟨h1,rfl,CcT.after hb1 (H.below hb1).same⟩
  generalize hsw:X.tr.sw=sw at *
  generalize hN:X.tr.row.length=N at *
  clear H hv
  go_enter Tryz.func128,Tryz.ntmps128
  go_wp2
  go_region
  go_wp2
  go_region
  go_wp2
  go_ret
  exact⟨false,rfl,HF.out _ (by first|exact (Below.refl _ _).drew.drew|exact (Below.refl _ _).drew)⟩
end
end Go.Proofs.YthkelaeemefnaaaGreat
namespace Go.Proofs.YthkelaeemefnaaaGreat
open Go.RowKit
section
variable {B:Nat}{w0 w w':World}{hb:Nat}{X:Cm}{Z:Cx}
def Tr.begun (T:Tr) (S:List (Option Cel)):Tr:={ T with row:=nums 0 S,col:=fun _=>1,q:=[],sw:=0 }
theorem zbh {S:List (Option Cel)}{W:Nat}(h:sumS S≤W/4):(nums 0 S).length≤z06 W/16:=by
 have h1:=z2L S
 rw[z1o]
 unfold z06
 omega
theorem CvC.begun (H:CvC B w0 w hb X Z) {v:Value}(hB:Bt (fun k=>k=hb∨Mb Z.k Z.bc Z.bi k) w w') (hw:Mk w' Z.k Z.bc Z.bi (z06 X.W/16) (fun _=>1) []) (hr:Ri w' w.heap.size v (nums 0 X.S)) (hh:w'.heap[hb]?=some (.cells (cst { X with tr:=X.tr.begun X.S } { Z with vw:=v }) 86 (0,0))):CcT B w0 w hb Z { X with tr:=X.tr.begun X.S } w':=by
 have st:∀ j k,j≠3→j≠2→Z.own hb X.T j k→w'.heap[k]?=w.heap[k]?:=fun j k n1 n2 hk=>hB.block k (H.lt j k hk) fun q=>q.elim (fun q=>n1 (H.dis j 3 k hk q)) (fun q=>n2 (H.dis j 2 k hk q))
 have hB':Below B w0 w':=Bt.under H.hv.bel H.hv.size (fun k q=>q.elim (fun q=>H.low 3 k q) (fun q=>H.low 2 k q)) hB
 have he:∀ j k,j≠5→({ Z with vw:=v }:Cx).own hb X.T j k→Z.own hb X.T j k:=fun j k hj hk=>by
  match j,hj,hk with
  | 0,_,hk=>exact hk
  | 1,_,hk=>exact hk
  | 2,_,hk=>exact hk
  | 3,_,hk=>exact hk
  | 4,_,hk=>exact hk
  | i+6,_,hk=>exact hk
 have hn:∀ k,({ Z with vw:=v }:Cx).own hb X.T 5 k→Z.own hb X.T 5 k∨w.heap.size≤k:=fun k hk=>.inr (hr.lt hk).1
 have hr2:Ri w' B v (nums 0 X.S):=by
  refine⟨hr.1,?_⟩
  rcases hr.2 with r|⟨g,cap,cur,e,h1,h2⟩
  ·exact .inl r
  ·exact .inr ⟨g,cap,cur,e,Nat.le_trans H.hv.size h1,h2⟩
 refine⟨{ Z with vw:=v },⟨H.hv.keep (fun k hk=>st 0 k (by decide) (by decide) hk) hB.size hB',H.sk.of_blocks fun k hk=>st 1 k (by decide) (by decide) hk,hw,hh,H.rts.of_block (st 4 Z.rb (by decide) (by decide) rfl),fun t ht=>(H.rt t ht).of_block fun j hj=>st (t+6) j (by omega) (by omega) ⟨ht,hj⟩,hr2,z7b H.dis H.lt 5 hn he,fun i k hk=>?_,⟨z0r 0 X.S,zbh H.fit,fun p hp=>by simp[Tr.begun] at hp,Nat.zero_le _,H.ok.lk⟩,H.lim,H.rtl,H.fit⟩,hB.mono fun k _ hk=>hk.elim (fun q=>⟨3,q⟩) (fun q=>⟨2,q⟩),fun k hk=>?_⟩
 ·by_cases e:i=5
  ·subst e;exact (hr2.lt hk).1
  ·exact H.low i k (he i k e hk)
 ·obtain⟨i,hi⟩:=hk
  by_cases e:i=5
  ·subst e;exact (hn k hi).imp (fun q=>⟨5,q⟩) id
  ·exact .inl ⟨i,he i k e hi⟩
theorem z9g (H:CvC B w0 w hb X Z) (hm:X.m≤2000000):
  Calls Tryz.prog 100 #[.pointer (some ⟨hb,4,none⟩)] w fun e w'=>e=.returned (.tuple #[])∧CcT B w0 w hb Z { X with tr:=X.tr.begun X.S } w':=by
 have hlt:=H.hlt
 have c4:=H.c4
 have hR:=zde H.hv hm
 have HX:Hid (∀ v w1,Ri w1 w.heap.size v (nums 0 X.S)→Below w.heap.size w w1→((∃ u,w1.cell? ⟨hb,6,none⟩=some u)∧hb<w1.heap.size∧w1.frozen? ⟨hb,6,none⟩=false)∧((w1.setCell ⟨hb,6,none⟩ v).cell? ⟨hb,7,none⟩=some (.pointer (some ⟨Z.k,0,none⟩))∧hb<(w1.setCell ⟨hb,6,none⟩ v).heap.size)∧Calls Tryz.prog 124 #[.pointer (some ⟨Z.k,0,none⟩)] (w1.setCell ⟨hb,6,none⟩ v) fun e w2=>e=.returned (.tuple #[])∧((∃ u,w2.cell? ⟨hb,11,none⟩=some u)∧hb<w2.heap.size∧w2.frozen? ⟨hb,11,none⟩=false)∧CcT B w0 w hb Z { X with tr:=X.tr.begun X.S } (w2.setCell ⟨hb,11,none⟩ (.int .i64 0))):=fun v w1 hr hb1=>by
  have H1:=H.below hb1
  have hne:hb≠Z.k∧hb≠Z.bc∧hb≠Z.bi:=⟨fun e=>absurd (H.dis 3 2 hb rfl (.inl e)) (by decide),fun e=>absurd (H.dis 3 2 hb rfl (.inr (.inl e))) (by decide),fun e=>absurd (H.dis 3 2 hb rfl (.inr (.inr e))) (by decide)⟩
  have hk1:Mk (w1.setCell ⟨hb,6,none⟩ v) Z.k Z.bc Z.bi (z06 X.W/16) X.tr.col X.tr.q:=H1.wk.of_blocks fun j hj=>z03 _ _ (fun e=>by rcases hj with z|z|z<;>(subst e;first|exact hne.1 z|exact hne.2.1 z|exact hne.2.2 z))
  have h2:=mset (k:=6) (v:=v) H1.here
  refine⟨⟨⟨_,H1.c6⟩,H1.hlt,H1.fz 6⟩,⟨by simp[World.cell?,h2,cst],z02 h2⟩,(zbi hk1).mono ?_⟩
  rintro e w2 ⟨rfl,hk2,b2⟩
  have h3:w2.heap[hb]?=_:=(b2.block hb (z02 h2) (fun q=>by rcases q with z|z|z;exact hne.1 z;exact hne.2.1 z;exact hne.2.2 z)).trans h2
  have hs1:=hb1.size
  have hs2:=b2.size
  have hvl:∀ j,v.ownBlock=some j→w.heap.size≤j∧j<w1.heap.size:=fun j hj=>hr.lt hj
  refine⟨rfl,⟨⟨(.int .i64 X.tr.sw),by simp[World.cell?,h3,cst]⟩,z02 h3,frz h3 11⟩,H.begun (v:=v) ⟨b2.os.trans hb1.os,b2.tape.trans hb1.tape,b2.output.trans hb1.output,?_,fun k hk q=>?_⟩ (hk2.of_blocks fun j hj=>z03 _ _ (fun e=>by rcases hj with z|z|z<;>(subst e;first|exact hne.1 z|exact hne.2.1 z|exact hne.2.2 z))) (hr.of_block fun j hj=>?_) ?_⟩
  ·simp[World.setCell] at hs2 ⊢;omega
  ·exact (z03 _ _ (fun z=>q (.inl z))).trans ((b2.block k (by simp[World.setCell];omega) (fun z=>q (.inr z))).trans ((z03 _ _ (fun z=>q (.inl z))).trans (hb1.block k hk)))
  ·have hj2:=hvl j hj
   have n1:j≠hb:=by omega
   have n2:¬ Mb Z.k Z.bc Z.bi j:=fun z=>by have:=H.wk.mb_lt j z;omega
   exact (z03 _ _ n1).trans ((b2.block j (by simp[World.setCell];omega) n2).trans (z03 _ _ n1))
  ·rw[mset h3]
   rfl
 clear H hm
 go_enter Tryz.func100,Tryz.ntmps100
 go_wp2_with (first
  | (go_at_call 83;refine hR.mono ?_;rintro e w1 ⟨v,rfl,hr,hb1⟩;obtain⟨ao,cap,rfl⟩:=hr.form;obtain⟨⟨⟨u1,k1⟩,k2,k3⟩,⟨k4,k5⟩,hRe⟩:=HX.out _ w1 hr hb1;clear hR HX hr hb1;generalize (nums 0 X.S).length=nl at *)
  | (go_at_call 124;refine hRe.mono ?_;rintro e w2 ⟨rfl,⟨⟨u2,k6⟩,k7,k8⟩,hP⟩;have HP:Hid (CcT B w0 w hb Z { X with tr:=X.tr.begun X.S } (w2.setCell ⟨hb,11,none⟩ (.int .i64 0))):=hP;clear hP hRe))
 go_end0
 exact⟨rfl,HP.out⟩
theorem CvC.phase (H:CvC B w0 w hb X Z) (p:Int):CcT B w0 w hb Z { X with ph:=p } (w.setCell ⟨hb,12,none⟩ (.int .i64 p)):=by
 obtain⟨h1,h2⟩:=H.set 12 (.int .i64 p) (tr:=X.tr) (ph:=p) (cy:=X.cy) rfl rfl rfl H.ok.swl H.ok.lk (by simp[cst])
 exact⟨Z,h1,h2,Wider.refl _ _⟩
theorem CvC.cycles (H:CvC B w0 w hb X Z) (c:Int):CcT B w0 w hb Z { X with cy:=c } (w.setCell ⟨hb,13,none⟩ (.int .i64 c)):=by
 obtain⟨h1,h2⟩:=H.set 13 (.int .i64 c) (tr:=X.tr) (ph:=X.ph) (cy:=c) rfl rfl rfl H.ok.swl H.ok.lk (by simp[cst])
 exact⟨Z,h1,h2,Wider.refl _ _⟩
end
end Go.Proofs.YthkelaeemefnaaaGreat
namespace Go.Proofs.YthkelaeemefnaaaGreat
open Go.RowKit
section
variable {B:Nat}{w0 w w':World}{hb:Nat}{X:Cm}{Z:Cx}
def Stp (X X':Cm):Prop :=
 (X.ph=1∧X.tr.ln<X.tr.lw∧∃ c',X'={ X with m:=X.m+1,c:=c',tr:={ X.mw X.tr.lr X.tr.ln with ln:=X.tr.ln+1 } }) ∨
 (X.ph=1∧¬ X.tr.ln<X.tr.lw∧X.tr.q=[]∧X'={ X with ph:=if allB X.T X.A=true then 2 else 1 }) ∨
 (X.ph=1∧¬ X.tr.ln<X.tr.lw∧∃ (p:Nat) (t:List Nat) (r:Int),X.tr.q=p::t∧X.tr.row[p]?=some r∧X'={ X with tr:={ X.tr with col:=setC X.tr.col p 3,q:=t,lr:=r,ln:=0,lw:=rfs X.S r } }) ∨
 (X.ph=3∧X.tr.sw<X.tr.row.length∧∃ (r:Int) (c':Int→Int),X.tr.row[X.tr.sw]?=some r∧X'={ X with m:=X.frm (if X.tr.col X.tr.sw=1 then delS X.S r else X.S),c:=c',S:=if X.tr.col X.tr.sw=1 then delS X.S r else X.S,tr:={ X.tr with sw:=X.tr.sw+1 },ph:=if X.tr.sw+1<X.tr.row.length then 3 else 0,cy:=if X.tr.sw+1<X.tr.row.length then X.cy else X.cy+1 }) ∨
 (X.ph=3∧¬ X.tr.sw<X.tr.row.length∧X'={ X with ph:=0,cy:=X.cy+1 }) ∨
 (X.ph=2∧X'={ X with ph:=3 }) ∨
 (X.ph≠1∧X.ph≠3∧X.ph≠2∧X'=X)
def z1S (B:Nat) (w0 w:World) (hb:Nat) (Z:Cx) (X:Cm) (w':World):Prop:=∃ X',Stp X X'∧CcT B w0 w hb Z X' w'
theorem CcT.cell12 {X':Cm}(h:CcT B w0 w hb Z X' w'):w'.cell? ⟨hb,12,none⟩=some (.int .i64 X'.ph)∧w'.cell? ⟨hb,13,none⟩=some (.int .i64 X'.cy)∧hb<w'.heap.size∧∀ j,w'.frozen? ⟨hb,j,none⟩=false:=by
 obtain⟨Z',h1,_⟩:=h
 exact⟨h1.c12,h1.c13,h1.hlt,h1.fz⟩
theorem z6G (H:CvC B w0 w hb X Z) (hm:X.m≤1999999) (hp:X.ph=1):
  Calls Tryz.prog 103 #[.pointer (some ⟨hb,0,none⟩)] w fun e w'=>e=.returned (.tuple #[])∧z1S B w0 w hb Z X w':=by
 have hlt:=H.hlt
 have hL:=look_ok H hm
 by_cases h2:¬ X.tr.ln<X.tr.lw∧X.tr.q=[]
 ·have hL2:Calls Tryz.prog 127 #[.pointer (some ⟨hb,4,none⟩)] w fun e w'=>e=.returned (.bool false)∧∃ Z1,CvC B w0 w' hb X Z1∧Bt (Z.all hb X.T) w w'∧Wider (Z.all hb X.T) (Z1.all hb X.T) w:=hL.mono (by
   rintro e w' ⟨b,rfl,h⟩
   rcases h with ⟨q,_⟩|⟨_,_,rfl,hT⟩|⟨_,p,t,r,q,_⟩
   ·exact absurd q h2.1
   ·exact⟨rfl,hT⟩
   ·rw[h2.2] at q;simp at q)
  have HX:Hid (∀ w1 Z1,CvC B w0 w1 hb X Z1→Bt (Z.all hb X.T) w w1→Wider (Z.all hb X.T) (Z1.all hb X.T) w→Calls Tryz.prog 123 #[.pointer (some ⟨Z1.s,0,none⟩)] w1 fun e w2=>e=.returned (.bool (allB X.T X.A))∧((w2.cell? ⟨hb,12,none⟩=some (.int .i64 1)∧hb<w2.heap.size∧w2.frozen? ⟨hb,12,none⟩=false)∧(allB X.T X.A=true→z1S B w0 w hb Z X (w2.setCell ⟨hb,12,none⟩ (.int .i64 2)))∧(allB X.T X.A=false→z1S B w0 w hb Z X w2))):=fun w1 Z1 H1 b1 d1=>by
   refine (z9r H1.sk).mono ?_
   rintro e w2 ⟨rfl,q,rfl⟩
   have H2:=H1.below (z00 w1 q _)
   have b2:Bt (Z.all hb X.T) w (w1.drewN q):=b1.trans (Bt.of_below (z00 w1 q _))
   refine⟨rfl,⟨by rw[H2.c12,hp],H2.hlt,H2.fz 12⟩,fun ha=>⟨_,.inr (.inl ⟨hp,h2.1,h2.2,rfl⟩),?_⟩,fun ha=>⟨_,.inr (.inl ⟨hp,h2.1,h2.2,rfl⟩),?_⟩⟩
   ·rw[if_pos ha]
    exact CcT.then b2 d1 (H2.phase 2)
   ·rw[if_neg (by rw[ha];decide)]
    refine⟨Z1,?_,b2,d1⟩
    have e:({ X with ph:=1 }:Cm)=X:=by rw[← hp]
    rw[e];exact H2
  cases ha:allB X.T X.A with
  | true =>
   rw[ha] at HX
   clear H hL h2 hm
   go_enter Tryz.func103,Tryz.ntmps103
   go_wp2_with (first
    | (go_at_call 127;refine hL2.mono ?_;rintro e w1 ⟨rfl,Z1,H1,b1,d1⟩;have k1:=H1.c3;have k2:=H1.hlt;have hD:=HX.out w1 Z1 H1 b1 d1;clear hL2 HX H1 b1 d1)
    | (go_at_call 123;refine hD.mono ?_;rintro e w2 ⟨rfl,k3,hP,_⟩;have HP:Hid (z1S B w0 w hb Z X (w2.setCell ⟨hb,12,none⟩ (.int .i64 2))):=hP (by first|rfl|trivial);clear hD hP))
   go_end0
   exact⟨rfl,HP.out⟩
  | false =>
   rw[ha] at HX
   clear H hL h2 hm
   go_enter Tryz.func103,Tryz.ntmps103
   go_wp2_with (first
    | (go_at_call 127;refine hL2.mono ?_;rintro e w1 ⟨rfl,Z1,H1,b1,d1⟩;have k1:=H1.c3;have k2:=H1.hlt;have hD:=HX.out w1 Z1 H1 b1 d1;clear hL2 HX H1 b1 d1)
    | (go_at_call 123;refine hD.mono ?_;rintro e w2 ⟨rfl,k3,_,hP⟩;have HP:Hid (z1S B w0 w hb Z X w2):=hP (by first|rfl|trivial);clear hD hP))
   go_end0
   exact⟨rfl,HP.out⟩
 ·have hL2:Calls Tryz.prog 127 #[.pointer (some ⟨hb,4,none⟩)] w fun e w'=>e=.returned (.bool true)∧z1S B w0 w hb Z X w':=hL.mono (by
   rintro e w' ⟨b,rfl,h⟩
   rcases h with ⟨q,rfl,c',hT⟩|⟨q1,q2,_⟩|⟨q,p,t,r,q1,q2,rfl,hT⟩
   ·exact⟨rfl,_,.inl ⟨hp,q,c',rfl⟩,hT⟩
   ·exact absurd ⟨q1,q2⟩ h2
   ·exact⟨rfl,_,.inr (.inr (.inl ⟨hp,q,p,t,r,q1,q2,rfl⟩)),hT⟩)
  clear H hL h2 hm
  go_enter Tryz.func103,Tryz.ntmps103
  go_wp2_with (go_at_call 127;refine hL2.mono ?_;rintro e w1 ⟨rfl,hP⟩;have HP:Hid (z1S B w0 w hb Z X w1):=hP;clear hL2 hP)
  go_end0
  exact⟨rfl,HP.out⟩
theorem z6b (H:CvC B w0 w hb X Z) (hm:X.m≤1999999) (hp:X.ph=3) (hc:0≤X.cy∧X.cy≤1000000):
  Calls Tryz.prog 104 #[.pointer (some ⟨hb,0,none⟩)] w fun e w'=>e=.returned (.tuple #[])∧z1S B w0 w hb Z X w':=by
 have hlt:=H.hlt
 have hL:=zcj H hm
 by_cases h2:X.tr.sw+1<X.tr.row.length
 ·have hL2:Calls Tryz.prog 128 #[.pointer (some ⟨hb,4,none⟩)] w fun e w'=>e=.returned (.bool true)∧z1S B w0 w hb Z X w':=hL.mono (by
   rintro e w' ⟨b,rfl,h⟩
   rcases h with ⟨q1,rfl,r,c',q2,hT⟩|⟨q,_⟩
   ·refine⟨by rw[decide_eq_true h2],_,.inr (.inr (.inr (.inl ⟨hp,q1,r,c',q2,rfl⟩))),?_⟩
    rw[if_pos h2,if_pos h2]
    have e:∀ (m:Nat) (c:Int→Int) (S:List (Option Cel)) (t:Tr),({ X with m:=m,c:=c,S:=S,tr:=t,ph:=3,cy:=X.cy }:Cm)={ X with m:=m,c:=c,S:=S,tr:=t }:=fun m c S t=>by rw[← hp]
    rw[e]
    exact hT
   ·omega)
  clear H hL h2 hm
  go_enter Tryz.func104,Tryz.ntmps104
  go_wp2_with (go_at_call 128;refine hL2.mono ?_;rintro e w1 ⟨rfl,hP⟩;have HP:Hid (z1S B w0 w hb Z X w1):=hP;clear hL2 hP)
  go_end0
  exact⟨rfl,HP.out⟩
 ·have hL2:Calls Tryz.prog 128 #[.pointer (some ⟨hb,4,none⟩)] w fun e w'=>e=.returned (.bool false)∧(w'.cell? ⟨hb,12,none⟩=some (.int .i64 3)∧w'.cell? ⟨hb,13,none⟩=some (.int .i64 X.cy)∧hb<w'.heap.size∧∀ j,w'.frozen? ⟨hb,j,none⟩=false)∧z1S B w0 w hb Z X ((w'.setCell ⟨hb,12,none⟩ (.int .i64 0)).setCell ⟨hb,13,none⟩ (.int .i64 (X.cy+1))):=hL.mono (by
   rintro e w' ⟨b,rfl,h⟩
   rcases h with ⟨q1,rfl,r,c',q2,Z2,H2,b2,d2⟩|⟨q,rfl,Z2,H2,b2,d2⟩
   ·refine⟨by rw[decide_eq_false h2],⟨by rw[H2.c12,hp],H2.c13,H2.hlt,H2.fz⟩,_,.inr (.inr (.inr (.inl ⟨hp,q1,r,c',q2,rfl⟩))),?_⟩
    rw[if_neg h2,if_neg h2]
    obtain⟨Z3,H3,b3,d3⟩:=H2.phase 0
    exact CcT.then b2 d2 (CcT.then b3 d3 (H3.cycles (X.cy+1)))
   ·refine⟨rfl,⟨by rw[H2.c12,hp],H2.c13,H2.hlt,H2.fz⟩,_,.inr (.inr (.inr (.inr (.inl ⟨hp,q,rfl⟩)))),?_⟩
    obtain⟨Z3,H3,b3,d3⟩:=H2.phase 0
    exact CcT.then b2 d2 (CcT.then b3 d3 (H3.cycles (X.cy+1))))
  have hw:IntKind.i64.wrap (X.cy+1)=X.cy+1:=by rw[IntKind.wrap_i64];omega
  clear H hL h2 hm
  generalize hcy:X.cy=cy at *
  go_enter Tryz.func104,Tryz.ntmps104
  go_wp2_with (go_at_call 128;refine hL2.mono ?_;rintro e w1 ⟨rfl,⟨k1,k2,k3,k4⟩,hP⟩;have HP:Hid (z1S B w0 w hb Z X ((w1.setCell ⟨hb,12,none⟩ (.int .i64 0)).setCell ⟨hb,13,none⟩ (.int .i64 (cy+1)))):=hP;clear hL2 hP)
  go_end0
  exact⟨rfl,HP.out⟩
def Cm.phs (X:Cm):Prop:=X.ph=0∨X.ph=1∨X.ph=2∨X.ph=3
theorem Stp.phs {X X':Cm}(h:Stp X X') (hp:X.phs):X'.phs:=by
 unfold Cm.phs at *
 rcases h with ⟨_,_,c',rfl⟩|⟨_,_,_,rfl⟩|⟨_,_,p,t,r,_,_,rfl⟩|⟨_,_,r,c',_,rfl⟩|⟨_,_,rfl⟩|⟨_,rfl⟩|⟨_,_,_,rfl⟩
 ·exact hp
 ·show (if _ then _ else _)=_∨_;split<;>simp
 ·exact hp
 ·show (if _ then _ else _)=_∨_;split<;>simp
 ·exact .inl rfl
 ·exact .inr (.inr (.inr rfl))
 ·exact hp
theorem z7q (S:List (Option Cel)) (r:Int):cntS (delS S r)≤cntS S∧cntS S≤cntS (delS S r)+1:=by
 unfold delS
 split
 ·rename_i h
  obtain⟨c,hc⟩:=Option.isSome_iff_exists.1 h
  obtain⟨i,rfl,hi⟩:=z0d hc
  rw[show ((i:Int)+1-1).toNat=i by omega]
  have:=(z0E S i c hi).2
  omega
 ·omega
theorem Stp.cost {X X':Cm}(h:Stp X X'):X'.m+500*cntS X'.S≤X.m+500*cntS X.S+1∧X.m≤X'.m∧X'.m≤X.m+500:=by
 rcases h with ⟨_,_,c',rfl⟩|⟨_,_,_,rfl⟩|⟨_,_,p,t,r,_,_,rfl⟩|⟨_,_,r,c',_,rfl⟩|⟨_,_,rfl⟩|⟨_,rfl⟩|⟨_,_,_,rfl⟩
 ·dsimp only;omega
 ·dsimp only;omega
 ·dsimp only;omega
 ·dsimp only
  unfold Cm.frm
  have:=z7q X.S r
  split<;>omega
 ·dsimp only;omega
 ·dsimp only;omega
 ·omega
theorem Stp.cyc {X X':Cm}(h:Stp X X'):X'.cy=X.cy∨(X'.cy=X.cy+1∧X'.ph=0):=by
 rcases h with ⟨_,_,c',rfl⟩|⟨_,_,_,rfl⟩|⟨_,_,p,t,r,_,_,rfl⟩|⟨_,_,r,c',_,rfl⟩|⟨_,_,rfl⟩|⟨_,rfl⟩|⟨_,_,_,rfl⟩
 ·exact .inl rfl
 ·exact .inl rfl
 ·exact .inl rfl
 ·by_cases q:X.tr.sw+1<X.tr.row.length
  ·exact .inl (if_pos q)
  ·exact .inr ⟨if_neg q,if_neg q⟩
 ·exact .inr ⟨rfl,rfl⟩
 ·exact .inl rfl
 ·exact .inl rfl
theorem z7y (H:CvC B w0 w hb X Z) (hm:X.m≤1999999) (hp:X.phs) (hc:0≤X.cy∧X.cy≤1000000):
  Calls Tryz.prog 76 #[.pointer (some ⟨hb,0,none⟩)] w fun e w'=>∃ X',Stp X X'∧e=.returned (.tuple #[.bool (X'.ph != 0),.int .i64 0])∧CcT B w0 w hb Z X' w':=by
 have hlt:=H.hlt
 have c12:=H.c12
 rcases hp with p0|p1|p2|p3
 ·rw[p0] at c12
  have hb0:Hid ((X.ph != 0)=false):=(by rw[p0];rfl:(X.ph != 0)=false)
  have HX:Hid (Stp X X∧CcT B w0 w hb Z X w):=⟨.inr (.inr (.inr (.inr (.inr (.inr ⟨by omega,by omega,by omega,rfl⟩))))),H.same⟩
  clear H
  go_enter Tryz.func76,Tryz.ntmps76
  go_wp2
  go_ret2
  exact⟨X,HX.out.1,by rw[hb0.out];rfl,HX.out.2⟩
 ·have hM:=z6G H hm p1
  rw[p1] at c12
  clear H
  go_enter Tryz.func76,Tryz.ntmps76
  go_wp2_with (go_at_call 103;refine hM.mono ?_;rintro e w1 ⟨rfl,X',hS,hT⟩;have k1:=hT.cell12;have HX:Hid (Stp X X'∧CcT B w0 w hb Z X' w1):=⟨hS,hT⟩;clear hM hS hT)
  go_ret2
  exact⟨X',HX.out.1,rfl,HX.out.2⟩
 ·rw[p2] at c12
  have f12:=H.fz 12
  have HX:Hid (Stp X { X with ph:=3 }∧CcT B w0 w hb Z { X with ph:=3 } (w.setCell ⟨hb,12,none⟩ (.int .i64 3))):=⟨.inr (.inr (.inr (.inr (.inr (.inl ⟨p2,rfl⟩))))),H.phase 3⟩
  clear H
  go_enter Tryz.func76,Tryz.ntmps76
  go_wp2
  go_ret2
  exact⟨{ X with ph:=3 },HX.out.1,rfl,HX.out.2⟩
 ·have hM:=z6b H hm p3 hc
  rw[p3] at c12
  clear H
  go_enter Tryz.func76,Tryz.ntmps76
  go_wp2_with (go_at_call 104;refine hM.mono ?_;rintro e w1 ⟨rfl,X',hS,hT⟩;have k1:=hT.cell12;have HX:Hid (Stp X X'∧CcT B w0 w hb Z X' w1):=⟨hS,hT⟩;clear hM hS hT)
  go_ret2
  exact⟨X',HX.out.1,rfl,HX.out.2⟩
end
end Go.Proofs.YthkelaeemefnaaaGreat
