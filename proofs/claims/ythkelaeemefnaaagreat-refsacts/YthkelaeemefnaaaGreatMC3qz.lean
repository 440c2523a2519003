import Derived.Test.YthkelaeemefnaaaGreatMC2qz
set_option maxRecDepth 20000
namespace Go.Proofs.YthkelaeemefnaaaGreat
open Go.RowKit
section
variable {B:Nat}{w0 w w':World}{hb:Nat}{X:Cm}{Z:Cx}
theorem z0A (H:CvC B w0 w hb X Z) (t:Int) (ht:0≤t∧t<X.T):
  Calls Tryz.prog 64 #[.pointer (some ⟨hb,0,none⟩),.int .i64 t] w fun e w'=>e=.returned (.int .i64 0)∧w'=w:=by
 have hlt:=H.hlt
 have c2:=H.c2
 have d1:decide (t<0)=false:=by simp;omega
 have d2:decide ((X.T:Int)≤t)=false:=by simp;omega
 generalize X.T=T at *
 clear H
 go_enter Tryz.func64,Tryz.ntmps64
 go_wp2
 go_ret
 exact⟨rfl,rfl⟩
theorem z3q (H:CvC B w0 w hb X Z) (t:Int) (ht:¬ (0≤t∧t<X.T)):
  Calls Tryz.prog 64 #[.pointer (some ⟨hb,0,none⟩),.int .i64 t] w fun e w'=>e=.returned (.int .i64 1202)∧w'=w:=by
 have hlt:=H.hlt
 have c2:=H.c2
 by_cases h1:t<0
 ·generalize X.T=T at *
  clear H ht
  go_enter Tryz.func64,Tryz.ntmps64
  go_wp2
  go_ret
  exact⟨rfl,rfl⟩
 ·have d1:decide (t<0)=false:=by simp;omega
  have d2:(X.T:Int)≤t:=by omega
  generalize X.T=T at *
  clear H ht h1
  go_enter Tryz.func64,Tryz.ntmps64
  go_wp2
  go_ret
  exact⟨rfl,rfl⟩
theorem zbd (H:CvC B w0 w hb X Z) (t r:Int) (ht:¬ (0≤t∧t<X.T)):
  Calls Tryz.prog 45 #[.pointer (some ⟨hb,0,none⟩),.int .i64 t,.int .i64 r] w fun e w'=>e=.returned (.int .i64 1202)∧w'=w:=by
 have hA:=z3q H t ht
 clear H ht
 go_enter Tryz.func45,Tryz.ntmps45
 go_wp2_with (go_at_call 64;refine hA.mono ?_;rintro e w9 ⟨rfl,hw9⟩;replace hw9:=hw9.symm;subst hw9)
 go_ret
 exact⟨rfl,rfl⟩
theorem z49 (H:CvC B w0 w hb X Z) (t:Nat) (r:Int) (ht:t<X.T) (hf:64≤(X.rt t).length):
  Calls Tryz.prog 45 #[.pointer (some ⟨hb,0,none⟩),.int .i64 t,.int .i64 r] w fun e w'=>e=.returned (.int .i64 1203)∧w'=w:=by
 have hA:=z0A H t (by omega)
 have hF:=z4V H.rts ht (H.rt t ht)
 rw[decide_eq_true hf] at hF
 have hlt:=H.hlt
 have c2:=H.c2
 have h8:=H.lim.2.2
 have hti:(t:Int)<(X.T:Int):=by omega
 generalize X.T=T at *
 clear H hf
 go_enter Tryz.func45,Tryz.ntmps45
 go_wp2_with (first
  | (go_at_call 64;refine hA.mono ?_;rintro e w9 ⟨rfl,hw9⟩;replace hw9:=hw9.symm;subst hw9)
  | (go_at_call 80;refine hF.mono ?_;rintro e w9 ⟨rfl,hw9⟩;replace hw9:=hw9.symm;subst hw9))
 go_ret
 exact⟨rfl,rfl⟩
theorem z7F (H:CvC B w0 w hb X Z) (t:Nat) (r:Int) (ht:t<X.T) (hf:(X.rt t).length<64):
  Calls Tryz.prog 45 #[.pointer (some ⟨hb,0,none⟩),.int .i64 t,.int .i64 r] w fun e w'=>e=.returned (.int .i64 0)∧CcT B w0 w hb Z { X with rt:=setL X.rt t (X.rt t++[r]) } w':=by
 have hA:=z0A H t (by omega)
 have hF:=z4V H.rts ht (H.rt t ht)
 rw[decide_eq_false (by omega)] at hF
 have hP:Calls Tryz.prog 81 #[.pointer (some ⟨Z.rb,t,none⟩),.int .i64 r] w fun e w'=>e=.returned (.tuple #[])∧CcT B w0 w hb Z { X with rt:=setL X.rt t (X.rt t++[r]) } w' :=
  (z9E H.rts ht (H.rt t ht) H.hv.size (by omega) r).mono fun e w' q=>⟨q.1,H.root ht (by rw[List.length_append];simp;omega) q.2⟩
 have hlt:=H.hlt
 have c2:=H.c2
 have h8:=H.lim.2.2
 have hti:(t:Int)<(X.T:Int):=by omega
 clear H hf
 go_enter Tryz.func45,Tryz.ntmps45
 go_wp2_with (first
  | (go_at_call 64;refine hA.mono ?_;rintro e w9 ⟨rfl,hw9⟩;replace hw9:=hw9.symm;subst hw9)
  | (go_at_call 80;refine hF.mono ?_;rintro e w9 ⟨rfl,hw9⟩;replace hw9:=hw9.symm;subst hw9)
  | (go_at_call 81;refine hP.mono ?_;rintro e w1 ⟨rfl,hT⟩;have HT:Hid (CcT B w0 w hb Z { X with rt:=setL X.rt t (X.rt t++[r]) } w1):=hT;clear hT hP))
 go_ret
 exact⟨rfl,HT.out⟩
theorem zdU (H:CvC B w0 w hb X Z) (t:Int) (ht:¬ (0≤t∧t<X.T)):
  Calls Tryz.prog 35 #[.pointer (some ⟨hb,0,none⟩),.int .i64 t] w fun e w'=>e=.returned (.tuple #[.int .i64 0,.int .i64 1202])∧w'=w:=by
 have hA:=z3q H t ht
 clear H ht
 go_enter Tryz.func35,Tryz.ntmps35
 go_wp2_with (go_at_call 64;refine hA.mono ?_;rintro e w9 ⟨rfl,hw9⟩;replace hw9:=hw9.symm;subst hw9)
 go_ret2
 exact⟨rfl,rfl⟩
theorem z9F (H:CvC B w0 w hb X Z) (t:Nat) (ht:t<X.T) (h0:X.rt t=[]):
  Calls Tryz.prog 35 #[.pointer (some ⟨hb,0,none⟩),.int .i64 t] w fun e w'=>e=.returned (.tuple #[.int .i64 0,.int .i64 1203])∧w'=w:=by
 have hA:=z0A H t (by omega)
 have hU:=H.rt t ht
 rw[h0] at hU
 have hP:=zcL H.rts ht hU
 have hlt:=H.hlt
 have c2:=H.c2
 have h8:=H.lim.2.2
 have hti:(t:Int)<(X.T:Int):=by omega
 generalize X.T=T at *
 clear H hU h0
 go_enter Tryz.func35,Tryz.ntmps35
 go_wp2_with (first
  | (go_at_call 64;refine hA.mono ?_;rintro e w9 ⟨rfl,hw9⟩;replace hw9:=hw9.symm;subst hw9)
  | (go_at_call 70;refine hP.mono ?_;rintro e w9 ⟨rfl,hw9⟩;replace hw9:=hw9.symm;subst hw9))
 go_ret2
 exact⟨rfl,rfl⟩
def Cm.popTr (X:Cm) (r:Int):Tr:=if X.ph=1 then X.tr.mark r else X.tr
theorem za4 (H:CvC B w0 w hb X Z) (t:Nat) (ht:t<X.T) {U:List Int}{r:Int}(h0:X.rt t=U++[r]):
  Calls Tryz.prog 35 #[.pointer (some ⟨hb,0,none⟩),.int .i64 t] w fun e w'=>e=.returned (.tuple #[.int .i64 r,.int .i64 0])∧CcT B w0 w hb Z { X with rt:=setL X.rt t U,tr:=X.popTr r } w':=by
 have hA:=z0A H t (by omega)
 have hU:=H.rt t ht
 have hl:=H.rtl t ht
 rw[h0] at hU hl
 rw[List.length_append,List.length_singleton] at hl
 have hP:Calls Tryz.prog 70 #[.pointer (some ⟨Z.rb,t,none⟩)] w fun e w'=>e=.returned (.tuple #[.int .i64 r,.bool true])∧CcT B w0 w hb Z { X with rt:=setL X.rt t U } w' :=
  (zf4 H.rts ht hU (by omega)).mono fun e w' q=>⟨q.1,H.root ht (by omega) q.2⟩
 have hlt:=H.hlt
 have c2:=H.c2
 have h8:=H.lim.2.2
 have hti:(t:Int)<(X.T:Int):=by omega
 by_cases p1:X.ph=1
 ·have e:X.popTr r=X.tr.mark r:=if_pos p1
  rw[e]
  have HX:Hid (∀ w1,CcT B w0 w hb Z { X with rt:=setL X.rt t U } w1→(w1.cell? ⟨hb,12,none⟩=some (.int .i64 1)∧hb<w1.heap.size)∧Calls Tryz.prog 71 #[.pointer (some ⟨hb,4,none⟩),.int .i64 r] w1 fun e w'=>e=.returned (.tuple #[])∧CcT B w0 w hb Z { X with rt:=setL X.rt t U,tr:=X.tr.mark r } w'):=fun w1 hT=>by
   obtain⟨Z1,H1,b1,d1⟩:=hT
   exact⟨⟨by rw[H1.c12];exact congrArg (fun x=>some (Value.int .i64 x)) p1,H1.hlt⟩,(z32 H1 r).mono fun e w' q=>⟨q.1,CcT.then b1 d1 q.2.turn⟩⟩
  clear H hU h0 e
  go_enter Tryz.func35,Tryz.ntmps35
  go_wp2_with (first
   | (go_at_call 64;refine hA.mono ?_;rintro e w9 ⟨rfl,hw9⟩;replace hw9:=hw9.symm;subst hw9)
   | (go_at_call 70;refine hP.mono ?_;rintro e w1 ⟨rfl,hT⟩;obtain⟨k1,hM⟩:=HX.out w1 hT;clear hP HX hT)
   | (go_at_call 71;refine hM.mono ?_;rintro e w2 ⟨rfl,hT⟩;have HT:Hid (CcT B w0 w hb Z { X with rt:=setL X.rt t U,tr:=X.tr.mark r } w2):=hT;clear hT hM))
  go_ret2
  exact⟨rfl,HT.out⟩
 ·have e:X.popTr r=X.tr:=if_neg p1
  rw[e]
  have d1:(X.ph == 1)=false:=by simpa using p1
  have HX:Hid (∀ w1,CcT B w0 w hb Z { X with rt:=setL X.rt t U } w1→(w1.cell? ⟨hb,12,none⟩=some (.int .i64 X.ph)∧hb<w1.heap.size)):=fun w1 hT=>by
   obtain⟨Z1,H1,b1,d1⟩:=hT
   exact⟨H1.c12,H1.hlt⟩
  clear H hU h0 e p1
  go_enter Tryz.func35,Tryz.ntmps35
  go_wp2_with (first
   | (go_at_call 64;refine hA.mono ?_;rintro e w9 ⟨rfl,hw9⟩;replace hw9:=hw9.symm;subst hw9)
   | (go_at_call 70;refine hP.mono ?_;rintro e w1 ⟨rfl,hT⟩;have k1:=HX.out w1 hT;have HT:Hid (CcT B w0 w hb Z { X with rt:=setL X.rt t U } w1):=hT;clear hP HX hT))
  go_ret2
  exact⟨rfl,HT.out⟩
theorem z6p (H:CvC B w0 w hb X Z) (hm:X.m≤2000000) (hp:X.ph=0) (ha:allB X.T X.A=true):
  Calls Tryz.prog 72 #[.pointer (some ⟨hb,0,none⟩)] w fun e w'=>e=.returned (.int .i64 0)∧∃ r,CcT B w0 w hb Z { X with A:=fun _=>false,x:=1,r:=r,tr:=X.tr.begun X.S,ph:=1 } w':=by
 have hlt:=H.hlt
 have c12:=H.c12
 have c3:=H.c3
 rw[hp] at c12
 have HX:Hid (Calls Tryz.prog 99 #[.pointer (some ⟨Z.s,0,none⟩),.int .i64 1] w fun e w1=>e=.returned (.int .i64 0)∧hb<w1.heap.size∧Calls Tryz.prog 100 #[.pointer (some ⟨hb,4,none⟩)] w1 fun e w2=>e=.returned (.tuple #[])∧((∃ v,w2.cell? ⟨hb,12,none⟩=some v)∧hb<w2.heap.size∧w2.frozen? ⟨hb,12,none⟩=false)∧∃ r,CcT B w0 w hb Z { X with A:=fun _=>false,x:=1,r:=r,tr:=X.tr.begun X.S,ph:=1 } (w2.setCell ⟨hb,12,none⟩ (.int .i64 1))):=by
  refine (zg3 H.sk 1 ha).mono ?_
  rintro e w1 ⟨rfl,hs,b1⟩
  have H1:=H.shakes hs b1
  refine⟨rfl,H1.hlt,(z9g H1 hm).mono ?_⟩
  rintro e w2 ⟨rfl,Z2,H2,b2,d2⟩
  refine⟨rfl,⟨⟨_,H2.c12⟩,H2.hlt,H2.fz 12⟩,_,CcT.then (b1.mono fun k _ hk=>⟨1,hk⟩) (Wider.refl _ _) (CcT.then b2 d2 (H2.phase 1))⟩
 clear H hp ha
 have hA:=HX.out
 clear HX
 go_enter Tryz.func72,Tryz.ntmps72
 go_wp2_with (first
  | (go_at_call 99;refine hA.mono ?_;rintro e w1 ⟨rfl,k1,hB⟩;clear hA)
  | (go_at_call 100;refine hB.mono ?_;rintro e w2 ⟨rfl,⟨⟨v2,k2⟩,k3,k4⟩,hT⟩;have HT:Hid (∃ r,CcT B w0 w hb Z { X with A:=fun _=>false,x:=1,r:=r,tr:=X.tr.begun X.S,ph:=1 } (w2.setCell ⟨hb,12,none⟩ (.int .i64 1))):=hT;clear hT hB))
 go_ret
 exact⟨rfl,HT.out⟩
def z0z (T:Tr) (U:List Int):Tr:=U.foldl Tr.mark T
theorem z7c (H:CvC B w0 w hb X Z) (t:Nat) (ht:t<X.T) (ha:X.A t=true):
  Calls Tryz.prog 73 #[.pointer (some ⟨hb,0,none⟩),.int .i64 t] w fun e w'=>e=.returned (.int .i64 0)∧CcT B w0 w hb Z X w':=by
 have hA:=z0A H t (by omega)
 have hS:Calls Tryz.prog 101 #[.pointer (some ⟨Z.s,0,none⟩),.int .i64 t] w fun e w'=>e=.returned (.tuple #[.int .i64 0,.bool false,.int .i64 0])∧CcT B w0 w hb Z X w':=(zed H.sk t ht ha).mono fun e w' q=>⟨q.1,Z,H.shakes q.2.1 q.2.2,q.2.2.mono fun k _ hk=>⟨1,hk⟩,Wider.refl _ _⟩
 have hlt:=H.hlt
 have c3:=H.c3
 clear H ha
 go_enter Tryz.func73,Tryz.ntmps73
 go_wp2_with (first
  | (go_at_call 64;refine hA.mono ?_;rintro e w9 ⟨rfl,hw9⟩;replace hw9:=hw9.symm;subst hw9)
  | (go_at_call 101;refine hS.mono ?_;rintro e w1 ⟨rfl,hT⟩;have HT:Hid (CcT B w0 w hb Z X w1):=hT;clear hT hS))
 go_ret
 exact⟨rfl,HT.out⟩
end
end Go.Proofs.YthkelaeemefnaaaGreat
namespace Go.Proofs.YthkelaeemefnaaaGreat
open Go.RowKit
section
variable {B:Nat}{w0 w w':World}{hb:Nat}{X:Cm}{Z:Cx}
theorem z5H (T:Tr) (U:List Int) (r:Int):z0z T (U++[r])=(z0z T U).mark r:=by unfold z0z;rw[List.foldl_append];rfl
theorem z8S (H:CvC B w0 w hb X Z) (t:Nat) (ht:t<X.T) (ha:X.A t=false):
  Calls Tryz.prog 73 #[.pointer (some ⟨hb,0,none⟩),.int .i64 t] w fun e w'=>e=.returned (.int .i64 0)∧CcT B w0 w hb Z { X with A:=setB X.A t true,tr:=z0z X.tr (X.rt t) } w':=by
 have hA:=z0A H t (by omega)
 have hS:Calls Tryz.prog 101 #[.pointer (some ⟨Z.s,0,none⟩),.int .i64 t] w fun e w'=>e=.returned (.tuple #[.int .i64 X.x,.bool true,.int .i64 0])∧CcS B w0 w hb Z X w':=(zfP H.sk t ht ha).mono fun e w' q=>⟨q.1,H.shakes q.2.1 q.2.2,q.2.2.mono fun k _ hk=>⟨1,hk⟩⟩
 have hlt:=H.hlt
 have c3:=H.c3
 have h8:=H.lim.2.2
 have hti:(t:Int)<(X.T:Int):=by omega
 have hlen:=H.rtl t ht
 have hf:=(H.rt t ht).form
 obtain⟨ao,cap,hv⟩:=hf
 have HC:Hid (∀ w1 T1,CvC B w0 w1 hb { X with tr:=T1 } Z→(w1.cell? ⟨hb,2,none⟩=some (.slice (some ⟨Z.rb,0,none⟩) X.T X.T)∧w1.cell? ⟨Z.rb,t,none⟩=some (.slice ao (X.rt t).length cap)∧hb<w1.heap.size∧Z.rb<w1.heap.size∧w1.cell? ⟨hb,3,none⟩=some (.pointer (some ⟨Z.s,0,none⟩)))∧(∀ j,j<(X.rt t).length→∃ (p:Nat) (r:Int),ao=some ⟨p,0,none⟩∧(X.rt t)[j]?=some r∧w1.cell? ⟨p,j,none⟩=some (.int .i64 r)∧p<w1.heap.size)∧(∀ r,Calls Tryz.prog 71 #[.pointer (some ⟨hb,4,none⟩),.int .i64 r] w1 fun e w'=>e=.returned (.tuple #[])∧CcS B w0 w1 hb Z { X with tr:=T1.mark r } w')∧Calls Tryz.prog 102 #[.pointer (some ⟨Z.s,0,none⟩),.int .i64 t] w1 fun e w'=>e=.returned (.int .i64 0)∧CcS B w0 w1 hb Z { X with A:=setB X.A t true,tr:=T1 } w'):=fun w1 T1 H1=>by
  refine⟨⟨H1.c2,by rw[H1.rts.cell ht,hv],H1.hlt,H1.rts.lt,H1.c3⟩,fun j hj=>?_,fun r=>z32 H1 r,(zaN H1.sk t ht).mono fun e w' q=>⟨q.1,H1.shakes q.2.1 q.2.2,q.2.2.mono fun k _ hk=>⟨1,hk⟩⟩⟩
  have hr:=H1.rt t ht
  rw[hv] at hr
  obtain⟨p,rfl,hp,_,_,hc⟩:=hr.cells (by show 0<(X.rt t).length;omega)
  have hj':(X.rt t)[j]?=some (X.rt t)[j]:=List.getElem?_eq_getElem hj
  exact⟨p,_,rfl,hj',hc j _ hj',hp.2⟩
 have HT0:Hid ((X.rt t).take (X.rt t).length=X.rt t):=(List.take_length:_=_)
 generalize hU:X.rt t=U at *
 generalize hn:U.length=n at *
 have HU:Hid (U.length=n):=hn
 clear H ha hv hn
 go_enter Tryz.func73,Tryz.ntmps73
 go_wp2_with (first
  | (go_at_call 64;refine hA.mono ?_;rintro e w9 ⟨rfl,hw9⟩;replace hw9:=hw9.symm;subst hw9)
  | (go_at_call 101;refine hS.mono ?_;rintro e w1 ⟨rfl,hT⟩;have k1:=(HC.out w1 X.tr hT.1).1;have HT:Hid (CcS B w0 w hb Z X w1):=hT;clear hT hS))
 go_loopg [38] (n+1) (fun kx s38 wr=>∃ (j:Nat),s38=.int .i64 j∧j≤n∧n-j≤kx∧Hid (CcS B w0 w hb Z { X with tr:=z0z X.tr (U.take j) } wr))
 case atStart=>exact⟨0,rfl,by omega,by omega,HT.out⟩
 case round =>
  obtain⟨j,rfl,hj,hk,HI⟩:=hrel
  obtain⟨q1,q2,q3,q4⟩:=HC.out wr _ HI.out.1
  by_cases hlt2:j<n
  ·have hl:(j:Int)<(n:Int):=by omega
   obtain⟨p,r,rfl,hr,hc,hp⟩:=q2 j hlt2
   have hM:=q3 r
   have hj2:j<100:=by omega
   have HE:Hid (z0z X.tr (U.take (j+1))=(z0z X.tr (U.take j)).mark r):=(by rw[List.take_add_one,hr];exact z5H _ _ _:_=_)
   clear q2 q3 q4 hr
   go_wp2_with (go_at_call 71;refine hM.mono ?_;rintro e w2 ⟨rfl,hT2⟩;have HT2:Hid (CcS B w0 wr hb Z { X with tr:=(z0z X.tr (U.take j)).mark r } w2):=hT2;clear hM hT2)
   go_roundg (n-(j+1))
   case measure=>omega
   case rel=>exact⟨j+1,by go_num,by omega,by omega,by rw[HE.out];exact⟨HT2.out.1,HI.out.2.trans HT2.out.2⟩⟩
  ·obtain rfl:j=n:=by omega
   have hl:¬ (j:Int)<(j:Int):=by omega
   clear q2 q3
   go_wp2_with (go_at_call 102;refine q4.mono ?_;rintro e w2 ⟨rfl,hT2⟩;have HT2:Hid (CcS B w0 wr hb Z { X with A:=setB X.A t true,tr:=z0z X.tr (U.take j) } w2):=hT2;clear q4 hT2)
   go_ret
   refine⟨rfl,Z,?_,HI.out.2.trans HT2.out.2,Wider.refl _ _⟩
   have:=HT2.out.1
   rw[HT0.out] at this
   exact this
theorem ze4 (w:World):Calls Tryz.prog 68 #[.int .i64 0] w fun e w'=>e=.returned (.int .i64 0)∧w'=w:=by
 go_enter Tryz.func68,Tryz.ntmps68
 go_wp2
 go_ret
 exact⟨rfl,rfl⟩
theorem zfM (w:World):Calls Tryz.prog 68 #[.int .i64 903] w fun e w'=>e=.returned (.int .i64 1204)∧w'=w:=by
 go_enter Tryz.func68,Tryz.ntmps68
 go_wp2
 go_ret
 exact⟨rfl,rfl⟩
theorem zcr (w:World):Calls Tryz.prog 68 #[.int .i64 904] w fun e w'=>e=.returned (.int .i64 1205)∧w'=w:=by
 go_enter Tryz.func68,Tryz.ntmps68
 go_wp2
 go_ret
 exact⟨rfl,rfl⟩
theorem zbE (H:CvC B w0 w hb X Z) (t r i:Int) (ht:¬ (0≤t∧t<X.T)):
  Calls Tryz.prog 50 #[.pointer (some ⟨hb,0,none⟩),.int .i64 t,.int .i64 r,.int .i64 i] w fun e w'=>e=.returned (.tuple #[.int .i64 0,.int .i64 1202])∧w'=w:=by
 have hA:=z3q H t ht
 clear H ht
 go_enter Tryz.func50,Tryz.ntmps50
 go_wp2_with (go_at_call 64;refine hA.mono ?_;rintro e w9 ⟨rfl,hw9⟩;replace hw9:=hw9.symm;subst hw9)
 go_ret2
 exact⟨rfl,rfl⟩
theorem zaL (H:CvC B w0 w hb X Z) (hm:X.m≤2000000) (t r i:Int) (ht:0≤t∧t<X.T) (hr:z0a X.S r=none):
  Calls Tryz.prog 50 #[.pointer (some ⟨hb,0,none⟩),.int .i64 t,.int .i64 r,.int .i64 i] w fun e w'=>e=.returned (.tuple #[.int .i64 0,.int .i64 1205])∧Below w.heap.size w w':=by
 have hA:=z0A H t ht
 have hL:=z6f H.hv hm t r i (fun q=>by
  obtain⟨k,cl,e,hk⟩:=q.2
  exact z0Y hr k cl e hk)
 have hlt:=H.hlt
 have c0:=H.c0
 clear H ht hr
 go_enter Tryz.func50,Tryz.ntmps50
 go_wp2_with (first
  | (go_at_call 64;refine hA.mono ?_;rintro e w9 ⟨rfl,hw9⟩;replace hw9:=hw9.symm;subst hw9)
  | (go_at_call 85;refine hL.mono ?_;rintro e w1 ⟨rfl,hb1⟩;clear hL)
  | (go_at_call 68;refine (zcr _).mono ?_;rintro e w9 ⟨rfl,hw9⟩;replace hw9:=hw9.symm;subst hw9))
 go_ret2
 exact⟨rfl,hb1⟩
theorem za6 (H:CvC B w0 w hb X Z) (hm:X.m≤2000000) (t i:Int) (ht:0≤t∧t<X.T) {k:Nat}{cl:Cel}(hk:X.S[k]?=some (some cl)) (hi:¬ (0≤i∧i<cl.n)):
  Calls Tryz.prog 50 #[.pointer (some ⟨hb,0,none⟩),.int .i64 t,.int .i64 ((k:Int)+1),.int .i64 i] w fun e w'=>e=.returned (.tuple #[.int .i64 0,.int .i64 1204])∧Below w.heap.size w w':=by
 have hA:=z0A H t ht
 have hL:=z42 H.hv hm hk t i (by omega) hi
 have hlt:=H.hlt
 have c0:=H.c0
 clear H ht hk hi
 go_enter Tryz.func50,Tryz.ntmps50
 go_wp2_with (first
  | (go_at_call 64;refine hA.mono ?_;rintro e w9 ⟨rfl,hw9⟩;replace hw9:=hw9.symm;subst hw9)
  | (go_at_call 85;refine hL.mono ?_;rintro e w1 ⟨rfl,hb1⟩;clear hL)
  | (go_at_call 68;refine (zfM _).mono ?_;rintro e w9 ⟨rfl,hw9⟩;replace hw9:=hw9.symm;subst hw9))
 go_ret2
 exact⟨rfl,hb1⟩
theorem z7o (H:CvC B w0 w hb X Z) (hm:X.m≤2000000) (t:Int) (ht:0≤t∧t<X.T) {k:Nat}{cl:Cel}(hk:X.S[k]?=some (some cl)) (i:Int) (j:Nat) (hi:i=j) (hj:j<cl.n):
  Calls Tryz.prog 50 #[.pointer (some ⟨hb,0,none⟩),.int .i64 t,.int .i64 ((k:Int)+1),.int .i64 i] w fun e w'=>e=.returned (.tuple #[.int .i64 (X.F k j),.int .i64 0])∧∃ c',c' t≤X.c t+12∧CcT B w0 w hb Z { X with m:=X.m+1,c:=c' } w':=by
 have hA:=z0A H t ht
 have hL:Calls Tryz.prog 85 #[.pointer (some ⟨Z.h,0,none⟩),.int .i64 t,.int .i64 ((k:Int)+1),.int .i64 i] w fun e w'=>e=.returned (.tuple #[.int .i64 (X.F k j),.int .i64 0])∧∃ c',c' t≤X.c t+12∧CcT B w0 w hb Z { X with m:=X.m+1,c:=c' } w' :=
  (z9A H.hv hm hk t i j (by omega) hi hj).mono fun e w' q=>let ⟨q1,c',u1,_,hT⟩:=q;⟨q1,c',u1,(H.cells H.fit hT).turn⟩
 have hlt:=H.hlt
 have c0:=H.c0
 generalize X.F k j=v at *
 clear H ht hk hi hj
 go_enter Tryz.func50,Tryz.ntmps50
 go_wp2_with (first
  | (go_at_call 64;refine hA.mono ?_;rintro e w9 ⟨rfl,hw9⟩;replace hw9:=hw9.symm;subst hw9)
  | (go_at_call 85;refine hL.mono ?_;rintro e w1 ⟨rfl,hT⟩;have HT:Hid (∃ c',c' t≤X.c t+12∧CcT B w0 w hb Z { X with m:=X.m+1,c:=c' } w1):=hT;clear hL hT)
  | (go_at_call 68;refine (ze4 _).mono ?_;rintro e w9 ⟨rfl,hw9⟩;replace hw9:=hw9.symm;subst hw9))
 go_ret2
 exact⟨rfl,HT.out⟩
end
end Go.Proofs.YthkelaeemefnaaaGreat
namespace Go.Proofs.YthkelaeemefnaaaGreat
open Go.RowKit
section
variable {B:Nat}{w0 w w':World}{hb:Nat}{X:Cm}{Z:Cx}
def Cm.pw (X:Cm) (r i:Int):Tr:=if X.ph=1 then X.mw r i else X.tr
theorem z53 (H:CvC B w0 w hb X Z) (hm:X.m≤1999998) (t r i v:Int) (ht:0≤t∧t<X.T) (code cd:Int) (hO:∀ u,Calls Tryz.prog 68 #[.int .i64 code] u fun e w'=>e=.returned (.int .i64 cd)∧w'=u) {Q:World→Prop}
  (hP:∀ w1 c1 Z1,CvC B w0 w1 hb { X with m:=X.m+1,c:=c1,tr:=X.pw r i } Z1→Bt (Z.all hb X.T) w w1→Wider (Z.all hb X.T) (Z1.all hb X.T) w→c1 t≤X.c t+12→Calls Tryz.prog 69 #[.pointer (some ⟨Z1.h,0,none⟩),.int .i64 t,.int .i64 r,.int .i64 i,.int .i64 v] w1 fun e w2=>e=.returned (.int .i64 code)∧Q w2):
  Calls Tryz.prog 49 #[.pointer (some ⟨hb,0,none⟩),.int .i64 t,.int .i64 r,.int .i64 i,.int .i64 v] w fun e w'=>e=.returned (.int .i64 cd)∧Q w':=by
 have hA:=z0A H t ht
 have hlt:=H.hlt
 have c12:=H.c12
 have HP:Hid (∀ w1 c1 Z1,CvC B w0 w1 hb { X with m:=X.m+1,c:=c1,tr:=X.pw r i } Z1→Bt (Z.all hb X.T) w w1→Wider (Z.all hb X.T) (Z1.all hb X.T) w→c1 t≤X.c t+12→Calls Tryz.prog 69 #[.pointer (some ⟨Z1.h,0,none⟩),.int .i64 t,.int .i64 r,.int .i64 i,.int .i64 v] w1 fun e w2=>e=.returned (.int .i64 code)∧Q w2):=hP
 clear hP
 by_cases p1:X.ph=1
 ·have hM:=z3C H (by omega) t r i (by omega)
  have e:X.pw r i=X.mw r i:=if_pos p1
  rw[e] at HP
  rw[p1] at c12
  clear H ht e p1 hm
  go_enter Tryz.func49,Tryz.ntmps49
  go_wp2_with (first
   | (go_at_call 64;refine hA.mono ?_;rintro e w9 ⟨rfl,hw9⟩;replace hw9:=hw9.symm;subst hw9)
   | (go_at_call 84;refine hM.mono ?_;rintro e w1 ⟨rfl,c1,u1,u2,Z1,H1,b1,d1⟩;have k0:=H1.c0;have k1:=H1.hlt;have hQ:=HP.out w1 c1 Z1 H1 b1 d1 u1;clear hM HP H1 b1 d1)
   | (go_at_call 69;refine hQ.mono ?_;rintro e w2 ⟨rfl,hq⟩;have HQ:Hid (Q w2):=hq;clear hQ hq)
   | (go_at_call 68;refine (hO _).mono ?_;rintro e w9 ⟨rfl,hw9⟩;replace hw9:=hw9.symm;subst hw9))
  go_ret
  exact⟨rfl,HQ.out⟩
 ·have e:X.pw r i=X.tr:=if_neg p1
  rw[e] at HP
  have d1:(X.ph == 1)=false:=by simpa using p1
  have hQ:=HP.out w X.c Z (CvC.more H (m':=X.m+1) (by omega)) (Bt.refl _ _) (Wider.refl _ _) (by omega)
  have c0:=H.c0
  clear H ht e p1 HP hm
  go_enter Tryz.func49,Tryz.ntmps49
  go_wp2_with (first
   | (go_at_call 64;refine hA.mono ?_;rintro e w9 ⟨rfl,hw9⟩;replace hw9:=hw9.symm;subst hw9)
   | (go_at_call 69;refine hQ.mono ?_;rintro e w2 ⟨rfl,hq⟩;have HQ:Hid (Q w2):=hq;clear hQ hq)
   | (go_at_call 68;refine (hO _).mono ?_;rintro e w9 ⟨rfl,hw9⟩;replace hw9:=hw9.symm;subst hw9))
  go_ret
  exact⟨rfl,HQ.out⟩
theorem zae {r i:Int}(h:¬ (0≤i∧i<rfs X.S r)):X.pw r i=X.tr:=by
 unfold Cm.pw Cm.mw
 rw[if_neg h]
 split<;>rfl
theorem zcS (H:CvC B w0 w hb X Z) (hm:X.m≤1999998) (t r i v:Int) (ht:0≤t∧t<X.T) (hr:z0a X.S r=none):
  Calls Tryz.prog 49 #[.pointer (some ⟨hb,0,none⟩),.int .i64 t,.int .i64 r,.int .i64 i,.int .i64 v] w fun e w'=>e=.returned (.int .i64 1205)∧∃ c',CcT B w0 w hb Z { X with m:=X.m+1,c:=c' } w':=by
 refine z53 H hm t r i v ht 904 1205 zcr fun w1 c1 Z1 H1 b1 d1 u1=>?_
 have e:X.pw r i=X.tr:=zae (by
  have:rfs X.S r=0:=by unfold rfs;rw[hr]
  omega)
 rw[e] at H1
 refine (zbX H1.hv (by show X.m+1≤2000000;omega) t r i v (fun q=>?_)).mono ?_
 ·obtain⟨k,cl,e,hk⟩:=q.2
  exact z0Y hr k cl e hk
 ·rintro e w2 ⟨rfl,hb2⟩
  exact⟨rfl,c1,Z1,H1.below hb2,b1.trans (Bt.of_below hb2),d1⟩
theorem zc7 (H:CvC B w0 w hb X Z) (hm:X.m≤1999998) (t i v:Int) (ht:0≤t∧t<X.T) {k:Nat}{cl:Cel}(hk:X.S[k]?=some (some cl)) (hi:¬ (0≤i∧i<cl.n)):
  Calls Tryz.prog 49 #[.pointer (some ⟨hb,0,none⟩),.int .i64 t,.int .i64 ((k:Int)+1),.int .i64 i,.int .i64 v] w fun e w'=>e=.returned (.int .i64 1204)∧∃ c',CcT B w0 w hb Z { X with m:=X.m+1,c:=c' } w':=by
 refine z53 H hm t _ i v ht 903 1204 zfM fun w1 c1 Z1 H1 b1 d1 u1=>?_
 have e:X.pw ((k:Int)+1) i=X.tr:=zae (fun q=>hi (by
  have:rfs X.S ((k:Int)+1)≤cl.n:=by
   unfold rfs
   rw[z0u,hk]
   show (if cl.kind=1∨cl.kind=3 then cl.n else 0)≤cl.n
   split<;>omega
  omega))
 rw[e] at H1
 refine (zaI H1.hv (by show X.m+1≤2000000;omega) hk t i v (by show 0≤t∧t<((X.T+1:Nat):Int);omega) hi).mono ?_
 rintro e w2 ⟨rfl,hb2⟩
 exact⟨rfl,c1,Z1,H1.below hb2,b1.trans (Bt.of_below hb2),d1⟩
theorem zee (H:CvC B w0 w hb X Z) (hm:X.m≤1999998) (t v:Int) (ht:0≤t∧t<X.T) {k:Nat}{cl:Cel}(hk:X.S[k]?=some (some cl)) (i:Int) (j:Nat) (hi:i=j) (hj:j<cl.n):
  Calls Tryz.prog 49 #[.pointer (some ⟨hb,0,none⟩),.int .i64 t,.int .i64 ((k:Int)+1),.int .i64 i,.int .i64 v] w fun e w'=>e=.returned (.int .i64 0)∧∃ c',c' t≤X.c t+24∧CcT B w0 w hb Z { X with m:=X.m+2,c:=c',F:=setF X.F k (fun l=>if l=j then v else X.F k l),tr:=X.pw ((k:Int)+1) i } w':=by
 refine z53 H hm t _ i v ht 0 0 ze4 fun w1 c1 Z1 H1 b1 d1 u1=>?_
 refine (zet H1.hv (by show X.m+1≤2000000;omega) hk t i v j (by show 0≤t∧t<((X.T+1:Nat):Int);omega) hi hj).mono ?_
 rintro e w2 ⟨rfl,c',u3,_,hT⟩
 have u3':c' t≤c1 t+12:=u3
 exact⟨rfl,c',by omega,CcT.then b1 d1 (H1.cells H1.fit hT).turn⟩
theorem zbV (H:CvC B w0 w hb X Z) (t kd cls n:Int) (ht:¬ (0≤t∧t<X.T)):
  Calls Tryz.prog 32 #[.pointer (some ⟨hb,0,none⟩),.int .i64 t,.int .i64 kd,.int .i64 cls,.int .i64 n] w fun e w'=>e=.returned (.tuple #[.int .i64 0,.int .i64 1202])∧w'=w:=by
 have hA:=z3q H t ht
 clear H ht
 go_enter Tryz.func32,Tryz.ntmps32
 go_wp2_with (go_at_call 64;refine hA.mono ?_;rintro e w9 ⟨rfl,hw9⟩;replace hw9:=hw9.symm;subst hw9)
 go_ret2
 exact⟨rfl,rfl⟩
def Fits (kd cls n:Int):Prop:=(1≤kd∧kd≤3)∧(kmin kd≤n∧n≤kmax kd)∧0≤cls
theorem za5 (H:CvC B w0 w hb X Z) (t kd cls n:Int) (ht:0≤t∧t<X.T) (hf:¬ Fits kd cls n):
  Calls Tryz.prog 32 #[.pointer (some ⟨hb,0,none⟩),.int .i64 t,.int .i64 kd,.int .i64 cls,.int .i64 n] w fun e w'=>e=.returned (.tuple #[.int .i64 0,.int .i64 1204])∧Below w.heap.size w w':=by
 have hA:=z0A H t ht
 have hlt:=H.hlt
 have c0:=H.c0
 by_cases k4:kd=4
 ·subst k4
  clear H ht hf
  go_enter Tryz.func32,Tryz.ntmps32
  go_wp2_with (go_at_call 64;refine hA.mono ?_;rintro e w9 ⟨rfl,hw9⟩;replace hw9:=hw9.symm;subst hw9)
  go_ret2
  exact⟨rfl,Below.refl _ _⟩
 ·have hC:Calls Tryz.prog 65 #[.pointer (some ⟨Z.h,0,none⟩),.int .i64 kd,.int .i64 cls,.int .i64 n] w fun e w'=>(∃ code:Int,e=.returned (.int .i64 code)∧(code != 0)=true)∧Below w.heap.size w w':=(zal H.hv kd cls n).mono fun e w' q=>by
   obtain⟨⟨code,q1,q2⟩,q3⟩:=q
   refine⟨⟨code,q1,?_⟩,q3⟩
   have:code≠0:=fun z=>hf ⟨by have:=(q2.1 z).1;omega,(q2.1 z).2⟩
   simpa using this
  have d4:(kd == 4)=false:=by simpa using k4
  clear H ht hf k4
  go_enter Tryz.func32,Tryz.ntmps32
  go_wp2_with (first
   | (go_at_call 64;refine hA.mono ?_;rintro e w9 ⟨rfl,hw9⟩;replace hw9:=hw9.symm;subst hw9)
   | (go_at_call 65;refine hC.mono ?_;rintro e w1 ⟨⟨code,rfl,hc0⟩,hb1⟩;clear hC))
  go_ret2
  exact⟨rfl,hb1⟩
theorem z8r (H:CvC B w0 w hb X Z) {kd cls n:Int}(hf:Fits kd cls n):Calls Tryz.prog 65 #[.pointer (some ⟨Z.h,0,none⟩),.int .i64 kd,.int .i64 cls,.int .i64 n] w fun e w'=>e=.returned (.int .i64 0)∧Below w.heap.size w w':=(zal H.hv kd cls n).mono fun e w' q=>by
 obtain⟨⟨code,q1,q2⟩,q3⟩:=q
 rw[q1,q2.2 ⟨by have:=hf.1;omega,hf.2⟩]
 exact⟨rfl,q3⟩
def zbW (kd cls n:Int):Prop:=(1≤kd∧kd≤4)∧(kmin kd≤n∧n≤kmax kd)∧0≤cls
theorem Fits.four {kd cls n:Int}(h:Fits kd cls n):zbW kd cls n:=⟨by have:=h.1;omega,h.2⟩
theorem z4t (H:CvC B w0 w hb X Z) (t kd cls n:Int) (ht:0≤t∧t<X.T) (hf:Fits kd cls n) {R:Int→Int→World→Prop}
  (hQ:∀ w1,Below w.heap.size w w1→Calls Tryz.prog 66 #[.pointer (some ⟨hb,0,none⟩),.int .i64 t,.int .i64 kd,.int .i64 cls,.int .i64 n] w1 fun e w'=>∃ r c,e=.returned (.tuple #[.int .i64 r,.int .i64 c])∧R r c w'):
  Calls Tryz.prog 32 #[.pointer (some ⟨hb,0,none⟩),.int .i64 t,.int .i64 kd,.int .i64 cls,.int .i64 n] w fun e w'=>∃ r c,e=.returned (.tuple #[.int .i64 r,.int .i64 c])∧R r c w':=by
 have hA:=z0A H t ht
 have hlt:=H.hlt
 have c0:=H.c0
 have hC:=z8r H hf
 have d4:(kd == 4)=false:=by have:=hf.1;simp;omega
 have HQ:Hid (∀ w1,Below w.heap.size w w1→Calls Tryz.prog 66 #[.pointer (some ⟨hb,0,none⟩),.int .i64 t,.int .i64 kd,.int .i64 cls,.int .i64 n] w1 fun e w'=>∃ r c,e=.returned (.tuple #[.int .i64 r,.int .i64 c])∧R r c w'):=hQ
 clear H hf hQ ht
 go_enter Tryz.func32,Tryz.ntmps32
 go_wp2_with (first
  | (go_at_call 64;refine hA.mono ?_;rintro e w9 ⟨rfl,hw9⟩;replace hw9:=hw9.symm;subst hw9)
  | (go_at_call 65;refine hC.mono ?_;rintro e w1 ⟨rfl,hb1⟩;have hAd:=HQ.out w1 hb1;clear hC HQ)
  | (go_at_call 66;refine hAd.mono ?_;rintro e w2 ⟨r,c,rfl,hR⟩;have HR:Hid (R r c w2):=hR;clear hR hAd))
 go_ret2
 exact⟨r,c,rfl,HR.out⟩
theorem z4k (H:CvC B w0 w hb X Z) (t:Nat) (kd cls n:Int) (ht:t<X.T) (hr:64≤(X.rt t).length):
  Calls Tryz.prog 66 #[.pointer (some ⟨hb,0,none⟩),.int .i64 t,.int .i64 kd,.int .i64 cls,.int .i64 n] w fun e w'=>e=.returned (.tuple #[.int .i64 0,.int .i64 1203])∧w'=w:=by
 have hlt:=H.hlt
 have c2:=H.c2
 have hF:=z4V H.rts ht (H.rt t ht)
 rw[decide_eq_true hr] at hF
 have h8:=H.lim.2.2
 have hti:(t:Int)<(X.T:Int):=by omega
 generalize X.T=T at *
 clear H hr
 go_enter Tryz.func66,Tryz.ntmps66
 go_wp2_with (go_at_call 80;refine hF.mono ?_;rintro e w9 ⟨rfl,hw9⟩;replace hw9:=hw9.symm;subst hw9;clear hF)
 go_ret2
 exact⟨rfl,rfl⟩
theorem z6E (H:CvC B w0 w hb X Z) (t:Nat) (kd cls n:Int) (ht:t<X.T) (hf:Fits kd cls n) (hr:64≤(X.rt t).length):
  Calls Tryz.prog 32 #[.pointer (some ⟨hb,0,none⟩),.int .i64 t,.int .i64 kd,.int .i64 cls,.int .i64 n] w fun e w'=>e=.returned (.tuple #[.int .i64 0,.int .i64 1203])∧Below w.heap.size w w':=by
 refine (z4t H t kd cls n (by omega) hf (R:=fun r c w'=>(r=0∧c=1203)∧Below w.heap.size w w') fun w1 hb1=>(z4k (H.below hb1) t kd cls n ht hr).mono ?_).mono ?_
 ·rintro e w' ⟨rfl,rfl⟩
  exact⟨0,1203,rfl,⟨rfl,rfl⟩,hb1⟩
 ·rintro e w' ⟨r,c,rfl,⟨rfl,rfl⟩,hb1⟩
  exact⟨rfl,hb1⟩
end
end Go.Proofs.YthkelaeemefnaaaGreat
namespace Go.Proofs.YthkelaeemefnaaaGreat
open Go.RowKit
section
variable {B:Nat}{w0 w w':World}{hb:Nat}{X:Cm}{Z:Cx}
theorem z67 (W s:Nat):((z06 W:Int)-s)-z2g W=((W/4:Nat):Int)-s:=by unfold z2g;omega
structure Rdy (w:World) (hb:Nat) (X:Cm) (Z:Cx) (t:Nat):Prop where
 c0:w.cell? ⟨hb,0,none⟩=some (.pointer (some ⟨Z.h,0,none⟩))
 c1:w.cell? ⟨hb,1,none⟩=some (.int .i64 (z2g X.W))
 c2:w.cell? ⟨hb,2,none⟩=some (.slice (some ⟨Z.rb,0,none⟩) X.T X.T)
 hlt:hb<w.heap.size
 full:Calls Tryz.prog 80 #[.pointer (some ⟨Z.rb,t,none⟩)] w fun e w'=>e=.returned (.bool false)∧w'=w
theorem CvC.rdy (H:CvC B w0 w hb X Z) {t:Nat}(ht:t<X.T) (hr:(X.rt t).length<64):Rdy w hb X Z t:=by
 have:=z4V H.rts ht (H.rt t ht)
 rw[decide_eq_false (by omega)] at this
 exact⟨H.c0,H.c1,H.c2,H.hlt,this⟩
theorem z2s (kd:Int):kmax kd≤1000:=by unfold kmax;split<;>(try split)<;>omega
theorem z5s (H:CvC B w0 w hb X Z) (t:Nat) (kd cls:Int) (n:Nat) (ht:t<X.T) (hf:zbW kd cls n) (hr:(X.rt t).length<64) (hs:X.W/4<sumS X.S+(n+16)):
  Calls Tryz.prog 66 #[.pointer (some ⟨hb,0,none⟩),.int .i64 t,.int .i64 kd,.int .i64 cls,.int .i64 n] w fun e w'=>e=.returned (.tuple #[.int .i64 0,.int .i64 1201])∧Below w.heap.size w w':=by
 have hn:(n:Int)≤1000:=Int.le_trans hf.2.1.2 (z2s kd)
 have hCh:=z0U (n:Int) (by omega)
 have hR:=H.rdy ht hr
 have hRm:∀ q,Calls Tryz.prog 54 #[.pointer (some ⟨Z.h,0,none⟩)] (w.drewN q) fun e w'=>e=.returned (.int .i64 ((z06 X.W:Int)-sumS X.S))∧w'=w.drewN q:=fun q=>zai (H.below (z00 w q _)).hv
 have h8:=H.lim.2.2
 have hti:(t:Int)<(X.T:Int):=by omega
 have hro:=z67 X.W (sumS X.S)
 have hW:=H.lim.1.2
 have hov:=z5f X.W
 have hrm:0≤(z06 X.W:Int)-sumS X.S∧(z06 X.W:Int)-sumS X.S≤6000:=by
  have:=H.hv.facts.1
  have:z06 X.W≤6000:=by unfold z06;omega
  omega
 have hgt:((z06 X.W:Int)-sumS X.S)-z2g X.W<(n:Int)+16:=by rw[hro];omega
 obtain⟨k0,k1,k2,k3,hF⟩:=hR
 generalize (z06 X.W:Int)-sumS X.S=ro at *
 generalize z2g X.W=ov at *
 clear H hf hr hs hro
 go_enter Tryz.func66,Tryz.ntmps66
 go_wp2_with (go_at_call 80;refine hF.mono ?_;rintro e w9 ⟨rfl,hw9⟩;replace hw9:=hw9.symm;subst hw9;clear hF)
 go_quiet ((first|(go_at_call 56;exact Calls.quiet_of_same (hCh _))|(go_at_call 54;exact Calls.quiet_of_same (hRm _))))
 go_wp2
 go_ret2
 exact⟨rfl,z00 _ _ _⟩
theorem z8z (H:CvC B w0 w hb X Z) (t:Nat) (kd cls:Int) (n:Nat) (ht:t<X.T) (hf:Fits kd cls n) (hr:(X.rt t).length<64) (hs:X.W/4<sumS X.S+(n+16)):
  Calls Tryz.prog 32 #[.pointer (some ⟨hb,0,none⟩),.int .i64 t,.int .i64 kd,.int .i64 cls,.int .i64 n] w fun e w'=>e=.returned (.tuple #[.int .i64 0,.int .i64 1201])∧Below w.heap.size w w':=by
 refine (z4t H t kd cls n (by omega) hf (R:=fun r c w'=>(r=0∧c=1201)∧Below w.heap.size w w') fun w1 hb1=>(z5s (H.below hb1) t kd cls n ht hf.four hr hs).mono ?_).mono ?_
 ·rintro e w' ⟨rfl,hb2⟩
  exact⟨0,1201,rfl,⟨rfl,rfl⟩,hb1.trans (hb2.mono hb1.size)⟩
 ·rintro e w' ⟨r,c,rfl,⟨rfl,rfl⟩,hb1⟩
  exact⟨rfl,hb1⟩
def z59 (B:Nat) (w0 w:World) (hb:Nat) (Z:Cx) (X:Cm) (t:Nat) (kd cls:Int) (n:Nat) (e:Ending) (w':World):Prop :=
 ∃ (i:Nat) (S':List (Option Cel)) (a:Int) (c':Int→Int),e=.returned (.tuple #[.int .i64 ((i:Int)+1),.int .i64 0])∧z23 X.S S' i ⟨kd,cls,n,a⟩∧CcT B w0 w hb Z { X with m:=X.m+500,c:=c',S:=S',F:=setF X.F i (fun _=>0),rt:=setL X.rt t (X.rt t++[(i:Int)+1]) } w'
theorem zaE (H:CvC B w0 w hb X Z) (hm:X.m≤2000000) (t:Nat) (kd cls:Int) (n:Nat) (ht:t<X.T) (hf:zbW kd cls n) (hr:(X.rt t).length<64) (hs:sumS X.S+(n+16)≤X.W/4):
  Calls Tryz.prog 66 #[.pointer (some ⟨hb,0,none⟩),.int .i64 t,.int .i64 kd,.int .i64 cls,.int .i64 n] w (z59 B w0 w hb Z X t kd cls n):=by
 have hn:(n:Int)≤1000:=Int.le_trans hf.2.1.2 (z2s kd)
 have hCh:=z0U (n:Int) (by omega)
 have hR:=H.rdy ht hr
 have hRm:∀ q,Calls Tryz.prog 54 #[.pointer (some ⟨Z.h,0,none⟩)] (w.drewN q) fun e w'=>e=.returned (.int .i64 ((z06 X.W:Int)-sumS X.S))∧w'=w.drewN q:=fun q=>zai (H.below (z00 w q _)).hv
 have HMk:Hid (∀ q,Calls Tryz.prog 94 #[.pointer (some ⟨Z.h,0,none⟩),.int .i64 t,.int .i64 kd,.int .i64 cls,.int .i64 n] (w.drewN q) fun e w2=>∃ (i:Nat),e=.returned (.tuple #[.int .i64 ((i:Int)+1),.int .i64 0])∧(w2.cell? ⟨hb,2,none⟩=some (.slice (some ⟨Z.rb,0,none⟩) X.T X.T)∧hb<w2.heap.size)∧Calls Tryz.prog 81 #[.pointer (some ⟨Z.rb,t,none⟩),.int .i64 ((i:Int)+1)] w2 fun e w3=>e=.returned (.tuple #[])∧z59 B w0 w hb Z X t kd cls n (.returned (.tuple #[.int .i64 ((i:Int)+1),.int .i64 0])) w3):=fun q=>by
  have bq:Below w.heap.size w (w.drewN q):=z00 w q _
  have H1:=H.below bq
  have hk:=hf.1
  refine (zfh H1.hv hm t kd cls n n rfl (by omega) hk hf.2.1 hf.2.2 (by have:X.W/4≤z06 X.W:=(by unfold z06;omega);omega)).mono ?_
  rintro e w2 ⟨i,S',a,c',rfl,hAd,hT⟩
  obtain⟨P2,H2,b2,d2⟩:=CcH.after bq (H1.cells (S:=S') (by rw[hAd.sum];exact hs) hT)
  refine⟨i,rfl,⟨H2.c2,H2.hlt⟩,(z9E H2.rts ht (H2.rt t ht) H2.hv.size (by show (X.rt t).length≤100000;omega) ((i:Int)+1)).mono ?_⟩
  rintro e w3 ⟨rfl,hP⟩
  exact⟨rfl,i,S',a,c',rfl,hAd,CcT.then b2 d2 (H2.root ht (by rw[List.length_append];show (X.rt t).length+1≤64;omega) hP)⟩
 have h8:=H.lim.2.2
 have hti:(t:Int)<(X.T:Int):=by omega
 have hro:=z67 X.W (sumS X.S)
 have hW:=H.lim.1.2
 have hov:=z5f X.W
 have hrm:0≤(z06 X.W:Int)-sumS X.S∧(z06 X.W:Int)-sumS X.S≤6000:=by
  have:=H.hv.facts.1
  have:z06 X.W≤6000:=by unfold z06;omega
  omega
 have hgt:¬ ((z06 X.W:Int)-sumS X.S)-z2g X.W<(n:Int)+16:=by rw[hro];omega
 obtain⟨k0,k1,k2,k3,hF⟩:=hR
 generalize (z06 X.W:Int)-sumS X.S=ro at *
 generalize z2g X.W=ov at *
 have hgd:decide (ro-ov<(n:Int)+16)=false:=by simpa using hgt
 clear H hf hr hs hro
 go_enter Tryz.func66,Tryz.ntmps66
 go_wp2_with (go_at_call 80;refine hF.mono ?_;rintro e w9 ⟨rfl,hw9⟩;replace hw9:=hw9.symm;subst hw9;clear hF)
 go_quiet ((first|(go_at_call 56;exact Calls.quiet_of_same (hCh _))|(go_at_call 54;exact Calls.quiet_of_same (hRm _))))
 have hMk:=HMk.out nq
 clear HMk
 go_wp2_with (first
  | (go_at_call 94;refine hMk.mono ?_;rintro e w2 ⟨i,rfl,k5,hPu⟩;clear hMk)
  | (go_at_call 81;refine hPu.mono ?_;rintro e w3 ⟨rfl,hP⟩;have HP:Hid (z59 B w0 w hb Z X t kd cls n (.returned (.tuple #[.int .i64 ((i:Int)+1),.int .i64 0])) w3):=hP;clear hP hPu))
 go_ret2
 exact HP.out
theorem z4I (H:CvC B w0 w hb X Z) (hm:X.m≤2000000) (t:Nat) (kd cls:Int) (n:Nat) (ht:t<X.T) (hf:Fits kd cls n) (hr:(X.rt t).length<64) (hs:sumS X.S+(n+16)≤X.W/4):
  Calls Tryz.prog 32 #[.pointer (some ⟨hb,0,none⟩),.int .i64 t,.int .i64 kd,.int .i64 cls,.int .i64 n] w (z59 B w0 w hb Z X t kd cls n):=by
 refine (z4t H t kd cls n (by omega) hf (R:=fun r c w'=>z59 B w0 w hb Z X t kd cls n (.returned (.tuple #[.int .i64 r,.int .i64 c])) w') fun w1 hb1=>(zaE (H.below hb1) hm t kd cls n ht hf.four hr hs).mono ?_).mono ?_
 ·rintro e w' ⟨i,S',a,c',rfl,hAd,hT⟩
  exact⟨_,_,rfl,i,S',a,c',rfl,hAd,CcT.after hb1 hT⟩
 ·rintro e w' ⟨r,c,rfl,hR⟩
  exact hR
theorem z7w (H:CvC B w0 w hb X Z) (hm:X.m≤2000000):Calls Tryz.prog 47 #[.pointer (some ⟨hb,0,none⟩)] w (z7i w X.S):=by
 have hlt:=H.hlt
 have c0:=H.c0
 have hR:=zde H.hv hm
 clear H
 go_enter Tryz.func47,Tryz.ntmps47
 go_wp2_with (go_at_call 83;refine hR.mono ?_;rintro e w1 ⟨v,rfl,hr,hb1⟩;clear hR)
 go_ret
 exact⟨v,rfl,hr,hb1⟩
theorem z3l (H:CvC B w0 w hb X Z):Calls Tryz.prog 75 #[.pointer (some ⟨hb,0,none⟩)] w fun e w'=>e=.returned (.int .i64 X.ph)∧w'=w:=by
 have hlt:=H.hlt
 have c12:=H.c12
 generalize X.ph=p at *
 clear H
 go_enter Tryz.func75,Tryz.ntmps75
 go_wp2
 go_ret
 exact⟨rfl,rfl⟩
end
end Go.Proofs.YthkelaeemefnaaaGreat
namespace Go.Proofs.YthkelaeemefnaaaGreat
open Go.RowKit
structure Sd (B:Nat) (w0 w:World) (hb:Nat) (X:Cm) (Z:Cx) (O:Nat→Prop):Prop where
 cv:CvC B w0 w hb X Z
 out:∀ k,O k→¬ Z.all hb X.T k∧k<w.heap.size∧B≤k
section
variable {B:Nat}{w0 w w':World}{hb:Nat}{X:Cm}{Z:Cx}{O:Nat→Prop}
theorem Sd.call (H:Sd B w0 w hb X Z O) {X':Cm}(hT:CcT B w0 w hb Z X' w') (e:X'.T=X.T):(∃ Z',Sd B w0 w' hb X' Z' O)∧∀ k,O k→w'.heap[k]?=w.heap[k]?:=by
 obtain⟨Z',h1,h2,h3⟩:=hT
 rw[e] at h2 h3
 exact⟨⟨Z',h1,fun k hk=>⟨by rw[e];exact fun r=>(h3 k r).elim (H.out k hk).1 (fun q=>by have:=(H.out k hk).2.1;omega),Nat.lt_of_lt_of_le (H.out k hk).2.1 h2.size,(H.out k hk).2.2⟩⟩,fun k hk=>h2.block k (H.out k hk).2.1 (H.out k hk).1⟩
theorem Sd.below (H:Sd B w0 w hb X Z O) (b:Below w.heap.size w w'):Sd B w0 w' hb X Z O∧∀ k,O k→w'.heap[k]?=w.heap[k]? :=
 ⟨⟨H.cv.below b,fun k hk=>⟨(H.out k hk).1,Nat.lt_of_lt_of_le (H.out k hk).2.1 b.size,(H.out k hk).2.2⟩⟩,fun k hk=>b.block k (H.out k hk).2.1⟩
theorem Sd.mine (H:Sd B w0 w hb X Z O) {O':Nat→Prop}(hB:Bt O w w') (hO:∀ k,O' k→O k∨(w.heap.size≤k∧k<w'.heap.size)):Sd B w0 w' hb X Z O':=by
 refine⟨H.cv.keep (fun k hk=>hB.block k (H.cv.all_lt hk) (fun q=>(H.out k q).1 hk)) hB.size (Bt.under H.cv.hv.bel H.cv.hv.size (fun k hk=>(H.out k hk).2.2) hB),fun k hk=>?_⟩
 rcases hO k hk with q|q
 ·exact⟨(H.out k q).1,Nat.lt_of_lt_of_le (H.out k q).2.1 hB.size,(H.out k q).2.2⟩
 ·exact⟨fun r=>by have:=H.cv.all_lt r;omega,q.2,Nat.le_trans H.cv.hv.size q.1⟩
theorem Sd.less (H:Sd B w0 w hb X Z O) {O':Nat→Prop}(h:∀ k,O' k→O k):Sd B w0 w hb X Z O':=⟨H.cv,fun k hk=>H.out k (h k hk)⟩
theorem Sd.app (H:Sd B w0 w hb X Z O) {v:Value}{U:List Int}(hU:Ri w B v U) (hv:∀ k,v.ownBlock=some k→O k) (hl:U.length≤100000) (x:Int):
  ∃ ao cap ao' cap' w3,v=.slice ao U.length cap∧(appC #[32,32] 32 #[.slice ao U.length cap,.slice (some ⟨w.heap.size,0,none⟩) 1 1]).run Tryz.prog (w.alloc (.cells #[.int .i64 x] 3))=.ok (.slice ao' (U.length+1) cap') w3 ∧
   Ri w3 B (.slice ao' (U.length+1) cap') (U++[x])∧Sd B w0 w3 hb X Z (fun k=>O k∨(Value.slice ao' (U.length+1) cap').ownBlock=some k)∧(∀ k,O k→v.ownBlock≠some k→w3.heap[k]?=w.heap[k]?)∧((Value.slice ao' (U.length+1) cap').ownBlock=v.ownBlock∨∃ j,(Value.slice ao' (U.length+1) cap').ownBlock=some j∧w.heap.size≤j):=by
 obtain⟨ao,cap,rfl⟩:=hU.form
 obtain⟨ao',cap',w3,hrun,hU3,hg,hat⟩:=hU.more x H.cv.hv.size hl (heap_alloc_new w (.cells #[.int .i64 x] 3)) ((Below.refl _ _).alloc (Nat.le_refl _) _)
 have hB:Bt O w w3:=⟨hg.os,hg.tape,hg.output,hg.size,fun k hk q=>hg.block k hk (fun z=>q (hv k z.symm))⟩
 refine⟨ao,cap,ao',cap',w3,rfl,hrun,hU3,H.mine hB (fun k hk=>?_),fun k hk hne=>hg.block k (H.out k hk).2.1 (fun z=>hne z.symm),hat⟩
 rcases hk with q|q
 ·exact .inl q
 ·rcases hat with z|⟨j,z1,z2⟩
  ·rw[z] at q;exact .inl (hv k q)
  ·rw[z1] at q;simp at q;subst q
   exact .inr ⟨z2,(hU3.lt z1).2⟩
end
end Go.Proofs.YthkelaeemefnaaaGreat
