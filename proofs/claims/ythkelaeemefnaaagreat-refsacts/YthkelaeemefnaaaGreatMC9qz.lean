import Derived.Test.YthkelaeemefnaaaGreatMC3qz
set_option maxRecDepth 20000
set_option maxHeartbeats 1000000
namespace Go.Proofs.YthkelaeemefnaaaGreat
open Go.RowKit
section
variable {B:Nat}{w0 w w':World}{hb:Nat}{X:Cm}{Z:Cx}
theorem z7H (H:CvC B w0 w hb X Z) (r a b c d e:Int) (hC:∀ u,Below w.heap.size w u→Calls Tryz.prog 67 #[.pointer (some ⟨Z.h,0,none⟩),.int .i64 r] u fun e w'=>e=.returned (.tuple #[.agg #[.int .i64 a,.int .i64 b,.int .i64 c],.int .i64 d])∧Below u.heap.size u w') (hO:∀ u,Calls Tryz.prog 68 #[.int .i64 d] u fun x w'=>x=.returned (.int .i64 e)∧w'=u):
  Calls Tryz.prog 86 #[.pointer (some ⟨hb,0,none⟩),.int .i64 r] w fun x w'=>x=.returned (.tuple #[.agg #[.int .i64 a,.int .i64 b,.int .i64 c],.int .i64 e])∧Below w.heap.size w w':=by
 have hb0:=(Below.refl w.heap.size w).alloc (Nat.le_refl _) (.cells #[.int .i64 0,.int .i64 0,.int .i64 0] 98)
 have hz0:=heap_alloc_new w (.cells #[.int .i64 0,.int .i64 0,.int .i64 0] 98)
 have H1:=H.below hb0
 have hlt:=H1.hlt
 have c0:=H1.c0
 have hF:=hC _ hb0
 have HB:Hid (∀ w1,Below (w.alloc (.cells #[.int .i64 0,.int .i64 0,.int .i64 0] 98)).heap.size (w.alloc (.cells #[.int .i64 0,.int .i64 0,.int .i64 0] 98)) w1→Below w.heap.size w w1∧w1.heap[w.heap.size]?=some (.cells #[.int .i64 0,.int .i64 0,.int .i64 0] 98 (0,0))):=fun w1 hb =>
  ⟨hb0.trans (hb.mono hb0.size),(hb.block _ (by rw[Go.Deep.nblk_alloc];omega)).trans hz0⟩
 clear H H1 hb0 hz0 hC
 go_enter Tryz.func86,Tryz.ntmps86
 go_wp2_with (go_at_call 67;refine hF.mono ?_;rintro e w1 ⟨rfl,hb⟩;obtain⟨hb1,hz1⟩:=HB.out w1 hb;have k2:=z6e hz1;have k3:=z02 hz1;clear hF hb)
 have hz2:=z01 hz1 (.cells #[.int .i64 a,.int .i64 b,.int .i64 c] 98)
 have hz3:=heap_alloc_new w1 (.cells #[.int .i64 a,.int .i64 b,.int .i64 c] 98)
 have hb2:Below w.heap.size w (w1.alloc (.cells #[.int .i64 a,.int .i64 b,.int .i64 c] 98)):=hb1.alloc hb1.size _
 obtain⟨⟨k4,k5,k6⟩,_⟩:=z6e hz3
 obtain⟨⟨k7,k8,k9⟩,k10⟩:=z6e hz2
 have k11:=z02 hz2
 have k12:=z02 hz3
 have kne:w.heap.size≠w1.heap.size:=by omega
 clear k2 hz1 hb1 HB hz3
 generalize hW:w1.alloc (.cells #[.int .i64 a,.int .i64 b,.int .i64 c] 98)=W at *
 clear hW
 go_region_held3 (fun w'=>w'.cell? ⟨w1.heap.size,0,none⟩=some (.int .i64 a)∧w'.cell? ⟨w1.heap.size,1,none⟩=some (.int .i64 b)∧w'.cell? ⟨w1.heap.size,2,none⟩=some (.int .i64 c)) (go_keep) ((go_at_call 68;refine (hO _).mono ?_;rintro e w9 ⟨rfl,hw9⟩;replace hw9:=hw9.symm;subst hw9))
 go_wp2
 exact bodyPost_ret (z0j rfl _ _ w.heap.size 98 _ (0,0) _ rfl (z25 hz2) Tryz.underlying98 rfl zdL) rfl ⟨rfl,(z0X hb2 (Nat.le_refl _)).drew⟩
theorem z4X (H:CvC B w0 w hb X Z) (hm:X.m≤2000000) {k:Nat}{cl:Cel}(hk:X.S[k]?=some (some cl)) (r:Int) (hr:r=(k:Int)+1):
  Calls Tryz.prog 86 #[.pointer (some ⟨hb,0,none⟩),.int .i64 r] w fun x w'=>x=.returned (.tuple #[.agg #[.int .i64 cl.kind,.int .i64 cl.cls,.int .i64 cl.n],.int .i64 0])∧Below w.heap.size w w':=by
 subst hr
 exact z7H H _ cl.kind cl.cls cl.n 0 0 (fun _ bu=>z7L (H.below bu).hv hm hk) ze4
theorem z7J (H:CvC B w0 w hb X Z) (hm:X.m≤2000000) (r:Int) (hr:z0a X.S r=none):
  Calls Tryz.prog 86 #[.pointer (some ⟨hb,0,none⟩),.int .i64 r] w fun x w'=>x=.returned (.tuple #[.agg #[.int .i64 0,.int .i64 0,.int .i64 0],.int .i64 1205])∧Below w.heap.size w w' :=
 z7H H r 0 0 0 904 1205 (fun _ bu=>z39 (H.below bu).hv hm r (z0Y hr)) zcr
end
end Go.Proofs.YthkelaeemefnaaaGreat
namespace Go.Proofs.YthkelaeemefnaaaGreat
open Go.RowKit
section
variable {B:Nat}{w0 w w':World}{hb:Nat}{X:Cm}{Z:Cx}
def Tr.white (T:Tr) (r:Int):Bool:=hasK T.row r&&(T.col (posK T.row r) == 1)
theorem zaK (H:CvC B w0 w hb X Z) (r:Int):
  Calls Tryz.prog 105 #[.pointer (some ⟨hb,4,none⟩),.int .i64 r] w fun e w'=>e=.returned (.bool (X.tr.white r))∧w'=w:=by
 have hlt:=H.hlt
 have c6:=H.c6
 have hS:=bsI H.row H.ok.rise (by have:=H.row_few;omega) r
 obtain⟨ao,cap,hv⟩:=H.row.form
 rw[hv] at c6 hS
 cases hh:hasK X.tr.row r with
 | false =>
  have e:X.tr.white r=false:=by unfold Tr.white;rw[hh];rfl
  rw[e]
  rw[hh] at hS
  clear H hv hh e
  generalize posK X.tr.row r=P at *
  generalize X.tr.row.length=N at *
  go_enter Tryz.func105,Tryz.ntmps105
  go_wp2_with (go_at_call 97;refine hS.mono ?_;rintro e w9 ⟨rfl,hw9⟩;replace hw9:=hw9.symm;subst hw9)
  go_ret
  exact⟨rfl,rfl⟩
 | true =>
  have hW:=z7C H (posK X.tr.row r) (z6F H.ok.rise hh)
  have e:X.tr.white r=(X.tr.col (posK X.tr.row r) == 1):=by unfold Tr.white;rw[hh];rfl
  rw[e]
  rw[hh] at hS
  clear H hv hh e
  generalize (X.tr.col (posK X.tr.row r) == 1)=b at *
  generalize posK X.tr.row r=P at *
  generalize X.tr.row.length=N at *
  go_enter Tryz.func105,Tryz.ntmps105
  go_wp2_with (first
   | (go_at_call 97;refine hS.mono ?_;rintro e w9 ⟨rfl,hw9⟩;replace hw9:=hw9.symm;subst hw9)
   | (go_at_call 129;refine hW.mono ?_;rintro e w9 ⟨rfl,hw9⟩;replace hw9:=hw9.symm;subst hw9))
  go_ret
  exact⟨rfl,rfl⟩
def Cm.unr (X:Cm) (r:Int):Bool:=(X.ph == 2)&&X.tr.white r
theorem zaU (H:CvC B w0 w hb X Z) (r:Int):
  Calls Tryz.prog 78 #[.pointer (some ⟨hb,0,none⟩),.int .i64 r] w fun e w'=>e=.returned (.bool (X.unr r))∧w'=w:=by
 have hlt:=H.hlt
 have hP:=z3l H
 have hW:=zaK H r
 unfold Cm.unr
 clear H
 generalize X.tr.white r=b at *
 cases hp:(X.ph == 2) with
 | false =>
  generalize X.ph=p at *
  go_enter Tryz.func78,Tryz.ntmps78
  go_wp2_with (go_at_call 75;refine hP.mono ?_;rintro e w9 ⟨rfl,hw9⟩;replace hw9:=hw9.symm;subst hw9)
  go_ret
  exact⟨rfl,rfl⟩
 | true =>
  generalize X.ph=p at *
  go_enter Tryz.func78,Tryz.ntmps78
  go_wp2_with (first
   | (go_at_call 75;refine hP.mono ?_;rintro e w9 ⟨rfl,hw9⟩;replace hw9:=hw9.symm;subst hw9)
   | (go_at_call 105;refine hW.mono ?_;rintro e w9 ⟨rfl,hw9⟩;replace hw9:=hw9.symm;subst hw9))
  go_ret
  exact⟨rfl,rfl⟩
theorem zc9 (H:CvC B w0 w hb X Z) (r:Int) (hp:X.ph=1∨X.ph=2):
  Calls Tryz.prog 74 #[.pointer (some ⟨hb,0,none⟩),.int .i64 r] w fun e w'=>e=.returned (.tuple #[])∧CcS B w0 w hb Z { X with tr:=X.tr.mark r,ph:=1 } w':=by
 have hlt:=H.hlt
 have hP:=z3l H
 have HX:Hid (Calls Tryz.prog 71 #[.pointer (some ⟨hb,4,none⟩),.int .i64 r] w fun e w'=>e=.returned (.tuple #[])∧((∃ v,w'.cell? ⟨hb,12,none⟩=some v)∧hb<w'.heap.size∧w'.frozen? ⟨hb,12,none⟩=false)∧CcS B w0 w hb Z { X with tr:=X.tr.mark r,ph:=1 } (w'.setCell ⟨hb,12,none⟩ (.int .i64 1))):=(z32 H r).mono fun e w' q=>by
  obtain⟨q1,H1,b1⟩:=q
  obtain⟨h1,h2⟩:=H1.set 12 (.int .i64 1) (tr:=X.tr.mark r) (ph:=1) (cy:=X.cy) rfl rfl rfl H1.ok.swl H1.ok.lk (by simp[cst])
  exact⟨q1,⟨⟨_,H1.c12⟩,H1.hlt,H1.fz 12⟩,h1,b1.trans h2⟩
 have hM:=HX.out
 clear HX H
 rcases hp with hp|hp
 ·rw[hp] at hP
  go_enter Tryz.func74,Tryz.ntmps74
  go_wp2_with (first
   | (go_at_call 75;refine hP.mono ?_;rintro e w9 ⟨rfl,hw9⟩;replace hw9:=hw9.symm;subst hw9)
   | (go_at_call 71;refine hM.mono ?_;rintro e w1 ⟨rfl,⟨⟨v1,k1⟩,k2,k3⟩,hT⟩;have HT:Hid (CcS B w0 w hb Z { X with tr:=X.tr.mark r,ph:=1 } (w1.setCell ⟨hb,12,none⟩ (.int .i64 1))):=hT;clear hM hT))
  go_end0
  exact⟨rfl,HT.out⟩
 ·rw[hp] at hP
  go_enter Tryz.func74,Tryz.ntmps74
  go_wp2_with (first
   | (go_at_call 75;refine hP.mono ?_;rintro e w9 ⟨rfl,hw9⟩;replace hw9:=hw9.symm;subst hw9)
   | (go_at_call 71;refine hM.mono ?_;rintro e w1 ⟨rfl,⟨⟨v1,k1⟩,k2,k3⟩,hT⟩;have HT:Hid (CcS B w0 w hb Z { X with tr:=X.tr.mark r,ph:=1 } (w1.setCell ⟨hb,12,none⟩ (.int .i64 1))):=hT;clear hM hT))
  go_end0
  exact⟨rfl,HT.out⟩
theorem zaa (H:CvC B w0 w hb X Z) (hm:X.m≤2000000) (r:Int) (hr:∀ cl,z0a X.S r=some cl→cl.kind≠4):
  Calls Tryz.prog 77 #[.pointer (some ⟨hb,0,none⟩),.int .i64 r] w fun e w'=>e=.returned (.bool false)∧Below w.heap.size w w':=by
 cases hc:z0a X.S r with
 | none =>
  have hC:=z7J H hm r hc
  clear H hr hc
  go_enter Tryz.func77,Tryz.ntmps77
  go_wp2_with (go_at_call 86;refine hC.mono ?_;rintro e w1 ⟨rfl,hb1⟩)
  go_ret
  exact⟨rfl,hb1.alloc hb1.size _⟩
 | some cl =>
  obtain⟨i,rfl,hi⟩:=z0d hc
  have hC:=z4X H hm hi _ rfl
  have k4:(cl.kind != 4)=true:=by simpa using hr cl hc
  generalize cl.kind=kd at *
  clear H hr hc hi
  go_enter Tryz.func77,Tryz.ntmps77
  go_wp2_with (go_at_call 86;refine hC.mono ?_;rintro e w1 ⟨rfl,hb1⟩)
  go_ret
  exact⟨rfl,hb1.alloc hb1.size _⟩
def z7M (B:Nat) (w0 w:World) (hb:Nat) (Z:Cx) (X:Cm) (k:Nat) (e:Ending) (w':World):Prop :=
 (X.unr (X.F k 0)=false∧e=.returned (.bool false)∧∃ c',CcT B w0 w hb Z { X with m:=X.m+1,c:=c' } w') ∨
 (X.unr (X.F k 0)=true∧e=.returned (.bool true)∧∃ c',CcT B w0 w hb Z { X with m:=X.m+2,c:=c',F:=setF X.F k (fun l=>if l=0 then 0 else X.F k l) } w')
theorem z9x (H:CvC B w0 w hb X Z) (hm:X.m≤1999999) {k:Nat}{cl:Cel}(hk:X.S[k]?=some (some cl)) (h4:cl.kind=4) (hn:1≤cl.n) (r:Int) (hr:r=(k:Int)+1):
  Calls Tryz.prog 77 #[.pointer (some ⟨hb,0,none⟩),.int .i64 r] w (z7M B w0 w hb Z X k):=by
 have hC:=z4X H (by omega) hk r hr
 rw[h4] at hC
 have hT3:X.T≤8:=H.lim.2.2
 have HX:Hid (∀ w1,Below w.heap.size w w1→(w1.cell? ⟨hb,0,none⟩=some (.pointer (some ⟨Z.h,0,none⟩))∧w1.cell? ⟨hb,5,none⟩=some (.int .i64 X.T)∧hb<w1.heap.size)∧Calls Tryz.prog 85 #[.pointer (some ⟨Z.h,0,none⟩),.int .i64 X.T,.int .i64 r,.int .i64 0] w1 fun e w2=>e=.returned (.tuple #[.int .i64 (X.F k 0),.int .i64 0])∧(w2.cell? ⟨hb,0,none⟩=some (.pointer (some ⟨Z.h,0,none⟩))∧w2.cell? ⟨hb,5,none⟩=some (.int .i64 X.T))∧hb<w2.heap.size∧∃ c' P2,c' X.T≤X.c X.T+12∧CvC B w0 w2 hb { X with m:=X.m+1,c:=c' } { Z with P:=P2 }∧Bt (Z.all hb X.T) w w2∧Wider (Z.all hb X.T) (({ Z with P:=P2 }:Cx).all hb X.T) w):=fun w1 b1=>by
  subst hr
  have H1:=H.below b1
  refine⟨⟨H1.c0,H1.c5,H1.hlt⟩,(z9A H1.hv (by omega) hk X.T 0 0 (by omega) rfl (by omega)).mono ?_⟩
  rintro e w2 ⟨rfl,c',u1,u2,hT⟩
  obtain⟨P2,H2,b2,d2⟩:=CcH.after b1 (H1.cells H.fit hT)
  exact⟨rfl,⟨H2.c0,H2.c5⟩,H2.hlt,c',P2,u1,H2,b2,d2⟩
 obtain⟨v,hv⟩:∃ v,v=X.F k 0:=⟨_,rfl⟩
 have HV:Hid (v=X.F k 0):=hv
 rw[← hv] at HX
 have HU:Hid (∀ w2 c' P2,CvC B w0 w2 hb { X with m:=X.m+1,c:=c' } { Z with P:=P2 }→Bt (Z.all hb X.T) w w2→Wider (Z.all hb X.T) (({ Z with P:=P2 }:Cx).all hb X.T) w→(∀ u,Below w2.heap.size w2 u→Calls Tryz.prog 78 #[.pointer (some ⟨hb,0,none⟩),.int .i64 v] u fun e w'=>e=.returned (.bool (X.unr v))∧w'=u)∧∀ u,Below w2.heap.size w2 u→(X.unr v=false→z7M B w0 w hb Z X k (.returned (.bool false)) u)∧(X.unr v=true→Calls Tryz.prog 69 #[.pointer (some ⟨Z.h,0,none⟩),.int .i64 X.T,.int .i64 r,.int .i64 0,.int .i64 0] u fun e w3=>e=.returned (.int .i64 0)∧(w3.cell? ⟨hb,0,none⟩=some (.pointer (some ⟨Z.h,0,none⟩))∧w3.cell? ⟨hb,5,none⟩=some (.int .i64 X.T))∧z7M B w0 w hb Z X k (.returned (.bool true)) w3)):=fun w2 c' P2 H2 b2 d2=>by
  subst hr
  refine⟨fun _ bu=>zaU (H2.below bu) v,fun u bu=>⟨fun h=>.inl ⟨by rw[← HV.out];exact h,rfl,c',CcT.then b2 d2 (CcT.after bu (H2.below bu).same)⟩,fun h=>?_⟩⟩
  have H3:=H2.below bu
  refine (zet H3.hv (by show X.m+1≤2000000;omega) hk X.T 0 0 0 (by show 0≤(X.T:Int)∧(X.T:Int)<((X.T+1:Nat):Int);omega) rfl (by omega)).mono ?_
  rintro e w3 ⟨rfl,c3,u3,_,hT⟩
  obtain⟨P4,H4,b4,d4⟩:=CcH.after bu (H3.cells H.fit hT)
  exact⟨rfl,⟨H4.c0,H4.c5⟩,.inr ⟨by rw[← HV.out];exact h,rfl,c3,CcT.then b2 d2 ⟨_,H4,b4,d4⟩⟩⟩
 clear H hk hv hr h4 hn hm
 cases hu:X.unr v with
 | false =>
  rw[hu] at HU
  go_enter Tryz.func77,Tryz.ntmps77
  go_wp2_with (go_at_call 86;refine hC.mono ?_;rintro e w1 ⟨rfl,hb1⟩;have hb2:Below w.heap.size w (w1.alloc (.cells #[.int .i64 4,.int .i64 cl.cls,.int .i64 cl.n] 98)):=hb1.alloc hb1.size _;obtain⟨⟨k1,k2,k3⟩,_⟩:=HX.out _ hb2;clear hC)
  generalize hW:w1.alloc (.cells #[.int .i64 4,.int .i64 cl.cls,.int .i64 cl.n] 98)=W at *
  go_region_held3 (fun w'=>w'.cell? ⟨hb,0,none⟩=some (.pointer (some ⟨Z.h,0,none⟩))∧w'.cell? ⟨hb,5,none⟩=some (.int .i64 X.T)) (go_keep) ((go_at_call 85;refine (HX.out _ (by first|exact hb2.drew.drew|exact hb2.drew)).2.mono ?_;rintro e w2 ⟨rfl,⟨k4,k5⟩,k6,c',P2,_,H2,b2,d2⟩;obtain⟨hU,hU2⟩:=HU.out w2 c' P2 H2 b2 d2;clear HX HU H2 b2 d2))
  go_wp2
  have hUq:∀ n,Calls Tryz.prog 78 #[.pointer (some ⟨hb,0,none⟩),.int .i64 v] (w2.drewN n) fun e w'=>e=.returned (.bool false)∧w'=w2.drewN n:=fun n=>hU _ (z00 w2 n _)
  clear hU
  go_quiet ((go_at_call 78;exact Calls.quiet_of_same (hUq _)))
  go_wp2
  go_ret
  exact (hU2 _ (z00 w2 _ _)).1 trivial
 | true =>
  rw[hu] at HU
  go_enter Tryz.func77,Tryz.ntmps77
  go_wp2_with (go_at_call 86;refine hC.mono ?_;rintro e w1 ⟨rfl,hb1⟩;have hb2:Below w.heap.size w (w1.alloc (.cells #[.int .i64 4,.int .i64 cl.cls,.int .i64 cl.n] 98)):=hb1.alloc hb1.size _;obtain⟨⟨k1,k2,k3⟩,_⟩:=HX.out _ hb2;clear hC)
  generalize hW:w1.alloc (.cells #[.int .i64 4,.int .i64 cl.cls,.int .i64 cl.n] 98)=W at *
  go_region_held3 (fun w'=>w'.cell? ⟨hb,0,none⟩=some (.pointer (some ⟨Z.h,0,none⟩))∧w'.cell? ⟨hb,5,none⟩=some (.int .i64 X.T)) (go_keep) ((go_at_call 85;refine (HX.out _ (by first|exact hb2.drew.drew|exact hb2.drew)).2.mono ?_;rintro e w2 ⟨rfl,⟨k4,k5⟩,k6,c',P2,_,H2,b2,d2⟩;obtain⟨hU,hU2⟩:=HU.out w2 c' P2 H2 b2 d2;clear HX HU H2 b2 d2))
  go_wp2
  go_region_held3 (fun w'=>w'.cell? ⟨hb,0,none⟩=some (.pointer (some ⟨Z.h,0,none⟩))∧w'.cell? ⟨hb,5,none⟩=some (.int .i64 X.T)) (go_keep) ((first
   | (go_at_call 78;refine (hU _ (by first|exact (Below.refl _ _).drew.drew|exact (Below.refl _ _).drew)).mono ?_;rintro e w9 ⟨rfl,hw9⟩;replace hw9:=hw9.symm;subst hw9)
   | (go_at_call 69;refine ((hU2 _ (by first|exact (Below.refl _ _).drew.drew|exact (Below.refl _ _).drew)).2 trivial).mono ?_;rintro e w3 ⟨rfl,⟨k7,k8⟩,hP⟩;have HP:Hid (z7M B w0 w hb Z X k (.returned (.bool true)) w3):=hP;clear hP hU2)))
  go_wp2
  go_ret
  exact HP.out
end
end Go.Proofs.YthkelaeemefnaaaGreat
namespace Go.Proofs.YthkelaeemefnaaaGreat
open Go.RowKit
section
variable {B:Nat}{w0 w w':World}{hb:Nat}{X:Cm}{Z:Cx}
theorem zbv (H:CvC B w0 w hb X Z) (t r:Int) (ht:¬ (0≤t∧t<X.T)):
  Calls Tryz.prog 34 #[.pointer (some ⟨hb,0,none⟩),.int .i64 t,.int .i64 r] w fun e w'=>e=.returned (.tuple #[.int .i64 0,.int .i64 1202])∧w'=w:=by
 have hA:=z3q H t ht
 clear H ht
 go_enter Tryz.func34,Tryz.ntmps34
 go_wp2_with (go_at_call 64;refine hA.mono ?_;rintro e w9 ⟨rfl,hw9⟩;replace hw9:=hw9.symm;subst hw9)
 go_ret2
 exact⟨rfl,rfl⟩
theorem z97 (H:CvC B w0 w hb X Z) (hm:X.m≤2000000) (t r:Int) (ht:0≤t∧t<X.T) (hr:z0a X.S r=none):
  Calls Tryz.prog 34 #[.pointer (some ⟨hb,0,none⟩),.int .i64 t,.int .i64 r] w fun e w'=>e=.returned (.tuple #[.int .i64 0,.int .i64 1205])∧Below w.heap.size w w':=by
 have hA:=z0A H t ht
 have hC:=z39 H.hv hm r (z0Y hr)
 have hlt:=H.hlt
 have c0:=H.c0
 clear H ht hr
 go_enter Tryz.func34,Tryz.ntmps34
 go_wp2_with (first
  | (go_at_call 64;refine hA.mono ?_;rintro e w9 ⟨rfl,hw9⟩;replace hw9:=hw9.symm;subst hw9)
  | (go_at_call 67;refine hC.mono ?_;rintro e w1 ⟨rfl,hb1⟩)
  | (go_at_call 68;refine (zcr _).mono ?_;rintro e w9 ⟨rfl,hw9⟩;replace hw9:=hw9.symm;subst hw9))
 go_ret2
 exact⟨rfl,hb1.alloc hb1.size _⟩
theorem z5V (H:CvC B w0 w hb X Z) (hm:X.m≤2000000) (t r:Int) (ht:0≤t∧t<X.T) {k:Nat}{cl:Cel}(hk:X.S[k]?=some (some cl)) (hr:r=(k:Int)+1) (code:Int) (hc0:(code == 0)=false)
  (hQ:∀ w1,Below w.heap.size w w1→Calls Tryz.prog 66 #[.pointer (some ⟨hb,0,none⟩),.int .i64 t,.int .i64 4,.int .i64 10,.int .i64 1] w1 fun e w'=>e=.returned (.tuple #[.int .i64 0,.int .i64 code])∧Below w1.heap.size w1 w'):
  Calls Tryz.prog 34 #[.pointer (some ⟨hb,0,none⟩),.int .i64 t,.int .i64 r] w fun e w'=>e=.returned (.tuple #[.int .i64 0,.int .i64 code])∧Below w.heap.size w w':=by
 have hA:=z0A H t ht
 have hC:=z7L H.hv hm hk
 rw[← hr] at hC
 have hlt:=H.hlt
 have c0:=H.c0
 generalize cl.kind=kd at *
 generalize cl.cls=cs at *
 generalize cl.n=cn at *
 clear H ht hr hk
 have HQ:Hid (∀ w1,Below w.heap.size w w1→Calls Tryz.prog 66 #[.pointer (some ⟨hb,0,none⟩),.int .i64 t,.int .i64 4,.int .i64 10,.int .i64 1] w1 fun e w'=>e=.returned (.tuple #[.int .i64 0,.int .i64 code])∧Below w1.heap.size w1 w'):=hQ
 clear hQ
 go_enter Tryz.func34,Tryz.ntmps34
 go_wp2_with (first
  | (go_at_call 64;refine hA.mono ?_;rintro e w9 ⟨rfl,hw9⟩;replace hw9:=hw9.symm;subst hw9)
  | (go_at_call 67;refine hC.mono ?_;rintro e w1 ⟨rfl,hb1⟩)
  | (go_at_call 66;refine (HQ.out _ (hb1.alloc hb1.size _)).mono ?_;rintro e w2 ⟨rfl,hb2⟩;have HB:Hid (Below w.heap.size w w2):=(hb1.alloc hb1.size _).trans (hb2.mono (hb1.alloc hb1.size _).size);clear HQ hb2))
 go_ret2
 exact⟨rfl,HB.out⟩
theorem z3T:zbW 4 10 (1:Nat):=⟨by omega,⟨by unfold kmin;rw[if_pos rfl];omega,by unfold kmax;rw[if_neg (by omega),if_pos rfl];omega⟩,by omega⟩
theorem z6y (H:CvC B w0 w hb X Z) (hm:X.m≤2000000) (t:Nat) (r:Int) (ht:t<X.T) {k:Nat}{cl:Cel}(hk:X.S[k]?=some (some cl)) (hr:r=(k:Int)+1) (hl:64≤(X.rt t).length):
  Calls Tryz.prog 34 #[.pointer (some ⟨hb,0,none⟩),.int .i64 t,.int .i64 r] w fun e w'=>e=.returned (.tuple #[.int .i64 0,.int .i64 1203])∧Below w.heap.size w w' :=
 z5V H hm t r (by omega) hk hr 1203 (by decide) fun w1 b1=>(z4k (H.below b1) t 4 10 1 ht hl).mono fun e w' q=>⟨q.1,by rw[q.2];exact Below.refl _ _⟩
theorem z8w (H:CvC B w0 w hb X Z) (hm:X.m≤2000000) (t:Nat) (r:Int) (ht:t<X.T) {k:Nat}{cl:Cel}(hk:X.S[k]?=some (some cl)) (hr:r=(k:Int)+1) (hl:(X.rt t).length<64) (hs:X.W/4<sumS X.S+(1+16)):
  Calls Tryz.prog 34 #[.pointer (some ⟨hb,0,none⟩),.int .i64 t,.int .i64 r] w fun e w'=>e=.returned (.tuple #[.int .i64 0,.int .i64 1201])∧Below w.heap.size w w' :=
 z5V H hm t r (by omega) hk hr 1201 (by decide) fun w1 b1=>z5s (H.below b1) t 4 10 1 ht z3T hl hs
def z99 (B:Nat) (w0 w:World) (hb:Nat) (Z:Cx) (X:Cm) (t:Nat) (r:Int) (e:Ending) (w':World):Prop :=
 ∃ (i:Nat) (S':List (Option Cel)) (a:Int) (c':Int→Int),e=.returned (.tuple #[.int .i64 ((i:Int)+1),.int .i64 0])∧z23 X.S S' i ⟨4,10,1,a⟩∧CcT B w0 w hb Z { X with m:=X.m+501,c:=c',S:=S',F:=setF X.F i (fun l=>if l=0 then r else 0),rt:=setL X.rt t (X.rt t++[(i:Int)+1]) } w'
theorem z7j (H:CvC B w0 w hb X Z) (hm:X.m≤1999000) (t:Nat) (r:Int) (ht:t<X.T) {k:Nat}{cl:Cel}(hk:X.S[k]?=some (some cl)) (hr:r=(k:Int)+1) (hl:(X.rt t).length<64) (hs:sumS X.S+(1+16)≤X.W/4):
  Calls Tryz.prog 34 #[.pointer (some ⟨hb,0,none⟩),.int .i64 t,.int .i64 r] w (z99 B w0 w hb Z X t r):=by
 have hA:=z0A H t (by omega)
 have hC:=z7L H.hv (by omega) hk
 rw[← hr] at hC
 have hlt:=H.hlt
 have c0:=H.c0
 have HQ:Hid (∀ w1,Below w.heap.size w w1→Calls Tryz.prog 66 #[.pointer (some ⟨hb,0,none⟩),.int .i64 t,.int .i64 4,.int .i64 10,.int .i64 1] w1 fun e w2=>∃ i:Nat,e=.returned (.tuple #[.int .i64 ((i:Int)+1),.int .i64 0])∧∃ h,(w2.cell? ⟨hb,0,none⟩=some (.pointer (some ⟨h,0,none⟩))∧hb<w2.heap.size)∧Calls Tryz.prog 69 #[.pointer (some ⟨h,0,none⟩),.int .i64 t,.int .i64 ((i:Int)+1),.int .i64 0,.int .i64 r] w2 fun e w3=>e=.returned (.int .i64 0)∧z99 B w0 w hb Z X t r (.returned (.tuple #[.int .i64 ((i:Int)+1),.int .i64 0])) w3):=fun w1 b1=>by
  refine (zaE (H.below b1) (by omega) t 4 10 1 ht z3T hl hs).mono ?_
  rintro e w2 ⟨i,S',a,c',rfl,hAd,hT⟩
  obtain⟨Z2,H2,b2,d2⟩:=CcT.after b1 hT
  refine⟨i,rfl,Z2.h,⟨H2.c0,H2.hlt⟩,(zet H2.hv (by show X.m+500≤2000000;omega) hAd.new t 0 r 0 (by show 0≤(t:Int)∧(t:Int)<((X.T+1:Nat):Int);omega) rfl (show 0<1 by omega)).mono ?_⟩
  rintro e w3 ⟨rfl,c3,_,_,hT3⟩
  refine⟨rfl,i,S',a,c3,rfl,hAd,CcT.then b2 d2 ?_⟩
  have hT4:=(H2.cells H2.fit hT3).turn
  have eF:setF (setF X.F i (fun _=>0)) i (fun l=>if l=0 then r else setF X.F i (fun _=>0) i l)=setF X.F i (fun l=>if l=0 then r else 0):=by
   funext a b
   by_cases e:a=i
   ·subst e;rw[z0L,z0L,z0L]
   ·rw[z0n _ _ e,z0n _ _ e,z0n _ _ e]
  rw[← eF]
  exact hT4
 generalize cl.kind=kd at *
 generalize cl.cls=cs at *
 generalize cl.n=cn at *
 clear H hr hk hs hl hm
 go_enter Tryz.func34,Tryz.ntmps34
 go_wp2_with (first
  | (go_at_call 64;refine hA.mono ?_;rintro e w9 ⟨rfl,hw9⟩;replace hw9:=hw9.symm;subst hw9)
  | (go_at_call 67;refine hC.mono ?_;rintro e w1 ⟨rfl,hb1⟩)
  | (go_at_call 66;refine (HQ.out _ (hb1.alloc hb1.size _)).mono ?_;rintro e w2 ⟨i,rfl,h2,⟨k1,k2⟩,hPt⟩;clear HQ)
  | (go_at_call 69;refine hPt.mono ?_;rintro e w3 ⟨rfl,hP⟩;have HP:Hid (z99 B w0 w hb Z X t r (.returned (.tuple #[.int .i64 ((i:Int)+1),.int .i64 0])) w3):=hP;clear hPt hP))
 go_ret2
 exact HP.out
end
end Go.Proofs.YthkelaeemefnaaaGreat
