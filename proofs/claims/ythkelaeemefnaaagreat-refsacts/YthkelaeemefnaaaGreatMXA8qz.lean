import Derived.Test.YthkelaeemefnaaaGreatMXA6qz
set_option maxRecDepth 20000
set_option maxHeartbeats 16000000
namespace Go.Proofs.YthkelaeemefnaaaGreat
open Go.RowKit
section
variable {B:Nat}{w0 w:World}{rh hb:Nat}{X:Cm}{fs qs:List Int}{y rb W T i:Nat}{va vq:Value}{vr:Nat→Value}{L:List Lr}
theorem zbH (H:Pl13 B w0 w rh hb X fs qs y rb W T va vq vr X.rt qs L (fun _=>False)) (hO:Ok13 X fs qs W T L i) (hi:i≤200) (K A C S P I O V:Int) (F:Bool) (hK:K≠8):
  Calls Tryz.prog 26 #[.pointer (some ⟨y,0,none⟩),.agg #[.int .i64 K,.int .i64 A,.int .i64 C,.int .i64 S,.int .i64 P,.int .i64 I,.int .i64 O,.int .i64 V,.bool F]] w (z0p B w0 rh hb y rb W T (i+1)):=by
 have hx0:=Pb13.start H K A C S P I O V F
 have HO:Hid (Ok13 X fs qs W T L i):=hO
 have HM:Hid (X.m≤1999000):=(by have:=hO.cost;omega:X.m≤1999000)
 have HPk:Hid (∀ u p,Pb13 B w0 u rh hb X fs qs y rb W T va vq vr X.rt qs L w.heap.size K A C S P I O V F→Calls Tryz.prog 57 #[.pointer (some ⟨y,0,none⟩),.int .i64 p,.int .i64 0] u (z0w u X qs L 0)):=fun u p hu=>hO.pick hi hu p 0
 have HFi:Hid (∀ u r Rr,Pb13 B w0 u rh hb X fs qs y rb W T va vq vr X.rt qs L w.heap.size K A C S P I O V F→FndR L r Rr→Calls Tryz.prog 30 #[.pointer (some ⟨y,0,none⟩),.int .i64 r] u fun e w'=>e=.returned (.int .i64 Rr)∧w'=u):=fun u r Rr hu hf=>z1N hu.play.lm (by have:=hO.few;omega) r Rr hf
 have k8:(K == 8)=false:=by simpa using hK
 have k8':(K != 8)=true:=by simpa using hK
 clear hK
 clear H hO
 go_enter Tryz.func26,Tryz.ntmps26
 have f0:=hx0.facts
 go_wp2_with (go_at_call 57;refine (HPk.out _ _ hx0).mono ?_;rintro e w3 ⟨r,rfl,hb3,hr⟩;have hx3:=hx0.below hb3;have HR:Hid (r=0∨∃ (i:Nat) (x:Lr),L[i]?=some x∧x.ref=r∧RchQ X qs r∧((0:Int)=0∨x.kind=0)):=hr;clear hb3 hr hx0 f0)
 have f3:=hx3.facts
 rcases HO.out.found r with ⟨k,z,hz,hzr,hfn⟩|⟨hfn,hnone⟩
 ·have hfi:=HFi.out _ r (k:Int) hx3 hfn
  obtain⟨p,cap,az,cz,e1,e2,e3,e4,e5,e6,_⟩:=hx3.cell hz
  obtain⟨k2,cl,q1,q2,q3,q4,q5⟩:=HO.out.ag.at_ (List.mem_of_getElem? hz)
  rw[hzr] at q1
  have r0:(r == 0)=false:=by simp;omega
  have k0:decide ((0:Int)≤(k:Int))=true:=by simp
  have k1:(k:Int)<(L.length:Int):=by omega
  have k2':decide ((k:Int)<0)=false:=by simp
  rw[e1] at f3
  have hcel:z0a X.S r=some cl:=by rw[q1,z0u,q2];rfl
  have HZ:Hid (z.ref=r∧r=(k2:Int)+1∧X.S[k2]?=some (some cl)∧cl.kind=z.kind∧cl.n=z.ws.length∧(∀ j,j<cl.n→z.ws[j]?=some (X.F k2 j))∧z0a X.S r=some cl∧L[k]?=some z∧k<L.length):=⟨hzr,q1,q2,q3,q4,q5,hcel,hz,e3⟩
  clear HR hzr q1 q2 q3 q4 q5 hcel hfn e2 e6 hz e3
  obtain⟨nL,hnL⟩:∃ nL,nL=L.length:=⟨_,rfl⟩
  have HNL:Hid (nL=L.length):=hnL
  rw[← hnL] at f3 k1
  clear hnL e1
  by_cases hk2:z.kind=2
  ·rw[hk2] at e5
   have HK2:Hid (z.kind=2):=hk2
   clear hk2
   go_wp2_with (go_at_call 30;refine hfi.mono ?_;rintro e w9 ⟨rfl,hw9⟩;replace hw9:=hw9.symm;subst hw9)
   clear hfi e4 e5
   have hxw3:=hx3
   have fw3:=f3
   clear hx3 f3
   by_cases hin:0≤A∧A<(T:Int)
   ·have a0:decide (A<0)=false:=by simp;omega
    have a1:decide ((T:Int)≤A)=false:=by simp;omega
    have HN4:Hid (cl.kind≠4):=(by rw[HZ.out.2.2.2.1,HK2.out];decide:cl.kind≠4)
    by_cases hI:0≤I∧I<(z.ws.length:Int)
    ·as_aux_lemma =>
      obtain⟨j,hj⟩:∃ j:Nat,I=j:=⟨I.toNat,by omega⟩
      subst hj
      have hx5:=hxw3.below (z00 w3 1 _)
      have hM:Calls Tryz.prog 19 #[.pointer (some ⟨rh,0,none⟩),.int .i64 A,.int .i64 r,.int .i64 j,.int .i64 V] (w3.drewN 1) fun e w'=>e=.returned (.int .i64 0)∧∃ c',Pb13 B w0 w' rh hb (X.putw k2 j V c') fs qs y rb W T va vq vr X.rt qs L w.heap.size K A C S P j O V F:=(zdf hx5.play.rs HM.out A V (by rw[HO.out.eT];exact hin) HZ.out.2.2.1 HN4.out j j rfl (by have:=HZ.out.2.2.2.2.1;omega) r HZ.out.2.1 (.inl (by rw[HZ.out.2.2.2.1];exact HK2.out))).mono fun e w' q=>⟨q.1,let ⟨c',hT⟩:=q.2;⟨c',hx5.call hT⟩⟩
      go_wp2_with (go_at_call 9;refine (z04 _ _).mono ?_;rintro e w9 ⟨rfl,hw9⟩;replace hw9:=hw9.symm;subst hw9)
      go_region_held3 (fun w'=>w'.cell? ⟨y,0,none⟩=some (.pointer (some ⟨rh,0,none⟩))∧w'.cell? ⟨w.heap.size,1,none⟩=some (.int .i64 A)∧w'.cell? ⟨w.heap.size,5,none⟩=some (.int .i64 j)) (go_keep) ((go_at_call 19;refine hM.mono ?_;rintro e w6 ⟨rfl,c6,hx6⟩;have f6:=hx6.facts;clear hM))
      have hj0:decide ((j:Int)<0)=false:=by simp
      have hj1:decide ((z.ws.length:Int)≤(j:Int))=false:=by simp;omega
      have hjn:j<z.ws.length:=by omega
      clear hxw3 hx5 fw3 HPk HFi HM
      go_wp2_with (go_at_call 9;refine (z04 _ _).mono ?_;rintro e w9 ⟨rfl,hw9⟩;replace hw9:=hw9.symm;subst hw9)
      go_quiet (fail)
      have hx7:=hx6.below (z00 w6 nq _)
      generalize World.drewN _ _=w7 at *
      have f7:=hx7.facts
      obtain⟨p7,cap7,az7,cz7,e71,e72,e73,e74,e75,e76,_⟩:=hx7.cell HZ.out.2.2.2.2.2.2.2.1
      rw[e71,← HNL.out] at f7
      rw[HK2.out] at e75
      obtain⟨nz,hnz⟩:∃ nz,nz=z.ws.length:=⟨_,rfl⟩
      rw[← hnz] at e76 hj1 hjn
      have HNZ:Hid (nz=z.ws.length):=hnz
      clear f6 hx6 hnz e71 e72 hI
      go_wp2_with (go_at_call 9;refine (z04 _ _).mono ?_;rintro e w9 ⟨rfl,hw9⟩;replace hw9:=hw9.symm;subst hw9)
      go_quiet (fail)
      have hx8:=hx7.below (z00 w7 nq _)
      generalize World.drewN _ _=w8 at *
      have f8:=hx8.facts
      obtain⟨p8,cap8,az8,cz8,e81,e82,e83,e84,e85,e86,e87⟩:=hx8.cell HZ.out.2.2.2.2.2.2.2.1
      rw[e81,← HNL.out] at f8
      rw[← HNZ.out] at e86
      obtain⟨vo,hvo⟩:∃ vo,z.ws[j]?=some vo:=⟨_,List.getElem?_eq_getElem (by have:=HNZ.out;omega)⟩
      obtain⟨g,hg8,e88,e89⟩:=e87 j vo hvo
      subst hg8
      have hw8:=hx8.play.lm.word HZ.out.2.2.2.2.2.2.2.1
      rw[e82] at hw8
      obtain⟨cur,hcur⟩:=hw8.kind (j:=g) rfl
      have hfz:w8.frozen? ⟨g,j,none⟩=false:=frz hcur j
      have hP9:=hx8.play.setw HZ.out.2.2.2.2.2.2.2.1 e82 (j:=j) (by have:=HNZ.out;omega) V
      have HE:Hid (∀ u,Below (w8.setCell ⟨g,j,none⟩ (.int .i64 V)).heap.size (w8.setCell ⟨g,j,none⟩ (.int .i64 V)) u→Ed13 B w0 rh hb y rb W T (i+1) u):=fun u bu=>Ed13.of (hP9.below bu) (HO.out.putw HZ.out.2.2.2.2.2.2.2.1 (HZ.out.1.trans HZ.out.2.1) (by rw[HK2.out];decide) c6)
      have hjz:(j:Int)<(nz:Int):=by omega
      clear hx7 hx8 f7 e73 e74 e75 e76 e87 hvo hw8 hcur hP9 e81 e82
      go_wp2_with (go_at_call 9;refine (z04 _ _).mono ?_;rintro e w9 ⟨rfl,hw9⟩;replace hw9:=hw9.symm;subst hw9)
      go_region
      go_wp2_with (go_at_call 9;refine (z04 _ _).mono ?_;rintro e w9 ⟨rfl,hw9⟩;replace hw9:=hw9.symm;subst hw9)
      go_ret
      exact⟨rfl,HE.out _ (by first|exact Below.refl _ _|exact (Below.refl _ _).drew)⟩
    ·as_aux_lemma =>
      have hx5:=hxw3.below (z00 w3 1 _)
      have hM:Calls Tryz.prog 19 #[.pointer (some ⟨rh,0,none⟩),.int .i64 A,.int .i64 r,.int .i64 I,.int .i64 V] (w3.drewN 1) fun e w'=>e=.returned (.int .i64 1304)∧∃ c',Pb13 B w0 w' rh hb (X.cost 1 c') fs qs y rb W T va vq vr X.rt qs L w.heap.size K A C S P I O V F:=(z4o hx5.play.rs HM.out A r I V (by rw[HO.out.eT];exact hin) HZ.out.2.2.1 HZ.out.2.1 HN4.out (by rw[HZ.out.2.2.2.2.1];exact hI)).mono fun e w' q=>⟨q.1,let ⟨c',hT⟩:=q.2;⟨c',hx5.call hT⟩⟩
      go_wp2_with (go_at_call 9;refine (z04 _ _).mono ?_;rintro e w9 ⟨rfl,hw9⟩;replace hw9:=hw9.symm;subst hw9)
      go_region_held3 (fun w'=>w'.cell? ⟨y,0,none⟩=some (.pointer (some ⟨rh,0,none⟩))∧w'.cell? ⟨w.heap.size,1,none⟩=some (.int .i64 A)∧w'.cell? ⟨w.heap.size,5,none⟩=some (.int .i64 I)) (go_keep) ((go_at_call 19;refine hM.mono ?_;rintro e w6 ⟨rfl,c6,hx6⟩;have f6:=hx6.facts;clear hM))
      have hzw:z.ws.length=z.ws.length:=rfl
      have HE:Hid (∀ n,Ed13 B w0 rh hb y rb W T (i+1) (w6.drewN n)):=fun n=>Ed13.of (hx6.below (z00 w6 n _)).play (HO.out.costed (by omega) c6)
      clear hxw3 hx5 fw3 HPk HFi HM
      have hx7:=fun n=>hx6.below (z00 w6 n _)
      clear hx6
      go_wp2_with (go_at_call 9;refine (z04 _ _).mono ?_;rintro e w9 ⟨rfl,hw9⟩;replace hw9:=hw9.symm;subst hw9)
      go_quiet (fail)
      have hx8:=hx7 nq
      have HE2:Hid (∀ n,Ed13 B w0 rh hb y rb W T (i+1) ((w6.drewN nq).drewN n)):=fun n=>Ed13.of (hx8.below (z00 _ n _)).play (HO.out.costed (by omega) c6)
      generalize World.drewN _ _=w7 at *
      have f7:=hx8.facts
      obtain⟨p7,cap7,az7,cz7,e71,e72,e73,e74,e75,e76,_⟩:=hx8.cell HZ.out.2.2.2.2.2.2.2.1
      rw[e71] at f7
      rw[← HNL.out] at f7
      rw[HK2.out] at e75
      obtain⟨nz,hnz⟩:∃ nz,nz=z.ws.length:=⟨_,rfl⟩
      rw[← hnz] at e76 hI
      have hI2:decide (I<0)=true∨(decide (I<0)=false∧decide ((nz:Int)≤I)=true):=by
       by_cases q:I<0
       ·exact .inl (by simpa using q)
       ·exact .inr ⟨by simpa using q,by simp;omega⟩
      clear hI hnz
      rcases hI2 with hI2|⟨hI2,hI3⟩
      all_goals
       clear f6 hx7 hx8 HE e71 e72
       go_wp2_with (go_at_call 9;refine (z04 _ _).mono ?_;rintro e w9 ⟨rfl,hw9⟩;replace hw9:=hw9.symm;subst hw9)
       go_quiet (fail)
       go_wp2_with (go_at_call 9;refine (z04 _ _).mono ?_;rintro e w9 ⟨rfl,hw9⟩;replace hw9:=hw9.symm;subst hw9)
       go_ret
       exact⟨rfl,HE2.out _⟩
   ·have hfar:decide (A<0)=true∨(decide (A<0)=false∧decide ((T:Int)≤A)=true):=by
     by_cases q:A<0
     ·exact .inl (by simpa using q)
     ·exact .inr ⟨by simpa using q,by simp;omega⟩
    rcases hfar with a0|⟨a0,a1⟩
    all_goals
     as_aux_lemma =>
      have hx5:=hxw3.below (z00 w3 1 _)
      have hM:Calls Tryz.prog 19 #[.pointer (some ⟨rh,0,none⟩),.int .i64 A,.int .i64 r,.int .i64 I,.int .i64 V] (w3.drewN 1) fun e w'=>e=.returned (.int .i64 1302)∧Pb13 B w0 w' rh hb X fs qs y rb W T va vq vr X.rt qs L w.heap.size K A C S P I O V F:=(z3G hx5.play.rs A r I V (by rw[HO.out.eT];exact hin)).mono fun e w' q=>⟨q.1,hx5.call q.2⟩
      go_wp2_with (go_at_call 9;refine (z04 _ _).mono ?_;rintro e w9 ⟨rfl,hw9⟩;replace hw9:=hw9.symm;subst hw9)
      go_region_held3 (fun w'=>w'.cell? ⟨y,0,none⟩=some (.pointer (some ⟨rh,0,none⟩))∧w'.cell? ⟨w.heap.size,1,none⟩=some (.int .i64 A)∧w'.cell? ⟨w.heap.size,5,none⟩=some (.int .i64 I)) (go_keep) ((go_at_call 19;refine hM.mono ?_;rintro e w6 ⟨rfl,hx6⟩;have f6:=hx6.facts;clear hM))
      have HE:Hid (∀ n,Ed13 B w0 rh hb y rb W T (i+1) (w6.drewN n)):=fun n=>Ed13.same (hx6.below (z00 w6 n _)).play HO.out
      clear hxw3 hx5 fw3 HPk HFi HM
      clear hx6
      go_wp2_with (go_at_call 9;refine (z04 _ _).mono ?_;rintro e w9 ⟨rfl,hw9⟩;replace hw9:=hw9.symm;subst hw9)
      go_quiet (fail)
      go_wp2_with (go_at_call 9;refine (z04 _ _).mono ?_;rintro e w9 ⟨rfl,hw9⟩;replace hw9:=hw9.symm;subst hw9)
      go_ret
      exact⟨rfl,HE.out _⟩
  ·have g2:(z.kind != 2)=true:=by simpa using hk2
   obtain⟨zk,hzk⟩:∃ zk,zk=z.kind:=⟨_,rfl⟩
   have HZK:Hid (zk=z.kind∧zk≠2):=⟨hzk,by rw[hzk];exact hk2⟩
   rw[← hzk] at e5 g2
   clear hzk hk2
   go_wp2_with (first|(go_at_call 30;refine hfi.mono ?_;rintro e w9 ⟨rfl,hw9⟩;replace hw9:=hw9.symm;subst hw9)|(go_at_call 57;refine (HPk.out _ _ hx3).mono ?_;rintro e w4 ⟨r4,rfl,hb4,hr4⟩;have hxw4:=hx3.below hb4;have HV:Hid (r4=0∨r4∈nums 0 X.S):=HO.out.picked hr4;have fw4:=hxw4.facts;clear hb4 hr4))
   clear hx3 f3 hfi e4 e5 g2
   by_cases hin:0≤A∧A<(T:Int)
   ·have a0:decide (A<0)=false:=by simp;omega
    have a1:decide ((T:Int)≤A)=false:=by simp;omega
    by_cases h4:zk=4
    ·as_aux_lemma =>
      have hx5:=hxw4.below (z00 w4 1 _)
      have hM:Calls Tryz.prog 19 #[.pointer (some ⟨rh,0,none⟩),.int .i64 A,.int .i64 r,.int .i64 I,.int .i64 r4] (w4.drewN 1) fun e w'=>e=.returned (.int .i64 1304)∧Pb13 B w0 w' rh hb X fs qs y rb W T va vq vr X.rt qs L w.heap.size K A C S P I O V F:=(z6T hx5.play.rs HM.out A r I r4 (by rw[HO.out.eT];exact hin) HZ.out.2.2.2.2.2.2.1 (by rw[HZ.out.2.2.2.1,← HZK.out.1];exact h4)).mono fun e w' q=>⟨q.1,hx5.call q.2⟩
      go_wp2_with (go_at_call 9;refine (z04 _ _).mono ?_;rintro e w9 ⟨rfl,hw9⟩;replace hw9:=hw9.symm;subst hw9)
      go_region_held3 (fun w'=>w'.cell? ⟨y,0,none⟩=some (.pointer (some ⟨rh,0,none⟩))∧w'.cell? ⟨w.heap.size,1,none⟩=some (.int .i64 A)∧w'.cell? ⟨w.heap.size,5,none⟩=some (.int .i64 I)) (go_keep) ((go_at_call 19;refine hM.mono ?_;rintro e w6 ⟨rfl,hx6⟩;have f6:=hx6.facts;clear hM))
      have hkk4:zk=4:=h4
      have HE:Hid (∀ n,Ed13 B w0 rh hb y rb W T (i+1) (w6.drewN n)):=fun n=>Ed13.same (hx6.below (z00 w6 n _)).play HO.out
      clear hxw4 hx5 fw4 HPk HFi HM
      have hx7:=fun n=>hx6.below (z00 w6 n _)
      clear hx6
      go_wp2_with (go_at_call 9;refine (z04 _ _).mono ?_;rintro e w9 ⟨rfl,hw9⟩;replace hw9:=hw9.symm;subst hw9)
      go_quiet (fail)
      have hx8:=hx7 nq
      have HE2:Hid (∀ n,Ed13 B w0 rh hb y rb W T (i+1) ((w6.drewN nq).drewN n)):=fun n=>Ed13.same (hx8.below (z00 _ n _)).play HO.out
      generalize World.drewN _ _=w7 at *
      have f7:=hx8.facts
      obtain⟨p7,cap7,az7,cz7,e71,e72,e73,e74,e75,e76,_⟩:=hx8.cell HZ.out.2.2.2.2.2.2.2.1
      rw[e71] at f7
      rw[← HNL.out] at f7
      rw[← HZK.out.1,hkk4] at e75
      clear f6 hx7 hx8 HE e71 e72
      go_wp2_with (go_at_call 9;refine (z04 _ _).mono ?_;rintro e w9 ⟨rfl,hw9⟩;replace hw9:=hw9.symm;subst hw9)
      go_quiet (fail)
      go_wp2_with (go_at_call 9;refine (z04 _ _).mono ?_;rintro e w9 ⟨rfl,hw9⟩;replace hw9:=hw9.symm;subst hw9)
      go_ret
      exact⟨rfl,HE2.out _⟩
    ·have h40:(zk == 4)=false:=by simpa using h4
     have HN4:Hid (cl.kind≠4):=(by rw[HZ.out.2.2.2.1,← HZK.out.1];exact h4:cl.kind≠4)
     by_cases hI:0≤I∧I<(z.ws.length:Int)
     ·as_aux_lemma =>
       obtain⟨j,hj⟩:∃ j:Nat,I=j:=⟨I.toNat,by omega⟩
       subst hj
       have hx5:=hxw4.below (z00 w4 1 _)
       have hM:Calls Tryz.prog 19 #[.pointer (some ⟨rh,0,none⟩),.int .i64 A,.int .i64 r,.int .i64 j,.int .i64 r4] (w4.drewN 1) fun e w'=>e=.returned (.int .i64 0)∧∃ c',Pb13 B w0 w' rh hb (X.putw k2 j r4 c') fs qs y rb W T va vq vr X.rt qs L w.heap.size K A C S P j O V F:=(zdf hx5.play.rs HM.out A r4 (by rw[HO.out.eT];exact hin) HZ.out.2.2.1 HN4.out j j rfl (by have:=HZ.out.2.2.2.2.1;omega) r HZ.out.2.1 (.inr HV.out)).mono fun e w' q=>⟨q.1,let ⟨c',hT⟩:=q.2;⟨c',hx5.call hT⟩⟩
       go_wp2_with (go_at_call 9;refine (z04 _ _).mono ?_;rintro e w9 ⟨rfl,hw9⟩;replace hw9:=hw9.symm;subst hw9)
       go_region_held3 (fun w'=>w'.cell? ⟨y,0,none⟩=some (.pointer (some ⟨rh,0,none⟩))∧w'.cell? ⟨w.heap.size,1,none⟩=some (.int .i64 A)∧w'.cell? ⟨w.heap.size,5,none⟩=some (.int .i64 j)) (go_keep) ((go_at_call 19;refine hM.mono ?_;rintro e w6 ⟨rfl,c6,hx6⟩;have f6:=hx6.facts;clear hM))
       have hj0:decide ((j:Int)<0)=false:=by simp
       have hj1:decide ((z.ws.length:Int)≤(j:Int))=false:=by simp;omega
       have hjn:j<z.ws.length:=by omega
       clear hxw4 hx5 fw4 HPk HFi HM
       go_wp2_with (go_at_call 9;refine (z04 _ _).mono ?_;rintro e w9 ⟨rfl,hw9⟩;replace hw9:=hw9.symm;subst hw9)
       go_quiet (fail)
       have hx7:=hx6.below (z00 w6 nq _)
       generalize World.drewN _ _=w7 at *
       have f7:=hx7.facts
       obtain⟨p7,cap7,az7,cz7,e71,e72,e73,e74,e75,e76,_⟩:=hx7.cell HZ.out.2.2.2.2.2.2.2.1
       rw[e71,← HNL.out] at f7
       rw[← HZK.out.1] at e75
       obtain⟨nz,hnz⟩:∃ nz,nz=z.ws.length:=⟨_,rfl⟩
       rw[← hnz] at e76 hj1 hjn
       have HNZ:Hid (nz=z.ws.length):=hnz
       clear f6 hx6 hnz e71 e72 hI
       go_wp2_with (go_at_call 9;refine (z04 _ _).mono ?_;rintro e w9 ⟨rfl,hw9⟩;replace hw9:=hw9.symm;subst hw9)
       go_quiet (fail)
       have hx8:=hx7.below (z00 w7 nq _)
       generalize World.drewN _ _=w8 at *
       have f8:=hx8.facts
       obtain⟨p8,cap8,az8,cz8,e81,e82,e83,e84,e85,e86,e87⟩:=hx8.cell HZ.out.2.2.2.2.2.2.2.1
       rw[e81,← HNL.out] at f8
       rw[← HNZ.out] at e86
       obtain⟨vo,hvo⟩:∃ vo,z.ws[j]?=some vo:=⟨_,List.getElem?_eq_getElem (by have:=HNZ.out;omega)⟩
       obtain⟨g,hg8,e88,e89⟩:=e87 j vo hvo
       subst hg8
       have hw8:=hx8.play.lm.word HZ.out.2.2.2.2.2.2.2.1
       rw[e82] at hw8
       obtain⟨cur,hcur⟩:=hw8.kind (j:=g) rfl
       have hfz:w8.frozen? ⟨g,j,none⟩=false:=frz hcur j
       have hP9:=hx8.play.setw HZ.out.2.2.2.2.2.2.2.1 e82 (j:=j) (by have:=HNZ.out;omega) r4
       have HE:Hid (∀ u,Below (w8.setCell ⟨g,j,none⟩ (.int .i64 r4)).heap.size (w8.setCell ⟨g,j,none⟩ (.int .i64 r4)) u→Ed13 B w0 rh hb y rb W T (i+1) u):=fun u bu=>Ed13.of (hP9.below bu) (HO.out.putw HZ.out.2.2.2.2.2.2.2.1 (HZ.out.1.trans HZ.out.2.1) (by rw[← HZK.out.1];exact h4) c6)
       have hjz:(j:Int)<(nz:Int):=by omega
       clear hx7 hx8 f7 e73 e74 e75 e76 e87 hvo hw8 hcur hP9 e81 e82
       go_wp2_with (go_at_call 9;refine (z04 _ _).mono ?_;rintro e w9 ⟨rfl,hw9⟩;replace hw9:=hw9.symm;subst hw9)
       go_region
       go_wp2_with (go_at_call 9;refine (z04 _ _).mono ?_;rintro e w9 ⟨rfl,hw9⟩;replace hw9:=hw9.symm;subst hw9)
       go_ret
       exact⟨rfl,HE.out _ (by first|exact Below.refl _ _|exact (Below.refl _ _).drew)⟩
     ·as_aux_lemma =>
       have hx5:=hxw4.below (z00 w4 1 _)
       have hM:Calls Tryz.prog 19 #[.pointer (some ⟨rh,0,none⟩),.int .i64 A,.int .i64 r,.int .i64 I,.int .i64 r4] (w4.drewN 1) fun e w'=>e=.returned (.int .i64 1304)∧∃ c',Pb13 B w0 w' rh hb (X.cost 1 c') fs qs y rb W T va vq vr X.rt qs L w.heap.size K A C S P I O V F:=(z4o hx5.play.rs HM.out A r I r4 (by rw[HO.out.eT];exact hin) HZ.out.2.2.1 HZ.out.2.1 HN4.out (by rw[HZ.out.2.2.2.2.1];exact hI)).mono fun e w' q=>⟨q.1,let ⟨c',hT⟩:=q.2;⟨c',hx5.call hT⟩⟩
       go_wp2_with (go_at_call 9;refine (z04 _ _).mono ?_;rintro e w9 ⟨rfl,hw9⟩;replace hw9:=hw9.symm;subst hw9)
       go_region_held3 (fun w'=>w'.cell? ⟨y,0,none⟩=some (.pointer (some ⟨rh,0,none⟩))∧w'.cell? ⟨w.heap.size,1,none⟩=some (.int .i64 A)∧w'.cell? ⟨w.heap.size,5,none⟩=some (.int .i64 I)) (go_keep) ((go_at_call 19;refine hM.mono ?_;rintro e w6 ⟨rfl,c6,hx6⟩;have f6:=hx6.facts;clear hM))
       have hzw:z.ws.length=z.ws.length:=rfl
       have HE:Hid (∀ n,Ed13 B w0 rh hb y rb W T (i+1) (w6.drewN n)):=fun n=>Ed13.of (hx6.below (z00 w6 n _)).play (HO.out.costed (by omega) c6)
       clear hxw4 hx5 fw4 HPk HFi HM
       have hx7:=fun n=>hx6.below (z00 w6 n _)
       clear hx6
       go_wp2_with (go_at_call 9;refine (z04 _ _).mono ?_;rintro e w9 ⟨rfl,hw9⟩;replace hw9:=hw9.symm;subst hw9)
       go_quiet (fail)
       have hx8:=hx7 nq
       have HE2:Hid (∀ n,Ed13 B w0 rh hb y rb W T (i+1) ((w6.drewN nq).drewN n)):=fun n=>Ed13.of (hx8.below (z00 _ n _)).play (HO.out.costed (by omega) c6)
       generalize World.drewN _ _=w7 at *
       have f7:=hx8.facts
       obtain⟨p7,cap7,az7,cz7,e71,e72,e73,e74,e75,e76,_⟩:=hx8.cell HZ.out.2.2.2.2.2.2.2.1
       rw[e71] at f7
       rw[← HNL.out] at f7
       rw[← HZK.out.1] at e75
       obtain⟨nz,hnz⟩:∃ nz,nz=z.ws.length:=⟨_,rfl⟩
       rw[← hnz] at e76 hI
       have hI2:decide (I<0)=true∨(decide (I<0)=false∧decide ((nz:Int)≤I)=true):=by
        by_cases q:I<0
        ·exact .inl (by simpa using q)
        ·exact .inr ⟨by simpa using q,by simp;omega⟩
       clear hI hnz
       rcases hI2 with hI2|⟨hI2,hI3⟩
       all_goals
        clear f6 hx7 hx8 HE e71 e72
        go_wp2_with (go_at_call 9;refine (z04 _ _).mono ?_;rintro e w9 ⟨rfl,hw9⟩;replace hw9:=hw9.symm;subst hw9)
        go_quiet (fail)
        go_wp2_with (go_at_call 9;refine (z04 _ _).mono ?_;rintro e w9 ⟨rfl,hw9⟩;replace hw9:=hw9.symm;subst hw9)
        go_ret
        exact⟨rfl,HE2.out _⟩
   ·have hfar:decide (A<0)=true∨(decide (A<0)=false∧decide ((T:Int)≤A)=true):=by
     by_cases q:A<0
     ·exact .inl (by simpa using q)
     ·exact .inr ⟨by simpa using q,by simp;omega⟩
    rcases hfar with a0|⟨a0,a1⟩
    all_goals
     as_aux_lemma =>
      have hx5:=hxw4.below (z00 w4 1 _)
      have hM:Calls Tryz.prog 19 #[.pointer (some ⟨rh,0,none⟩),.int .i64 A,.int .i64 r,.int .i64 I,.int .i64 r4] (w4.drewN 1) fun e w'=>e=.returned (.int .i64 1302)∧Pb13 B w0 w' rh hb X fs qs y rb W T va vq vr X.rt qs L w.heap.size K A C S P I O V F:=(z3G hx5.play.rs A r I r4 (by rw[HO.out.eT];exact hin)).mono fun e w' q=>⟨q.1,hx5.call q.2⟩
      go_wp2_with (go_at_call 9;refine (z04 _ _).mono ?_;rintro e w9 ⟨rfl,hw9⟩;replace hw9:=hw9.symm;subst hw9)
      go_region_held3 (fun w'=>w'.cell? ⟨y,0,none⟩=some (.pointer (some ⟨rh,0,none⟩))∧w'.cell? ⟨w.heap.size,1,none⟩=some (.int .i64 A)∧w'.cell? ⟨w.heap.size,5,none⟩=some (.int .i64 I)) (go_keep) ((go_at_call 19;refine hM.mono ?_;rintro e w6 ⟨rfl,hx6⟩;have f6:=hx6.facts;clear hM))
      have HE:Hid (∀ n,Ed13 B w0 rh hb y rb W T (i+1) (w6.drewN n)):=fun n=>Ed13.same (hx6.below (z00 w6 n _)).play HO.out
      clear hxw4 hx5 fw4 HPk HFi HM
      clear hx6
      go_wp2_with (go_at_call 9;refine (z04 _ _).mono ?_;rintro e w9 ⟨rfl,hw9⟩;replace hw9:=hw9.symm;subst hw9)
      go_quiet (fail)
      go_wp2_with (go_at_call 9;refine (z04 _ _).mono ?_;rintro e w9 ⟨rfl,hw9⟩;replace hw9:=hw9.symm;subst hw9)
      go_ret
      exact⟨rfl,HE.out _⟩
 ·obtain rfl:r=0:=HR.out.resolve_right (fun ⟨a,x,h1,h2,_⟩=>by
   obtain⟨k2,cl,q1,q2,_⟩:=HO.out.ag.at_ (List.mem_of_getElem? h1)
   rw[← h2,q1,z0u,q2] at hnone
   simp at hnone)
  have hfi:=HFi.out _ 0 (-1) hx3 hfn
  go_wp2_with (go_at_call 30;refine hfi.mono ?_;rintro e w9 ⟨rfl,hw9⟩;replace hw9:=hw9.symm;subst hw9)
  clear hfi HR
  have hxw3:=hx3
  have fw3:=f3
  clear hx3 f3
  by_cases hin:0≤A∧A<(T:Int)
  ·have a0:decide (A<0)=false:=by simp;omega
   have a1:decide ((T:Int)≤A)=false:=by simp;omega
   as_aux_lemma =>
    have hx5:=hxw3.below (z00 w3 1 _)
    have hM:Calls Tryz.prog 19 #[.pointer (some ⟨rh,0,none⟩),.int .i64 A,.int .i64 0,.int .i64 I,.int .i64 V] (w3.drewN 1) fun e w'=>e=.returned (.int .i64 1302)∧∃ c',Pb13 B w0 w' rh hb (X.cost 1 c') fs qs y rb W T va vq vr X.rt qs L w.heap.size K A C S P I O V F:=(z8I hx5.play.rs HM.out A 0 I V (by rw[HO.out.eT];exact hin) hnone).mono fun e w' q=>⟨q.1,let ⟨c',hT⟩:=q.2;⟨c',hx5.call hT⟩⟩
    go_wp2_with (go_at_call 9;refine (z04 _ _).mono ?_;rintro e w9 ⟨rfl,hw9⟩;replace hw9:=hw9.symm;subst hw9)
    go_region_held3 (fun w'=>w'.cell? ⟨y,0,none⟩=some (.pointer (some ⟨rh,0,none⟩))∧w'.cell? ⟨w.heap.size,1,none⟩=some (.int .i64 A)∧w'.cell? ⟨w.heap.size,5,none⟩=some (.int .i64 I)) (go_keep) ((go_at_call 19;refine hM.mono ?_;rintro e w6 ⟨rfl,c6,hx6⟩;have f6:=hx6.facts;clear hM))
    have HE:Hid (∀ n,Ed13 B w0 rh hb y rb W T (i+1) (w6.drewN n)):=fun n=>Ed13.of (hx6.below (z00 w6 n _)).play (HO.out.costed (by omega) c6)
    clear hxw3 hx5 fw3 HPk HFi HM
    clear hx6
    go_wp2_with (go_at_call 9;refine (z04 _ _).mono ?_;rintro e w9 ⟨rfl,hw9⟩;replace hw9:=hw9.symm;subst hw9)
    go_quiet (fail)
    go_wp2_with (go_at_call 9;refine (z04 _ _).mono ?_;rintro e w9 ⟨rfl,hw9⟩;replace hw9:=hw9.symm;subst hw9)
    go_ret
    exact⟨rfl,HE.out _⟩
  ·have hfar:decide (A<0)=true∨(decide (A<0)=false∧decide ((T:Int)≤A)=true):=by
    by_cases q:A<0
    ·exact .inl (by simpa using q)
    ·exact .inr ⟨by simpa using q,by simp;omega⟩
   rcases hfar with a0|⟨a0,a1⟩
   all_goals
    as_aux_lemma =>
     have hx5:=hxw3.below (z00 w3 1 _)
     have hM:Calls Tryz.prog 19 #[.pointer (some ⟨rh,0,none⟩),.int .i64 A,.int .i64 0,.int .i64 I,.int .i64 V] (w3.drewN 1) fun e w'=>e=.returned (.int .i64 1302)∧Pb13 B w0 w' rh hb X fs qs y rb W T va vq vr X.rt qs L w.heap.size K A C S P I O V F:=(z3G hx5.play.rs A 0 I V (by rw[HO.out.eT];exact hin)).mono fun e w' q=>⟨q.1,hx5.call q.2⟩
     go_wp2_with (go_at_call 9;refine (z04 _ _).mono ?_;rintro e w9 ⟨rfl,hw9⟩;replace hw9:=hw9.symm;subst hw9)
     go_region_held3 (fun w'=>w'.cell? ⟨y,0,none⟩=some (.pointer (some ⟨rh,0,none⟩))∧w'.cell? ⟨w.heap.size,1,none⟩=some (.int .i64 A)∧w'.cell? ⟨w.heap.size,5,none⟩=some (.int .i64 I)) (go_keep) ((go_at_call 19;refine hM.mono ?_;rintro e w6 ⟨rfl,hx6⟩;have f6:=hx6.facts;clear hM))
     have HE:Hid (∀ n,Ed13 B w0 rh hb y rb W T (i+1) (w6.drewN n)):=fun n=>Ed13.same (hx6.below (z00 w6 n _)).play HO.out
     clear hxw3 hx5 fw3 HPk HFi HM
     clear hx6
     go_wp2_with (go_at_call 9;refine (z04 _ _).mono ?_;rintro e w9 ⟨rfl,hw9⟩;replace hw9:=hw9.symm;subst hw9)
     go_quiet (fail)
     go_wp2_with (go_at_call 9;refine (z04 _ _).mono ?_;rintro e w9 ⟨rfl,hw9⟩;replace hw9:=hw9.symm;subst hw9)
     go_ret
     exact⟨rfl,HE.out _⟩
end
end Go.Proofs.YthkelaeemefnaaaGreat
