import Derived.Test.YthkelaeemefnaaaGreatMXA2qz
set_option maxRecDepth 20000
set_option maxHeartbeats 4000000
namespace Go.Proofs.YthkelaeemefnaaaGreat
open Go.RowKit
section
variable {B:Nat}{w0 w:World}{rh hb:Nat}{X:Cm}{fs qs:List Int}{y rb W T i:Nat}{va vq:Value}{vr:Nat→Value}{L:List Lr}
attribute [local go_sem ↓] z1I
theorem z9t (H:Pl13 B w0 w rh hb X fs qs y rb W T va vq vr X.rt qs L (fun _=>False)) (hO:Ok13 X fs qs W T L i) (hi:i≤200) (A C S P I O V:Int) (F:Bool) (hA:A<0):
  Calls Tryz.prog 25 #[.pointer (some ⟨y,0,none⟩),.agg #[.int .i64 5,.int .i64 A,.int .i64 C,.int .i64 S,.int .i64 P,.int .i64 I,.int .i64 O,.int .i64 V,.bool F]] w (z0p B w0 rh hb y rb W T (i+1)):=by
 have hx0:=Pb13.start H 5 A C S P I O V F
 have HO:Hid (Ok13 X fs qs W T L i):=hO
 have HPk:Hid (∀ u,Pb13 B w0 u rh hb X fs qs y rb W T va vq vr X.rt qs L w.heap.size 5 A C S P I O V F→Calls Tryz.prog 57 #[.pointer (some ⟨y,0,none⟩),.int .i64 P,.int .i64 0] u (z0w u X qs L 0)):=fun u hu=>hO.pick hi hu P 0
 have HM:Hid (∀ u r,Pb13 B w0 u rh hb X fs qs y rb W T va vq vr X.rt qs L w.heap.size 5 A C S P I O V F→(r=0∨r∈nums 0 X.S)→Calls Tryz.prog 20 #[.pointer (some ⟨rh,0,none⟩),.int .i64 A,.int .i64 r] u fun e w'=>e=.returned (.int .i64 1302)∧Pb13 B w0 w' rh hb X fs qs y rb W T va vq vr X.rt qs L w.heap.size 5 A C S P I O V F):=fun u r hu _=>(z4a hu.play.rs A r (by omega)).mono fun e w' q=>⟨q.1,hu.call q.2⟩
 have a0:decide ((0:Int)≤A)=false:=by simp;omega
 clear H hO
 go_enter Tryz.func25,Tryz.ntmps25
 have f0:=hx0.facts
 go_wp2
 generalize World.alloc _ _=W1 at *
 go_region
 all_goals
  have hx1:=hx0.below ((Below.refl _ _).drew)
  generalize World.drew _=W2 at *
  have hpk:=HPk.out _ hx1
  have f1:=hx1.facts
  clear hx0 f0
  go_wp2_with (go_at_call 57;refine hpk.mono ?_;rintro e w3 ⟨r,rfl,hb3,hr⟩;have hx3:=hx1.below hb3;have HR:Hid (r=0∨r∈nums 0 X.S):=HO.out.picked hr;clear hpk hb3 hr hx1 f1)
  have hx4:=hx3.below (z00 w3 1 _)
  have hM:=HM.out _ r hx4 HR.out
  have f3:=hx3.facts
  go_region_held3 (fun w'=>w'.cell? ⟨y,0,none⟩=some (.pointer (some ⟨rh,0,none⟩))∧w'.cell? ⟨w.heap.size,1,none⟩=some (.int .i64 A)) (go_keep) ((go_at_call 20;refine hM.mono ?_;rintro e w5 ⟨rfl,hx5⟩;have f5:=hx5.facts))
  clear hx3 hx4 hM f3 HPk HM
  go_wp2_with (go_at_call 9;refine (z04 _ _).mono ?_;rintro e w9 ⟨rfl,hw9⟩;replace hw9:=hw9.symm;subst hw9)
  go_ret
  exact⟨rfl,Ed13.same hx5.play HO.out⟩
theorem z9c (H:Pl13 B w0 w rh hb X fs qs y rb W T va vq vr X.rt qs L (fun _=>False)) (hO:Ok13 X fs qs W T L i) (hi:i≤200) (A C S P I O V:Int) (F:Bool) (hA:(T:Int)≤A):
  Calls Tryz.prog 25 #[.pointer (some ⟨y,0,none⟩),.agg #[.int .i64 5,.int .i64 A,.int .i64 C,.int .i64 S,.int .i64 P,.int .i64 I,.int .i64 O,.int .i64 V,.bool F]] w (z0p B w0 rh hb y rb W T (i+1)):=by
 have hx0:=Pb13.start H 5 A C S P I O V F
 have HO:Hid (Ok13 X fs qs W T L i):=hO
 have HPk:Hid (∀ u,Pb13 B w0 u rh hb X fs qs y rb W T va vq vr X.rt qs L w.heap.size 5 A C S P I O V F→Calls Tryz.prog 57 #[.pointer (some ⟨y,0,none⟩),.int .i64 P,.int .i64 0] u (z0w u X qs L 0)):=fun u hu=>hO.pick hi hu P 0
 have HM:Hid (∀ u r,Pb13 B w0 u rh hb X fs qs y rb W T va vq vr X.rt qs L w.heap.size 5 A C S P I O V F→(r=0∨r∈nums 0 X.S)→Calls Tryz.prog 20 #[.pointer (some ⟨rh,0,none⟩),.int .i64 A,.int .i64 r] u fun e w'=>e=.returned (.int .i64 1302)∧Pb13 B w0 w' rh hb X fs qs y rb W T va vq vr X.rt qs L w.heap.size 5 A C S P I O V F):=fun u r hu _=>(z4a hu.play.rs A r (by rw[hO.eT];omega)).mono fun e w' q=>⟨q.1,hu.call q.2⟩
 have a0:(0:Int)≤A:=by omega
 have a1:decide (A<(T:Int))=false:=by simp;omega
 clear H hO
 go_enter Tryz.func25,Tryz.ntmps25
 have f0:=hx0.facts
 go_wp2
 generalize World.alloc _ _=W1 at *
 go_quiet (fail)
 all_goals
  have hx1:=hx0.below (z00 W1 nq _)
  generalize World.drewN _ _=W2 at *
  have hpk:=HPk.out _ hx1
  have f1:=hx1.facts
  clear hx0 f0
  go_wp2_with (go_at_call 57;refine hpk.mono ?_;rintro e w3 ⟨r,rfl,hb3,hr⟩;have hx3:=hx1.below hb3;have HR:Hid (r=0∨r∈nums 0 X.S):=HO.out.picked hr;clear hpk hb3 hr hx1 f1)
  have hx4:=hx3.below (z00 w3 1 _)
  have hM:=HM.out _ r hx4 HR.out
  have f3:=hx3.facts
  go_region_held3 (fun w'=>w'.cell? ⟨y,0,none⟩=some (.pointer (some ⟨rh,0,none⟩))∧w'.cell? ⟨w.heap.size,1,none⟩=some (.int .i64 A)) (go_keep) ((go_at_call 20;refine hM.mono ?_;rintro e w5 ⟨rfl,hx5⟩;have f5:=hx5.facts))
  clear hx3 hx4 hM f3 HPk HM
  go_wp2_with (go_at_call 9;refine (z04 _ _).mono ?_;rintro e w9 ⟨rfl,hw9⟩;replace hw9:=hw9.symm;subst hw9)
  go_ret
  exact⟨rfl,Ed13.same hx5.play HO.out⟩
theorem z8d (H:Pl13 B w0 w rh hb X fs qs y rb W T va vq vr X.rt qs L (fun _=>False)) (hO:Ok13 X fs qs W T L i) (hi:i≤200) (A C S P I O V:Int) (F:Bool) (t:Nat) (ht:t<T) (hA:A=t) (hl:64≤(X.rt t).length):
  Calls Tryz.prog 25 #[.pointer (some ⟨y,0,none⟩),.agg #[.int .i64 5,.int .i64 A,.int .i64 C,.int .i64 S,.int .i64 P,.int .i64 I,.int .i64 O,.int .i64 V,.bool F]] w (z0p B w0 rh hb y rb W T (i+1)):=by
 subst hA
 have hx0:=Pb13.start H 5 t C S P I O V F
 have HO:Hid (Ok13 X fs qs W T L i):=hO
 have HPk:Hid (∀ u,Pb13 B w0 u rh hb X fs qs y rb W T va vq vr X.rt qs L w.heap.size 5 t C S P I O V F→Calls Tryz.prog 57 #[.pointer (some ⟨y,0,none⟩),.int .i64 P,.int .i64 0] u (z0w u X qs L 0)):=fun u hu=>hO.pick hi hu P 0
 have HM:Hid (∀ u r,Pb13 B w0 u rh hb X fs qs y rb W T va vq vr X.rt qs L w.heap.size 5 t C S P I O V F→(r=0∨r∈nums 0 X.S)→Calls Tryz.prog 20 #[.pointer (some ⟨rh,0,none⟩),.int .i64 t,.int .i64 r] u fun e w'=>e=.returned (.int .i64 1303)∧Pb13 B w0 w' rh hb X fs qs y rb W T va vq vr X.rt qs L w.heap.size 5 t C S P I O V F):=fun u r hu _=>(z5j hu.play.rs t r (by rw[hO.eT];exact ht) hl t rfl).mono fun e w' q=>⟨q.1,hu.call q.2⟩
 have a0:(0:Int)≤(t:Int):=by omega
 have a1:(t:Int)<(T:Int):=by omega
 have a2:(64:Int)≤((X.rt t).length:Int):=by omega
 clear H hO
 go_enter Tryz.func25,Tryz.ntmps25
 have f0:=hx0.facts
 go_wp2
 generalize World.alloc _ _=W1 at *
 go_quiet (fail)
 all_goals
  have hx1:=hx0.below (z00 W1 nq _)
  generalize World.drewN _ _=W2 at *
  have hpk:=HPk.out _ hx1
  have f1:=hx1.facts
  clear hx0 f0
  go_wp2_with (go_at_call 57;refine hpk.mono ?_;rintro e w3 ⟨r,rfl,hb3,hr⟩;have hx3:=hx1.below hb3;have HR:Hid (r=0∨r∈nums 0 X.S):=HO.out.picked hr;clear hpk hb3 hr hx1 f1)
  have hx4:=hx3.below (z00 w3 1 _)
  have hM:=HM.out _ r hx4 HR.out
  have f3:=hx3.facts
  go_region_held3 (fun w'=>w'.cell? ⟨y,0,none⟩=some (.pointer (some ⟨rh,0,none⟩))∧w'.cell? ⟨w.heap.size,1,none⟩=some (.int .i64 t)) (go_keep) ((go_at_call 20;refine hM.mono ?_;rintro e w5 ⟨rfl,hx5⟩;have f5:=hx5.facts))
  clear hx3 hx4 hM f3 HPk HM
  obtain⟨hrr,kr⟩:=hx5.play.lm.root ht
  obtain⟨ar,cr,er⟩:=hrr.form
  have lr:=hx5.play.lm.rb_lt
  rw[er] at kr
  generalize (X.rt t).length=nr at *
  clear hrr
  go_wp2
  go_quiet (fail)
  all_goals
   have hx6:=hx5.below (z00 w5 nq _)
   generalize World.drewN _ _=w6 at *
   clear hx5 f5
   go_wp2_with (go_at_call 9;refine (z04 _ _).mono ?_;rintro e w9 ⟨rfl,hw9⟩;replace hw9:=hw9.symm;subst hw9)
   go_ret
   exact⟨rfl,Ed13.same hx6.play HO.out⟩
theorem zbf (H:Pl13 B w0 w rh hb X fs qs y rb W T va vq vr X.rt qs L (fun _=>False)) (hO:Ok13 X fs qs W T L i) (hi:i≤200) (A C S P I O V:Int) (F:Bool) (t:Nat) (ht:t<T) (hA:A=t) (hl:(X.rt t).length<64):
  Calls Tryz.prog 25 #[.pointer (some ⟨y,0,none⟩),.agg #[.int .i64 5,.int .i64 A,.int .i64 C,.int .i64 S,.int .i64 P,.int .i64 I,.int .i64 O,.int .i64 V,.bool F]] w (z0p B w0 rh hb y rb W T (i+1)):=by
 subst hA
 have hx0:=Pb13.start H 5 t C S P I O V F
 have HO:Hid (Ok13 X fs qs W T L i):=hO
 have HPk:Hid (∀ u,Pb13 B w0 u rh hb X fs qs y rb W T va vq vr X.rt qs L w.heap.size 5 t C S P I O V F→Calls Tryz.prog 57 #[.pointer (some ⟨y,0,none⟩),.int .i64 P,.int .i64 0] u (z0w u X qs L 0)):=fun u hu=>hO.pick hi hu P 0
 have HM:Hid (∀ u r,Pb13 B w0 u rh hb X fs qs y rb W T va vq vr X.rt qs L w.heap.size 5 t C S P I O V F→(r=0∨r∈nums 0 X.S)→Calls Tryz.prog 20 #[.pointer (some ⟨rh,0,none⟩),.int .i64 t,.int .i64 r] u fun e w'=>e=.returned (.int .i64 0)∧Pb13 B w0 w' rh hb (X.rooted t (X.rt t++[r])) fs qs y rb W T va vq vr X.rt qs L w.heap.size 5 t C S P I O V F):=fun u r hu hr=>(ze7 hu.play.rs t r (by rw[hO.eT];exact ht) hl hr t rfl).mono fun e w' q=>⟨q.1,hu.call q.2⟩
 have a0:(0:Int)≤(t:Int):=by omega
 have a1:(t:Int)<(T:Int):=by omega
 have a2:¬ (64:Int)≤((X.rt t).length:Int):=by omega
 have HLl:Hid ((X.rt t).length<64):=hl
 clear H hO
 go_enter Tryz.func25,Tryz.ntmps25
 have f0:=hx0.facts
 go_wp2
 generalize World.alloc _ _=W1 at *
 go_quiet (fail)
 all_goals
  have hx1:=hx0.below (z00 W1 nq _)
  generalize World.drewN _ _=W2 at *
  have hpk:=HPk.out _ hx1
  have f1:=hx1.facts
  clear hx0 f0
  go_wp2_with (go_at_call 57;refine hpk.mono ?_;rintro e w3 ⟨r,rfl,hb3,hr⟩;have hx3:=hx1.below hb3;have HR:Hid (r=0∨r∈nums 0 X.S):=HO.out.picked hr;clear hpk hb3 hr hx1 f1)
  have hx4:=hx3.below (z00 w3 1 _)
  have hM:=HM.out _ r hx4 HR.out
  have f3:=hx3.facts
  go_region_held3 (fun w'=>w'.cell? ⟨y,0,none⟩=some (.pointer (some ⟨rh,0,none⟩))∧w'.cell? ⟨w.heap.size,1,none⟩=some (.int .i64 t)) (go_keep) ((go_at_call 20;refine hM.mono ?_;rintro e w5 ⟨rfl,hx5⟩;have f5:=hx5.facts))
  clear hx3 hx4 hM f3 HPk HM
  obtain⟨hrr,kr⟩:=hx5.play.lm.root ht
  obtain⟨ar,cr,er⟩:=hrr.form
  have lr:=hx5.play.lm.rb_lt
  rw[er] at kr
  obtain⟨nr,hnr⟩:∃ nr,nr=(X.rt t).length:=⟨_,rfl⟩
  rw[← hnr] at kr a2
  have HNr:Hid (nr=(X.rt t).length):=hnr
  clear hrr hnr
  go_wp2
  go_quiet (fail)
  all_goals
   have hx6:=hx5.below (z00 w5 nq _)
   generalize World.drewN _ _=w6 at *
   have f6:=hx6.facts
   obtain⟨_,kr6⟩:=hx6.play.lm.root ht
   have lr6:=hx6.play.lm.rb_lt
   rw[er,← HNr.out] at kr6
   obtain⟨ao,cap,ao',cap',w7,e7,hrun,hBt7,⟨⟨k1,k2⟩,⟨k3,k4⟩,k5⟩,hP7⟩:=hx6.play.pushr ht (by have:=HLl.out;omega) r
   rw[er] at e7 k1
   simp only[Value.slice.injEq,true_and] at e7
   obtain⟨rfl,rfl⟩:=e7
   rw[← HNr.out] at hrun hP7 k1
   have b7:=(hx6.stay ht hBt7 1).trans f6.2.1.2.1
   have bl7:w.heap.size<w7.heap.size:=Nat.lt_of_lt_of_le f6.2.2 hBt7.size
   have HE:Hid (Ed13 B w0 rh hb y rb W T (i+1) (w7.setCell ⟨rb,t,none⟩ (.slice ao' (nr+1) cap'))):=Ed13.of hP7 (HO.out.rooted t (by rw[List.length_append,List.length_singleton];have:=HLl.out;omega) (Nat.le_refl _))
   clear hx5 f5 hx6 hP7 kr er hBt7
   go_wp2_with (go_at_call 9;refine (z04 _ _).mono ?_;rintro e w9 ⟨rfl,hw9⟩;replace hw9:=hw9.symm;subst hw9)
   go_region
   go_wp2_with (go_at_call 9;refine (z04 _ _).mono ?_;rintro e w9 ⟨rfl,hw9⟩;replace hw9:=hw9.symm;subst hw9)
   go_ret
   exact⟨rfl,HE.out⟩
end
end Go.Proofs.YthkelaeemefnaaaGreat
namespace Go.Proofs.YthkelaeemefnaaaGreat
open Go.RowKit
section
variable {B:Nat}{w0 w:World}{rh hb:Nat}{X:Cm}{fs qs:List Int}{y rb W T i:Nat}{va vq:Value}{vr:Nat→Value}{L:List Lr}
attribute [local go_sem ↓] z1I
theorem zb4 (H:Pl13 B w0 w rh hb X fs qs y rb W T va vq vr X.rt qs L (fun _=>False)) (hO:Ok13 X fs qs W T L i) (K A C S P I O V:Int) (F:Bool) (hK:K≠5) (hA:A<0):
  Calls Tryz.prog 25 #[.pointer (some ⟨y,0,none⟩),.agg #[.int .i64 K,.int .i64 A,.int .i64 C,.int .i64 S,.int .i64 P,.int .i64 I,.int .i64 O,.int .i64 V,.bool F]] w (z0p B w0 rh hb y rb W T (i+1)):=by
 have hx0:=Pb13.start H K A C S P I O V F
 have HO:Hid (Ok13 X fs qs W T L i):=hO
 have HM:Hid (∀ u,Pb13 B w0 u rh hb X fs qs y rb W T va vq vr X.rt qs L w.heap.size K A C S P I O V F→Calls Tryz.prog 15 #[.pointer (some ⟨rh,0,none⟩),.int .i64 A] u fun e w'=>e=.returned (.tuple #[.int .i64 0,.int .i64 1302])∧Pb13 B w0 w' rh hb X fs qs y rb W T va vq vr X.rt qs L w.heap.size K A C S P I O V F):=fun u hu=>(z5Y hu.play.rs A (by omega)).mono fun e w' q=>⟨q.1,hu.call q.2⟩
 have a0:decide ((0:Int)≤A)=false:=by simp;omega
 have k5:(K == 5)=false:=by simpa using hK
 clear H hO hK
 go_enter Tryz.func25,Tryz.ntmps25
 have f0:=hx0.facts
 go_wp2
 generalize World.alloc _ _=W1 at *
 go_region
 all_goals
  have hx1:=hx0.below ((Below.refl _ _).drew)
  generalize World.drew _=W2 at *
  have hx4:=hx1.below (z00 W2 1 _)
  have hM:=HM.out _ hx4
  have f1:=hx1.facts
  clear hx0 f0
  go_wp2
  go_region_held3 (fun w'=>w'.cell? ⟨y,0,none⟩=some (.pointer (some ⟨rh,0,none⟩))∧w'.cell? ⟨w.heap.size,1,none⟩=some (.int .i64 A)) (go_keep) ((go_at_call 15;refine hM.mono ?_;rintro e w5 ⟨rfl,hx5⟩;have f5:=hx5.facts))
  clear hx1 hx4 hM f1 HM
  go_wp2_with (go_at_call 9;refine (z04 _ _).mono ?_;rintro e w9 ⟨rfl,hw9⟩;replace hw9:=hw9.symm;subst hw9)
  go_ret
  exact⟨rfl,Ed13.same hx5.play HO.out⟩
theorem zaf (H:Pl13 B w0 w rh hb X fs qs y rb W T va vq vr X.rt qs L (fun _=>False)) (hO:Ok13 X fs qs W T L i) (K A C S P I O V:Int) (F:Bool) (hK:K≠5) (hA:(T:Int)≤A):
  Calls Tryz.prog 25 #[.pointer (some ⟨y,0,none⟩),.agg #[.int .i64 K,.int .i64 A,.int .i64 C,.int .i64 S,.int .i64 P,.int .i64 I,.int .i64 O,.int .i64 V,.bool F]] w (z0p B w0 rh hb y rb W T (i+1)):=by
 have hx0:=Pb13.start H K A C S P I O V F
 have HO:Hid (Ok13 X fs qs W T L i):=hO
 have HM:Hid (∀ u,Pb13 B w0 u rh hb X fs qs y rb W T va vq vr X.rt qs L w.heap.size K A C S P I O V F→Calls Tryz.prog 15 #[.pointer (some ⟨rh,0,none⟩),.int .i64 A] u fun e w'=>e=.returned (.tuple #[.int .i64 0,.int .i64 1302])∧Pb13 B w0 w' rh hb X fs qs y rb W T va vq vr X.rt qs L w.heap.size K A C S P I O V F):=fun u hu=>(z5Y hu.play.rs A (by rw[hO.eT];omega)).mono fun e w' q=>⟨q.1,hu.call q.2⟩
 have a0:(0:Int)≤A:=by omega
 have a1:decide (A<(T:Int))=false:=by simp;omega
 have k5:(K == 5)=false:=by simpa using hK
 clear H hO hK
 go_enter Tryz.func25,Tryz.ntmps25
 have f0:=hx0.facts
 go_wp2
 generalize World.alloc _ _=W1 at *
 go_quiet (fail)
 all_goals
  have hx1:=hx0.below (z00 W1 nq _)
  generalize World.drewN _ _=W2 at *
  have hx4:=hx1.below (z00 W2 1 _)
  have hM:=HM.out _ hx4
  have f1:=hx1.facts
  clear hx0 f0
  go_wp2
  go_region_held3 (fun w'=>w'.cell? ⟨y,0,none⟩=some (.pointer (some ⟨rh,0,none⟩))∧w'.cell? ⟨w.heap.size,1,none⟩=some (.int .i64 A)) (go_keep) ((go_at_call 15;refine hM.mono ?_;rintro e w5 ⟨rfl,hx5⟩;have f5:=hx5.facts))
  clear hx1 hx4 hM f1 HM
  go_wp2_with (go_at_call 9;refine (z04 _ _).mono ?_;rintro e w9 ⟨rfl,hw9⟩;replace hw9:=hw9.symm;subst hw9)
  go_ret
  exact⟨rfl,Ed13.same hx5.play HO.out⟩
theorem z9J (H:Pl13 B w0 w rh hb X fs qs y rb W T va vq vr X.rt qs L (fun _=>False)) (hO:Ok13 X fs qs W T L i) (K A C S P I O V:Int) (F:Bool) (hK:K≠5) (t:Nat) (ht:t<T) (hA:A=t) (hl:X.rt t=[]):
  Calls Tryz.prog 25 #[.pointer (some ⟨y,0,none⟩),.agg #[.int .i64 K,.int .i64 A,.int .i64 C,.int .i64 S,.int .i64 P,.int .i64 I,.int .i64 O,.int .i64 V,.bool F]] w (z0p B w0 rh hb y rb W T (i+1)):=by
 subst hA
 have hx0:=Pb13.start H K t C S P I O V F
 have HO:Hid (Ok13 X fs qs W T L i):=hO
 have HM:Hid (∀ u,Pb13 B w0 u rh hb X fs qs y rb W T va vq vr X.rt qs L w.heap.size K t C S P I O V F→Calls Tryz.prog 15 #[.pointer (some ⟨rh,0,none⟩),.int .i64 t] u fun e w'=>e=.returned (.tuple #[.int .i64 0,.int .i64 1303])∧Pb13 B w0 w' rh hb X fs qs y rb W T va vq vr X.rt qs L w.heap.size K t C S P I O V F):=fun u hu=>(z8k hu.play.rs t (by rw[hO.eT];exact ht) hl t rfl).mono fun e w' q=>⟨q.1,hu.call q.2⟩
 have a0:(0:Int)≤(t:Int):=by omega
 have a1:(t:Int)<(T:Int):=by omega
 have HL0:Hid ((X.rt t).length=0):=(by rw[hl];rfl:(X.rt t).length=0)
 have k5:(K == 5)=false:=by simpa using hK
 clear H hO hK
 go_enter Tryz.func25,Tryz.ntmps25
 have f0:=hx0.facts
 go_wp2
 generalize World.alloc _ _=W1 at *
 go_quiet (fail)
 all_goals
  have hx1:=hx0.below (z00 W1 nq _)
  generalize World.drewN _ _=W2 at *
  have hx4:=hx1.below (z00 W2 1 _)
  have hM:=HM.out _ hx4
  have f1:=hx1.facts
  clear hx0 f0
  go_wp2
  go_region_held3 (fun w'=>w'.cell? ⟨y,0,none⟩=some (.pointer (some ⟨rh,0,none⟩))∧w'.cell? ⟨w.heap.size,1,none⟩=some (.int .i64 t)) (go_keep) ((go_at_call 15;refine hM.mono ?_;rintro e w5 ⟨rfl,hx5⟩;have f5:=hx5.facts))
  clear hx1 hx4 hM f1 HM
  obtain⟨hrr,kr⟩:=hx5.play.lm.root ht
  obtain⟨ar,cr,er⟩:=hrr.form
  have lr:=hx5.play.lm.rb_lt
  rw[er] at kr
  rw[HL0.out] at kr
  clear hrr
  go_wp2
  go_quiet (fail)
  all_goals
   have hx6:=hx5.below (z00 w5 nq _)
   generalize World.drewN _ _=w6 at *
   clear hx5 f5
   go_wp2_with (go_at_call 9;refine (z04 _ _).mono ?_;rintro e w9 ⟨rfl,hw9⟩;replace hw9:=hw9.symm;subst hw9)
   go_ret
   exact⟨rfl,Ed13.same hx6.play HO.out⟩
theorem zbj (H:Pl13 B w0 w rh hb X fs qs y rb W T va vq vr X.rt qs L (fun _=>False)) (hO:Ok13 X fs qs W T L i) (K A C S P I O V:Int) (F:Bool) (hK:K≠5) (t:Nat) (ht:t<T) (hA:A=t) (U:List Int) (x:Int) (hU:X.rt t=U++[x]):
  Calls Tryz.prog 25 #[.pointer (some ⟨y,0,none⟩),.agg #[.int .i64 K,.int .i64 A,.int .i64 C,.int .i64 S,.int .i64 P,.int .i64 I,.int .i64 O,.int .i64 V,.bool F]] w (z0p B w0 rh hb y rb W T (i+1)):=by
 subst hA
 have hx0:=Pb13.start H K t C S P I O V F
 have HO:Hid (Ok13 X fs qs W T L i):=hO
 have HM:Hid (∀ u,Pb13 B w0 u rh hb X fs qs y rb W T va vq vr X.rt qs L w.heap.size K t C S P I O V F→Calls Tryz.prog 15 #[.pointer (some ⟨rh,0,none⟩),.int .i64 t] u fun e w'=>e=.returned (.tuple #[.int .i64 x,.int .i64 0])∧Pb13 B w0 w' rh hb (X.rooted t U) fs qs y rb W T va vq vr X.rt qs L w.heap.size K t C S P I O V F):=fun u hu=>(zfT hu.play.rs t (by rw[hO.eT];exact ht) hU t rfl).mono fun e w' q=>⟨q.1,hu.call q.2⟩
 have a0:(0:Int)≤(t:Int):=by omega
 have a1:(t:Int)<(T:Int):=by omega
 have HUl:Hid (X.rt t=U++[x]∧U.length≤64):=⟨hU,by have:=hO.r64 t ht;rw[hU,List.length_append] at this;omega⟩
 have k5:(K == 5)=false:=by simpa using hK
 clear H hO hK
 go_enter Tryz.func25,Tryz.ntmps25
 have f0:=hx0.facts
 go_wp2
 generalize World.alloc _ _=W1 at *
 go_quiet (fail)
 all_goals
  have hx1:=hx0.below (z00 W1 nq _)
  generalize World.drewN _ _=W2 at *
  have hx4:=hx1.below (z00 W2 1 _)
  have hM:=HM.out _ hx4
  have f1:=hx1.facts
  clear hx0 f0
  go_wp2
  go_region_held3 (fun w'=>w'.cell? ⟨y,0,none⟩=some (.pointer (some ⟨rh,0,none⟩))∧w'.cell? ⟨w.heap.size,1,none⟩=some (.int .i64 t)) (go_keep) ((go_at_call 15;refine hM.mono ?_;rintro e w5 ⟨rfl,hx5⟩;have f5:=hx5.facts))
  clear hx1 hx4 hM f1 HM
  obtain⟨p,cap,er,⟨lp,lc⟩,cp,⟨⟨k1,k2⟩,⟨k3,k4⟩,k5'⟩,_⟩:=hx5.play.popr ht HUl.out.1
  rw[er] at k1
  obtain⟨nu,hnu⟩:∃ nu,nu=U.length:=⟨_,rfl⟩
  rw[← hnu] at k1 cp lc
  have HNu:Hid (nu=U.length):=hnu
  clear hnu
  have g1:((((nu+1:Nat):Int)) == 0)=false:=by simp;omega
  have g64:nu≤64:=by have:=HNu.out;have:=HUl.out.2;omega
  have g2:((nu+1:Nat):Int)-1=(nu:Int):=by omega
  have s0:¬ cap=0:=by omega
  have s1:nu≤cap:=by omega
  go_wp2
  go_quiet (fail)
  all_goals
   have hx6:=hx5.below (z00 w5 nq _)
   generalize World.drewN _ _=w6 at *
   obtain⟨p6,cap6,er6,⟨lp6,lc6⟩,cp6,⟨⟨m1,m2⟩,⟨m3,m4⟩,m5⟩,_⟩:=hx6.play.popr ht HUl.out.1
   rw[er,← HNu.out] at er6
   simp only[Value.slice.injEq,Option.some.injEq,Addr.mk.injEq,true_and,and_true] at er6
   obtain⟨rfl,rfl⟩:=er6
   rw[er,← HNu.out] at m1
   rw[← HNu.out] at cp6
   have f6:=hx6.facts
   clear hx5 f5 k1 k2 k3 k4 k5' cp lp
   go_wp2_with (go_at_call 9;refine (z04 _ _).mono ?_;rintro e w9 ⟨rfl,hw9⟩;replace hw9:=hw9.symm;subst hw9)
   go_quiet (fail)
   all_goals
    have hx7:=hx6.below (z00 w6 nq _)
    generalize World.drewN _ _=w7 at *
    obtain⟨p7,cap7,er7,⟨lp7,lc7⟩,cp7,⟨⟨n1,n2⟩,⟨n3,n4⟩,n5⟩,hP7⟩:=hx7.play.popr ht HUl.out.1
    rw[er,← HNu.out] at er7
    simp only[Value.slice.injEq,Option.some.injEq,Addr.mk.injEq,true_and,and_true] at er7
    obtain⟨rfl,rfl⟩:=er7
    rw[er,← HNu.out] at n1
    rw[← HNu.out] at hP7
    have f7:=hx7.facts
    have hP8:=hP7.below (w':=(w7.setCell ⟨rb,t,none⟩ (.slice (some ⟨p,0,none⟩) nu cap)).drew) (Below.refl _ _).drew
    have HE:Hid (Ed13 B w0 rh hb y rb W T (i+1) (w7.setCell ⟨rb,t,none⟩ (.slice (some ⟨p,0,none⟩) nu cap))∧Ed13 B w0 rh hb y rb W T (i+1) (w7.setCell ⟨rb,t,none⟩ (.slice (some ⟨p,0,none⟩) nu cap)).drew):=⟨Ed13.of hP7 (HO.out.rooted t HUl.out.2 (Nat.le_refl _)),Ed13.of hP8 (HO.out.rooted t HUl.out.2 (Nat.le_refl _))⟩
    clear hx6 f6 hx7 hP7 hP8 er m1 m2 m3 m4 m5 cp6 lp6
    go_wp2_with (go_at_call 9;refine (z04 _ _).mono ?_;rintro e w9 ⟨rfl,hw9⟩;replace hw9:=hw9.symm;subst hw9)
    go_region
    go_wp2_with (go_at_call 9;refine (z04 _ _).mono ?_;rintro e w9 ⟨rfl,hw9⟩;replace hw9:=hw9.symm;subst hw9)
    go_ret
    exact⟨rfl,by first|exact HE.out.1|exact HE.out.2⟩
end
end Go.Proofs.YthkelaeemefnaaaGreat
namespace Go.Proofs.YthkelaeemefnaaaGreat
open Go.RowKit
theorem zdr:(Tryz.prog.info? 90).map (fun i=>(i.zero,i.size,i.bytes))=some (some (.agg #[.int .i64 0,.int .i64 0,.slice none 0 0,.bool false,.bool false]),5,48):=by kernel_rfl
theorem z3X (S:List (Option Cel)) (cl:Cel):nums 0 (S++[some cl])=nums 0 S++[(S.length:Int)+1]:=by
 have key:∀ (S:List (Option Cel)) (k:Nat),nums k (S++[some cl])=nums k S++[(k:Int)+S.length+1]:=by
  intro S
  induction S with
  | nil=>intro k;simp[nums]
  | cons o S ih =>
   intro k
   have e:((k+1:Nat):Int)+(S.length:Int)+1=(k:Int)+((S.length+1:Nat):Int)+1:=by omega
   cases o with
   | none=>simp only[List.cons_append,nums,ih (k+1),List.length_cons,e]
   | some c=>simp only[List.cons_append,nums,ih (k+1),List.length_cons,e]
 have:=key S 0
 rw[show ((0:Nat):Int)+(S.length:Int)+1=(S.length:Int)+1 by omega] at this
 exact this
section
variable {B:Nat}{w0 w w':World}{rh hb:Nat}{X:Cm}{fs qs:List Int}{y rb W T i:Nat}{va vq:Value}{vr:Nat→Value}{R:Nat→List Int}{Q:List Int}{L:List Lr}{E:Nat→Prop}
theorem Ag13.added (h:Ag13 X fs L) {cl:Cel}{f:Nat→Int}{t:Nat}(x:Lr) (h1:x.ref=(X.S.length:Int)+1) (h2:cl.kind=x.kind) (h3:cl.n=x.ws.length) (h4:∀ j,j<cl.n→x.ws[j]?=some (f j)) (h5:x.kind=4→∃ v,x.ws[0]?=some v∧(v=0∨v∈nums 0 X.S)) (m:Nat) (c':Int→Int) {fs':List Int}(hfs:fs'=if (x.fin&&!x.qd)=true then fs++[(X.S.length:Int)+1] else fs):Ag13 { X with m:=m,c:=c',S:=X.S++[some cl],F:=setF X.F X.S.length f,rt:=setL X.rt t (X.rt t++[(X.S.length:Int)+1]) } fs' (L++[x]):=by
 have hA:=z1q X.S cl
 have hne:∀ z∈L,z.ref≠(X.S.length:Int)+1∧1≤z.ref:=fun z hz=>by
  obtain⟨c2,q1,_⟩:=h.cel z hz
  obtain⟨k,e,hk⟩:=z0d q1
  have:=(List.getElem?_eq_some_iff.1 hk).1
  omega
 refine⟨?_,fun z hz=>?_,?_,fun z hz hk=>?_⟩
 ·show (L++[x]).map Lr.ref=nums 0 (X.S++[some cl])
  rw[List.map_append,h.refs,z3X]
  simp[h1]
 ·rcases List.mem_append.1 hz with q|q
  ·obtain⟨c2,q1,q2,q3,q4⟩:=h.cel z q
   have hz1:=hne z q
   refine⟨c2,?_,q2,q3,fun j hj=>?_⟩
   ·show z0a (X.S++[some cl]) z.ref=some c2
    rw[z10 hA hz1.1];exact q1
   ·rw[q4 j hj]
    show some (X.F (z.ref-1).toNat j)=some (setF X.F X.S.length f (z.ref-1).toNat j)
    rw[z0n _ _ (by omega)]
  ·rw[List.mem_singleton.1 q]
   refine⟨cl,?_,h2,h3,fun j hj=>?_⟩
   ·show z0a (X.S++[some cl]) x.ref=some cl
    rw[h1];exact z0W hA
   ·rw[h4 j hj]
    show some (f j)=some (setF X.F X.S.length f (x.ref-1).toNat j)
    rw[h1,show ((X.S.length:Int)+1-1).toNat=X.S.length by omega,z0L]
 ·rw[hfs,List.filter_append,List.map_append,← h.fin]
  by_cases q:(x.fin&&!x.qd)=true
  ·have e:([x].filter fun z=>z.fin&&!z.qd)=[x]:=by simp only[List.filter,q]
   rw[if_pos q,e]
   simp[h1]
  ·have q2:(x.fin&&!x.qd)=false:=by simpa using q
   have e:([x].filter fun z=>z.fin&&!z.qd)=[]:=by simp only[List.filter,q2]
   rw[if_neg q,e]
   simp
 ·have up:∀ v,v∈nums 0 X.S→v∈nums 0 (X.S++[some cl]):=fun v hv=>by rw[z3X];exact List.mem_append_left _ hv
  rcases List.mem_append.1 hz with q|q
  ·obtain⟨v,a1,a2⟩:=h.weak z q hk
   exact⟨v,a1,a2.imp id (up v)⟩
  ·rw[List.mem_singleton.1 q] at hk ⊢
   obtain⟨v,a1,a2⟩:=h5 hk
   exact⟨v,a1,a2.imp id (up v)⟩
theorem Ok13.made (h:Ok13 X fs qs W T L i) {t:Nat}(ht:(X.rt t).length<64) (kd cls:Int) (n:Nat) (hk:kd≠4) (a:Int) (c':Int→Int) (b:Bool) (v:Value):Ok13 (X.made t kd cls n a c') (if b=true then fs++[(X.S.length:Int)+1] else fs) qs W T (L++[⟨(X.S.length:Int)+1,kd,List.replicate n 0,b,false,v⟩]) (i+1):=by
 have h1:=h.few
 have h2:=h.cost
 have h3:=h.cy
 refine⟨h.ag.added (cl:=⟨kd,cls,n,a⟩) (f:=fun _=>0) ⟨(X.S.length:Int)+1,kd,List.replicate n 0,b,false,v⟩ rfl rfl (by simp) (fun j hj=>by simp[show j<n from hj]) (fun q=>absurd q hk) _ _ (by cases b<;>rfl),h.eT,h.eW,h.lim,fun u hu=>?_,⟨?_,?_⟩,?_,?_⟩
 ·show (setL X.rt t (X.rt t++[(X.S.length:Int)+1]) u).length≤64
  unfold setL
  split
  ·rw[List.length_append,List.length_singleton];omega
  ·exact h.r64 u hu
 ·split
  ·rw[List.length_append,List.length_singleton];omega
  ·omega
 ·rw[List.length_append,List.length_singleton];omega
 ·show X.m+500+500*cntS (X.S++[some ⟨kd,cls,n,a⟩])≤_
  rw[(z16 _ _).2];omega
 ·show 0≤X.cy∧X.cy≤_
  omega
theorem Ok13.weaked (h:Ok13 X fs qs W T L i) {t:Nat}(ht:(X.rt t).length<64) (r:Int) (hr:r∈nums 0 X.S) (a:Int) (c':Int→Int) (v:Value):Ok13 (X.weaked t r a c') fs qs W T (L++[⟨(X.S.length:Int)+1,4,[r],false,false,v⟩]) (i+1):=by
 have h1:=h.few
 have h2:=h.cost
 have h3:=h.cy
 refine⟨h.ag.added (cl:=⟨4,10,1,a⟩) (f:=fun l=>if l=0 then r else 0) ⟨(X.S.length:Int)+1,4,[r],false,false,v⟩ rfl rfl rfl (fun j hj=>by
  have:j<1:=hj
  obtain rfl:j=0:=by omega
  rfl) (fun _=>⟨r,rfl,.inr hr⟩) _ _ rfl,h.eT,h.eW,h.lim,fun u hu=>?_,⟨by omega,?_⟩,?_,?_⟩
 ·show (setL X.rt t (X.rt t++[(X.S.length:Int)+1]) u).length≤64
  unfold setL
  split
  ·rw[List.length_append,List.length_singleton];omega
  ·exact h.r64 u hu
 ·rw[List.length_append,List.length_singleton];omega
 ·show X.m+501+500*cntS (X.S++[some ⟨4,10,1,a⟩])≤_
  rw[(z16 _ _).2];omega
 ·show 0≤X.cy∧X.cy≤_
  omega
theorem Pl13.addc (H:Pl13 B w0 w rh hb X fs qs y rb W T va vq vr R Q L E) (x:Lr) (hx:Ri w B x.v x.ws) (hE:∀ k,x.v.ownBlock=some k→E k) (hnew:∀ k,x.v.ownBlock=some k→¬ Pown y rb va (bunL vq Q vr R T L) k) (hL:L.length≤1000):∃ ao cap ao' cap' w3,va=.slice ao L.length cap∧(appC #[31,31] 31 #[.slice ao L.length cap,.slice (some ⟨w.heap.size,0,none⟩) 1 1]).run Tryz.prog (w.alloc (.cells #[.int .i64 x.ref,.int .i64 x.kind,x.v,.bool x.fin,.bool x.qd] 90)).drew=.ok (.slice ao' (L.length+1) cap') w3∧(w3.cell? ⟨y,3,none⟩=some va∧y<w3.heap.size∧w3.frozen? ⟨y,3,none⟩=false) ∧
  (∀ k,k<w.heap.size→va.ownBlock≠some k→w3.heap[k]?=w.heap[k]?)∧w.heap.size≤w3.heap.size∧Pl13 B w0 (w3.setCell ⟨y,3,none⟩ (.slice ao' (L.length+1) cap')) rh hb X fs qs y rb W T (.slice ao' (L.length+1) cap') vq vr R Q (L++[x]) E:=by
 obtain⟨i0,hi0,hzz⟩:=Option.map_eq_some_iff.1 zdr
 simp only[Prod.mk.injEq] at hzz
 obtain⟨hz0,hz1,hz2⟩:=hzz
 have hlen:(L.map rowR).length=L.length:=List.length_map _
 obtain⟨av,cv,ev⟩:=hx.form
 have hW:(w.alloc (.cells #[.int .i64 x.ref,.int .i64 x.kind,x.v,.bool x.fin,.bool x.qd] 90)).drew.heap[w.heap.size]?=some (.cells (rowR x).toArray 90 (0,0)):=heap_alloc_new w (.cells #[.int .i64 x.ref,.int .i64 x.kind,x.v,.bool x.fin,.bool x.qd] 90)
 have hbW:Below w.heap.size w (w.alloc (.cells #[.int .i64 x.ref,.int .i64 x.kind,x.v,.bool x.fin,.bool x.qd] 90)).drew:=((Below.refl _ _).alloc (Nat.le_refl _) _).drew
 obtain⟨v',w3,hrun,hR,hg,hat⟩:=H.lm.row.app (P:=Tryz.prog) (t:=31) (ty:=31) Tryz.underlying31 hi0 hz0 hz1 hz2 rfl (by decide) (rowR x) rfl (by simp[rowR,Value.oneCell',ev]) H.rs.size (by rw[hlen];unfold maxLen;omega) (by rw[hlen];omega) hW hbW
 obtain⟨ao',cap',e⟩:=hR.form
 rw[List.length_append,List.length_singleton,hlen] at e
 subst e
 obtain⟨ao,cap,eva⟩:=H.lm.row.form
 rw[hlen] at eva
 obtain⟨a1,a2,a3,a4⟩:=H.lm.apart
 have hB3:∀ k,k<w.heap.size→va.ownBlock≠some k→w3.heap[k]?=w.heap[k]?:=fun k hk q=>hg.block k hk (fun z=>q z.symm)
 have hy:w3.heap[y]?=w.heap[y]?:=hB3 y H.lm.y_lt a2
 have hh:=hy.trans H.lm.here
 have hvy:(Value.slice ao' (L.length+1) cap').ownBlock≠some y:=fun q=>by
  obtain⟨cur,h1⟩:=hR.kind q
  rw[hh] at h1;simp at h1
 have st:∀ k,k<w.heap.size→k≠y→va.ownBlock≠some k→(w3.setCell ⟨y,3,none⟩ (.slice ao' (L.length+1) cap')).heap[k]?=w.heap[k]?:=fun k hk h1 h2=>(z03 _ _ h1).trans (hB3 k hk h2)
 have hBt:Bt (Pown y rb va (bunL vq Q vr R T L)) w (w3.setCell ⟨y,3,none⟩ (.slice ao' (L.length+1) cap')):=⟨hg.os,hg.tape,hg.output,by simpa [World.setCell] using hg.size,fun k hk hn=>st k hk (fun q=>hn (.inl q)) (fun q=>hn (.inr (.inr (.inl q))))⟩
 have hxk:∀ k,x.v.ownBlock=some k→k<w.heap.size∧k≠y∧va.ownBlock≠some k:=fun k hk=>⟨(hx.lt hk).2,fun q=>hnew k hk (.inl q),fun q=>hnew k hk (.inr (.inr (.inl q)))⟩
 have hbun:Bun (w3.setCell ⟨y,3,none⟩ (.slice ao' (L.length+1) cap')) B (bunL vq Q vr R T (L++[x])):=by
  rw[← z7N]
  have hb0:Bun (w3.setCell ⟨y,3,none⟩ (.slice ao' (L.length+1) cap')) B (bunL vq Q vr R T L):=H.lm.bun.same (fun q hq k hk=>st k (H.lm.bun.lt hq hk).2 (fun z=>(a4 q hq).1 (by rw[hk,z])) ((a4 q hq).2.2 k hk))
  have hx0:Ri (w3.setCell ⟨y,3,none⟩ (.slice ao' (L.length+1) cap')) B x.v x.ws:=hx.of_block (fun k hk=>st k (hxk k hk).1 (hxk k hk).2.1 (hxk k hk).2.2)
  have key:∀ j q,(bunL vq Q vr R T L++[(x.v,x.ws)])[j]?=some q→(j=(bunL vq Q vr R T L).length∧q=(x.v,x.ws))∨(bunL vq Q vr R T L)[j]?=some q:=fun j q hq=>by
   by_cases e:j<(bunL vq Q vr R T L).length
   ·rw[List.getElem?_append_left e] at hq;exact .inr hq
   ·rw[List.getElem?_append_right (by omega)] at hq
    have h0:j-(bunL vq Q vr R T L).length=0:=by
     have:=(List.getElem?_eq_some_iff.1 hq).1
     simp at this
     omega
    rw[h0] at hq
    exact .inl ⟨by omega,by simpa using hq.symm⟩
  refine⟨fun j q hq=>?_,fun a b p q hp hq hne k hk hk2=>?_⟩
  ·rcases key j q hq with ⟨_,rfl⟩|z
   ·exact hx0
   ·exact hb0.row j q z
  ·rcases key a p hp with ⟨ha,rfl⟩|hp<;>rcases key b q hq with ⟨hb,rfl⟩|hq
   ·omega
   ·exact hnew k hk (.inr (.inr (.inr ⟨q,List.mem_of_getElem? hq,hk2⟩)))
   ·exact hnew k hk2 (.inr (.inr (.inr ⟨p,List.mem_of_getElem? hp,hk⟩)))
   ·exact hb0.dis a b p q hp hq hne k hk hk2
 have hl3:Lm B (w3.setCell ⟨y,3,none⟩ (.slice ao' (L.length+1) cap')) rh y rb W T (.slice ao' (L.length+1) cap') vq vr R Q (L++[x]):=by
  refine⟨by rw[mset hh];rfl,?_,H.lm.rts.of_block (st rb H.lm.rb_lt (fun q=>a1 q.symm) a3),hbun,H.lm.low⟩
  rw[List.map_append]
  exact hR.of_block fun k hk=>z03 _ _ (fun z=>hvy (by rw[hk,show k=y from z]))
 refine⟨ao,cap,ao',cap',w3,eva,by rw[← eva];exact hrun,⟨(z0q (a:=⟨y,3,none⟩) hy).trans H.lm.cells.2.2.2.1,Nat.lt_of_lt_of_le H.lm.y_lt hg.size,frz hh 3⟩,hB3,hg.size,⟨H.rs.mine (hBt.mono (fun k _ hk=>.inl hk)) (fun k hk=>?_),hl3⟩⟩
 rcases hk with (q|q|q|⟨p,q1,q2⟩)|q
 ·exact .inl (.inl (.inl q))
 ·exact .inl (.inl (.inr (.inl q)))
 ·rcases hat with z|⟨j,z1,z2⟩
  ·rw[z] at q;exact .inl (.inl (.inr (.inr (.inl q))))
  ·have hlt:=(hR.lt z1).2
   rw[z1] at q;simp at q;subst q
   exact .inr ⟨z2,by simpa [World.setCell] using hlt⟩
 ·rw[← z7N] at q1
  rcases List.mem_append.1 q1 with z|z
  ·exact .inl (.inl (.inr (.inr (.inr ⟨p,z,q2⟩))))
  ·rw[List.mem_singleton.1 z] at q2
   exact .inl (.inr (hE k q2))
 ·exact .inl (.inr q)
end
end Go.Proofs.YthkelaeemefnaaaGreat
namespace Go.Proofs.YthkelaeemefnaaaGreat
open Go.RowKit
section
variable {B:Nat}{w0 w w':World}{rh hb:Nat}{X:Cm}{fs qs:List Int}{y rb W T i:Nat}{va vq:Value}{vr:Nat→Value}{R:Nat→List Int}{Q:List Int}{L:List Lr}{E:Nat→Prop}
theorem Pl13.box2 (H:Pl13 B w0 w rh hb X fs qs y rb W T va vq vr R Q L E) (o:Obj):Pl13 B w0 (w.alloc o) rh hb X fs qs y rb W T va vq vr R Q L (fun k=>E k∨k=w.heap.size):=by
 have b:Below w.heap.size w (w.alloc o):=(Below.refl _ _).alloc (Nat.le_refl _) _
 refine⟨H.rs.mine (Bt.of_below b) (fun k hk=>?_),H.lm.below b⟩
 rcases hk with q|q|q
 ·exact .inl (.inl q)
 ·exact .inl (.inr q)
 ·exact .inr ⟨by rw[q];exact Nat.le_refl _,by rw[q,Go.Deep.nblk_alloc];omega⟩
def zds (B:Nat) (w0:World) (rh hb:Nat) (X:Cm) (fs qs:List Int) (y rb W T:Nat) (vq:Value) (R:Nat→List Int) (Q:List Int) (L:List Lr) (N:Nat→Prop) (w:World) (e:Ending) (w':World):Prop:=e=.returned (.bool true)∧(∃ va vr,Pl13 B w0 w' rh hb X fs qs y rb W T va vq vr R Q L (fun _=>False))∧∀ k,k<w.heap.size→¬ N k→w'.heap[k]?=w.heap[k]?
attribute [local go_sem ↓] z1I
theorem z7v (H:Pl13 B w0 w rh hb X fs qs y rb W T va vq vr R Q L E) (rf kd:Int) (fi:Bool) (ws:List Int) (av:Option Addr) (nv cv:Nat) (hz:Ri w B (.slice av nv cv) ws) (hE:∀ k,(Value.slice av nv cv).ownBlock=some k→E k) (hnew:∀ k,(Value.slice av nv cv).ownBlock=some k→¬ Pown y rb va (bunL vq Q vr R T L) k) (hL:L.length≤1000) (t:Nat) (ht:t<T) (hl:(R t).length≤64) (hr1:1≤rf) (hno:∀ x∈L,x.ref≠rf) (A:Int) (hA:A=t):
  Calls Tryz.prog 59 #[.pointer (some ⟨y,0,none⟩),.int .i64 A,.agg #[.int .i64 rf,.int .i64 kd,.slice av nv cv,.bool fi,.bool false]] w (zds B w0 rh hb X fs qs y rb W T vq (setL R t (R t++[rf])) Q (L++[⟨rf,kd,ws,fi,false,.slice av nv cv⟩]) (Pown y rb va (bunL vq Q vr R T L)) w):=by
 subst hA
 have H1:=H.box2 (.cells #[.int .i64 rf,.int .i64 kd,.slice av nv cv,.bool fi,.bool false] 90)
 have hb1:(w.alloc (.cells #[.int .i64 rf,.int .i64 kd,.slice av nv cv,.bool fi,.bool false] 90)).heap[w.heap.size]?=some (.cells #[.int .i64 rf,.int .i64 kd,.slice av nv cv,.bool fi,.bool false] 90 (0,0)):=heap_alloc_new w _
 have hz1:Ri (w.alloc (.cells #[.int .i64 rf,.int .i64 kd,.slice av nv cv,.bool fi,.bool false] 90)) B (.slice av nv cv) ws:=hz.below ((Below.refl _ _).alloc (Nat.le_refl _) _)
 have HW1:Hid (∀ k,k<w.heap.size→(w.alloc (.cells #[.int .i64 rf,.int .i64 kd,.slice av nv cv,.bool fi,.bool false] 90)).heap[k]?=w.heap[k]?∧k<(w.alloc (.cells #[.int .i64 rf,.int .i64 kd,.slice av nv cv,.bool fi,.bool false] 90)).heap.size):=fun k hk=>⟨((Below.refl w.heap.size w).alloc (Nat.le_refl _) _).block k hk,Nat.lt_of_lt_of_le hk ((Below.refl w.heap.size w).alloc (Nat.le_refl _) _).size⟩
 have hbx:∀ k,Pown y rb va (bunL vq Q vr R T L) k→k<w.heap.size:=fun k hk=>(H.lm.lt hk).1
 obtain⟨bx,hbxe⟩:∃ bx,bx=w.heap.size:=⟨_,rfl⟩
 rw[← hbxe] at hb1
 have HN:Hid (FndR L rf (-1)):=.inr ⟨hno,rfl⟩
 have a1:(t:Int)<(T:Int):=by omega
 have r1:decide (rf<1)=false:=by simp;omega
 have HH:Hid ((∀ k,(Value.slice av nv cv).ownBlock=some k→E k)∧(∀ k,(Value.slice av nv cv).ownBlock=some k→¬ Pown y rb va (bunL vq Q vr R T L) k)∧L.length≤1000∧(R t).length≤64∧bx=w.heap.size∧∀ k,Pown y rb va (bunL vq Q vr R T L) k→k<w.heap.size):=⟨hE,hnew,hL,hl,hbxe,hbx⟩
 clear H hE hnew hl hno hr1 hz hbx hL
 go_enter Tryz.func59,Tryz.ntmps59
 go_upto_region 1 with fail
 rw[← hbxe]
 rw[← hbxe] at H1
 clear hbxe
 generalize World.alloc _ _=W1 at *
 have hfi:=z1N H1.lm HH.out.2.2.1 rf (-1) HN.out
 obtain⟨c0,c1,c2,c3,c4,c5⟩:=H1.lm.cells
 have hyl:=H1.lm.y_lt
 have hbl:bx<W1.heap.size:=z02 hb1
 have hbc:w.heap.size=w.heap.size:=rfl
 have b0:W1.cell? ⟨bx,0,none⟩=some (.int .i64 rf)∧W1.cell? ⟨bx,1,none⟩=some (.int .i64 kd)∧W1.cell? ⟨bx,2,none⟩=some (.slice av nv cv)∧W1.cell? ⟨bx,3,none⟩=some (.bool fi)∧W1.cell? ⟨bx,4,none⟩=some (.bool false):=by simp[World.cell?,hb1]
 obtain⟨ao,cap,ao',cap',w3,eva,hrun,⟨k1,k2,k3⟩,hB3,hs3,H4⟩:=H1.addc ⟨rf,kd,ws,fi,false,.slice av nv cv⟩ hz1 (fun k hk=>.inl (HH.out.1 k hk)) HH.out.2.1 HH.out.2.2.1
 have hvb:va.ownBlock≠some bx:=fun q=>by
  have h1:=HH.out.2.2.2.2.2 bx (.inr (.inr (.inl q)))
  have h2:=HH.out.2.2.2.2.1
  omega
 have hyb:bx≠y:=fun q=>by
  have h1:=HH.out.2.2.2.2.2 y (.inl rfl)
  have h2:=HH.out.2.2.2.2.1
  omega
 have hb4:(w3.setCell ⟨y,3,none⟩ (.slice ao' (L.length+1) cap')).heap[bx]?=some (.cells #[.int .i64 rf,.int .i64 kd,.slice av nv cv,.bool fi,.bool false] 90 (0,0)):=((z03 _ _ hyb).trans (hB3 bx hbl hvb)).trans hb1
 have HW3:Hid (∀ k,k<w.heap.size→¬ Pown y rb va (bunL vq Q vr R T L) k→(w3.setCell ⟨y,3,none⟩ (.slice ao' (L.length+1) cap')).heap[k]?=w.heap[k]?∧k<(w3.setCell ⟨y,3,none⟩ (.slice ao' (L.length+1) cap')).heap.size):=fun k hk hn=>by
  obtain⟨q1,q2⟩:=HW1.out k hk
  refine⟨(z03 _ _ (fun q=>hn (.inl q))).trans ((hB3 k q2 (fun q=>hn (.inr (.inr (.inl q))))).trans q1),?_⟩
  have:k<w3.heap.size:=Nat.lt_of_lt_of_le q2 hs3
  simpa [World.setCell] using this
 rw[eva] at c3 k1
 obtain⟨nL,hnL⟩:∃ nL,nL=L.length:=⟨_,rfl⟩
 rw[← hnL] at c3 k1 hrun H4 hb4 HW3
 have HL4:Hid (Pl13 B w0 (w3.setCell ⟨y,3,none⟩ (.slice ao' (nL+1) cap')) rh hb X fs qs y rb W T (.slice ao' (nL+1) cap') vq vr R Q (L++[⟨rf,kd,ws,fi,false,.slice av nv cv⟩]) (fun k=>E k∨k=bx)∧(w3.setCell ⟨y,3,none⟩ (.slice ao' (nL+1) cap')).heap[bx]?=some (.cells #[.int .i64 rf,.int .i64 kd,.slice av nv cv,.bool fi,.bool false] 90 (0,0))):=⟨H4,hb4⟩
 clear H1 hz1 eva hB3 hs3 HW1 H4 hvb hyb hb4 hnL hb1 hbc
 go_wp2_with (go_at_call 30;refine hfi.mono ?_;rintro e w9 ⟨rfl,hw9⟩;replace hw9:=hw9.symm;subst hw9)
 go_region
 generalize hw4:w3.setCell ⟨y,3,none⟩ (.slice ao' (nL+1) cap')=w4 at *
 clear hfi hrun k1 k2 k3 c0 c1 c2 c3 c4 c5 b0 hyl hbl hw4
 obtain⟨H4,hb4⟩:=HL4.out
 obtain⟨d0,d1,d2,d3,d4,d5⟩:=H4.lm.cells
 have dyl:=H4.lm.y_lt
 have dbl:bx<w4.heap.size:=z02 hb4
 have e0:w4.cell? ⟨bx,0,none⟩=some (.int .i64 rf):=by simp[World.cell?,hb4]
 obtain⟨_,kr⟩:=H4.lm.root ht
 have lr:=H4.lm.rb_lt
 obtain⟨ar,cr,a5,c5,w5,e5,hrun5,hBt5,⟨⟨m1,m2⟩,⟨m3,m4⟩,m5⟩,H5⟩:=H4.pushr ht HH.out.2.2.2.1 rf
 rw[e5] at kr m1
 have e6:w5.cell? ⟨bx,0,none⟩=some (.int .i64 rf):=(z0q (a:=⟨bx,0,none⟩) (hBt5.block bx dbl (fun q=>by
  obtain⟨cur,h1⟩:=(H4.lm.root ht).1.kind q
  rw[hb4] at h1;simp at h1))).trans e0
 have e7:bx<w5.heap.size:=Nat.lt_of_lt_of_le dbl hBt5.size
 have HE:Hid (zds B w0 rh hb X fs qs y rb W T vq (setL R t (R t++[rf])) Q (L++[⟨rf,kd,ws,fi,false,.slice av nv cv⟩]) (Pown y rb va (bunL vq Q vr R T L)) w (.returned (.bool true)) (w5.setCell ⟨rb,t,none⟩ (.slice a5 ((R t).length+1) c5))):=⟨rfl,⟨_,_,H5.less⟩,fun k hk hn=>by
  obtain⟨q1,q2⟩:=HW3.out k hk hn
  exact (z03 _ _ (fun q=>hn (.inr (.inl q)))).trans ((hBt5.block k q2 (fun q=>hn (.inr (.inr (.inr ⟨_,List.mem_of_getElem? (zaJ ht),q⟩))))).trans q1)⟩
 generalize (R t).length=nr at *
 clear HL4 H4 hb4 H5 hBt5 e5 HW3
 go_wp2
 go_region
 go_wp2
 go_ret
 exact HE.out
end
end Go.Proofs.YthkelaeemefnaaaGreat
namespace Go.Proofs.YthkelaeemefnaaaGreat
open Go.RowKit
section
variable {B:Nat}
theorem Ri.single (w:World) (hB:B≤w.heap.size) (x:Int):Ri (w.alloc (.cells #[.int .i64 x] 3)) B (.slice (some ⟨w.heap.size,0,none⟩) 1 1) [x] :=
 ⟨rfl,.inr ⟨w.heap.size,1,#[.int .i64 x],rfl,hB,heap_alloc_new w (.cells #[.int .i64 x] 3),Nat.le_refl _,by unfold maxLen;omega,rfl,rfl⟩⟩
theorem Ri.zeros (w:World) (hB:B≤w.heap.size) (n:Nat) (hn:n≤1000):Ri (w.alloc (.cells (madeCells #[.int .i64 0] n) 3)) B (.slice (some ⟨w.heap.size,0,none⟩) n n) (List.replicate n 0):=by
 refine⟨by simp,.inr ⟨w.heap.size,n,madeCells #[.int .i64 0] n,by simp,hB,heap_alloc_new w (.cells (madeCells #[.int .i64 0] n) 3),by simp,by unfold maxLen;omega,by rw[size_madeCells,Nat.mul_one],?_⟩⟩
 apply List.ext_getElem?
 intro j
 rw[List.length_replicate,Nat.mul_one,List.getElem?_take,Array.getElem?_toList]
 unfold madeCells
 by_cases hj:j<n
 ·simp[hj,Nat.mod_one]
 ·simp[hj]
theorem Pb13.notown {w0 w:World}{rh hb:Nat}{X:Cm}{fs qs:List Int}{y rb W T:Nat}{va vq:Value}{vr:Nat→Value}{R:Nat→List Int}{Q:List Int}{L:List Lr}{x:Nat}{K A C S P I O V:Int}{F:Bool}(H:Pb13 B w0 w rh hb X fs qs y rb W T va vq vr R Q L x K A C S P I O V F):¬ Pown y rb va (bunL vq Q vr R T L) x:=by
 have hb:=H.box
 rintro (q|q|q|⟨p,q1,q2⟩)
 ·rw[q,H.play.lm.here] at hb;simp at hb
 ·obtain⟨cur,hc,_⟩:=H.play.lm.rts
  rw[q,hc] at hb;simp at hb
 ·obtain⟨cur,hc⟩:=H.play.lm.row.kind q
  rw[hc] at hb;simp at hb
 ·obtain⟨j,hj,e⟩:=List.getElem_of_mem q1
  obtain⟨cur,hc⟩:=(H.play.lm.bun.row j p (by rw[List.getElem?_eq_getElem hj,e])).kind q2
  rw[hc] at hb;simp at hb
end
end Go.Proofs.YthkelaeemefnaaaGreat
