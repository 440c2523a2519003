import Derived.Test.YthkelaeemefnaaaGreatMXA3qz
set_option maxRecDepth 20000
set_option maxHeartbeats 4000000
namespace Go.Proofs.YthkelaeemefnaaaGreat
open Go.RowKit
section
variable {B:Nat}{w0 w:World}{rh hb:Nat}{X:Cm}{fs qs:List Int}{y rb W T i:Nat}{va vq:Value}{vr:Nat→Value}{L:List Lr}
attribute [local go_sem ↓] z1I
theorem zeJ (H:Pl13 B w0 w rh hb X fs qs y rb W T va vq vr X.rt qs L (fun _=>False)) (hO:Ok13 X fs qs W T L i) (hi:i≤200) (K A C S P I O V:Int) (F:Bool) (hK:3≤K) (hA:A<0):
  Calls Tryz.prog 24 #[.pointer (some ⟨y,0,none⟩),.agg #[.int .i64 K,.int .i64 A,.int .i64 C,.int .i64 S,.int .i64 P,.int .i64 I,.int .i64 O,.int .i64 V,.bool F]] w (z0p B w0 rh hb y rb W T (i+1)):=by
 have hx0:=Pb13.start H K A C S P I O V F
 have HO:Hid (Ok13 X fs qs W T L i):=hO
 have hm:X.m≤1999000:=by have:=hO.cost;omega
 have hsu:=z0I hO.ag
 have hfit:=H.rs.fit
 have hsum5:sumR L≤5000:=by have:=hO.lim;have:=hO.eW;omega
 have HSu:Hid (∀ X' u q,Pb13 B w0 u rh hb X' fs qs y rb W T va vq vr X.rt qs L w.heap.size K A C S P I O V F→Calls Tryz.prog 58 #[.pointer (some ⟨y,0,none⟩)] (u.drewN q) fun e w'=>e=.returned (.int .i64 (sumR L:Nat))∧w'=u.drewN q):=fun X' u q hu=>z0O (hu.below (z00 u q _)).play.lm (by have:=hO.few;omega) hsum5
 have HPk:Hid (∀ u,Pb13 B w0 u rh hb X fs qs y rb W T va vq vr X.rt qs L w.heap.size K A C S P I O V F→Calls Tryz.prog 57 #[.pointer (some ⟨y,0,none⟩),.int .i64 P,.int .i64 0] u (z0w u X qs L 0)):=fun u hu=>hO.pick hi hu P 0
 have a0:decide ((0:Int)≤A)=false:=by simp;omega
 have k3:(3:Int)≤K:=hK
 have hWb:W≤10100:=hO.lim.2.2
 clear H hO hfit hm hK hsu
 generalize sumR L=sm at *
 go_enter Tryz.func24,Tryz.ntmps24
 have f0:=hx0.facts
 go_wp2
 generalize World.alloc _ _=W1 at *
 go_region
 all_goals
  have hx1:=hx0.below ((Below.refl _ _).drew)
  generalize World.drew _=W2 at *
  have f1:=hx1.facts
  clear hx0 f0
  go_wp2_with (go_at_call 57;refine (HPk.out _ hx1).mono ?_;rintro e w3 ⟨r,rfl,hb3,hr⟩;have hx3:=hx1.below hb3;have HR:Hid (r=0∨∃ (i:Nat) (x:Lr),L[i]?=some x∧x.ref=r∧RchQ X qs r∧((0:Int)=0∨x.kind=0)):=hr;clear hb3 hr hx1 f1)
  have f3:=hx3.facts
  have hsm:=fun q=>HSu.out _ w3 q hx3
  go_quiet ((go_at_call 58;exact Calls.quiet_of_same (hsm _)))
  all_goals
   have hx4:=hx3.below (z00 w3 nq _)
   generalize World.drewN _ _=w4 at *
   have f4:=hx4.facts
   have hx5:=hx4.below (z00 w4 1 _)
   clear hx3 f3 hsm HPk
   have hM:Calls Tryz.prog 14 #[.pointer (some ⟨rh,0,none⟩),.int .i64 A,.int .i64 r] (w4.drewN 1) fun e w'=>e=.returned (.tuple #[.int .i64 0,.int .i64 1302])∧Pb13 B w0 w' rh hb X fs qs y rb W T va vq vr X.rt qs L w.heap.size K A C S P I O V F:=(z4n hx5.play.rs A r (by rw[HO.out.eT];omega)).mono fun e w' q=>⟨q.1,hx5.call q.2⟩
   clear HR
   go_wp2
   go_region_held3 (fun w'=>w'.cell? ⟨y,0,none⟩=some (.pointer (some ⟨rh,0,none⟩))∧w'.cell? ⟨w.heap.size,1,none⟩=some (.int .i64 A)) (go_keep) ((go_at_call 14;refine hM.mono ?_;rintro e w5 ⟨rfl,hx6⟩;have f5:=hx6.facts;clear hM))
   clear hx4 hx5 f4
   have HE:Hid (Ed13 B w0 rh hb y rb W T (i+1) w5):=Ed13.same hx6.play HO.out
   clear hx6
   go_wp2_with (go_at_call 9;refine (z04 _ _).mono ?_;rintro e w9 ⟨rfl,hw9⟩;replace hw9:=hw9.symm;subst hw9)
   go_ret
   exact⟨rfl,HE.out⟩
theorem zep (H:Pl13 B w0 w rh hb X fs qs y rb W T va vq vr X.rt qs L (fun _=>False)) (hO:Ok13 X fs qs W T L i) (hi:i≤200) (K A C S P I O V:Int) (F:Bool) (hK:3≤K) (hA:(T:Int)≤A):
  Calls Tryz.prog 24 #[.pointer (some ⟨y,0,none⟩),.agg #[.int .i64 K,.int .i64 A,.int .i64 C,.int .i64 S,.int .i64 P,.int .i64 I,.int .i64 O,.int .i64 V,.bool F]] w (z0p B w0 rh hb y rb W T (i+1)):=by
 have hx0:=Pb13.start H K A C S P I O V F
 have HO:Hid (Ok13 X fs qs W T L i):=hO
 have hm:X.m≤1999000:=by have:=hO.cost;omega
 have hsu:=z0I hO.ag
 have hfit:=H.rs.fit
 have hsum5:sumR L≤5000:=by have:=hO.lim;have:=hO.eW;omega
 have HSu:Hid (∀ X' u q,Pb13 B w0 u rh hb X' fs qs y rb W T va vq vr X.rt qs L w.heap.size K A C S P I O V F→Calls Tryz.prog 58 #[.pointer (some ⟨y,0,none⟩)] (u.drewN q) fun e w'=>e=.returned (.int .i64 (sumR L:Nat))∧w'=u.drewN q):=fun X' u q hu=>z0O (hu.below (z00 u q _)).play.lm (by have:=hO.few;omega) hsum5
 have HPk:Hid (∀ u,Pb13 B w0 u rh hb X fs qs y rb W T va vq vr X.rt qs L w.heap.size K A C S P I O V F→Calls Tryz.prog 57 #[.pointer (some ⟨y,0,none⟩),.int .i64 P,.int .i64 0] u (z0w u X qs L 0)):=fun u hu=>hO.pick hi hu P 0
 have a0:(0:Int)≤A:=by omega
 have a1:decide (A<(T:Int))=false:=by simp;omega
 have k3:(3:Int)≤K:=hK
 have hWb:W≤10100:=hO.lim.2.2
 clear H hO hfit hm hK hsu
 generalize sumR L=sm at *
 go_enter Tryz.func24,Tryz.ntmps24
 have f0:=hx0.facts
 go_wp2
 generalize World.alloc _ _=W1 at *
 go_quiet (fail)
 all_goals
  have hx1:=hx0.below (z00 W1 nq _)
  generalize World.drewN _ _=W2 at *
  have f1:=hx1.facts
  clear hx0 f0
  go_wp2_with (go_at_call 57;refine (HPk.out _ hx1).mono ?_;rintro e w3 ⟨r,rfl,hb3,hr⟩;have hx3:=hx1.below hb3;have HR:Hid (r=0∨∃ (i:Nat) (x:Lr),L[i]?=some x∧x.ref=r∧RchQ X qs r∧((0:Int)=0∨x.kind=0)):=hr;clear hb3 hr hx1 f1)
  have f3:=hx3.facts
  have hsm:=fun q=>HSu.out _ w3 q hx3
  go_quiet ((go_at_call 58;exact Calls.quiet_of_same (hsm _)))
  all_goals
   have hx4:=hx3.below (z00 w3 nq _)
   generalize World.drewN _ _=w4 at *
   have f4:=hx4.facts
   have hx5:=hx4.below (z00 w4 1 _)
   clear hx3 f3 hsm HPk
   have hM:Calls Tryz.prog 14 #[.pointer (some ⟨rh,0,none⟩),.int .i64 A,.int .i64 r] (w4.drewN 1) fun e w'=>e=.returned (.tuple #[.int .i64 0,.int .i64 1302])∧Pb13 B w0 w' rh hb X fs qs y rb W T va vq vr X.rt qs L w.heap.size K A C S P I O V F:=(z4n hx5.play.rs A r (by rw[HO.out.eT];omega)).mono fun e w' q=>⟨q.1,hx5.call q.2⟩
   clear HR
   go_wp2
   go_region_held3 (fun w'=>w'.cell? ⟨y,0,none⟩=some (.pointer (some ⟨rh,0,none⟩))∧w'.cell? ⟨w.heap.size,1,none⟩=some (.int .i64 A)) (go_keep) ((go_at_call 14;refine hM.mono ?_;rintro e w5 ⟨rfl,hx6⟩;have f5:=hx6.facts;clear hM))
   clear hx4 hx5 f4
   have HE:Hid (Ed13 B w0 rh hb y rb W T (i+1) w5):=Ed13.same hx6.play HO.out
   clear hx6
   go_wp2_with (go_at_call 9;refine (z04 _ _).mono ?_;rintro e w9 ⟨rfl,hw9⟩;replace hw9:=hw9.symm;subst hw9)
   go_ret
   exact⟨rfl,HE.out⟩
theorem zau (H:Pl13 B w0 w rh hb X fs qs y rb W T va vq vr X.rt qs L (fun _=>False)) (hO:Ok13 X fs qs W T L i) (hi:i≤200) (K A C S P I O V:Int) (F:Bool) (hK:3≤K) (t:Nat) (ht:t<T) (hA:A=t) (hl:64≤(X.rt t).length):
  Calls Tryz.prog 24 #[.pointer (some ⟨y,0,none⟩),.agg #[.int .i64 K,.int .i64 A,.int .i64 C,.int .i64 S,.int .i64 P,.int .i64 I,.int .i64 O,.int .i64 V,.bool F]] w (z0p B w0 rh hb y rb W T (i+1)):=by
 subst hA
 have hx0:=Pb13.start H K t C S P I O V F
 have HO:Hid (Ok13 X fs qs W T L i):=hO
 have hm:X.m≤1999000:=by have:=hO.cost;omega
 have hsu:=z0I hO.ag
 have hfit:=H.rs.fit
 have hsum5:sumR L≤5000:=by have:=hO.lim;have:=hO.eW;omega
 have HSu:Hid (∀ X' u q,Pb13 B w0 u rh hb X' fs qs y rb W T va vq vr X.rt qs L w.heap.size K t C S P I O V F→Calls Tryz.prog 58 #[.pointer (some ⟨y,0,none⟩)] (u.drewN q) fun e w'=>e=.returned (.int .i64 (sumR L:Nat))∧w'=u.drewN q):=fun X' u q hu=>z0O (hu.below (z00 u q _)).play.lm (by have:=hO.few;omega) hsum5
 have HPk:Hid (∀ u,Pb13 B w0 u rh hb X fs qs y rb W T va vq vr X.rt qs L w.heap.size K t C S P I O V F→Calls Tryz.prog 57 #[.pointer (some ⟨y,0,none⟩),.int .i64 P,.int .i64 0] u (z0w u X qs L 0)):=fun u hu=>hO.pick hi hu P 0
 have a0:(0:Int)≤(t:Int):=by omega
 have a1:(t:Int)<(T:Int):=by omega
 have HM:Hid (X.m≤1999000):=hm
 have a2:(64:Int)≤((X.rt t).length:Int):=by omega
 have HL6:Hid (64≤(X.rt t).length):=hl
 have k3:(3:Int)≤K:=hK
 have hWb:W≤10100:=hO.lim.2.2
 clear H hO hfit hm hK hsu
 generalize sumR L=sm at *
 go_enter Tryz.func24,Tryz.ntmps24
 have f0:=hx0.facts
 go_wp2
 generalize World.alloc _ _=W1 at *
 go_quiet (fail)
 all_goals
  have hx1:=hx0.below (z00 W1 nq _)
  generalize World.drewN _ _=W2 at *
  have f1:=hx1.facts
  clear hx0 f0
  go_wp2_with (go_at_call 57;refine (HPk.out _ hx1).mono ?_;rintro e w3 ⟨r,rfl,hb3,hr⟩;have hx3:=hx1.below hb3;have HR:Hid (r=0∨∃ (i:Nat) (x:Lr),L[i]?=some x∧x.ref=r∧RchQ X qs r∧((0:Int)=0∨x.kind=0)):=hr;clear hb3 hr hx1 f1)
  have f3:=hx3.facts
  have hsm:=fun q=>HSu.out _ w3 q hx3
  go_quiet ((go_at_call 58;exact Calls.quiet_of_same (hsm _)))
  all_goals
   have hx4:=hx3.below (z00 w3 nq _)
   generalize World.drewN _ _=w4 at *
   have f4:=hx4.facts
   have hx5:=hx4.below (z00 w4 1 _)
   clear hx3 f3 hsm HPk
   by_cases hr0:r=0
   ·have hM:Calls Tryz.prog 14 #[.pointer (some ⟨rh,0,none⟩),.int .i64 t,.int .i64 r] (w4.drewN 1) fun e w'=>e=.returned (.tuple #[.int .i64 0,.int .i64 1302])∧Pb13 B w0 w' rh hb X fs qs y rb W T va vq vr X.rt qs L w.heap.size K t C S P I O V F:=(z2k hx5.play.rs HM.out t r (by rw[HO.out.eT];omega) (by rw[hr0];rfl)).mono fun e w' q=>⟨q.1,hx5.call q.2⟩
    have g0:(r == 0)=true:=by simpa using hr0
    clear HR hr0
    go_wp2
    go_region_held3 (fun w'=>w'.cell? ⟨y,0,none⟩=some (.pointer (some ⟨rh,0,none⟩))∧w'.cell? ⟨w.heap.size,1,none⟩=some (.int .i64 t)) (go_keep) ((go_at_call 14;refine hM.mono ?_;rintro e w5 ⟨rfl,hx6⟩;have f5:=hx6.facts;clear hM))
    clear hx4 hx5 f4
    have HE:Hid (Ed13 B w0 rh hb y rb W T (i+1) w5):=Ed13.same hx6.play HO.out
    clear hx6
    go_wp2_with (go_at_call 9;refine (z04 _ _).mono ?_;rintro e w9 ⟨rfl,hw9⟩;replace hw9:=hw9.symm;subst hw9)
    go_ret
    exact⟨rfl,HE.out⟩
   ·obtain⟨k,z,hz,hzr,_,_⟩:=HR.out.resolve_left hr0
    obtain⟨k2,cl,e1,e2,e3,e4,e5⟩:=HO.out.ag.at_ (List.mem_of_getElem? hz)
    rw[hzr] at e1
    have g0:(r == 0)=false:=by simpa using hr0
    clear HR hr0
    have hM:Calls Tryz.prog 14 #[.pointer (some ⟨rh,0,none⟩),.int .i64 t,.int .i64 r] (w4.drewN 1) fun e w'=>e=.returned (.tuple #[.int .i64 0,.int .i64 1303])∧Pb13 B w0 w' rh hb X fs qs y rb W T va vq vr X.rt qs L w.heap.size K t C S P I O V F:=(z50 hx5.play.rs HM.out t r (by rw[HO.out.eT];exact ht) e2 e1 HL6.out t rfl).mono fun e w' q=>⟨q.1,hx5.call q.2⟩
    clear hz hzr e1 e2 e3 e4 e5
    go_wp2
    go_region_held3 (fun w'=>w'.cell? ⟨y,0,none⟩=some (.pointer (some ⟨rh,0,none⟩))∧w'.cell? ⟨w.heap.size,1,none⟩=some (.int .i64 t)) (go_keep) ((go_at_call 14;refine hM.mono ?_;rintro e w5 ⟨rfl,hx6⟩;have f5:=hx6.facts;clear hM))
    clear hx4 hx5 f4
    obtain⟨hrr,kr⟩:=hx6.play.lm.root ht
    obtain⟨ar,cr,er⟩:=hrr.form
    have lr:=hx6.play.lm.rb_lt
    rw[er] at kr
    have HE:Hid (∀ n,Ed13 B w0 rh hb y rb W T (i+1) (w5.drewN n)):=fun n=>Ed13.same (hx6.below (z00 w5 n _)).play HO.out
    generalize (X.rt t).length=nr at *
    clear hx6 hrr er
    go_wp2
    go_quiet (fail)
    go_wp2_with (go_at_call 9;refine (z04 _ _).mono ?_;rintro e w9 ⟨rfl,hw9⟩;replace hw9:=hw9.symm;subst hw9)
    go_ret
    exact⟨rfl,HE.out _⟩
theorem zbT (H:Pl13 B w0 w rh hb X fs qs y rb W T va vq vr X.rt qs L (fun _=>False)) (hO:Ok13 X fs qs W T L i) (hi:i≤200) (K A C S P I O V:Int) (F:Bool) (hK:3≤K) (t:Nat) (ht:t<T) (hA:A=t) (hl:(X.rt t).length<64) (hs:W/4<sumS X.S+17):
  Calls Tryz.prog 24 #[.pointer (some ⟨y,0,none⟩),.agg #[.int .i64 K,.int .i64 A,.int .i64 C,.int .i64 S,.int .i64 P,.int .i64 I,.int .i64 O,.int .i64 V,.bool F]] w (z0p B w0 rh hb y rb W T (i+1)):=by
 subst hA
 have hx0:=Pb13.start H K t C S P I O V F
 have HO:Hid (Ok13 X fs qs W T L i):=hO
 have hm:X.m≤1999000:=by have:=hO.cost;omega
 have hsu:=z0I hO.ag
 have hfit:=H.rs.fit
 have hsum5:sumR L≤5000:=by have:=hO.lim;have:=hO.eW;omega
 have HSu:Hid (∀ X' u q,Pb13 B w0 u rh hb X' fs qs y rb W T va vq vr X.rt qs L w.heap.size K t C S P I O V F→Calls Tryz.prog 58 #[.pointer (some ⟨y,0,none⟩)] (u.drewN q) fun e w'=>e=.returned (.int .i64 (sumR L:Nat))∧w'=u.drewN q):=fun X' u q hu=>z0O (hu.below (z00 u q _)).play.lm (by have:=hO.few;omega) hsum5
 have HPk:Hid (∀ u,Pb13 B w0 u rh hb X fs qs y rb W T va vq vr X.rt qs L w.heap.size K t C S P I O V F→Calls Tryz.prog 57 #[.pointer (some ⟨y,0,none⟩),.int .i64 P,.int .i64 0] u (z0w u X qs L 0)):=fun u hu=>hO.pick hi hu P 0
 have a0:(0:Int)≤(t:Int):=by omega
 have a1:(t:Int)<(T:Int):=by omega
 have HM:Hid (X.m≤1999000):=hm
 have a2:¬ (64:Int)≤((X.rt t).length:Int):=by omega
 have HL6:Hid ((X.rt t).length<64∧X.W/4<sumS X.S+(1+16)):=⟨hl,by rw[hO.eW];omega⟩
 have s1:decide ((W:Int)/4<((sumR L:Nat):Int)+17)=true:=decide_eq_true (by omega)
 clear hs hl
 have k3:(3:Int)≤K:=hK
 have hWb:W≤10100:=hO.lim.2.2
 clear H hO hfit hm hK hsu
 generalize sumR L=sm at *
 go_enter Tryz.func24,Tryz.ntmps24
 have f0:=hx0.facts
 go_wp2
 generalize World.alloc _ _=W1 at *
 go_quiet (fail)
 all_goals
  have hx1:=hx0.below (z00 W1 nq _)
  generalize World.drewN _ _=W2 at *
  have f1:=hx1.facts
  clear hx0 f0
  go_wp2_with (go_at_call 57;refine (HPk.out _ hx1).mono ?_;rintro e w3 ⟨r,rfl,hb3,hr⟩;have hx3:=hx1.below hb3;have HR:Hid (r=0∨∃ (i:Nat) (x:Lr),L[i]?=some x∧x.ref=r∧RchQ X qs r∧((0:Int)=0∨x.kind=0)):=hr;clear hb3 hr hx1 f1)
  have f3:=hx3.facts
  have hsm:=fun q=>HSu.out _ w3 q hx3
  go_quiet ((go_at_call 58;exact Calls.quiet_of_same (hsm _)))
  all_goals
   have hx4:=hx3.below (z00 w3 nq _)
   generalize World.drewN _ _=w4 at *
   have f4:=hx4.facts
   have hx5:=hx4.below (z00 w4 1 _)
   clear hx3 f3 hsm HPk
   by_cases hr0:r=0
   ·have hM:Calls Tryz.prog 14 #[.pointer (some ⟨rh,0,none⟩),.int .i64 t,.int .i64 r] (w4.drewN 1) fun e w'=>e=.returned (.tuple #[.int .i64 0,.int .i64 1302])∧Pb13 B w0 w' rh hb X fs qs y rb W T va vq vr X.rt qs L w.heap.size K t C S P I O V F:=(z2k hx5.play.rs HM.out t r (by rw[HO.out.eT];omega) (by rw[hr0];rfl)).mono fun e w' q=>⟨q.1,hx5.call q.2⟩
    have g0:(r == 0)=true:=by simpa using hr0
    clear HR hr0
    go_wp2
    go_region_held3 (fun w'=>w'.cell? ⟨y,0,none⟩=some (.pointer (some ⟨rh,0,none⟩))∧w'.cell? ⟨w.heap.size,1,none⟩=some (.int .i64 t)) (go_keep) ((go_at_call 14;refine hM.mono ?_;rintro e w5 ⟨rfl,hx6⟩;have f5:=hx6.facts;clear hM))
    clear hx4 hx5 f4
    have HE:Hid (Ed13 B w0 rh hb y rb W T (i+1) w5):=Ed13.same hx6.play HO.out
    clear hx6
    go_wp2_with (go_at_call 9;refine (z04 _ _).mono ?_;rintro e w9 ⟨rfl,hw9⟩;replace hw9:=hw9.symm;subst hw9)
    go_ret
    exact⟨rfl,HE.out⟩
   ·obtain⟨k,z,hz,hzr,_,_⟩:=HR.out.resolve_left hr0
    obtain⟨k2,cl,e1,e2,e3,e4,e5⟩:=HO.out.ag.at_ (List.mem_of_getElem? hz)
    rw[hzr] at e1
    have g0:(r == 0)=false:=by simpa using hr0
    clear HR hr0
    have hM:Calls Tryz.prog 14 #[.pointer (some ⟨rh,0,none⟩),.int .i64 t,.int .i64 r] (w4.drewN 1) fun e w'=>e=.returned (.tuple #[.int .i64 0,.int .i64 1301])∧Pb13 B w0 w' rh hb X fs qs y rb W T va vq vr X.rt qs L w.heap.size K t C S P I O V F:=(z5K hx5.play.rs HM.out t r (by rw[HO.out.eT];exact ht) e2 e1 HL6.out.1 HL6.out.2 t rfl).mono fun e w' q=>⟨q.1,hx5.call q.2⟩
    clear hz hzr e1 e2 e3 e4 e5
    go_wp2
    go_region_held3 (fun w'=>w'.cell? ⟨y,0,none⟩=some (.pointer (some ⟨rh,0,none⟩))∧w'.cell? ⟨w.heap.size,1,none⟩=some (.int .i64 t)) (go_keep) ((go_at_call 14;refine hM.mono ?_;rintro e w5 ⟨rfl,hx6⟩;have f5:=hx6.facts;clear hM))
    clear hx4 hx5 f4
    obtain⟨hrr,kr⟩:=hx6.play.lm.root ht
    obtain⟨ar,cr,er⟩:=hrr.form
    have lr:=hx6.play.lm.rb_lt
    rw[er] at kr
    have HE:Hid (∀ n,Ed13 B w0 rh hb y rb W T (i+1) (w5.drewN n)):=fun n=>Ed13.same (hx6.below (z00 w5 n _)).play HO.out
    generalize (X.rt t).length=nr at *
    clear hx6 hrr er
    go_wp2
    go_quiet (fail)
    go_wp2_with (go_at_call 9;refine (z04 _ _).mono ?_;rintro e w9 ⟨rfl,hw9⟩;replace hw9:=hw9.symm;subst hw9)
    go_ret
    exact⟨rfl,HE.out _⟩
theorem zfw (H:Pl13 B w0 w rh hb X fs qs y rb W T va vq vr X.rt qs L (fun _=>False)) (hO:Ok13 X fs qs W T L i) (hi:i≤200) (K A C S P I O V:Int) (F:Bool) (hK:3≤K) (t:Nat) (ht:t<T) (hA:A=t) (hl:(X.rt t).length<64) (hs:sumS X.S+17≤W/4):
  Calls Tryz.prog 24 #[.pointer (some ⟨y,0,none⟩),.agg #[.int .i64 K,.int .i64 A,.int .i64 C,.int .i64 S,.int .i64 P,.int .i64 I,.int .i64 O,.int .i64 V,.bool F]] w (z0p B w0 rh hb y rb W T (i+1)):=by
 subst hA
 have hx0:=Pb13.start H K t C S P I O V F
 have HO:Hid (Ok13 X fs qs W T L i):=hO
 have hm:X.m≤1999000:=by have:=hO.cost;omega
 have hsu:=z0I hO.ag
 have hfit:=H.rs.fit
 have hsum5:sumR L≤5000:=by have:=hO.lim;have:=hO.eW;omega
 have HSu:Hid (∀ X' u q,Pb13 B w0 u rh hb X' fs qs y rb W T va vq vr X.rt qs L w.heap.size K t C S P I O V F→Calls Tryz.prog 58 #[.pointer (some ⟨y,0,none⟩)] (u.drewN q) fun e w'=>e=.returned (.int .i64 (sumR L:Nat))∧w'=u.drewN q):=fun X' u q hu=>z0O (hu.below (z00 u q _)).play.lm (by have:=hO.few;omega) hsum5
 have HPk:Hid (∀ u,Pb13 B w0 u rh hb X fs qs y rb W T va vq vr X.rt qs L w.heap.size K t C S P I O V F→Calls Tryz.prog 57 #[.pointer (some ⟨y,0,none⟩),.int .i64 P,.int .i64 0] u (z0w u X qs L 0)):=fun u hu=>hO.pick hi hu P 0
 have a0:(0:Int)≤(t:Int):=by omega
 have a1:(t:Int)<(T:Int):=by omega
 have HM:Hid (X.m≤1999000):=hm
 have a2:¬ (64:Int)≤((X.rt t).length:Int):=by omega
 have HL6:Hid ((X.rt t).length<64∧sumS X.S+(1+16)≤X.W/4):=⟨hl,by rw[hO.eW];omega⟩
 have s1:decide ((W:Int)/4<((sumR L:Nat):Int)+17)=false:=by simp;omega
 clear hs hl
 have k3:(3:Int)≤K:=hK
 have hWb:W≤10100:=hO.lim.2.2
 clear H hO hfit hm hK hsu
 generalize sumR L=sm at *
 go_enter Tryz.func24,Tryz.ntmps24
 have f0:=hx0.facts
 go_wp2
 generalize World.alloc _ _=W1 at *
 go_quiet (fail)
 all_goals
  have hx1:=hx0.below (z00 W1 nq _)
  generalize World.drewN _ _=W2 at *
  have f1:=hx1.facts
  clear hx0 f0
  go_wp2_with (go_at_call 57;refine (HPk.out _ hx1).mono ?_;rintro e w3 ⟨r,rfl,hb3,hr⟩;have hx3:=hx1.below hb3;have HR:Hid (r=0∨∃ (i:Nat) (x:Lr),L[i]?=some x∧x.ref=r∧RchQ X qs r∧((0:Int)=0∨x.kind=0)):=hr;clear hb3 hr hx1 f1)
  have f3:=hx3.facts
  have hsm:=fun q=>HSu.out _ w3 q hx3
  go_quiet ((go_at_call 58;exact Calls.quiet_of_same (hsm _)))
  all_goals
   have hx4:=hx3.below (z00 w3 nq _)
   generalize World.drewN _ _=w4 at *
   have f4:=hx4.facts
   have hx5:=hx4.below (z00 w4 1 _)
   clear hx3 f3 hsm HPk
   by_cases hr0:r=0
   ·have hM:Calls Tryz.prog 14 #[.pointer (some ⟨rh,0,none⟩),.int .i64 t,.int .i64 r] (w4.drewN 1) fun e w'=>e=.returned (.tuple #[.int .i64 0,.int .i64 1302])∧Pb13 B w0 w' rh hb X fs qs y rb W T va vq vr X.rt qs L w.heap.size K t C S P I O V F:=(z2k hx5.play.rs HM.out t r (by rw[HO.out.eT];omega) (by rw[hr0];rfl)).mono fun e w' q=>⟨q.1,hx5.call q.2⟩
    have g0:(r == 0)=true:=by simpa using hr0
    clear HR hr0
    go_wp2
    go_region_held3 (fun w'=>w'.cell? ⟨y,0,none⟩=some (.pointer (some ⟨rh,0,none⟩))∧w'.cell? ⟨w.heap.size,1,none⟩=some (.int .i64 t)) (go_keep) ((go_at_call 14;refine hM.mono ?_;rintro e w5 ⟨rfl,hx6⟩;have f5:=hx6.facts;clear hM))
    clear hx4 hx5 f4
    have HE:Hid (Ed13 B w0 rh hb y rb W T (i+1) w5):=Ed13.same hx6.play HO.out
    clear hx6
    go_wp2_with (go_at_call 9;refine (z04 _ _).mono ?_;rintro e w9 ⟨rfl,hw9⟩;replace hw9:=hw9.symm;subst hw9)
    go_ret
    exact⟨rfl,HE.out⟩
   ·obtain⟨k,z,hz,hzr,_,_⟩:=HR.out.resolve_left hr0
    obtain⟨k2,cl,e1,e2,e3,e4,e5⟩:=HO.out.ag.at_ (List.mem_of_getElem? hz)
    rw[hzr] at e1
    have g0:(r == 0)=false:=by simpa using hr0
    clear HR hr0
    have hM:Calls Tryz.prog 14 #[.pointer (some ⟨rh,0,none⟩),.int .i64 t,.int .i64 r] (w4.drewN 1) fun e w'=>e=.returned (.tuple #[.int .i64 ((X.S.length:Int)+1),.int .i64 0])∧∃ a c',Pb13 B w0 w' rh hb (X.weaked t r a c') fs qs y rb W T va vq vr X.rt qs L w.heap.size K t C S P I O V F:=(zey hx5.play.rs HM.out t r (by rw[HO.out.eT];exact ht) e2 e1 HL6.out.1 HL6.out.2 t rfl).mono fun e w' q=>⟨q.1,let ⟨a,c',hT⟩:=q.2;⟨a,c',hx5.call hT⟩⟩
    have HRn:Hid (r∈nums 0 X.S):=(by rw[← HO.out.ag.refs,← hzr];exact List.mem_map.2 ⟨z,List.mem_of_getElem? hz,rfl⟩:r∈nums 0 X.S)
    clear hz hzr e1 e2 e3 e4 e5
    go_wp2
    go_region_held3 (fun w'=>w'.cell? ⟨y,0,none⟩=some (.pointer (some ⟨rh,0,none⟩))∧w'.cell? ⟨w.heap.size,1,none⟩=some (.int .i64 t)) (go_keep) ((go_at_call 14;refine hM.mono ?_;rintro e w5 ⟨rfl,ad,c6,hx6⟩;have f5:=hx6.facts;clear hM))
    clear hx4 hx5 f4
    obtain⟨hrr,kr⟩:=hx6.play.lm.root ht
    obtain⟨ar,cr,er⟩:=hrr.form
    have lr:=hx6.play.lm.rb_lt
    rw[er] at kr
    obtain⟨rf,hrf⟩:∃ rf:Int,rf=(X.S.length:Int)+1:=⟨_,rfl⟩
    have HRf:Hid (rf=(X.S.length:Int)+1):=hrf
    rw[← hrf]
    obtain⟨nr,hnr⟩:∃ nr,nr=(X.rt t).length:=⟨_,rfl⟩
    rw[← hnr] at kr a2
    clear hrr hrf hnr
    go_wp2
    go_quiet (fail)
    all_goals
     have hx7:=hx6.below (z00 w5 nq _)
     generalize World.drewN _ _=w7 at *
     have f7:=hx7.facts
     have hmd:Calls Tryz.prog 59 #[.pointer (some ⟨y,0,none⟩),.int .i64 t,.agg #[.int .i64 rf,.int .i64 4,.slice (some ⟨w7.heap.size,0,none⟩) 1 1,.bool false,.bool false]] (w7.alloc (.cells #[.int .i64 r] 3)) (z0p B w0 rh hb y rb W T (i+1)):=by
      have hb8:Below w7.heap.size w7 (w7.alloc (.cells #[.int .i64 r] 3)):=(Below.refl _ _).alloc (Nat.le_refl _) _
      have hown:∀ k,(Value.slice (some ⟨w7.heap.size,0,none⟩) 1 1).ownBlock=some k→k=w7.heap.size:=fun k hk=>by simp only[Value.ownBlock,Option.some.injEq] at hk;exact hk.symm
      refine (z7v (hx7.play.box2 (.cells #[.int .i64 r] 3)) rf 4 false [r] (some ⟨w7.heap.size,0,none⟩) 1 1 (Ri.single w7 hx7.play.rs.size r) (fun k hk=>.inr (hown k hk)) (fun k hk q=>by have:=(hx7.play.lm.lt q).1;have:=hown k hk;omega) (by have:=HO.out.few;omega) t ht (by have:=HL6.out.1;omega) (by rw[HRf.out];omega) (fun x hx e=>?_) t rfl).mono ?_
      ·obtain⟨k,c2,q1,q2,_⟩:=HO.out.ag.at_ hx
       have:=(List.getElem?_eq_some_iff.1 q2).1
       rw[e,HRf.out] at q1
       omega
      ·rintro e w8 ⟨rfl,⟨va',vr',h8⟩,_⟩
       rw[HRf.out] at h8
       exact⟨rfl,X.weaked t r ad c6,fs,qs,va',vq,vr',_,h8,HO.out.weaked HL6.out.1 r HRn.out ad c6 _⟩
     clear hx6 hx7 f5 kr er lr
     go_wp2_with (first|(go_at_call 9;refine (z04 _ _).mono ?_;rintro e w9 ⟨rfl,hw9⟩;replace hw9:=hw9.symm;subst hw9)|(go_at_call 59;refine hmd.mono ?_;rintro e w8 ⟨rfl,h8⟩;have HE:Hid (Ed13 B w0 rh hb y rb W T (i+1) w8):=h8;clear hmd h8))
     go_ret
     exact⟨rfl,HE.out⟩
end
end Go.Proofs.YthkelaeemefnaaaGreat
