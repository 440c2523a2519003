import Derived.Test.YthkelaeemefnaaaGreatMXA3qz
set_option maxRecDepth 20000
set_option maxHeartbeats 4000000
namespace Go.Proofs.YthkelaeemefnaaaGreat
open Go.RowKit
section
variable {B:Nat}{w0 w:World}{rh hb:Nat}{X:Cm}{fs qs:List Int}{y rb W T i:Nat}{va vq:Value}{vr:Nat→Value}{L:List Lr}
attribute [local go_sem ↓] z1I
theorem zef (H:Pl13 B w0 w rh hb X fs qs y rb W T va vq vr X.rt qs L (fun _=>False)) (hO:Ok13 X fs qs W T L i) (hi:i≤200) (K A C S P I O V:Int) (F:Bool) (hK:K<3) (hA:A<0):
  Calls Tryz.prog 24 #[.pointer (some ⟨y,0,none⟩),.agg #[.int .i64 K,.int .i64 A,.int .i64 C,.int .i64 S,.int .i64 P,.int .i64 I,.int .i64 O,.int .i64 V,.bool F]] w (z0p B w0 rh hb y rb W T (i+1)):=by
 have hx0:=Pb13.start H K A C S P I O V F
 have HO:Hid (Ok13 X fs qs W T L i):=hO
 have hm:X.m≤1999000:=by have:=hO.cost;omega
 have hsu:=z0I hO.ag
 have hfit:=H.rs.fit
 have hsum5:sumR L≤5000:=by have:=hO.lim;have:=hO.eW;omega
 have HSu:Hid (∀ X' u q,Pb13 B w0 u rh hb X' fs qs y rb W T va vq vr X.rt qs L w.heap.size K A C S P I O V F→Calls Tryz.prog 58 #[.pointer (some ⟨y,0,none⟩)] (u.drewN q) fun e w'=>e=.returned (.int .i64 (sumR L:Nat))∧w'=u.drewN q):=fun X' u q hu=>z0O (hu.below (z00 u q _)).play.lm (by have:=hO.few;omega) hsum5
 have HM:Hid (∀ u,Pb13 B w0 u rh hb X fs qs y rb W T va vq vr X.rt qs L w.heap.size K A C S P I O V F→Calls Tryz.prog 13 #[.pointer (some ⟨rh,0,none⟩),.int .i64 A,.int .i64 C,.int .i64 I,.int .i64 S,.bool F] u fun e w'=>e=.returned (.tuple #[.int .i64 0,.int .i64 1302])∧Pb13 B w0 w' rh hb X fs qs y rb W T va vq vr X.rt qs L w.heap.size K A C S P I O V F):=fun u hu=>(z3Q hu.play.rs A C I S F (by omega)).mono fun e w' q=>⟨q.1,hu.call q.2⟩
 have a0:decide ((0:Int)≤A)=false:=by simp;omega
 have hFt:=fun u:World=>z1L 1 0 u true (by decide)
 have k3:¬ (3:Int)≤K:=by omega
 have hWb:W≤10100:=hO.lim.2.2
 clear H hO hfit hm hK hsu
 generalize sumR L=sm at *
 go_enter Tryz.func24,Tryz.ntmps24
 have f0:=hx0.facts
 go_wp2
 generalize World.alloc _ _=W1 at *
 go_region
 all_goals
  have hx1:=hx0.below ((Below.refl _ _).drew)
  generalize World.drew _=W2 at *
  have f1:=hx1.facts
  clear hx0 f0
  have hsm:=fun q=>HSu.out _ W2 q hx1
  go_wp2
  go_quiet ((go_at_call 58;exact Calls.quiet_of_same (hsm _)))
  all_goals
   have hx4:=hx1.below (z00 W2 nq _)
   generalize World.drewN _ _=w4 at *
   have f4:=hx4.facts
   have hx5:=hx4.below (z00 w4 1 _)
   have hM:=HM.out _ hx5
   clear hx1 f1 hsm HM HSu
   go_wp2
   go_region_held3 (fun w'=>w'.cell? ⟨y,0,none⟩=some (.pointer (some ⟨rh,0,none⟩))∧w'.cell? ⟨w.heap.size,1,none⟩=some (.int .i64 A)∧w'.cell? ⟨w.heap.size,2,none⟩=some (.int .i64 C)∧w'.cell? ⟨w.heap.size,3,none⟩=some (.int .i64 S)∧w'.cell? ⟨w.heap.size,5,none⟩=some (.int .i64 I)∧w'.cell? ⟨w.heap.size,8,none⟩=some (.bool F)) (go_keep) ((go_at_call 13;refine hM.mono ?_;rintro e w5 ⟨rfl,hx6⟩;have f5:=hx6.facts;clear hM))
   clear hx4 hx5 f4
   have HE:Hid (Ed13 B w0 rh hb y rb W T (i+1) w5):=Ed13.same hx6.play HO.out
   clear hx6
   go_wp2_with (first|(go_at_call 9;refine (z04 _ _).mono ?_;rintro e w9 ⟨rfl,hw9⟩;replace hw9:=hw9.symm;subst hw9)|(go_at_call 60;refine (hFt _).mono ?_;rintro e w9 ⟨rfl,hw9⟩;replace hw9:=hw9.symm;subst hw9))
   go_ret
   exact⟨rfl,HE.out⟩
theorem zeD (H:Pl13 B w0 w rh hb X fs qs y rb W T va vq vr X.rt qs L (fun _=>False)) (hO:Ok13 X fs qs W T L i) (hi:i≤200) (K A C S P I O V:Int) (F:Bool) (hK:K<3) (hA:(T:Int)≤A):
  Calls Tryz.prog 24 #[.pointer (some ⟨y,0,none⟩),.agg #[.int .i64 K,.int .i64 A,.int .i64 C,.int .i64 S,.int .i64 P,.int .i64 I,.int .i64 O,.int .i64 V,.bool F]] w (z0p B w0 rh hb y rb W T (i+1)):=by
 have hx0:=Pb13.start H K A C S P I O V F
 have HO:Hid (Ok13 X fs qs W T L i):=hO
 have hm:X.m≤1999000:=by have:=hO.cost;omega
 have hsu:=z0I hO.ag
 have hfit:=H.rs.fit
 have hsum5:sumR L≤5000:=by have:=hO.lim;have:=hO.eW;omega
 have HSu:Hid (∀ X' u q,Pb13 B w0 u rh hb X' fs qs y rb W T va vq vr X.rt qs L w.heap.size K A C S P I O V F→Calls Tryz.prog 58 #[.pointer (some ⟨y,0,none⟩)] (u.drewN q) fun e w'=>e=.returned (.int .i64 (sumR L:Nat))∧w'=u.drewN q):=fun X' u q hu=>z0O (hu.below (z00 u q _)).play.lm (by have:=hO.few;omega) hsum5
 have HM:Hid (∀ u,Pb13 B w0 u rh hb X fs qs y rb W T va vq vr X.rt qs L w.heap.size K A C S P I O V F→Calls Tryz.prog 13 #[.pointer (some ⟨rh,0,none⟩),.int .i64 A,.int .i64 C,.int .i64 I,.int .i64 S,.bool F] u fun e w'=>e=.returned (.tuple #[.int .i64 0,.int .i64 1302])∧Pb13 B w0 w' rh hb X fs qs y rb W T va vq vr X.rt qs L w.heap.size K A C S P I O V F):=fun u hu=>(z3Q hu.play.rs A C I S F (by rw[hO.eT];omega)).mono fun e w' q=>⟨q.1,hu.call q.2⟩
 have a0:(0:Int)≤A:=by omega
 have a1:decide (A<(T:Int))=false:=by simp;omega
 have hFt:=fun u:World=>z1L 1 0 u true (by decide)
 have k3:¬ (3:Int)≤K:=by omega
 have hWb:W≤10100:=hO.lim.2.2
 clear H hO hfit hm hK hsu
 generalize sumR L=sm at *
 go_enter Tryz.func24,Tryz.ntmps24
 have f0:=hx0.facts
 go_wp2
 generalize World.alloc _ _=W1 at *
 go_quiet (fail)
 all_goals
  have hx1:=hx0.below (z00 W1 nq _)
  generalize World.drewN _ _=W2 at *
  have f1:=hx1.facts
  clear hx0 f0
  have hsm:=fun q=>HSu.out _ W2 q hx1
  go_wp2
  go_quiet ((go_at_call 58;exact Calls.quiet_of_same (hsm _)))
  all_goals
   have hx4:=hx1.below (z00 W2 nq _)
   generalize World.drewN _ _=w4 at *
   have f4:=hx4.facts
   have hx5:=hx4.below (z00 w4 1 _)
   have hM:=HM.out _ hx5
   clear hx1 f1 hsm HM HSu
   go_wp2
   go_region_held3 (fun w'=>w'.cell? ⟨y,0,none⟩=some (.pointer (some ⟨rh,0,none⟩))∧w'.cell? ⟨w.heap.size,1,none⟩=some (.int .i64 A)∧w'.cell? ⟨w.heap.size,2,none⟩=some (.int .i64 C)∧w'.cell? ⟨w.heap.size,3,none⟩=some (.int .i64 S)∧w'.cell? ⟨w.heap.size,5,none⟩=some (.int .i64 I)∧w'.cell? ⟨w.heap.size,8,none⟩=some (.bool F)) (go_keep) ((go_at_call 13;refine hM.mono ?_;rintro e w5 ⟨rfl,hx6⟩;have f5:=hx6.facts;clear hM))
   clear hx4 hx5 f4
   have HE:Hid (Ed13 B w0 rh hb y rb W T (i+1) w5):=Ed13.same hx6.play HO.out
   clear hx6
   go_wp2_with (first|(go_at_call 9;refine (z04 _ _).mono ?_;rintro e w9 ⟨rfl,hw9⟩;replace hw9:=hw9.symm;subst hw9)|(go_at_call 60;refine (hFt _).mono ?_;rintro e w9 ⟨rfl,hw9⟩;replace hw9:=hw9.symm;subst hw9))
   go_ret
   exact⟨rfl,HE.out⟩
theorem zcp (H:Pl13 B w0 w rh hb X fs qs y rb W T va vq vr X.rt qs L (fun _=>False)) (hO:Ok13 X fs qs W T L i) (hi:i≤200) (K A C S P I O V:Int) (F:Bool) (hK:K<3) (t:Nat) (ht:t<T) (hA:A=t) (hf:¬ ((1≤C∧C≤3)∧kmin C≤S∧S≤kmax C)):
  Calls Tryz.prog 24 #[.pointer (some ⟨y,0,none⟩),.agg #[.int .i64 K,.int .i64 A,.int .i64 C,.int .i64 S,.int .i64 P,.int .i64 I,.int .i64 O,.int .i64 V,.bool F]] w (z0p B w0 rh hb y rb W T (i+1)):=by
 subst hA
 have hx0:=Pb13.start H K t C S P I O V F
 have HO:Hid (Ok13 X fs qs W T L i):=hO
 have hm:X.m≤1999000:=by have:=hO.cost;omega
 have hsu:=z0I hO.ag
 have hfit:=H.rs.fit
 have hsum5:sumR L≤5000:=by have:=hO.lim;have:=hO.eW;omega
 have HSu:Hid (∀ X' u q,Pb13 B w0 u rh hb X' fs qs y rb W T va vq vr X.rt qs L w.heap.size K t C S P I O V F→Calls Tryz.prog 58 #[.pointer (some ⟨y,0,none⟩)] (u.drewN q) fun e w'=>e=.returned (.int .i64 (sumR L:Nat))∧w'=u.drewN q):=fun X' u q hu=>z0O (hu.below (z00 u q _)).play.lm (by have:=hO.few;omega) hsum5
 have HM:Hid (∀ u,Pb13 B w0 u rh hb X fs qs y rb W T va vq vr X.rt qs L w.heap.size K t C S P I O V F→Calls Tryz.prog 13 #[.pointer (some ⟨rh,0,none⟩),.int .i64 t,.int .i64 C,.int .i64 I,.int .i64 S,.bool F] u fun e w'=>e=.returned (.tuple #[.int .i64 0,.int .i64 1304])∧Pb13 B w0 w' rh hb X fs qs y rb W T va vq vr X.rt qs L w.heap.size K t C S P I O V F):=fun u hu=>(z3J hu.play.rs t C I S F (by rw[hO.eT];omega) (fun q=>hf ⟨q.1,q.2.1⟩)).mono fun e w' q=>⟨q.1,hu.call q.2⟩
 have a0:(0:Int)≤(t:Int):=by omega
 have a1:(t:Int)<(T:Int):=by omega
 have hFt:=fun u:World=>z1L C S u false ⟨fun q=>by simp at q,fun q=>absurd q hf⟩
 clear hf
 have k3:¬ (3:Int)≤K:=by omega
 have hWb:W≤10100:=hO.lim.2.2
 clear H hO hfit hm hK hsu
 generalize sumR L=sm at *
 go_enter Tryz.func24,Tryz.ntmps24
 have f0:=hx0.facts
 go_wp2
 generalize World.alloc _ _=W1 at *
 go_quiet (fail)
 all_goals
  have hx1:=hx0.below (z00 W1 nq _)
  generalize World.drewN _ _=W2 at *
  have f1:=hx1.facts
  clear hx0 f0
  have hsm:=fun q=>HSu.out _ W2 q hx1
  go_wp2
  go_quiet ((go_at_call 58;exact Calls.quiet_of_same (hsm _)))
  all_goals
   have hx4:=hx1.below (z00 W2 nq _)
   generalize World.drewN _ _=w4 at *
   have f4:=hx4.facts
   have hx5:=hx4.below (z00 w4 1 _)
   have hM:=HM.out _ hx5
   clear hx1 f1 hsm HM HSu
   go_wp2
   go_region_held3 (fun w'=>w'.cell? ⟨y,0,none⟩=some (.pointer (some ⟨rh,0,none⟩))∧w'.cell? ⟨w.heap.size,1,none⟩=some (.int .i64 t)∧w'.cell? ⟨w.heap.size,2,none⟩=some (.int .i64 C)∧w'.cell? ⟨w.heap.size,3,none⟩=some (.int .i64 S)∧w'.cell? ⟨w.heap.size,5,none⟩=some (.int .i64 I)∧w'.cell? ⟨w.heap.size,8,none⟩=some (.bool F)) (go_keep) ((go_at_call 13;refine hM.mono ?_;rintro e w5 ⟨rfl,hx6⟩;have f5:=hx6.facts;clear hM))
   clear hx4 hx5 f4
   have HE:Hid (Ed13 B w0 rh hb y rb W T (i+1) w5):=Ed13.same hx6.play HO.out
   clear hx6
   go_wp2_with (first|(go_at_call 9;refine (z04 _ _).mono ?_;rintro e w9 ⟨rfl,hw9⟩;replace hw9:=hw9.symm;subst hw9)|(go_at_call 60;refine (hFt _).mono ?_;rintro e w9 ⟨rfl,hw9⟩;replace hw9:=hw9.symm;subst hw9))
   go_ret
   exact⟨rfl,HE.out⟩
theorem zcF (H:Pl13 B w0 w rh hb X fs qs y rb W T va vq vr X.rt qs L (fun _=>False)) (hO:Ok13 X fs qs W T L i) (hi:i≤200) (K A C S P I O V:Int) (F:Bool) (hK:K<3) (t:Nat) (ht:t<T) (hA:A=t) (hf:(1≤C∧C≤3)∧kmin C≤S∧S≤kmax C) (hI:I<0):
  Calls Tryz.prog 24 #[.pointer (some ⟨y,0,none⟩),.agg #[.int .i64 K,.int .i64 A,.int .i64 C,.int .i64 S,.int .i64 P,.int .i64 I,.int .i64 O,.int .i64 V,.bool F]] w (z0p B w0 rh hb y rb W T (i+1)):=by
 subst hA
 have hx0:=Pb13.start H K t C S P I O V F
 have HO:Hid (Ok13 X fs qs W T L i):=hO
 have hm:X.m≤1999000:=by have:=hO.cost;omega
 have hsu:=z0I hO.ag
 have hfit:=H.rs.fit
 have hsum5:sumR L≤5000:=by have:=hO.lim;have:=hO.eW;omega
 have HSu:Hid (∀ X' u q,Pb13 B w0 u rh hb X' fs qs y rb W T va vq vr X.rt qs L w.heap.size K t C S P I O V F→Calls Tryz.prog 58 #[.pointer (some ⟨y,0,none⟩)] (u.drewN q) fun e w'=>e=.returned (.int .i64 (sumR L:Nat))∧w'=u.drewN q):=fun X' u q hu=>z0O (hu.below (z00 u q _)).play.lm (by have:=hO.few;omega) hsum5
 have HM:Hid (∀ u,Pb13 B w0 u rh hb X fs qs y rb W T va vq vr X.rt qs L w.heap.size K t C S P I O V F→Calls Tryz.prog 13 #[.pointer (some ⟨rh,0,none⟩),.int .i64 t,.int .i64 C,.int .i64 I,.int .i64 S,.bool F] u fun e w'=>e=.returned (.tuple #[.int .i64 0,.int .i64 1304])∧Pb13 B w0 w' rh hb X fs qs y rb W T va vq vr X.rt qs L w.heap.size K t C S P I O V F):=fun u hu=>(z3J hu.play.rs t C I S F (by rw[hO.eT];omega) (fun q=>by have:=q.2.2;omega)).mono fun e w' q=>⟨q.1,hu.call q.2⟩
 have a0:(0:Int)≤(t:Int):=by omega
 have a1:(t:Int)<(T:Int):=by omega
 have hFt:=fun u:World=>z1L C S u true ⟨fun _=>hf,fun _=>rfl⟩
 have i0:decide (I<0)=true:=by simpa using hI
 clear hf hI
 have k3:¬ (3:Int)≤K:=by omega
 have hWb:W≤10100:=hO.lim.2.2
 clear H hO hfit hm hK hsu
 generalize sumR L=sm at *
 go_enter Tryz.func24,Tryz.ntmps24
 have f0:=hx0.facts
 go_wp2
 generalize World.alloc _ _=W1 at *
 go_quiet (fail)
 all_goals
  have hx1:=hx0.below (z00 W1 nq _)
  generalize World.drewN _ _=W2 at *
  have f1:=hx1.facts
  clear hx0 f0
  have hsm:=fun q=>HSu.out _ W2 q hx1
  go_wp2
  go_quiet ((go_at_call 58;exact Calls.quiet_of_same (hsm _)))
  all_goals
   have hx4:=hx1.below (z00 W2 nq _)
   generalize World.drewN _ _=w4 at *
   have f4:=hx4.facts
   have hx5:=hx4.below (z00 w4 1 _)
   have hM:=HM.out _ hx5
   clear hx1 f1 hsm HM HSu
   go_wp2
   go_region_held3 (fun w'=>w'.cell? ⟨y,0,none⟩=some (.pointer (some ⟨rh,0,none⟩))∧w'.cell? ⟨w.heap.size,1,none⟩=some (.int .i64 t)∧w'.cell? ⟨w.heap.size,2,none⟩=some (.int .i64 C)∧w'.cell? ⟨w.heap.size,3,none⟩=some (.int .i64 S)∧w'.cell? ⟨w.heap.size,5,none⟩=some (.int .i64 I)∧w'.cell? ⟨w.heap.size,8,none⟩=some (.bool F)) (go_keep) ((go_at_call 13;refine hM.mono ?_;rintro e w5 ⟨rfl,hx6⟩;have f5:=hx6.facts;clear hM))
   clear hx4 hx5 f4
   have HE:Hid (Ed13 B w0 rh hb y rb W T (i+1) w5):=Ed13.same hx6.play HO.out
   clear hx6
   go_wp2_with (first|(go_at_call 9;refine (z04 _ _).mono ?_;rintro e w9 ⟨rfl,hw9⟩;replace hw9:=hw9.symm;subst hw9)|(go_at_call 60;refine (hFt _).mono ?_;rintro e w9 ⟨rfl,hw9⟩;replace hw9:=hw9.symm;subst hw9))
   go_ret
   exact⟨rfl,HE.out⟩
theorem zar (H:Pl13 B w0 w rh hb X fs qs y rb W T va vq vr X.rt qs L (fun _=>False)) (hO:Ok13 X fs qs W T L i) (hi:i≤200) (K A C S P I O V:Int) (F:Bool) (hK:K<3) (t n:Nat) (ht:t<T) (hA:A=t) (hS:S=n) (hf:Fits C I n) (hl:64≤(X.rt t).length):
  Calls Tryz.prog 24 #[.pointer (some ⟨y,0,none⟩),.agg #[.int .i64 K,.int .i64 A,.int .i64 C,.int .i64 S,.int .i64 P,.int .i64 I,.int .i64 O,.int .i64 V,.bool F]] w (z0p B w0 rh hb y rb W T (i+1)):=by
 subst hA hS
 have hx0:=Pb13.start H K t C n P I O V F
 have HO:Hid (Ok13 X fs qs W T L i):=hO
 have hm:X.m≤1999000:=by have:=hO.cost;omega
 have hsu:=z0I hO.ag
 have hfit:=H.rs.fit
 have hsum5:sumR L≤5000:=by have:=hO.lim;have:=hO.eW;omega
 have HSu:Hid (∀ X' u q,Pb13 B w0 u rh hb X' fs qs y rb W T va vq vr X.rt qs L w.heap.size K t C n P I O V F→Calls Tryz.prog 58 #[.pointer (some ⟨y,0,none⟩)] (u.drewN q) fun e w'=>e=.returned (.int .i64 (sumR L:Nat))∧w'=u.drewN q):=fun X' u q hu=>z0O (hu.below (z00 u q _)).play.lm (by have:=hO.few;omega) hsum5
 have HM:Hid (∀ u,Pb13 B w0 u rh hb X fs qs y rb W T va vq vr X.rt qs L w.heap.size K t C n P I O V F→Calls Tryz.prog 13 #[.pointer (some ⟨rh,0,none⟩),.int .i64 t,.int .i64 C,.int .i64 I,.int .i64 n,.bool F] u fun e w'=>e=.returned (.tuple #[.int .i64 0,.int .i64 1303])∧Pb13 B w0 w' rh hb X fs qs y rb W T va vq vr X.rt qs L w.heap.size K t C n P I O V F):=fun u hu=>(z4F hu.play.rs t C I n F (by rw[hO.eT];exact ht) hf hl t rfl).mono fun e w' q=>⟨q.1,hu.call q.2⟩
 have a0:(0:Int)≤(t:Int):=by omega
 have a1:(t:Int)<(T:Int):=by omega
 have hn1:n≤1000:=by have:=hf.2.1.2;have:=z2s C;omega
 have hFt:=fun u:World=>z1L C n u true ⟨fun _=>⟨hf.1,hf.2.1⟩,fun _=>rfl⟩
 have i0:decide (I<0)=false:=by have:=hf.2.2;simp;omega
 have a2:(64:Int)≤((X.rt t).length:Int):=by omega
 clear hf hl
 have k3:¬ (3:Int)≤K:=by omega
 have hWb:W≤10100:=hO.lim.2.2
 clear H hO hfit hm hK hsu
 generalize sumR L=sm at *
 go_enter Tryz.func24,Tryz.ntmps24
 have f0:=hx0.facts
 go_wp2
 generalize World.alloc _ _=W1 at *
 go_quiet (fail)
 all_goals
  have hx1:=hx0.below (z00 W1 nq _)
  generalize World.drewN _ _=W2 at *
  have f1:=hx1.facts
  clear hx0 f0
  have hsm:=fun q=>HSu.out _ W2 q hx1
  go_wp2
  go_quiet ((go_at_call 58;exact Calls.quiet_of_same (hsm _)))
  all_goals
   have hx4:=hx1.below (z00 W2 nq _)
   generalize World.drewN _ _=w4 at *
   have f4:=hx4.facts
   have hx5:=hx4.below (z00 w4 1 _)
   have hM:=HM.out _ hx5
   clear hx1 f1 hsm HM HSu
   go_wp2
   go_region_held3 (fun w'=>w'.cell? ⟨y,0,none⟩=some (.pointer (some ⟨rh,0,none⟩))∧w'.cell? ⟨w.heap.size,1,none⟩=some (.int .i64 t)∧w'.cell? ⟨w.heap.size,2,none⟩=some (.int .i64 C)∧w'.cell? ⟨w.heap.size,3,none⟩=some (.int .i64 n)∧w'.cell? ⟨w.heap.size,5,none⟩=some (.int .i64 I)∧w'.cell? ⟨w.heap.size,8,none⟩=some (.bool F)) (go_keep) ((go_at_call 13;refine hM.mono ?_;rintro e w5 ⟨rfl,hx6⟩;have f5:=hx6.facts;clear hM))
   clear hx4 hx5 f4
   obtain⟨hrr,kr⟩:=hx6.play.lm.root ht
   obtain⟨ar,cr,er⟩:=hrr.form
   have lr:=hx6.play.lm.rb_lt
   rw[er] at kr
   have HE:Hid (∀ n,Ed13 B w0 rh hb y rb W T (i+1) (w5.drewN n)):=fun n=>Ed13.same (hx6.below (z00 w5 n _)).play HO.out
   generalize (X.rt t).length=nr at *
   clear hx6 hrr er
   go_wp2_with (first|(go_at_call 9;refine (z04 _ _).mono ?_;rintro e w9 ⟨rfl,hw9⟩;replace hw9:=hw9.symm;subst hw9)|(go_at_call 60;refine (hFt _).mono ?_;rintro e w9 ⟨rfl,hw9⟩;replace hw9:=hw9.symm;subst hw9))
   go_quiet (fail)
   go_wp2_with (first|(go_at_call 9;refine (z04 _ _).mono ?_;rintro e w9 ⟨rfl,hw9⟩;replace hw9:=hw9.symm;subst hw9)|(go_at_call 60;refine (hFt _).mono ?_;rintro e w9 ⟨rfl,hw9⟩;replace hw9:=hw9.symm;subst hw9))
   go_ret
   exact⟨rfl,HE.out _⟩
theorem zby (H:Pl13 B w0 w rh hb X fs qs y rb W T va vq vr X.rt qs L (fun _=>False)) (hO:Ok13 X fs qs W T L i) (hi:i≤200) (K A C S P I O V:Int) (F:Bool) (hK:K<3) (t n:Nat) (ht:t<T) (hA:A=t) (hS:S=n) (hf:Fits C I n) (hl:(X.rt t).length<64) (hs:W/4<sumS X.S+(n+16)):
  Calls Tryz.prog 24 #[.pointer (some ⟨y,0,none⟩),.agg #[.int .i64 K,.int .i64 A,.int .i64 C,.int .i64 S,.int .i64 P,.int .i64 I,.int .i64 O,.int .i64 V,.bool F]] w (z0p B w0 rh hb y rb W T (i+1)):=by
 subst hA hS
 have hx0:=Pb13.start H K t C n P I O V F
 have HO:Hid (Ok13 X fs qs W T L i):=hO
 have hm:X.m≤1999000:=by have:=hO.cost;omega
 have hsu:=z0I hO.ag
 have hfit:=H.rs.fit
 have hsum5:sumR L≤5000:=by have:=hO.lim;have:=hO.eW;omega
 have HSu:Hid (∀ X' u q,Pb13 B w0 u rh hb X' fs qs y rb W T va vq vr X.rt qs L w.heap.size K t C n P I O V F→Calls Tryz.prog 58 #[.pointer (some ⟨y,0,none⟩)] (u.drewN q) fun e w'=>e=.returned (.int .i64 (sumR L:Nat))∧w'=u.drewN q):=fun X' u q hu=>z0O (hu.below (z00 u q _)).play.lm (by have:=hO.few;omega) hsum5
 have HM:Hid (∀ u,Pb13 B w0 u rh hb X fs qs y rb W T va vq vr X.rt qs L w.heap.size K t C n P I O V F→Calls Tryz.prog 13 #[.pointer (some ⟨rh,0,none⟩),.int .i64 t,.int .i64 C,.int .i64 I,.int .i64 n,.bool F] u fun e w'=>e=.returned (.tuple #[.int .i64 0,.int .i64 1301])∧Pb13 B w0 w' rh hb X fs qs y rb W T va vq vr X.rt qs L w.heap.size K t C n P I O V F):=fun u hu=>(z5T hu.play.rs t C I n F (by rw[hO.eT];exact ht) hf hl (by rw[hO.eW];omega) t n rfl rfl).mono fun e w' q=>⟨q.1,hu.call q.2⟩
 have a0:(0:Int)≤(t:Int):=by omega
 have a1:(t:Int)<(T:Int):=by omega
 have hn1:n≤1000:=by have:=hf.2.1.2;have:=z2s C;omega
 have hFt:=fun u:World=>z1L C n u true ⟨fun _=>⟨hf.1,hf.2.1⟩,fun _=>rfl⟩
 have i0:decide (I<0)=false:=by have:=hf.2.2;simp;omega
 have a2:¬ (64:Int)≤((X.rt t).length:Int):=by omega
 have s1:decide ((W:Int)/4<((sumR L:Nat):Int)+(n:Int)+16)=true:=decide_eq_true (by omega)
 clear hf hl hs
 have k3:¬ (3:Int)≤K:=by omega
 have hWb:W≤10100:=hO.lim.2.2
 clear H hO hfit hm hK hsu
 generalize sumR L=sm at *
 go_enter Tryz.func24,Tryz.ntmps24
 have f0:=hx0.facts
 go_wp2
 generalize World.alloc _ _=W1 at *
 go_quiet (fail)
 all_goals
  have hx1:=hx0.below (z00 W1 nq _)
  generalize World.drewN _ _=W2 at *
  have f1:=hx1.facts
  clear hx0 f0
  have hsm:=fun q=>HSu.out _ W2 q hx1
  go_wp2
  go_quiet ((go_at_call 58;exact Calls.quiet_of_same (hsm _)))
  all_goals
   have hx4:=hx1.below (z00 W2 nq _)
   generalize World.drewN _ _=w4 at *
   have f4:=hx4.facts
   have hx5:=hx4.below (z00 w4 1 _)
   have hM:=HM.out _ hx5
   clear hx1 f1 hsm HM HSu
   go_wp2
   go_region_held3 (fun w'=>w'.cell? ⟨y,0,none⟩=some (.pointer (some ⟨rh,0,none⟩))∧w'.cell? ⟨w.heap.size,1,none⟩=some (.int .i64 t)∧w'.cell? ⟨w.heap.size,2,none⟩=some (.int .i64 C)∧w'.cell? ⟨w.heap.size,3,none⟩=some (.int .i64 n)∧w'.cell? ⟨w.heap.size,5,none⟩=some (.int .i64 I)∧w'.cell? ⟨w.heap.size,8,none⟩=some (.bool F)) (go_keep) ((go_at_call 13;refine hM.mono ?_;rintro e w5 ⟨rfl,hx6⟩;have f5:=hx6.facts;clear hM))
   clear hx4 hx5 f4
   obtain⟨hrr,kr⟩:=hx6.play.lm.root ht
   obtain⟨ar,cr,er⟩:=hrr.form
   have lr:=hx6.play.lm.rb_lt
   rw[er] at kr
   have HE:Hid (∀ n,Ed13 B w0 rh hb y rb W T (i+1) (w5.drewN n)):=fun n=>Ed13.same (hx6.below (z00 w5 n _)).play HO.out
   generalize (X.rt t).length=nr at *
   clear hx6 hrr er
   go_wp2_with (first|(go_at_call 9;refine (z04 _ _).mono ?_;rintro e w9 ⟨rfl,hw9⟩;replace hw9:=hw9.symm;subst hw9)|(go_at_call 60;refine (hFt _).mono ?_;rintro e w9 ⟨rfl,hw9⟩;replace hw9:=hw9.symm;subst hw9))
   go_quiet (fail)
   go_wp2_with (first|(go_at_call 9;refine (z04 _ _).mono ?_;rintro e w9 ⟨rfl,hw9⟩;replace hw9:=hw9.symm;subst hw9)|(go_at_call 60;refine (hFt _).mono ?_;rintro e w9 ⟨rfl,hw9⟩;replace hw9:=hw9.symm;subst hw9))
   go_ret
   exact⟨rfl,HE.out _⟩
end
end Go.Proofs.YthkelaeemefnaaaGreat
namespace Go.Proofs.YthkelaeemefnaaaGreat
open Go.RowKit
section
variable {B:Nat}{w0 w:World}{rh hb:Nat}{X:Cm}{fs qs:List Int}{y rb W T i:Nat}{va vq:Value}{vr:Nat→Value}{L:List Lr}
attribute [local go_sem ↓] z1I
theorem zfa (H:Pl13 B w0 w rh hb X fs qs y rb W T va vq vr X.rt qs L (fun _=>False)) (hO:Ok13 X fs qs W T L i) (hi:i≤200) (K A C S P I O V:Int) (F:Bool) (hK:K<3) (t n:Nat) (ht:t<T) (hA:A=t) (hS:S=n) (hf:Fits C I n) (hl:(X.rt t).length<64) (hs:sumS X.S+(n+16)≤W/4):
  Calls Tryz.prog 24 #[.pointer (some ⟨y,0,none⟩),.agg #[.int .i64 K,.int .i64 A,.int .i64 C,.int .i64 S,.int .i64 P,.int .i64 I,.int .i64 O,.int .i64 V,.bool F]] w (z0p B w0 rh hb y rb W T (i+1)):=by
 subst hA hS
 have hx0:=Pb13.start H K t C n P I O V F
 have HO:Hid (Ok13 X fs qs W T L i):=hO
 have hm:X.m≤1999000:=by have:=hO.cost;omega
 have hsu:=z0I hO.ag
 have hfit:=H.rs.fit
 have hsum5:sumR L≤5000:=by have:=hO.lim;have:=hO.eW;omega
 have HSu:Hid (∀ X' u q,Pb13 B w0 u rh hb X' fs qs y rb W T va vq vr X.rt qs L w.heap.size K t C n P I O V F→Calls Tryz.prog 58 #[.pointer (some ⟨y,0,none⟩)] (u.drewN q) fun e w'=>e=.returned (.int .i64 (sumR L:Nat))∧w'=u.drewN q):=fun X' u q hu=>z0O (hu.below (z00 u q _)).play.lm (by have:=hO.few;omega) hsum5
 have HM:Hid (∀ u,Pb13 B w0 u rh hb X fs qs y rb W T va vq vr X.rt qs L w.heap.size K t C n P I O V F→Calls Tryz.prog 13 #[.pointer (some ⟨rh,0,none⟩),.int .i64 t,.int .i64 C,.int .i64 I,.int .i64 n,.bool F] u fun e w'=>e=.returned (.tuple #[.int .i64 ((X.S.length:Int)+1),.int .i64 0])∧∃ a c',Pb13 B w0 w' rh hb (X.made t C I n a c') (if F=true then fs++[(X.S.length:Int)+1] else fs) qs y rb W T va vq vr X.rt qs L w.heap.size K t C n P I O V F):=fun u hu=>(zev hu.play.rs hm (by have:=hO.few;omega) t C I n (by rw[hO.eT];exact ht) hf hl (by rw[hO.eW];exact hs) F t rfl).mono fun e w' q=>⟨q.1,let ⟨a,c',hT⟩:=q.2;⟨a,c',hu.call hT⟩⟩
 have a0:(0:Int)≤(t:Int):=by omega
 have a1:(t:Int)<(T:Int):=by omega
 have hn1:n≤1000:=by have:=hf.2.1.2;have:=z2s C;omega
 have hFt:=fun u:World=>z1L C n u true ⟨fun _=>⟨hf.1,hf.2.1⟩,fun _=>rfl⟩
 have i0:decide (I<0)=false:=by have:=hf.2.2;simp;omega
 have a2:¬ (64:Int)≤((X.rt t).length:Int):=by omega
 have HL6:Hid ((X.rt t).length<64∧C≠4):=⟨hl,by have:=hf.1;omega⟩
 have s1:decide ((W:Int)/4<((sumR L:Nat):Int)+(n:Int)+16)=false:=by simp;omega
 clear hf hl hs
 have k3:¬ (3:Int)≤K:=by omega
 have hWb:W≤10100:=hO.lim.2.2
 clear H hO hfit hm hK hsu
 generalize sumR L=sm at *
 go_enter Tryz.func24,Tryz.ntmps24
 have f0:=hx0.facts
 go_wp2
 generalize World.alloc _ _=W1 at *
 go_quiet (fail)
 all_goals
  have hx1:=hx0.below (z00 W1 nq _)
  generalize World.drewN _ _=W2 at *
  have f1:=hx1.facts
  clear hx0 f0
  have hsm:=fun q=>HSu.out _ W2 q hx1
  go_wp2
  go_quiet ((go_at_call 58;exact Calls.quiet_of_same (hsm _)))
  all_goals
   have hx4:=hx1.below (z00 W2 nq _)
   generalize World.drewN _ _=w4 at *
   have f4:=hx4.facts
   have hx5:=hx4.below (z00 w4 1 _)
   have hM:=HM.out _ hx5
   clear hx1 f1 hsm HM HSu
   go_wp2
   go_region_held3 (fun w'=>w'.cell? ⟨y,0,none⟩=some (.pointer (some ⟨rh,0,none⟩))∧w'.cell? ⟨w.heap.size,1,none⟩=some (.int .i64 t)∧w'.cell? ⟨w.heap.size,2,none⟩=some (.int .i64 C)∧w'.cell? ⟨w.heap.size,3,none⟩=some (.int .i64 n)∧w'.cell? ⟨w.heap.size,5,none⟩=some (.int .i64 I)∧w'.cell? ⟨w.heap.size,8,none⟩=some (.bool F)) (go_keep) ((go_at_call 13;refine hM.mono ?_;rintro e w5 ⟨rfl,ad,c6,hx6⟩;have f5:=hx6.facts;clear hM))
   clear hx4 hx5 f4
   obtain⟨hrr,kr⟩:=hx6.play.lm.root ht
   obtain⟨ar,cr,er⟩:=hrr.form
   have lr:=hx6.play.lm.rb_lt
   rw[er] at kr
   obtain⟨rf,hrf⟩:∃ rf:Int,rf=(X.S.length:Int)+1:=⟨_,rfl⟩
   have HRf:Hid (rf=(X.S.length:Int)+1):=hrf
   rw[← hrf]
   obtain⟨nr,hnr⟩:∃ nr,nr=(X.rt t).length:=⟨_,rfl⟩
   rw[← hnr] at kr a2
   clear hrr hrf hnr
   go_wp2_with (first|(go_at_call 9;refine (z04 _ _).mono ?_;rintro e w9 ⟨rfl,hw9⟩;replace hw9:=hw9.symm;subst hw9)|(go_at_call 60;refine (hFt _).mono ?_;rintro e w9 ⟨rfl,hw9⟩;replace hw9:=hw9.symm;subst hw9))
   go_quiet (fail)
   all_goals
    have hx7:=hx6.below (z00 w5 nq _)
    generalize World.drewN _ _=w7 at *
    have f7:=hx7.facts
    have hmk:=run_make_row' (P:=Tryz.prog) 32 3 (.int .i64 0) 8 Tryz.underlying32 z8C rfl .i64 .i64 n (by omega) (by omega)
    have hmd:Calls Tryz.prog 59 #[.pointer (some ⟨y,0,none⟩),.int .i64 t,.agg #[.int .i64 rf,.int .i64 C,.slice (some ⟨w7.heap.size,0,none⟩) n n,.bool F,.bool false]] (w7.alloc (.cells (madeCells #[.int .i64 0] n) 3)).drew fun e w8=>e=.returned (.bool true)∧Ed13 B w0 rh hb y rb W T (i+1) w8∧∀ j,w8.cell? ⟨w.heap.size,j,none⟩=w7.cell? ⟨w.heap.size,j,none⟩:=by
     have hown:∀ k,(Value.slice (some ⟨w7.heap.size,0,none⟩) n n).ownBlock=some k→k=w7.heap.size:=fun k hk=>by simp only[Value.ownBlock,Option.some.injEq] at hk;exact hk.symm
     have bd:Below (w7.alloc (.cells (madeCells #[.int .i64 0] n) 3)).heap.size (w7.alloc (.cells (madeCells #[.int .i64 0] n) 3)) (w7.alloc (.cells (madeCells #[.int .i64 0] n) 3)).drew:=(Below.refl _ _).drew
     refine (z7v ((hx7.play.box2 (.cells (madeCells #[.int .i64 0] n) 3)).below bd) rf C F (List.replicate n 0) (some ⟨w7.heap.size,0,none⟩) n n ((Ri.zeros w7 hx7.play.rs.size n hn1).below bd) (fun k hk=>.inr (hown k hk)) (fun k hk q=>by have:=(hx7.play.lm.lt q).1;have:=hown k hk;omega) (by have:=HO.out.few;omega) t ht (by have:=HL6.out.1;omega) (by rw[HRf.out];omega) (fun x hx e=>?_) t rfl).mono ?_
     ·obtain⟨k,c2,q1,q2,_⟩:=HO.out.ag.at_ hx
      have:=(List.getElem?_eq_some_iff.1 q2).1
      rw[e,HRf.out] at q1
      omega
     ·rintro e w8 ⟨rfl,⟨va',vr',h8⟩,hst⟩
      rw[HRf.out] at h8
      refine⟨rfl,⟨X.made t C I n ad c6,_,qs,va',vq,vr',_,h8,HO.out.made HL6.out.1 C I n HL6.out.2 ad c6 F _⟩,fun j=>?_⟩
      have hlt:=hx7.nine.2
      have b8:Below w7.heap.size w7 (w7.alloc (.cells (madeCells #[.int .i64 0] n) 3)).drew:=((Below.refl _ _).alloc (Nat.le_refl _) _).drew
      exact z0q (a:=⟨w.heap.size,j,none⟩) ((hst w.heap.size (Nat.lt_of_lt_of_le hlt b8.size) hx7.notown).trans (b8.block _ hlt))
    clear hx6 hx7 f5 kr er lr
    go_wp2_with (first|(go_at_call 9;refine (z04 _ _).mono ?_;rintro e w9 ⟨rfl,hw9⟩;replace hw9:=hw9.symm;subst hw9)|(go_at_call 60;refine (hFt _).mono ?_;rintro e w9 ⟨rfl,hw9⟩;replace hw9:=hw9.symm;subst hw9))
    go_region_held3 (fun w'=>w'.cell? ⟨w.heap.size,1,none⟩=some (.int .i64 t)∧w'.cell? ⟨w.heap.size,2,none⟩=some (.int .i64 C)∧w'.cell? ⟨w.heap.size,3,none⟩=some (.int .i64 n)∧w'.cell? ⟨w.heap.size,8,none⟩=some (.bool F)) (go_keep) ((first|(go_at_call 9;refine (z04 _ _).mono ?_;rintro e w9 ⟨rfl,hw9⟩;replace hw9:=hw9.symm;subst hw9)|(go_at_call 59;refine hmd.mono ?_;rintro e w8 ⟨rfl,h8,hst⟩;have HE:Hid (Ed13 B w0 rh hb y rb W T (i+1) w8):=h8;have s8:=(hst 1).trans f7.2.1.2.1;have s9:=(hst 2).trans f7.2.1.2.2.1;have s10:=(hst 3).trans f7.2.1.2.2.2.1;have s11:=(hst 8).trans f7.2.1.2.2.2.2.2.2.2.2;clear h8 hmd hst)))
    all_goals
     go_wp2_with (first|(go_at_call 9;refine (z04 _ _).mono ?_;rintro e w9 ⟨rfl,hw9⟩;replace hw9:=hw9.symm;subst hw9)|(go_at_call 60;refine (hFt _).mono ?_;rintro e w9 ⟨rfl,hw9⟩;replace hw9:=hw9.symm;subst hw9))
     go_ret
     exact⟨rfl,HE.out⟩
end
end Go.Proofs.YthkelaeemefnaaaGreat
