import Derived.Test.YthkelaeemefnaaaGreatMXR2qz
set_option maxRecDepth 20000
set_option maxHeartbeats 2000000
namespace Go.Proofs.YthkelaeemefnaaaGreat
open Go.RowKit
theorem zg7 (w:World) (t ty:TypeId) (ht:Tryz.prog.underlying t=some (.slice 3)) (b o c:Nat)
  (hc:∀ j,j<1→(w.cell? ⟨b,o+j,none⟩).isSome=true) (hf:∀ j,j<1→w.frozen? ⟨b,o+j,none⟩=false):
  (Builtin.clear_ #[t] ty #[.slice (some ⟨b,o,none⟩) 1 c]).run Tryz.prog w=.ok (.tuple #[]) (w.setCells b o [.int .i64 0]):=by
 have hz:∀ w,(zeroValue 3).run Tryz.prog w=.ok (.int .i64 0) w:=fun w=>by kernel_rfl
 have hst:=run_storeCells_cells (P:=Tryz.prog) b o [.int .i64 0] 0 w (by simpa using hc) (by simpa using hf) (by simp[Value.oneCell'])
 simp only[Nat.add_zero] at hst
 have hzc:(Builtin.zeroCells (Value.int .i64 0).cells 1).toList=[.int .i64 0]:=by kernel_rfl
 simp[Builtin.clear_,run_underlying ht,hz,hzc,hst]
theorem z91 {w:World}{B p cap n:Nat}{R:List (List Value)}(h:Rs w B 3 1 (.slice (some ⟨p,0,none⟩) n cap) R) (h1:∀ r∈R,∀ u∈r,u.oneCell'=true) (i:Nat) (J:Int) (hi:i<n) (hJ:J=(i:Int)+1):
  Calls Tryz.prog 82 #[.slice (some ⟨p,0,none⟩) n cap,.int .i64 i,.int .i64 J] w fun e w'=>e=.returned (.slice (some ⟨p,0,none⟩) (n-1) cap)∧Rs w' B 3 1 (.slice (some ⟨p,0,none⟩) (n-1) cap) (R.eraseIdx i)∧w.grownBy w' (some p):=by
 obtain⟨hn,hcap,hm,hB,F,hR,hF⟩:=h.row
 have hlen1:=h.len
 obtain⟨j,hj⟩:∃ j:Nat,j=i+1:=⟨_,rfl⟩
 have hJ':J=(j:Int):=by omega
 subst hJ'
 have hjn:j≤n:=by omega
 clear hJ
 obtain⟨i0,hi0,hzz⟩:=Option.map_eq_some_iff.1 z8C
 simp only[Prod.mk.injEq] at hzz
 obtain⟨_,hz1,_⟩:=hzz
 obtain⟨news,hnews⟩:∃ news,news=(R.drop j).flatten:=⟨_,rfl⟩
 have hlen:news.length=(n-j)*1:=by rw[hnews,z14 _ (fun r hr=>hlen1 r (List.mem_of_mem_drop hr)),List.length_drop,hn]
 have hget:∀ t,t<(n-j)*1→news[t]?=some (F (j*1+t)):=by
  intro t ht
  rw[hnews,z5u hlen1 j t (by omega)]
  exact hF _ (by omega)
 obtain⟨A,hA,hsrc⟩:∃ A:Addr,(if cap=j then some (⟨p,0,none⟩:Addr) else some ⟨p,j,none⟩)=some A∧Hid (∀ t u,news[t]?=some u→w.drew.cell? (A.add t)=some u):=by
  by_cases hcj:cap=j
  ·refine⟨⟨p,0,none⟩,by simp[hcj],fun t u hu=>?_⟩
   have h0:news.length=0:=by rw[hlen];omega
   rw[List.length_eq_zero_iff.1 h0] at hu
   simp at hu
  ·refine⟨⟨p,j,none⟩,by simp[hcj],fun t u hu=>?_⟩
   have ht:t<(n-j)*1:=by
    have:=(List.getElem?_eq_some_iff.1 hu).1
    rwa [hlen] at this
   rw[hget t ht,Nat.mul_one] at hu
   rw[z1D]
   exact (hR.cell (by omega)).trans hu
 have s1:Hid (news.length=(n-j)*1):=hlen
 have s2:Hid (∀ u∈news,u.oneCell'=true):=fun u hu=>by
  rw[hnews] at hu
  obtain⟨r,hr,hur⟩:=List.mem_flatten.1 hu
  exact h1 r (List.mem_of_mem_drop hr) u hur
 have s3:Hid (∀ t,t<news.length→(w.drew.cell? ⟨p,0+i*1+t,none⟩).isSome=true∧w.drew.frozen? ⟨p,0+i*1+t,none⟩=false):=by
  intro t ht
  rw[hlen] at ht
  rw[Nat.zero_add]
  exact⟨by show (w.cell? _).isSome=true;rw[hR.cell (by omega)];rfl,hR.frozen _⟩
 obtain⟨W1,hW1⟩:∃ W1,W1=w.drew.setCells p (0+i*1) news:=⟨_,rfl⟩
 have hR1:=Go.rowIs_setCells news (0+i*1) w.drew F hR.drew
 rw[← hW1] at hR1
 have hcl:∀ ty,(Builtin.clear_ #[32] ty #[.slice (some ⟨p,i+(n-j),none⟩) (n-(i+(n-j))) (cap-(i+(n-j)))]).run Tryz.prog W1=.ok (.tuple #[]) (W1.setCells p (i+(n-j)) [.int .i64 0]):=by
  intro ty
  rw[show n-(i+(n-j))=1 by omega]
  exact zg7 W1 _ ty Tryz.underlying32 p _ _ (fun t ht=>by rw[hR1.cell (by omega)];rfl) (fun t _=>hR1.frozen _)
 have hfin:Hid (Rs (W1.setCells p (i+(n-j)) [.int .i64 0]) B 3 1 (.slice (some ⟨p,0,none⟩) (n-1) cap) (R.eraseIdx i)∧w.grownBy (W1.setCells p (i+(n-j)) [.int .i64 0]) (some p)):=by
  constructor
  ·have hR2:=Go.rowIs_setCells [.int .i64 0] (i+(n-j)) W1 _ hR1
   have hel:(R.eraseIdx i).length=n-1:=by rw[List.length_eraseIdx,if_pos (by omega),hn]
   have:=Rs.of_row (B:=B) (R:=R.eraseIdx i) hR2 (by omega) (by omega) hm (fun r hr=>hlen1 r (List.mem_of_mem_eraseIdx hr)) (fun t ht=>by
    rw[hel] at ht
    rw[if_neg (by omega),z4d hlen1 i (by omega) F hF t (by omega),hnews,hj]
    simp only[Nat.zero_add])
   rw[hel] at this
   exact this
  ·have g1:w.grownBy W1 (some p):=by
    have:=z0G w.drew p (0+i*1) news
    rw[← hW1] at this
    exact⟨this.os,this.tape,this.output,this.size,this.block⟩
   have g2:=z0G W1 p (i+(n-j)) [.int .i64 0]
   exact⟨g2.os.trans g1.os,g2.tape.trans g1.tape,g2.output.trans g1.output,Nat.le_trans g1.size g2.size,fun k hk e=>(g2.block k (Nat.lt_of_lt_of_le hk g1.size) e).trans (g1.block k hk e)⟩
 have hW:Hid (W1=w.drew.setCells p (0+i*1) news):=hW1
 have hic:i≤cap:=by omega
 have hjc:j≤cap:=by omega
 have hne:((i:Int) == (j:Int))=false:=by simp;omega
 have hend:Hid (n-1=i+(n-j)):=(by omega:n-1=i+(n-j))
 have hij:i≤j:=by omega
 have hni:¬ n=i:=by omega
 have hnc:¬ cap=i+(n-j):=by omega
 clear hW1 hR1 hR hF hget hnews hlen h hn hj hi h1 hlen1
 go_enter Tryz.func82,Tryz.ntmps82
 go_wp2_with fail
 go_region_law (refine step_append_room rfl (.tmp 22) (.tmp 25) 32 rfl 3 i0 1 Tryz.underlying32 hi0 hz1 p 0 i cap (by simp[Act.eval,Act.put]) A (n-j) (cap-j) news (by simp[Act.eval,Act.put]) s1.out hsrc.out s2.out (by omega) s3.out ?_;rw[← hW.out])
 go_wp2
 go_ret
 refine⟨?_,hfin.out⟩
 rw[hend.out]
 rfl
section
variable {B:Nat}{w0 w w':World}{rh hb:Nat}{X X':Cm}{Z:Cx}{vf vq:Value}{fs qs:List Int}
theorem z76 (H:Rv B w0 w rh hb X Z vf vq fs []):Calls Tryz.prog 44 #[.pointer (some ⟨rh,3,none⟩)] w fun e w'=>e=.returned (.tuple #[.int .i64 0,.bool false])∧w'=w:=by
 obtain⟨⟨_,_,_,c3⟩,hlt,_⟩:=H.cells4
 obtain⟨ao,cap,e⟩:=H.que.form
 rw[e] at c3
 simp only[List.length_nil] at c3
 clear H e
 go_enter Tryz.func44,Tryz.ntmps44
 go_wp2
 go_ret2
 exact⟨rfl,rfl⟩
theorem z5o {x:Int}(H:Rv B w0 w rh hb X Z vf vq fs (x::qs)):Calls Tryz.prog 44 #[.pointer (some ⟨rh,3,none⟩)] w fun e w'=>e=.returned (.tuple #[.int .i64 x,.bool true])∧w'=w:=by
 obtain⟨⟨_,_,_,c3⟩,hlt,_⟩:=H.cells4
 obtain⟨ao,cap,e⟩:=H.que.form
 have hq:=H.que
 rw[e] at c3 hq
 obtain⟨p,rfl,hp,_,_,hc⟩:=hq.cells (by simp)
 have c0:=hc 0 x rfl
 have hn:(0:Int)<((x::qs).length:Int):=by simp only[List.length_cons];omega
 have hn2:((((x::qs).length:Nat):Int) == 0)=false:=by simp only[List.length_cons];simp;omega
 generalize (x::qs).length=n at *
 clear H e hq hc
 go_enter Tryz.func44,Tryz.ntmps44
 go_wp2
 go_ret2
 exact⟨rfl,rfl⟩
theorem Ri.rs {w:World}{B:Nat}{v:Value}{U:List Int}:Ri w B v U↔Rs w B 3 1 v (U.map fun u=>[.int .i64 u]):=by
 have e:(U.map fun u=>[Value.int .i64 u]).flatten=U.map fun u=>.int .i64 u:=by
  induction U with
  | nil=>rfl
  | cons a r ih=>simp only[List.map_cons,List.flatten_cons,ih];rfl
 constructor
 ·intro h
  refine⟨by rw[List.length_map,e];exact h,fun r hr=>?_⟩
  obtain⟨x,_,rfl⟩:=List.mem_map.1 hr
  rfl
 ·intro h
  have:=h.own
  rw[List.length_map,e] at this
  exact this
end
end Go.Proofs.YthkelaeemefnaaaGreat
namespace Go.Proofs.YthkelaeemefnaaaGreat
open Go.RowKit
section
variable {B:Nat}{w0 w w':World}{rh hb:Nat}{X X':Cm}{Z:Cx}{vf vq:Value}{fs qs:List Int}
theorem zcd {x:Int}(H:Rv B w0 w rh hb X Z vf vq fs (x::qs)):Calls Tryz.prog 46 #[.pointer (some ⟨rh,3,none⟩)] w fun e w'=>e=.returned (.tuple #[])∧RvT B w0 w rh hb Z vf vq X fs qs w':=by
 have c3:=H.cells4.1.2.2.2
 have hlt:=H.hlt
 obtain⟨ao,cap,e⟩:=H.que.form
 have hq:=H.que
 rw[e] at c3 hq
 obtain⟨p,hao⟩:∃ p,ao=some ⟨p,0,none⟩:=let ⟨p,h,_⟩:=hq.cells (by simp);⟨p,h⟩
 subst hao
 have HD:Hid (∀ u,Below w.heap.size w u→(u.cell? ⟨rh,3,none⟩=some (.slice (some ⟨p,0,none⟩) (x::qs).length cap)∧rh<u.heap.size∧u.frozen? ⟨rh,3,none⟩=false)∧Calls Tryz.prog 82 #[.slice (some ⟨p,0,none⟩) (x::qs).length cap,.int .i64 0,.int .i64 1] u fun e w2=>e=.returned (.slice (some ⟨p,0,none⟩) ((x::qs).length-1) cap)∧(w2.cell? ⟨rh,3,none⟩=some (.slice (some ⟨p,0,none⟩) (x::qs).length cap)∧rh<w2.heap.size∧w2.frozen? ⟨rh,3,none⟩=false)∧∀ u2,Below w2.heap.size w2 u2→RvT B w0 w rh hb Z vf vq X fs qs (u2.setCell ⟨rh,3,none⟩ (.slice (some ⟨p,0,none⟩) ((x::qs).length-1) cap))):=fun u bu=>by
  have H1:=H.below bu
  have hq1:=H1.que
  rw[e] at hq1
  have c31:=H1.cells4.1.2.2.2
  rw[e] at c31
  refine⟨⟨c31,H1.hlt,H1.cells4.2.2 3⟩,(z91 (Ri.rs.1 hq1) (fun r hr u hu=>?_) 0 1 (by simp) rfl).mono ?_⟩
  ·obtain⟨y,_,rfl⟩:=List.mem_map.1 hr
   rw[List.mem_singleton.1 hu];simp[Value.oneCell']
  ·rintro e2 w2 ⟨rfl,hR2,hg⟩
   have hR3:Ri w2 B (.slice (some ⟨p,0,none⟩) ((x::qs).length-1) cap) qs:=Ri.rs.2 hR2
   have ho:vq.ownBlock=some p:=by rw[e];rfl
   have hne:p≠rh:=fun q=>H1.ne_rh.2 (by rw[ho,q])
   have hh2:=(hg.block rh H1.hlt (fun q=>by simp only[Option.some.injEq] at q;exact hne q.symm)).trans H1.here
   rw[e] at hh2
   refine⟨rfl,⟨by simp[World.cell?,hh2],z02 hh2,frz hh2 3⟩,fun u2 bu2=>?_⟩
   have hB:Bt (fun k=>vq.ownBlock=some k) w u2:=by
    refine⟨bu2.os.trans (hg.os.trans bu.os),bu2.tape.trans (hg.tape.trans bu.tape),bu2.output.trans (hg.output.trans bu.output),Nat.le_trans bu.size (Nat.le_trans hg.size bu2.size),fun k hk hn=>?_⟩
    exact (bu2.block k (Nat.lt_of_lt_of_le hk (Nat.le_trans bu.size hg.size))).trans ((hg.block k (Nat.lt_of_lt_of_le hk bu.size) (fun q=>hn (by rw[ho,← q]))).trans (bu.block k hk))
   exact H.setq hB (hR3.below bu2) (by have:=H.few.2;simp only[List.length_cons] at this;omega) (.inl (by rw[ho];rfl))
 have hn1:(1:Int)≤((x::qs).length:Int):=by simp only[List.length_cons];omega
 clear H hq e
 generalize (x::qs).length=n at *
 have hmin:Hid (¬ (n:Int)<1):=(by omega:¬ (n:Int)<1)
 have bd1:Hid (Below w.heap.size w w.drew):=(Below.refl _ w).drew
 clear hn1
 go_enter Tryz.func46,Tryz.ntmps46
 go_region_with (go_at_call 82;rw[if_neg hmin.out];refine (HD.out _ bd1.out).2.mono ?_;rintro e w2 ⟨rfl,⟨k1,k2,k3⟩,hP⟩;have HP:Hid (∀ u2,Below w2.heap.size w2 u2→RvT B w0 w rh hb Z vf vq X fs qs (u2.setCell ⟨rh,3,none⟩ (.slice (some ⟨p,0,none⟩) (n-1) cap))):=hP;clear HD hP)
 all_goals (go_wp2;go_end0)
 all_goals first
  | exact⟨rfl,HP.out _ (Below.refl _ _)⟩
  | exact⟨rfl,HP.out _ (Below.refl _ _).drew⟩
end
end Go.Proofs.YthkelaeemefnaaaGreat
namespace Go.Proofs.YthkelaeemefnaaaGreat
open Go.RowKit
section
variable {B:Nat}{w0 w w':World}{rh hb:Nat}{X X':Cm}{Z:Cx}{vf vq:Value}{fs qs:List Int}
theorem z5n (H:Rv B w0 w rh hb X Z vf vq fs qs) (hm:X.m≤2000000) (t:Int) (ht:0≤t∧t<X.T) {k:Nat}{cl:Cel}(hk:X.S[k]?=some (some cl)) (h4:cl.kind=4) (hn:1≤cl.n) (r:Int) (hr:r=(k:Int)+1):
  Calls Tryz.prog 22 #[.pointer (some ⟨rh,0,none⟩),.int .i64 t,.int .i64 r] w fun e w'=>e=.returned (.tuple #[.int .i64 (X.F k 0),.int .i64 0])∧∃ c',RvT B w0 w rh hb Z vf vq { X with m:=X.m+1,c:=c' } fs qs w':=by
 subst hr
 have hc:z0a X.S ((k:Int)+1)=some cl:=by rw[z0u,hk];rfl
 have HI:Hid (Calls Tryz.prog 51 #[.pointer (some ⟨rh,0,none⟩),.int .i64 ((k:Int)+1)] w fun e w1=>e=.returned (.bool true)∧(w1.cell? ⟨rh,0,none⟩=some (.pointer (some ⟨hb,0,none⟩))∧rh<w1.heap.size)∧Calls Tryz.prog 50 #[.pointer (some ⟨hb,0,none⟩),.int .i64 t,.int .i64 ((k:Int)+1),.int .i64 0] w1 fun e w2=>e=.returned (.tuple #[.int .i64 (X.F k 0),.int .i64 0])∧∃ c',RvT B w0 w rh hb Z vf vq { X with m:=X.m+1,c:=c' } fs qs w2):=(z3v H hm _ true ⟨fun _=>⟨cl,hc,h4⟩,fun _=>rfl⟩).mono fun e w1 q=>by
  obtain⟨rfl,b1⟩:=q
  have H1:=H.below b1
  refine⟨rfl,⟨H1.cells4.1.1,H1.hlt⟩,(z7o H1.cv hm t ht hk 0 0 rfl hn).mono ?_⟩
  rintro e w2 ⟨rfl,c',_,hT⟩
  exact⟨rfl,c',RvT.after b1 (H1.heapT hT rfl)⟩
 have hI:=HI.out
 have hO:=z1i 0
 have e0:z1H 0=0:=rfl
 rw[e0] at hO
 have hlt:=H.hlt
 generalize X.F k 0=v at *
 generalize hrr:((k:Int)+1)=r at *
 have HP:Hid (∀ w2,(∃ c',RvT B w0 w rh hb Z vf vq { X with m:=X.m+1,c:=c' } fs qs w2)→∃ c',RvT B w0 w rh hb Z vf vq { X with m:=X.m+1,c:=c' } fs qs w2):=fun _ h=>h
 clear HI H hk h4 hn hc hrr e0 hm ht
 go_enter Tryz.func22,Tryz.ntmps22
 go_wp2_with (first
  | (go_at_call 51;refine hI.mono ?_;rintro e w1 ⟨rfl,⟨k1,k2⟩,hL⟩;clear hI)
  | (go_at_call 50;refine hL.mono ?_;rintro e w2 ⟨rfl,hT⟩;have HT:Hid (∃ c',RvT B w0 w rh hb Z vf vq { X with m:=X.m+1,c:=c' } fs qs w2):=hT;clear hL hT)
  | (go_at_call 33;refine (hO _).mono ?_;rintro e w9 ⟨rfl,hw9⟩;replace hw9:=hw9.symm;subst hw9))
 go_ret2
 exact⟨rfl,HT.out⟩
theorem z26 (H:Rv B w0 w rh hb X Z vf vq fs qs) (hm:X.m≤2000000) (t r:Int) (ht:0≤t∧t<X.T) (hr:∀ cl,z0a X.S r=some cl→cl.kind≠4):
  Calls Tryz.prog 48 #[.pointer (some ⟨rh,0,none⟩),.int .i64 t,.int .i64 r] w fun e w'=>e=.returned (.int .i64 0)∧Below w.heap.size w w':=by
 obtain⟨⟨_,c1,_⟩,hlt,_⟩:=H.cells4
 have hI:=z3v H hm r false ⟨fun q=>by simp at q,fun ⟨cl,h1,h2⟩=>absurd h2 (hr cl h1)⟩
 obtain⟨h0,h1⟩:=ht
 have d0:decide (t<0)=false:=by simpa using h0
 have d1:decide (t ≥ (X.T:Int))=false:=by simpa using h1
 clear H hr hm
 generalize X.T=T at *
 go_enter Tryz.func48,Tryz.ntmps48
 go_wp2_with (go_at_call 51;refine hI.mono ?_;rintro e w1 ⟨rfl,b1⟩;clear hI)
 go_ret
 exact⟨rfl,b1⟩
theorem zc4 (H:Rv B w0 w rh hb X Z vf vq fs qs) (hm:X.m≤2000000) (t:Int) (ht:0≤t∧t<X.T) {k:Nat}{cl:Cel}(hk:X.S[k]?=some (some cl)) (h4:cl.kind≠4) (i:Int) (j:Nat) (hi:i=j) (hj:j<cl.n) (r:Int) (hr:r=(k:Int)+1):
  Calls Tryz.prog 21 #[.pointer (some ⟨rh,0,none⟩),.int .i64 t,.int .i64 r,.int .i64 i] w fun e w'=>e=.returned (.tuple #[.int .i64 (X.F k j),.int .i64 0])∧∃ c',RvT B w0 w rh hb Z vf vq { X with m:=X.m+1,c:=c' } fs qs w':=by
 subst hr
 have hc:z0a X.S ((k:Int)+1)=some cl:=by rw[z0u,hk];rfl
 have HI:Hid (Calls Tryz.prog 48 #[.pointer (some ⟨rh,0,none⟩),.int .i64 t,.int .i64 ((k:Int)+1)] w fun e w1=>e=.returned (.int .i64 0)∧(w1.cell? ⟨rh,0,none⟩=some (.pointer (some ⟨hb,0,none⟩))∧rh<w1.heap.size)∧Calls Tryz.prog 50 #[.pointer (some ⟨hb,0,none⟩),.int .i64 t,.int .i64 ((k:Int)+1),.int .i64 i] w1 fun e w2=>e=.returned (.tuple #[.int .i64 (X.F k j),.int .i64 0])∧∃ c',RvT B w0 w rh hb Z vf vq { X with m:=X.m+1,c:=c' } fs qs w2):=(z26 H hm t _ ht (fun c' h=>by rw[hc] at h;cases h;exact h4)).mono fun e w1 q=>by
  obtain⟨rfl,b1⟩:=q
  have H1:=H.below b1
  refine⟨rfl,⟨H1.cells4.1.1,H1.hlt⟩,(z7o H1.cv hm t ht hk i j hi hj).mono ?_⟩
  rintro e w2 ⟨rfl,c',_,hT⟩
  exact⟨rfl,c',RvT.after b1 (H1.heapT hT rfl)⟩
 have hI:=HI.out
 have hO:=z1i 0
 have e0:z1H 0=0:=rfl
 rw[e0] at hO
 have hlt:=H.hlt
 generalize X.F k j=v at *
 generalize hrr:((k:Int)+1)=r at *
 clear HI H hk h4 hc hrr e0 hm ht hi hj
 go_enter Tryz.func21,Tryz.ntmps21
 go_wp2_with (first
  | (go_at_call 48;refine hI.mono ?_;rintro e w1 ⟨rfl,⟨k1,k2⟩,hL⟩;clear hI)
  | (go_at_call 50;refine hL.mono ?_;rintro e w2 ⟨rfl,hT⟩;have HT:Hid (∃ c',RvT B w0 w rh hb Z vf vq { X with m:=X.m+1,c:=c' } fs qs w2):=hT;clear hL hT)
  | (go_at_call 33;refine (hO _).mono ?_;rintro e w9 ⟨rfl,hw9⟩;replace hw9:=hw9.symm;subst hw9))
 go_ret2
 exact⟨rfl,HT.out⟩
def zah (B:Nat) (w0 w:World) (rh hb:Nat) (Z:Cx) (vf vq:Value) (fs qs:List Int) (X:Cm) (k j:Nat) (v i:Int) (w':World):Prop:=∃ c',RvT B w0 w rh hb Z vf vq { X with m:=X.m+2,c:=c',F:=setF X.F k (fun l=>if l=j then v else X.F k l),tr:=X.pw ((k:Int)+1) i } fs qs w'
theorem zeH (H:Rv B w0 w rh hb X Z vf vq fs qs) (hm:X.m≤1999998) (t v:Int) (ht:0≤t∧t<X.T) {k:Nat}{cl:Cel}(hk:X.S[k]?=some (some cl)) (h4:cl.kind≠4) (i:Int) (j:Nat) (hi:i=j) (hj:j<cl.n) (r:Int) (hr:r=(k:Int)+1):
  Calls Tryz.prog 19 #[.pointer (some ⟨rh,0,none⟩),.int .i64 t,.int .i64 r,.int .i64 i,.int .i64 v] w fun e w'=>e=.returned (.int .i64 0)∧∃ c',RvT B w0 w rh hb Z vf vq { X with m:=X.m+2,c:=c',F:=setF X.F k (fun l=>if l=j then v else X.F k l),tr:=X.pw ((k:Int)+1) i } fs qs w':=by
 subst hr
 have hc:z0a X.S ((k:Int)+1)=some cl:=by rw[z0u,hk];rfl
 have HI:Hid (Calls Tryz.prog 48 #[.pointer (some ⟨rh,0,none⟩),.int .i64 t,.int .i64 ((k:Int)+1)] w fun e w1=>e=.returned (.int .i64 0)∧(w1.cell? ⟨rh,0,none⟩=some (.pointer (some ⟨hb,0,none⟩))∧rh<w1.heap.size)∧Calls Tryz.prog 49 #[.pointer (some ⟨hb,0,none⟩),.int .i64 t,.int .i64 ((k:Int)+1),.int .i64 i,.int .i64 v] w1 fun e w2=>e=.returned (.int .i64 0)∧Hid (∃ c',RvT B w0 w rh hb Z vf vq { X with m:=X.m+2,c:=c',F:=setF X.F k (fun l=>if l=j then v else X.F k l),tr:=X.pw ((k:Int)+1) i } fs qs w2)):=(z26 H (by omega) t _ ht (fun c' h=>by rw[hc] at h;cases h;exact h4)).mono fun e w1 q=>by
  obtain⟨rfl,b1⟩:=q
  have H1:=H.below b1
  refine⟨rfl,⟨H1.cells4.1.1,H1.hlt⟩,(zee H1.cv hm t v ht hk i j hi hj).mono ?_⟩
  rintro e w2 ⟨rfl,c',_,hT⟩
  exact⟨rfl,c',RvT.after b1 (H1.heapT hT rfl)⟩
 have hI:=HI.out
 have hO:=z1i 0
 have e0:z1H 0=0:=rfl
 rw[e0] at hO
 have hlt:=H.hlt
 obtain⟨P,hP⟩:∃ P:World→Prop,P=fun w2=>∃ c',RvT B w0 w rh hb Z vf vq { X with m:=X.m+2,c:=c',F:=setF X.F k (fun l=>if l=j then v else X.F k l),tr:=X.pw ((k:Int)+1) i } fs qs w2:=⟨_,rfl⟩
 have HP:Hid (∀ w2,P w2→∃ c',RvT B w0 w rh hb Z vf vq { X with m:=X.m+2,c:=c',F:=setF X.F k (fun l=>if l=j then v else X.F k l),tr:=X.pw ((k:Int)+1) i } fs qs w2):=fun w2 h=>by rw[hP] at h;exact h
 have hI2:Calls Tryz.prog 48 #[.pointer (some ⟨rh,0,none⟩),.int .i64 t,.int .i64 ((k:Int)+1)] w fun e w1=>e=.returned (.int .i64 0)∧(w1.cell? ⟨rh,0,none⟩=some (.pointer (some ⟨hb,0,none⟩))∧rh<w1.heap.size)∧Calls Tryz.prog 49 #[.pointer (some ⟨hb,0,none⟩),.int .i64 t,.int .i64 ((k:Int)+1),.int .i64 i,.int .i64 v] w1 fun e w2=>e=.returned (.int .i64 0)∧P w2:=by rw[hP];exact hI
 clear HI hI H hk h4 hc e0 hm ht hi hj hP
 have HQ:Hid (∀ w2,P w2→zah B w0 w rh hb Z vf vq fs qs X k j v i w2):=HP
 clear HP
 show Calls _ _ _ _ (fun e w'=>e=.returned (.int .i64 0)∧zah B w0 w rh hb Z vf vq fs qs X k j v i w')
 generalize zah B w0 w rh hb Z vf vq fs qs X k j v i=Q at *
 generalize ((k:Int)+1)=r at *
 go_enter Tryz.func19,Tryz.ntmps19
 go_wp2_with (first
  | (go_at_call 48;refine hI2.mono ?_;rintro e w1 ⟨rfl,⟨k1,k2⟩,hL⟩;clear hI2)
  | (go_at_call 49;refine hL.mono ?_;rintro e w2 ⟨rfl,hT⟩;have HT:Hid (Q w2):=HQ.out w2 hT;clear hL hT HQ)
  | (go_at_call 33;refine (hO _).mono ?_;rintro e w9 ⟨rfl,hw9⟩;replace hw9:=hw9.symm;subst hw9))
 go_ret
 exact⟨rfl,HT.out⟩
end
end Go.Proofs.YthkelaeemefnaaaGreat
namespace Go.Proofs.YthkelaeemefnaaaGreat
open Go.RowKit
section
variable {B:Nat}{w0 w w':World}{rh hb:Nat}{X X':Cm}{Z:Cx}{vf vq:Value}{fs qs:List Int}
theorem z4c (H:Rv B w0 w rh hb X Z vf vq fs []):Calls Tryz.prog 17 #[.pointer (some ⟨rh,0,none⟩)] w fun e w'=>e=.returned (.tuple #[.int .i64 0,.bool false])∧w'=w:=by
 have hF:=z76 H
 have hlt:=H.hlt
 clear H
 go_enter Tryz.func17,Tryz.ntmps17
 go_wp2_with (go_at_call 44;refine hF.mono ?_;rintro e w9 ⟨rfl,hw9⟩;replace hw9:=hw9.symm;subst hw9)
 go_ret2
 exact⟨rfl,rfl⟩
theorem z8Q {x:Int}(H:Rv B w0 w rh hb X Z vf vq fs (x::qs)) (h0:0<X.T) (hf:64≤(X.rt 0).length):Calls Tryz.prog 17 #[.pointer (some ⟨rh,0,none⟩)] w fun e w'=>e=.returned (.tuple #[.int .i64 0,.bool false])∧w'=w:=by
 have hF:=z5o H
 have hP:=z49 H.cv 0 x h0 hf
 have c0:=H.cells4.1.1
 have hlt:=H.hlt
 simp only[Int.ofNat_zero] at hP
 clear H h0 hf
 go_enter Tryz.func17,Tryz.ntmps17
 go_wp2_with (first
  | (go_at_call 44;refine hF.mono ?_;rintro e w9 ⟨rfl,hw9⟩;replace hw9:=hw9.symm;subst hw9)
  | (go_at_call 45;refine hP.mono ?_;rintro e w9 ⟨rfl,hw9⟩;replace hw9:=hw9.symm;subst hw9))
 go_ret2
 exact⟨rfl,rfl⟩
def z9q (B:Nat) (w0 w:World) (rh hb:Nat) (Z:Cx) (vf vq:Value) (fs qs:List Int) (X:Cm) (x:Int) (w':World):Prop:=RvT B w0 w rh hb Z vf vq { X with rt:=setL X.rt 0 (X.rt 0++[x]) } fs qs w'
theorem z7P {x:Int}(H:Rv B w0 w rh hb X Z vf vq fs (x::qs)) (h0:0<X.T) (hf:(X.rt 0).length<64):Calls Tryz.prog 17 #[.pointer (some ⟨rh,0,none⟩)] w fun e w'=>e=.returned (.tuple #[.int .i64 x,.bool true])∧RvT B w0 w rh hb Z vf vq { X with rt:=setL X.rt 0 (X.rt 0++[x]) } fs qs w':=by
 have hF:=z5o H
 have HP:Hid (Calls Tryz.prog 45 #[.pointer (some ⟨hb,0,none⟩),.int .i64 0,.int .i64 x] w fun e w1=>e=.returned (.int .i64 0)∧rh<w1.heap.size∧Calls Tryz.prog 46 #[.pointer (some ⟨rh,3,none⟩)] w1 fun e w2=>e=.returned (.tuple #[])∧z9q B w0 w rh hb Z vf vq fs qs X x w2):=(z7F H.cv 0 x h0 hf).mono fun e w1 q=>by
  obtain⟨rfl,hT⟩:=q
  obtain⟨Z1,vf1,vq1,H1,b1,d1⟩:=H.heapT hT rfl
  refine⟨rfl,H1.hlt,(zcd H1).mono ?_⟩
  rintro e w2 ⟨rfl,hT2⟩
  exact⟨rfl,RvT.then b1 d1 hT2⟩
 have c0:=H.cells4.1.1
 have hlt:=H.hlt
 have hP:=HP.out
 show Calls _ _ _ _ (fun e w'=>e=.returned (.tuple #[.int .i64 x,.bool true])∧z9q B w0 w rh hb Z vf vq fs qs X x w')
 clear H h0 hf HP
 go_enter Tryz.func17,Tryz.ntmps17
 go_wp2_with (first
  | (go_at_call 44;refine hF.mono ?_;rintro e w9 ⟨rfl,hw9⟩;replace hw9:=hw9.symm;subst hw9)
  | (go_at_call 45;refine hP.mono ?_;rintro e w1 ⟨rfl,k1,hD⟩;clear hP)
  | (go_at_call 46;refine hD.mono ?_;rintro e w2 ⟨rfl,hT⟩;have HT:Hid (z9q B w0 w rh hb Z vf vq fs qs X x w2):=hT;clear hD hT))
 go_ret2
 exact⟨rfl,HT.out⟩
end
end Go.Proofs.YthkelaeemefnaaaGreat
