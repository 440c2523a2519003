import Derived.Test.YthkelaeemefnaaaGreatMY29
import Derived.Laws.CopyOwn
set_option maxRecDepth 20000
set_option maxHeartbeats 1000000
namespace Go.Proofs.YthkelaeemefnaaaGreat
open Go.RowKit
structure Wk (w:World) (s bc bi N:Nat) (c r:Nat→Int) (fi k:Nat):Prop where
 here:w.heap[s]?=some (.cells #[.slice (some ⟨bc,0,none⟩) N N,.slice (some ⟨bi,0,none⟩) N N,.int .i64 fi,.int .i64 k] 162 (0,0))
 col:w.rowIs bc 3 N (fun i=>.int .i64 (c i))
 itm:w.rowIs bi 3 N (fun i=>.int .i64 (r i))
 ne:bc≠bi
 pos:1≤N
 few:N≤4096
def Mb (s bc bi:Nat):Nat→Prop:=fun k=>k=s∨k=bc∨k=bi
section
variable {w w':World}{s bc bi N:Nat}{c c' r r':Nat→Int}{fi k:Nat}
theorem Wk.s_c (h:Wk w s bc bi N c r fi k):s≠bc:=by
 rintro rfl
 obtain⟨x,hx,_⟩:=h.col
 rw[h.here] at hx;simp at hx
theorem Wk.s_i (h:Wk w s bc bi N c r fi k):s≠bi:=by
 rintro rfl
 obtain⟨x,hx,_⟩:=h.itm
 rw[h.here] at hx;simp at hx
theorem Wk.lt (h:Wk w s bc bi N c r fi k):s<w.heap.size:=(Array.getElem?_eq_some_iff.1 h.here).1
theorem Wk.of_blocks (h:Wk w s bc bi N c r fi k) (e:∀ j,Mb s bc bi j→w'.heap[j]?=w.heap[j]?):Wk w' s bc bi N c r fi k :=
 ⟨(e s (.inl rfl)).trans h.here,h.col.of_block (e bc (.inr (.inl rfl))),h.itm.of_block (e bi (.inr (.inr rfl))),h.ne,h.pos,h.few⟩
theorem Wk.mb_lt (h:Wk w s bc bi N c r fi k):∀ j,Mb s bc bi j→j<w.heap.size:=by
 rintro j (rfl|rfl|rfl)
 ·exact h.lt
 ·exact h.col.lt
 ·exact h.itm.lt
theorem Wk.below (h:Wk w s bc bi N c r fi k) (hb:Below w.heap.size w w'):Wk w' s bc bi N c r fi k:=h.of_blocks fun j hj=>hb.block j (h.mb_lt j hj)
theorem Wk.drewN (h:Wk w s bc bi N c r fi k) (q:Nat):Wk (w.drewN q) s bc bi N c r fi k:=h.of_blocks fun _ _=>rfl
theorem Wk.congr (h:Wk w s bc bi N c r fi k) (e:∀ i,i<N→c i=c' i):Wk w s bc bi N c' r fi k:=⟨h.here,h.col.congr (fun i hi=>by rw[e i hi]),h.itm,h.ne,h.pos,h.few⟩
theorem Wk.c0 (h:Wk w s bc bi N c r fi k):w.cell? ⟨s,0,none⟩=some (.slice (some ⟨bc,0,none⟩) N N):=by simp[World.cell?,h.here]
theorem Wk.c1 (h:Wk w s bc bi N c r fi k):w.cell? ⟨s,1,none⟩=some (.slice (some ⟨bi,0,none⟩) N N):=by simp[World.cell?,h.here]
theorem Wk.c2 (h:Wk w s bc bi N c r fi k):w.cell? ⟨s,2,none⟩=some (.int .i64 fi):=by simp[World.cell?,h.here]
theorem Wk.c3 (h:Wk w s bc bi N c r fi k):w.cell? ⟨s,3,none⟩=some (.int .i64 k):=by simp[World.cell?,h.here]
theorem Wk.frz (h:Wk w s bc bi N c r fi k) (i:Nat):w.frozen? ⟨s,i,none⟩=false:=by simp[World.frozen?,h.here]
theorem mset {u:World}{b k:Nat}{c:Array Value}{ty:TypeId}{v:Value}(h:u.heap[b]?=some (.cells c ty (0,0))):(u.setCell ⟨b,k,none⟩ v).heap[b]?=some (.cells (c.setIfInBounds k v) ty (0,0)):=by
 simp[World.setCell,Array.getElem?_modify,h]
theorem Wk.put2 (h:Wk w s bc bi N c r fi k) (v:Nat):Wk (w.setCell ⟨s,2,none⟩ (.int .i64 v)) s bc bi N c r v k :=
 ⟨by rw[mset h.here];rfl,h.col.of_block (Below.heap_setCell _ _ _ _ (fun q=>h.s_c q.symm)),h.itm.of_block (Below.heap_setCell _ _ _ _ (fun q=>h.s_i q.symm)),h.ne,h.pos,h.few⟩
theorem Wk.put3 (h:Wk w s bc bi N c r fi k) (v:Nat):Wk (w.setCell ⟨s,3,none⟩ (.int .i64 v)) s bc bi N c r fi v :=
 ⟨by rw[mset h.here];rfl,h.col.of_block (Below.heap_setCell _ _ _ _ (fun q=>h.s_c q.symm)),h.itm.of_block (Below.heap_setCell _ _ _ _ (fun q=>h.s_i q.symm)),h.ne,h.pos,h.few⟩
theorem Wk.paint (h:Wk w s bc bi N c r fi k) (i:Nat) (v:Int):Wk (w.setCell ⟨bc,i,none⟩ (.int .i64 v)) s bc bi N (setC c i v) r fi k :=
 ⟨(Below.heap_setCell _ _ _ _ h.s_c).trans h.here,(h.col.set i _).congr (fun j _=>by unfold setC;split<;>rfl),h.itm.of_block (Below.heap_setCell _ _ _ _ h.ne.symm),h.ne,h.pos,h.few⟩
theorem Wk.item (h:Wk w s bc bi N c r fi k) (i:Nat) (v:Int):Wk (w.setCell ⟨bi,i,none⟩ (.int .i64 v)) s bc bi N c (setC r i v) fi k :=
 ⟨(Below.heap_setCell _ _ _ _ h.s_i).trans h.here,h.col.of_block (Below.heap_setCell _ _ _ _ h.ne),(h.itm.set i _).congr (fun j _=>by unfold setC;split<;>rfl),h.ne,h.pos,h.few⟩
theorem zeA (h:Wk w s bc bi N c r fi k) (x:Nat) (hf:fi<N) (hk:k<N):
  Calls Tryz.prog 122 #[.pointer (some ⟨s,1,none⟩),.int .i64 x] w fun e w'=>e=.returned (.tuple #[])∧Wk w' s bc bi N c (setC r ((fi+k)%N) x) fi (k+1)∧Bt (Mb s bc bi) w w':=by
 have hfew:=h.few
 have hpos:=h.pos
 obtain⟨p,hp⟩:∃ p,p=(fi+k)%N:=⟨_,rfl⟩
 have hpN:p<N:=hp ▸ Nat.mod_lt _ (by omega)
 have e1:((fi:Int)+(k:Int)).tmod (N:Int)=(p:Int):=by
  rw[Int.tmod_eq_emod_of_nonneg (by omega),hp];norm_cast
 have e2:((fi:Int)+(k:Int))%(N:Int)=(p:Int):=by
  rw[hp];norm_cast
 have e3:((N:Int) == 0)=false:=by simp;omega
 rw[← hp]
 have HW:Hid (Wk w s bc bi N c r fi k):=h
 clear hp
 have c1:=h.c1
 have c2:=h.c2
 have c3:=h.c3
 have hr:=h.itm.cell hpN
 have hz:=h.itm.frozen p
 clear h
 go_enter Tryz.func122,Tryz.ntmps122
 go_wp2
 go_region
 have h2:Wk (w.setCell ⟨bi,p,none⟩ (.int .i64 (x:Int))).drew s bc bi N c (setC r p x) fi k:=(HW.out.item p x).drewN 1
 have d3:=h2.c3
 have z3:=h2.frz 3
 have HE:Hid (Wk _ s bc bi N c (setC r p x) fi (k+1)):=h2.put3 (k+1)
 have HB:Hid (Bt (Mb s bc bi) w (w.setCell ⟨bi,p,none⟩ (.int .i64 (x:Int))).drew):=((Bt.refl _ w).set bi p _ (.inl (.inr (.inr rfl)))).trans (Bt.of_below (z00 _ 1 _))
 generalize (w.setCell ⟨bi,p,none⟩ (.int .i64 (x:Int))).drew=u at HE HB d3 z3 ⊢
 rw[show (((k+1:Nat):Int))=(k:Int)+1 from by omega] at HE
 clear h2
 go_wp2
 go_end0
 exact⟨rfl,HE.out,HB.out.set s 3 _ (.inl (.inl rfl))⟩
theorem z40 (h:Wk w s bc bi N c r fi 0):
  Calls Tryz.prog 156 #[.pointer (some ⟨s,1,none⟩)] w fun e w'=>e=.returned (.tuple #[.int .i64 0,.bool false])∧w'=w:=by
 have c3:=h.c3
 have e0:(((0:Nat):Int) == 0)=true:=rfl
 clear h
 go_enter Tryz.func156,Tryz.ntmps156
 go_wp2
 go_ret2
 exact⟨rfl,rfl⟩
theorem z7K (h:Wk w s bc bi N c r fi (k+1)) (hf:fi<N) (hk:k<N):
  Calls Tryz.prog 156 #[.pointer (some ⟨s,1,none⟩)] w fun e w'=>e=.returned (.tuple #[.int .i64 (r fi),.bool true])∧Wk w' s bc bi N c r ((fi+1)%N) k∧Bt (Mb s bc bi) w w':=by
 have hfew:=h.few
 have hpos:=h.pos
 obtain⟨p,hp⟩:∃ p,p=(fi+1)%N:=⟨_,rfl⟩
 have hpN:p<N:=hp ▸ Nat.mod_lt _ (by omega)
 have e1:((fi:Int)+1).tmod (N:Int)=(p:Int):=by
  rw[Int.tmod_eq_emod_of_nonneg (by omega),hp];norm_cast
 have e2:((fi:Int)+1)%(N:Int)=(p:Int):=by
  rw[hp];norm_cast
 have e3:((N:Int) == 0)=false:=by simp;omega
 rw[← hp]
 have HW:Hid (Wk w s bc bi N c r fi (k+1)):=h
 obtain⟨K,hK⟩:∃ K:Int,K=((k+1:Nat):Int):=⟨_,rfl⟩
 have e4:(K == 0)=false:=by simp;omega
 have HK:Hid (K=((k+1:Nat):Int)):=hK
 have c1:=h.c1
 have c2:=h.c2
 have c3:=h.c3
 rw[← hK] at c3
 have hr:=h.itm.cell hf
 generalize r fi=x at hr ⊢
 clear h hp hK
 go_enter Tryz.func156,Tryz.ntmps156
 go_wp2
 go_quiet (fail)
 have h2:=HW.out.drewN nq
 generalize hu:w.drewN nq=u at h2 ⊢
 have HB:Hid (Bt (Mb s bc bi) w u):=by rw[← hu];exact Bt.of_below (z00 _ _ _)
 have d1:=h2.c1
 have d2:=h2.c2
 have z2:=h2.frz 2
 have H2:Hid (Wk u s bc bi N c r fi (k+1)):=h2
 clear c1 c2 c3 hr h2 hu
 go_wp2
 go_region
 have h3:Wk (u.setCell ⟨s,2,none⟩ (.int .i64 (p:Int))).drew s bc bi N c r p (k+1):=(H2.out.put2 p).drewN 1
 have f3:=h3.c3
 rw[← HK.out] at f3
 have z3:=h3.frz 3
 have HE:Hid (Wk _ s bc bi N c r p k):=h3.put3 k
 have HB3:Hid (Bt (Mb s bc bi) w (u.setCell ⟨s,2,none⟩ (.int .i64 (p:Int))).drew):=(HB.out.set s 2 _ (.inl (.inl rfl))).trans (Bt.of_below (z00 _ 1 _))
 generalize (u.setCell ⟨s,2,none⟩ (.int .i64 (p:Int))).drew=u2 at HE HB3 f3 z3 ⊢
 rw[show (k:Int)=K-1 from by have:=HK.out;omega] at HE
 clear h3 d1 d2 z2
 have hKb:0<K∧K≤4096:=by have:=HK.out;omega
 go_wp2
 go_ret2
 exact⟨rfl,HE.out,HB3.out.set s 3 _ (.inl (.inl rfl))⟩
end
end Go.Proofs.YthkelaeemefnaaaGreat
namespace Go.Proofs.YthkelaeemefnaaaGreat
open Go.RowKit
theorem zdx:(Tryz.prog.info? 3).map (fun i=>(i.zero,i.size,i.bytes))=some (some (.int .i64 0),1,8):=by kernel_rfl
theorem zeu:(Tryz.prog.info? 3).map (·.size)=some 1:=by kernel_rfl
theorem zg6 (y:Nat) (hy:y≤4096):bits BinOp.and .u64 (y:Int) 4294967295=(y:Int):=by
 have e:(BitVec.ofInt 64 (y:Int) &&& BitVec.ofInt 64 4294967295).toNat=((y:Int)%18446744073709551616).toNat%4294967296:=by
  rw[BitVec.toNat_and,BitVec.toNat_ofInt,show (BitVec.ofInt 64 4294967295).toNat=2 ^ 32-1 from by decide,Nat.and_two_pow_sub_one_eq_mod];rfl
 show IntKind.u64.wrap ((BitVec.ofInt 64 (y:Int) &&& BitVec.ofInt 64 4294967295).toNat:Nat)=(y:Int)
 rw[e,IntKind.wrap_u64];omega
theorem z9V (y:Nat) (hy:y≤4096) (w:World):
  Calls Tryz.prog 154 #[.int .u64 1,.int .u64 y] w fun e w'=>e=.returned (.tuple #[.int .u64 0,.int .u64 y])∧w'=w:=by
 have m1:=zg6 y hy
 have m0:bits BinOp.and .u64 0 4294967295=0:=by kernel_rfl
 have m2:bits BinOp.and .u64 1 4294967295=1:=by kernel_rfl
 have d1:(y:Int)/4294967296=0:=by omega
 go_enter Tryz.func154,Tryz.ntmps154
 go_wp2
 go_ret2
 exact⟨rfl,rfl⟩
theorem mul_one (y:Nat) (hy:y≤4096) (w:World):
  Calls Tryz.prog 136 #[.int .u64 1,.int .u64 y] w fun e w'=>e=.returned (.tuple #[.int .u64 0,.int .u64 y])∧w'=w:=by
 go_enter Tryz.func136,Tryz.ntmps136
 go_wp2_with (go_at_call 154;refine (z9V y hy _).mono ?_;rintro e w1 ⟨rfl,hw1⟩;replace hw1:=hw1.symm;subst hw1)
 go_ret2
 exact⟨rfl,rfl⟩
def ones (n:Nat):Nat→Int:=fun i=>if i<n then 1 else 0
def cpM (ats:Array TypeId) (ty:TypeId) (args:Array Value):Sem Value:=Builtin.copy_ ats ty args
theorem cp_M (ats:Array TypeId) (ty:TypeId) (args:Array Value):Builtin.copy_ ats ty args=cpM ats ty args:=rfl
theorem zfE {w:World}{g N n m:Nat}(a:Addr) (sLen sCap dLen dCap:Nat) (hm:m=Nat.min sLen dLen) (hfit:n+m≤N) (hr:w.rowIs g 3 N (fun i=>.int .i64 (ones n i))) (hs:∀ j,j<m→w.cell? (a.add j)=some (.int .i64 1)):
  ∃ w',(cpM #[32,32] 3 #[.slice (some ⟨g,n,none⟩) dLen dCap,.slice (some a) sLen sCap]).run Tryz.prog w=.ok (.int .i64 m) w'∧w'.rowIs g 3 N (fun i=>.int .i64 (ones (n+m) i))∧Bt (fun k=>k=g) w w':=by
 obtain⟨cur,hg,hn,hc⟩:=hr
 have hrun:=run_copy_row Tryz.prog w 32 32 3 3 g n dLen dCap a sLen sCap cur 3 (List.replicate m (.int .i64 1)) Tryz.underlying32 zeu hg (by simp[hm])
  (fun j v hj=>by
   obtain⟨hj1,hj2⟩:=List.getElem?_eq_some_iff.1 hj
   rw[List.length_replicate] at hj1
   rw[hs j hj1,← hj2];simp) (by simp[hn];omega) (fun v hv=>by rw[List.eq_of_mem_replicate hv];rfl)
 rw[List.length_replicate] at hrun
 refine⟨_,hrun,⟨_,setRow_heap w g _ _ 3 _ hg,by simp;omega,fun i hi=>?_⟩,⟨rfl,rfl,rfl,by simp[World.setRow],fun k hk e=>setRow_other w g k _ e⟩⟩
 rw[List.getElem?_toArray,List.append_assoc]
 by_cases h1:i<n
 ·rw[List.getElem?_append_left (by simp;omega),List.getElem?_take,if_pos h1,Array.getElem?_toList,hc i hi]
  simp[ones,h1,show i<n+m by omega]
 ·rw[List.getElem?_append_right (by simp;omega)]
  have hl:(List.take n cur.toList).length=n:=by simp;omega
  rw[hl]
  by_cases h2:i<n+m
  ·rw[List.getElem?_append_left (by simp;omega),List.getElem?_replicate,if_pos (by omega)]
   simp[ones,h2]
  ·rw[List.getElem?_append_right (by simp;omega),List.length_replicate,List.getElem?_drop,Array.getElem?_toList,show n+m+(i-n-m)=i by omega,hc i hi]
   simp[ones,h1,h2]
attribute [local go_sem ↓] cp_M
theorem z9k (N b:Nat) (h1:1≤N) (h2:N≤4096) {w:World}(hb:w.cell? ⟨b,0,none⟩=some (.int .i64 1)) (hlt:b<w.heap.size):
  Calls Tryz.prog 112 #[.slice (some ⟨b,0,none⟩) 1 1,.int .i64 N] w fun e w'=>∃ g,e=.returned (.slice (some ⟨g,0,none⟩) N N)∧w'.rowIs g 3 N (fun _=>.int .i64 1)∧Below w.heap.size w w'∧w.heap.size≤g:=by
 have hmk:=run_make_row' (P:=Tryz.prog) 32 3 (.int .i64 0) 8 Tryz.underlying32 zdx rfl .i64 .i64 N (by omega) (by omega)
 have HB:Hid (Below w.heap.size w (w.alloc (.cells (madeCells #[.int .i64 0] N) 3))):=(Below.refl w.heap.size w).alloc (Nat.le_refl _) _
 have hr0:(w.alloc (.cells (madeCells #[.int .i64 0] N) 3)).rowIs w.heap.size 3 N (fun i=>.int .i64 (ones 0 i)):=(World.rowIs_made w (.int .i64 0) N 3).congr (fun i _=>by simp[ones])
 have hb0:(w.alloc (.cells (madeCells #[.int .i64 0] N) 3)).cell? ⟨b,0,none⟩=some (.int .i64 1):=(World.cell?_of_block (a:=⟨b,0,none⟩) (Below.heap_alloc _ _ _ hlt)).trans hb
 obtain⟨w1,hc1,hr1,ht1⟩:=zfE (m:=1) ⟨b,0,none⟩ 1 1 N N (by rw[show Nat.min 1 N=min 1 N from rfl];omega) (by omega) hr0 (fun j hj=>by
  obtain rfl:j=0:=(by omega)
  exact hb0)
 have HB1:Hid (Below w.heap.size w w1):=Bt.under HB.out HB.out.size (fun k hk=>Nat.le_of_eq hk.symm) ht1
 have HR1:Hid (w1.rowIs w.heap.size 3 N (fun i=>.int .i64 (ones 1 i))):=hr1
 have d1:decide ((N:Int)<0)=false:=by simp<;>omega
 have d2:decide ((9223372036854775807:Int)<(N:Int))=false:=by simp<;>omega
 clear hr0 hb0 hr1 ht1 hb HB
 go_enter Tryz.func112,Tryz.ntmps112
 go_wp2_with (go_at_call 136;refine (mul_one N h2 _).mono ?_;rintro e w9 ⟨rfl,hw9⟩;replace hw9:=hw9.symm;subst hw9)
 clear hc1 hmk d1 d2
 generalize hgs:w.heap.size=g at HR1 HB1 ⊢
 have HG:Hid (w.heap.size=g):=hgs
 clear hgs
 go_loopg [8] N (fun kx v8 wr=>∃ n:Nat,v8=.int .i64 n∧1≤n∧n≤N∧N-n≤kx∧Hid (wr.rowIs g 3 N (fun i=>.int .i64 (ones n i)))∧Hid (Below g w wr))
 case atStart=>exact⟨1,rfl,by omega,by omega,by omega,HR1,HB1⟩
 case round =>
  clear HB1 HR1
  obtain⟨n,rfl,hn1,hnN,hkx,hr,hb⟩:=hrel
  by_cases hlt:n<N
  ·obtain⟨m,hm⟩:∃ m,m=min n (N-n):=⟨_,rfl⟩
   have hm1:1≤m∧n+m≤N:=by omega
   obtain⟨w2,hc2,hr2,ht2⟩:=zfE (w:=wr.drew) (g:=g) (N:=N) (n:=n) (m:=m) ⟨g,0,none⟩ n N (N-n) (N-n) hm hm1.2 hr.out.drew (fun j hj=>by
    rw[show (⟨g,0,none⟩:Addr).add j=⟨g,j,none⟩ by unfold Addr.add;split<;>simp_all]
    rw[hr.out.drew.cell (show j<N by omega)]
    simp[ones,show j<n by omega])
   have HR2:Hid (w2.rowIs g 3 N (fun i=>.int .i64 (ones (n+m) i))):=hr2
   have HB2:Hid (Below g w w2):=Bt.under hb.out.drew (by have:=hb.out.drew.size;have:=HG.out;omega) (fun k hk=>Nat.le_of_eq hk.symm) ht2
   have hne:¬ N=n:=by omega
   have hlt':(n:Int)<(N:Int):=by omega
   have hn0:(0:Int)≤(n:Int):=by omega
   have hn2:(n:Int)≤(N:Int):=by omega
   clear hr hb ht2 hr2 hm
   go_wp2
   go_region
   go_wp2
   go_roundg (N-(n+m))
   case rel=>exact⟨n+m,by go_num,by omega,by omega,by omega,HR2,HB2⟩
   case measure=>omega
  ·obtain rfl:n=N:=by omega
   have hlt':¬ (n:Int)<(n:Int):=by omega
   go_wp2
   go_ret
   exact⟨_,rfl,hr.out.congr (fun i hi=>by simp[ones,hi]),by rw[HG.out];exact hb.out,Nat.le_of_eq HG.out⟩
theorem zfd:(Tryz.prog.info? 159).map (·.size)=some 3:=by kernel_rfl
theorem z96 (N:Nat) (h1:1≤N) (h2:N≤4096) (w:World):
  Calls Tryz.prog 113 #[.int .i64 N] w fun e w'=>∃ g,e=.returned (.agg #[.slice (some ⟨g,0,none⟩) N N,.int .i64 0,.int .i64 0])∧w'.rowIs g 3 N (fun _=>.int .i64 0)∧Below w.heap.size w w'∧w.heap.size≤g:=by
 have hmk:=run_make_row' (P:=Tryz.prog) 32 3 (.int .i64 0) 8 Tryz.underlying32 zdx rfl .i64 .i64 N (by omega) (by omega)
 go_enter Tryz.func113,Tryz.ntmps113
 go_wp2
 have hr:((w.alloc (.cells #[.slice (some ⟨w.heap.size+1,0,none⟩) N N,.int .i64 0,.int .i64 0] 159)).alloc (.cells (madeCells #[.int .i64 0] N) 3)).rowIs (w.heap.size+1) 3 N (fun _=>.int .i64 0):=by
  have:=World.rowIs_made (w.alloc (.cells #[.slice (some ⟨w.heap.size+1,0,none⟩) N N,.int .i64 0,.int .i64 0] 159)) (.int .i64 0) N 3
  rwa [World.size_alloc] at this
 exact bodyPost_ret (results_cell_row rfl _ _ w.heap.size 159 _ (0,0) _ rfl ((Below.heap_alloc _ _ _ (by simp)).trans (heap_alloc_new w _)) Tryz.underlying159 rfl zfd) rfl ⟨_,rfl,hr,((Below.refl _ _).alloc (Nat.le_refl _) _).alloc (by simp) _,by omega⟩
def Mk (w:World) (s bc bi N:Nat) (c:Nat→Int) (q:List Nat):Prop:=∃ r fi,Wk w s bc bi N c r fi q.length∧MInv N c q r fi
section
variable {w w':World}{s bc bi N:Nat}{c c':Nat→Int}{q:List Nat}
theorem Mk.of_blocks (h:Mk w s bc bi N c q) (e:∀ j,Mb s bc bi j→w'.heap[j]?=w.heap[j]?):Mk w' s bc bi N c q:=let ⟨r,fi,h1,h2⟩:=h;⟨r,fi,h1.of_blocks e,h2⟩
theorem Mk.below (h:Mk w s bc bi N c q) (hb:Below w.heap.size w w'):Mk w' s bc bi N c q:=let ⟨r,fi,h1,h2⟩:=h;⟨r,fi,h1.below hb,h2⟩
theorem Mk.drewN (h:Mk w s bc bi N c q) (n:Nat):Mk (w.drewN n) s bc bi N c q:=h.of_blocks fun _ _=>rfl
theorem Mk.mb_lt (h:Mk w s bc bi N c q):∀ j,Mb s bc bi j→j<w.heap.size:=let ⟨_,_,h1,_⟩:=h;h1.mb_lt
theorem Mk.congr (h:Mk w s bc bi N c q) (e:∀ i,i<N→c i=c' i):Mk w s bc bi N c' q:=let ⟨r,fi,h1,h2⟩:=h;⟨r,fi,h1.congr e,h2.congr e (fun _ _=>rfl)⟩
theorem Mk.few (h:Mk w s bc bi N c q):1≤N∧N≤4096:=let ⟨_,_,h1,_⟩:=h;⟨h1.pos,h1.few⟩
theorem Mk.col (h:Mk w s bc bi N c q):w.rowIs bc 3 N (fun i=>.int .i64 (c i)):=let ⟨_,_,h1,_⟩:=h;h1.col
theorem Mk.c0 (h:Mk w s bc bi N c q):w.cell? ⟨s,0,none⟩=some (.slice (some ⟨bc,0,none⟩) N N):=let ⟨_,_,h1,_⟩:=h;h1.c0
theorem Mk.len (h:Mk w s bc bi N c q):q.length≤N:=let ⟨_,_,_,h2⟩:=h;h2.few
theorem Mk.grey (h:Mk w s bc bi N c q) {i:Nat}(hi:i<N):c i=2↔i∈q:=let ⟨_,_,_,h2⟩:=h;h2.grey i hi
theorem Mk.val (h:Mk w s bc bi N c q) {i:Nat}(hi:i<N):c i=1∨c i=2∨c i=3:=let ⟨_,_,_,h2⟩:=h;h2.val i hi
theorem Mk.lt (h:Mk w s bc bi N c q) {x:Nat}(hx:x∈q):x<N:=let ⟨_,_,_,h2⟩:=h;h2.lt x hx
theorem Mk.nodup (h:Mk w s bc bi N c q):q.Nodup:=let ⟨_,_,_,h2⟩:=h;h2.nodup
end
theorem zeC (N:Nat) (w:World) (h1:1≤N) (h2:N≤4096):
  Calls Tryz.prog 92 #[.int .i64 N] w fun e w'=>∃ s bc bi,e=.returned (.tuple #[.pointer (some ⟨s,0,none⟩),.int .i64 0])∧Mk w' s bc bi N (fun _=>1) []∧Below w.heap.size w w'∧∀ k,Mb s bc bi k→w.heap.size≤k:=by
 have d1:decide ((N:Int)<1)=false:=by simp;omega
 have d2:decide ((4096:Int)<(N:Int))=false:=by simp;omega
 have hl:w.heap.size<(w.alloc (.cells #[.int .i64 1] 3)).heap.size:=by simp
 have hc:(w.alloc (.cells #[.int .i64 1] 3)).cell? ⟨w.heap.size,0,none⟩=some (.int .i64 1):=by simp only[World.cell?,heap_alloc_new];rfl
 have hrep:=z9k N w.heap.size h1 h2 hc hl
 have hb0:Hid (Below w.heap.size w (w.alloc (.cells #[.int .i64 1] 3))):=(Below.refl w.heap.size w).alloc (Nat.le_refl _) _
 have HN:Hid (1≤N∧N≤4096):=⟨h1,h2⟩
 clear hc hl
 go_enter Tryz.func92,Tryz.ntmps92
 go_wp2_with (first
  | (go_at_call 112;refine hrep.mono ?_;rintro e w1 ⟨bc,rfl,hr1,hb1,hl1⟩)
  | (go_at_call 113;refine (z96 N HN.out.1 HN.out.2 _).mono ?_;rintro e w2 ⟨bi,rfl,hr2,hb2,hl2⟩))
 go_ret2
 have hb01:=hb0.out.trans (hb1.mono (by simp))
 have hb02:=hb01.trans (hb2.mono hb01.size)
 have hb3:=hb02.alloc hb02.size (.cells #[.slice (some ⟨bc,0,none⟩) N N,.slice (some ⟨bi,0,none⟩) N N,.int .i64 0,.int .i64 0] 162)
 have lc:=hr1.lt
 rw[World.size_alloc] at hl1
 have hr1':=hr1.of_block (hb2.block bc lc)
 refine⟨_,bc,bi,rfl,⟨fun _=>0,0,⟨heap_alloc_new w2 _,hr1'.alloc _,hr2.alloc _,by omega,HN.out.1,HN.out.2⟩,MInv.start HN.out.1 _⟩,hb3,?_⟩
 rintro k (rfl|rfl|rfl)
 ·exact hb02.size
 ·omega
 ·have:=hb01.size;omega
end Go.Proofs.YthkelaeemefnaaaGreat
namespace Go.Proofs.YthkelaeemefnaaaGreat
open Go.RowKit
section
variable {w w':World}{s bc bi N:Nat}{c:Nat→Int}{q t:List Nat}
theorem z2N (h:Mk w s bc bi N c q) (x:Nat) (hx:x<N):
  Calls Tryz.prog 121 #[.pointer (some ⟨s,0,none⟩),.int .i64 x] w fun e w'=>e=.returned (.tuple #[.int .i64 (c x),.int .i64 0])∧w'=w:=by
 have c0:=h.c0
 have hr:=h.col.cell hx
 have d1:decide ((x:Int)<0)=false:=by simp<;>omega
 have d2:decide ((N:Int)≤(x:Int))=false:=by simp;omega
 have d3:(x:Int)<(N:Int):=by omega
 generalize c x=v at hr ⊢
 clear h
 go_enter Tryz.func121,Tryz.ntmps121
 go_wp2
 go_ret2
 exact⟨rfl,rfl⟩
theorem zaH (h:Mk w s bc bi N c q) (x:Nat) (hx:x<N) (hn:c x≠1):
  Calls Tryz.prog 98 #[.pointer (some ⟨s,0,none⟩),.int .i64 x] w fun e w'=>e=.returned (.tuple #[.bool false,.int .i64 0])∧w'=w:=by
 have hc:=z2N h x hx
 have d1:(c x != 1)=true:=by simp[hn]
 generalize c x=v at hc d1
 clear h hx hn
 go_enter Tryz.func98,Tryz.ntmps98
 go_wp2_with (go_at_call 121;refine hc.mono ?_;rintro e w1 ⟨rfl,hw1⟩;replace hw1:=hw1.symm;subst hw1)
 go_ret2
 exact⟨rfl,rfl⟩
theorem zcq (h:Mk w s bc bi N c q) (x:Nat) (hx:x<N) (hn:c x=1):
  Calls Tryz.prog 98 #[.pointer (some ⟨s,0,none⟩),.int .i64 x] w fun e w'=>e=.returned (.tuple #[.bool true,.int .i64 0])∧Mk w' s bc bi N (setC c x 2) (q++[x])∧Bt (Mb s bc bi) w w':=by
 have hc:=z2N h x hx
 rw[hn] at hc
 obtain⟨r,fi,hW,hI⟩:=h
 have hI2:=hI.add hx hn
 have hroom:=hI.room hx hn
 have c0:=hW.c0
 have hr:=hW.col.cell hx
 have hz:=hW.col.frozen x
 have d3:(x:Int)<(N:Int):=by omega
 have hW2:=hW.paint x 2
 have hadd:=zeA hW2 x hI.fi_lt hroom
 have HI:Hid (MInv N (setC c x 2) (q++[x]) (setC r ((fi+q.length)%N) (x:Int)) fi):=hI2
 have HB:Hid (Bt (Mb s bc bi) w (w.setCell ⟨bc,x,none⟩ (.int .i64 2))):=(Bt.refl _ w).set bc x _ (.inl (.inr (.inl rfl)))
 clear hI hI2 hW hW2 hn hroom
 go_enter Tryz.func98,Tryz.ntmps98
 go_wp2_with (first|(go_at_call 121;refine hc.mono ?_;rintro e w1 ⟨rfl,hw1⟩;replace hw1:=hw1.symm;subst hw1)|(go_at_call 122;refine hadd.mono ?_;rintro e w2 ⟨rfl,hW3,hB3⟩))
 go_ret2
 exact⟨rfl,⟨_,_,by simpa using hW3,HI.out⟩,HB.out.trans hB3⟩
theorem z8Y (h:Mk w s bc bi N c []):
  Calls Tryz.prog 146 #[.pointer (some ⟨s,0,none⟩)] w fun e w'=>e=.returned (.tuple #[.int .i64 0,.bool false])∧w'=w:=by
 obtain⟨r,fi,hW,_⟩:=h
 have ht:=z40 hW
 clear hW
 go_enter Tryz.func146,Tryz.ntmps146
 go_wp2_with (go_at_call 156;refine ht.mono ?_;rintro e w1 ⟨rfl,hw1⟩;replace hw1:=hw1.symm;subst hw1)
 go_ret2
 exact⟨rfl,rfl⟩
theorem zc5 {x:Nat}(h:Mk w s bc bi N c (x::t)):
  Calls Tryz.prog 146 #[.pointer (some ⟨s,0,none⟩)] w fun e w'=>e=.returned (.tuple #[.int .i64 x,.bool true])∧Mk w' s bc bi N (setC c x 3) t∧Bt (Mb s bc bi) w w':=by
 obtain⟨r,fi,hW,hI⟩:=h
 have hh:=hI.head
 have ht:=z7K hW hI.fi_lt (by have:=hI.few;simp at this;omega)
 rw[hh.1] at ht
 have HI:Hid (MInv N (setC c x 3) t r ((fi+1)%N)):=hI.take 3 (.inr rfl)
 have hxN:=hh.2
 have d3:(x:Int)<(N:Int):=by omega
 clear hI hW hh
 go_enter Tryz.func146,Tryz.ntmps146
 go_wp2_with (go_at_call 156;refine ht.mono ?_;rintro e w1 ⟨rfl,hW1,hB1⟩;have c0:=hW1.c0;have hr:=hW1.col.cell hxN;have hz:=hW1.col.frozen x)
 go_ret2
 exact⟨rfl,⟨_,_,hW1.paint x 3,HI.out⟩,hB1.set bc x _ (.inl (.inr (.inl rfl)))⟩
end
end Go.Proofs.YthkelaeemefnaaaGreat
