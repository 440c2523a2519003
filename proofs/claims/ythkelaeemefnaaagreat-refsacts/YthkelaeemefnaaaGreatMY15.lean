import Derived.Test.YthkelaeemefnaaaGreatMH1qz
import Derived.Test.YthkelaeemefnaaaGreatMHMathqz
set_option maxRecDepth 20000
set_option maxHeartbeats 1000000
namespace Go.Proofs.YthkelaeemefnaaaGreat
open Go.RowKit
def kty (c:Cel):TypeId:=if c.ob=true then 150 else 153
def kvl (so s:Nat) (c:Cel):Value:=if c.ob=true then .pointer (some ⟨so,0,none⟩) else .agg #[.pointer (some ⟨s,0,none⟩)]
def rowN (so s:Nat) (x:Nat×Cel):List Value:=[.int .i64 ((x.1:Int)+1),.int .i64 x.2.kind,.int .i64 x.2.cls,.int .i64 x.2.n,.iface (kty x.2) (kvl so s x.2),.int .i64 x.2.at_]
def z0y (so s:Nat) (S:List (Option Cel)):List (List Value):=(pres 0 S).map (rowN so s)
def nums:Nat→List (Option Cel)→List Int
 | _,[]=>[]
 | k,none::r=>nums (k+1) r
 | k,some _::r=>((k:Int)+1)::nums (k+1) r
theorem z1o:∀ (k:Nat) (S:List (Option Cel)),(nums k S).length=cntS S
 | _,[]=>rfl
 | k,none::r=>z1o (k+1) r
 | k,some _::r=>by simp only[nums,cntS,List.length_cons,z1o (k+1) r];omega
theorem z15:∀ (k:Nat) (S:List (Option Cel)) (u:Int),u∈nums k S→∃ (i:Nat) (c:Cel),u=(k:Int)+i+1∧S[i]?=some (some c)
 | _,[],u,h=>by simp[nums] at h
 | k,none::r,u,h=>by
  obtain⟨i,c,h1,h2⟩:=z15 (k+1) r u h
  exact⟨i+1,c,by omega,by simpa using h2⟩
 | k,some d::r,u,h=>by
  rcases List.mem_cons.1 h with q|q
  ·exact⟨0,d,by omega,rfl⟩
  ·obtain⟨i,c,h1,h2⟩:=z15 (k+1) r u q
   exact⟨i+1,c,by omega,by simpa using h2⟩
theorem z0r:∀ (k:Nat) (S:List (Option Cel)),(nums k S).Pairwise (·<·)
 | _,[]=>List.Pairwise.nil
 | k,none::r=>z0r (k+1) r
 | k,some _::r=>List.pairwise_cons.2 ⟨fun u hu=>by
   obtain⟨i,c,h1,_⟩:=z15 (k+1) r u hu
   omega,z0r (k+1) r⟩
theorem z8C:(Tryz.prog.info? 3).map (fun i=>(i.zero,i.size,i.bytes))=some (some (.int .i64 0),1,8):=by kernel_rfl
theorem Ri.more {w:World}{B:Nat}{v:Value}{U:List Int}(h:Ri w B v U) (x:Int) (hB:B≤w.heap.size) (hn:U.length≤100000) {W:World}{a:Nat}(hW:W.heap[a]?=some (.cells #[.int .i64 x] 3 (0,0))) (hbW:Below w.heap.size w W):
  ∃ ao cap w',(appC #[32,32] 32 #[v,.slice (some ⟨a,0,none⟩) 1 1]).run Tryz.prog W=.ok (.slice ao (U.length+1) cap) w'∧Ri w' B (.slice ao (U.length+1) cap) (U++[x])∧w.grownBy w' v.ownBlock∧((Value.slice ao (U.length+1) cap).ownBlock=v.ownBlock∨∃ j,(Value.slice ao (U.length+1) cap).ownBlock=some j∧w.heap.size≤j):=by
 obtain⟨i0,hi0,hzz⟩:=Option.map_eq_some_iff.1 z8C
 simp only[Prod.mk.injEq] at hzz
 obtain⟨hz0,hz1,hz2⟩:=hzz
 exact h.app (P:=Tryz.prog) (t:=32) (ty:=32) Tryz.underlying32 hi0 hz0 hz1 hz2 rfl x hB (by unfold maxLen;omega) (by omega) hW hbW
theorem z0N:∀ (k:Nat) (S:List (Option Cel)),nums k S=(pres k S).map (fun x=>(x.1:Int)+1)
 | _,[]=>rfl
 | k,none::r=>z0N (k+1) r
 | k,some _::r=>by simp only[nums,pres,List.map_cons,z0N (k+1) r]
theorem z3A (so s:Nat) (S:List (Option Cel)):(z0y so s S).length=(nums 0 S).length:=by unfold z0y;rw[z0N,List.length_map,List.length_map]
theorem z2w (S:List (Option Cel)):(nums 0 S).length≤S.length:=by rw[z1o];exact zea S
theorem z2B (so s:Nat) (S:List (Option Cel)):KeyC (z0y so s S) (nums 0 S):=by
 refine⟨z3A so s S,fun i r hr=>?_⟩
 unfold z0y at hr
 rw[List.getElem?_map] at hr
 obtain⟨x,hx,rfl⟩:=Option.map_eq_some_iff.1 hr
 exact⟨_,_,_,_,_,_,_,by rw[z0N,List.getElem?_map,hx];rfl,rfl⟩
theorem zaG (so s:Nat) (S:List (Option Cel)):∀ r∈z0y so s S,∀ u∈r,u.oneCell'=true:=fun r hr u hu=>by
 obtain⟨x,_,rfl⟩:=List.mem_map.1 hr
 simp only[rowN,List.mem_cons,List.not_mem_nil,or_false] at hu
 rcases hu with rfl|rfl|rfl|rfl|rfl|rfl<;>rfl
theorem z4Q (so s:Nat) {S:List (Option Cel)}{i:Nat}{c:Cel}(hi:S[i]?=some (some c)):∃ j:Nat,(z0y so s S)[j]?=some (rowN so s (i,c))∧(nums 0 S)[j]?=some ((i:Int)+1)∧z0y so s (S.set i none)=(z0y so s S).eraseIdx j:=by
 obtain⟨j,h1,h2⟩:=z2u 0 S i c hi
 rw[Nat.zero_add] at h1
 refine⟨j,by unfold z0y;rw[List.getElem?_map,h1];rfl,by rw[z0N,List.getElem?_map,h1];rfl,?_⟩
 unfold z0y
 rw[h2,List.eraseIdx_eq_take_drop_succ,List.eraseIdx_eq_take_drop_succ,List.map_append,List.map_take,List.map_drop]
theorem zbQ (S:List (Option Cel)) (t:Int) (hn:∀ (i:Nat) (cl:Cel),t=(i:Int)+1→S[i]?≠some (some cl)):hasK (nums 0 S) t=false:=by
 cases h:hasK (nums 0 S) t with
 | false=>rfl
 | true =>
  obtain⟨i,c,h1,h2⟩:=z15 0 S t ((z12 _ _).1 h)
  exact absurd h2 (hn i c (by omega))
attribute [local go_sem ↓] z1I
theorem z8P {w:World}{h so s:Nat}{vc:Value}{S:List (Option Cel)}(c3:w.cell? ⟨h,3,none⟩=some vc) (hR:Rs w 0 170 6 vc (z0y so s S)) (hL:S.length≤100000):
  Calls Tryz.prog 106 #[.pointer (some ⟨h,3,none⟩)] w fun e w'=>∃ v,e=.returned v∧Ri w' w.heap.size v (nums 0 S)∧Below w.heap.size w w':=by
 have hh:h<w.heap.size:=z1E c3
 obtain⟨ao,cap,rfl⟩:=hR.form
 have hlen:=z3A so s S
 have hfew:=z2w S
 have HC:Hid (∀ i,i<(nums 0 S).length→∃ (p:Nat) (x a b c u:Int) (ty:TypeId) (d:Value),ao=some ⟨p,0,none⟩∧(nums 0 S)[i]?=some x∧p<w.heap.size∧w.rangeAt p (i*6) [.int .i64 x,.int .i64 a,.int .i64 b,.int .i64 c,.iface ty d,.int .i64 u]):=fun i hi=>by
  obtain⟨p,e,hp,_,_,hc⟩:=hR.cells (by rw[hlen];omega)
  have hri:(z0y so s S)[i]?=some (z0y so s S)[i]:=List.getElem?_eq_getElem (by rw[hlen];exact hi)
  obtain⟨x,a,b,c,u,ty,d,h1,h2⟩:=(z2B so s S).2 i _ hri
  exact⟨p,x,a,b,c,u,ty,d,e,h1,hp.2,by rw[← h2];exact hc i _ hri⟩
 rw[hlen] at c3
 clear hR hlen
 generalize hU0:nums 0 S=U at *
 generalize hM:U.length=M at *
 have HM:Hid (U.length=M):=hM
 clear hM hU0
 go_enter Tryz.func106,Tryz.ntmps106
 go_wp2
 go_loopg [3,11] (M+1) (fun kx s3 s11 wr=>∃ (j:Nat) (sa:Option Addr) (sc:Nat),s3=.slice sa j sc∧s11=.int .i64 j∧j≤M∧M-j≤kx∧Ri wr w.heap.size (.slice sa j sc) (U.take j)∧Below w.heap.size w wr)
 case atStart=>exact⟨0,none,0,rfl,rfl,by omega,by omega,Ri.nil _ _,Below.refl _ _⟩
 case round =>
  obtain⟨j,sa,sc,rfl,rfl,hj,hk,hU,hb⟩:=hrel
  by_cases hlt:j<M
  ·have hl:(j:Int)<(M:Int):=by omega
   obtain⟨p,x,a,b,c,u,ty,d,rfl,hx,hp,hr⟩:=HC.out j hlt
   have hp2:p<wr.heap.size:=Nat.lt_of_lt_of_le hp hb.size
   have hr2:wr.rangeAt p (j*6) [.int .i64 x,.int .i64 a,.int .i64 b,.int .i64 c,.iface ty d,.int .i64 u]:=fun i v hv=>(z0q (hb.block p hp)).trans (hr i v hv)
   have hj2:j<100000:=by omega
   have cc:=z2l hr2
   have e:U.take (j+1)=U.take j++[x]:=by rw[List.take_add_one,hx];rfl
   have ej:(U.take j).length=j:=by rw[List.length_take,HM.out];omega
   obtain⟨A,hA⟩:∃ A:Obj,A=.cells #[.int .i64 x,.int .i64 a,.int .i64 b,.int .i64 c,.iface ty d,.int .i64 u] 170:=⟨_,rfl⟩
   have hU1:Ri (wr.alloc A) w.heap.size (.slice sa j sc) (U.take j):=hU.below ((Below.refl _ _).alloc (Nat.le_refl _) _)
   have hz:=heap_alloc_new (wr.alloc A) (.cells #[.int .i64 x] 3)
   obtain⟨ao',sc',w3,hrun,hU3,hg,hat⟩:=hU1.more x (by have:=hb.size;rw[Go.Deep.nblk_alloc];omega) (by rw[ej];omega) hz ((Below.refl _ _).alloc (Nat.le_refl _) _)
   rw[Go.Deep.nblk_alloc,hA,ej] at hrun
   rw[ej] at hU3
   have HU:Hid (U.take (j+1)=U.take j++[x]∧Ri w3 w.heap.size (.slice ao' (j+1) sc') (U.take j++[x])∧Below w.heap.size w w3):=by
    refine⟨e,hU3,hb.trans ⟨hg.os,hg.tape,hg.output,Nat.le_trans (by rw[Go.Deep.nblk_alloc];omega) hg.size,fun k hk=>?_⟩⟩
    have hs:=hb.size
    refine (hg.block k (by rw[Go.Deep.nblk_alloc];omega) (fun q=>?_)).trans (Below.heap_alloc _ _ _ (by omega))
    have:=(hU1.lt q.symm).1
    omega
   clear e hU hU1 hU3 hg hat hz hr hr2 hx hb hA ej
   go_wp2
   go_roundg (M-(j+1))
   case measure=>omega
   case rel =>
    obtain⟨u1,u2,u3⟩:=HU.out
    exact⟨j+1,ao',sc',rfl,by go_num,by omega,by omega,by rw[u1];exact u2,u3⟩
  ·obtain rfl:j=M:=by omega
   have hl:¬ (j:Int)<(j:Int):=by omega
   have et:U.take j=U:=by rw[← HM.out,List.take_length]
   go_wp2
   go_ret
   exact⟨_,rfl,by rw[← et];exact hU,hb⟩
end Go.Proofs.YthkelaeemefnaaaGreat
namespace Go.Proofs.YthkelaeemefnaaaGreat
def setC (f:Nat→Int) (i:Nat) (v:Int):Nat→Int:=fun j=>if j=i then v else f j
theorem z1X (f:Nat→Int) (i:Nat) (v:Int):setC f i v i=v:=by simp[setC]
theorem z17 {f:Nat→Int}{i j:Nat}{v:Int}(h:j≠i):setC f i v j=f j:=by simp[setC,h]
theorem mod2 {a N:Nat}(h:a<2*N):a%N=if a<N then a else a-N:=by
 split
 ·rename_i e;exact Nat.mod_eq_of_lt e
 ·rename_i e
  rw[Nat.mod_eq_sub_mod (by omega)]
  exact Nat.mod_eq_of_lt (by omega)
theorem zf3 {N fi j k:Nat}(hf:fi<N) (hj:j<k) (hk:k<N):(fi+j)%N≠(fi+k)%N:=by
 rw[mod2 (by omega),mod2 (by omega)]
 split<;>split<;>omega
structure MInv (N:Nat) (c:Nat→Int) (q:List Nat) (r:Nat→Int) (fi:Nat):Prop where
 fi_lt:fi<N
 ring:∀ j x:Nat,q[j]?=some x→r ((fi+j)%N)=(x:Int)
 lt:∀ x,x∈q→x<N
 nodup:q.Nodup
 grey:∀ i,i<N→(c i=2↔i∈q)
 val:∀ i,i<N→c i=1∨c i=2∨c i=3
section
variable {N:Nat}{c c' r r':Nat→Int}{q t:List Nat}{fi x:Nat}
theorem zdd {N:Nat}{q:List Nat}(hn:q.Nodup) (hl:∀ x,x∈q→x<N):q.length≤N:=by
 have h:=hn.length_le_of_subset (l₂:=List.range N) (fun x hx=>List.mem_range.2 (hl x hx))
 simpa using h
theorem MInv.few (h:MInv N c q r fi):q.length≤N:=zdd h.nodup h.lt
theorem MInv.out_of (h:MInv N c q r fi) (hx:x<N) (hc:c x≠2):x ∉ q:=fun m=>hc ((h.grey x hx).2 m)
theorem MInv.room (h:MInv N c q r fi) (hx:x<N) (hc:c x=1):q.length<N:=by
 have h1:(x::q).Nodup:=List.nodup_cons.2 ⟨h.out_of hx (by omega),h.nodup⟩
 have h2:=zdd h1 (N:=N) (fun y hy=>by rcases List.mem_cons.1 hy with rfl|hy;exact hx;exact h.lt y hy)
 rw[List.length_cons] at h2
 omega
theorem MInv.start (hN:1≤N) (r:Nat→Int):MInv N (fun _=>1) [] r 0 :=
 ⟨by omega,fun j x h=>by simp at h,fun x h=>by simp at h,List.nodup_nil,fun i _=>by simp,fun i _=>.inl rfl⟩
theorem MInv.congr (h:MInv N c q r fi) (e:∀ i,i<N→c i=c' i) (er:∀ i,i<N→r i=r' i):MInv N c' q r' fi :=
 ⟨h.fi_lt,fun j x hj=>by rw[← er _ (Nat.mod_lt _ (by have:=h.fi_lt;omega))];exact h.ring j x hj,h.lt,h.nodup,fun i hi=>by rw[← e i hi];exact h.grey i hi,fun i hi=>by rw[← e i hi];exact h.val i hi⟩
theorem MInv.add (h:MInv N c q r fi) (hx:x<N) (hc:c x=1):MInv N (setC c x 2) (q++[x]) (setC r ((fi+q.length)%N) (x:Int)) fi:=by
 have hr:=h.room hx hc
 have ho:=h.out_of hx (by omega)
 refine⟨h.fi_lt,fun j y hj=>?_,fun y hy=>?_,?_,fun i hi=>?_,fun i hi=>?_⟩
 ·by_cases hjq:j<q.length
  ·rw[List.getElem?_append_left hjq] at hj
   rw[z17 (zf3 h.fi_lt hjq hr)]
   exact h.ring j y hj
  ·rw[List.getElem?_append_right (by omega)] at hj
   obtain rfl:j=q.length:=by
    have:=(List.getElem?_eq_some_iff.1 hj).1
    simp at this;omega
   simp at hj
   rw[z1X,hj]
 ·rcases List.mem_append.1 hy with hy|hy
  ·exact h.lt y hy
  ·rw[List.mem_singleton.1 hy];exact hx
 ·rw[List.nodup_append]
  refine⟨h.nodup,by simp,fun a ha b hb e=>ho ?_⟩
  rw[← List.mem_singleton.1 hb,← e];exact ha
 ·by_cases e:i=x
  ·subst e;simp[z1X]
  ·rw[z17 e,h.grey i hi];simp[e]
 ·by_cases e:i=x
  ·subst e;simp[z1X]
  ·rw[z17 e];exact h.val i hi
theorem MInv.take (h:MInv N c (x::t) r fi) (v:Int) (hv:v=1∨v=3):MInv N (setC c x v) t r ((fi+1)%N):=by
 have hN:=h.fi_lt
 obtain⟨hx,ht⟩:=List.nodup_cons.1 h.nodup
 refine⟨Nat.mod_lt _ (by omega),fun j y hj=>?_,fun y hy=>h.lt y (List.mem_cons_of_mem _ hy),ht,fun i hi=>?_,fun i hi=>?_⟩
 ·rw[Nat.mod_add_mod,Nat.add_assoc,Nat.add_comm 1 j]
  exact h.ring (j+1) y (by simpa using hj)
 ·by_cases e:i=x
  ·subst e;rw[z1X];exact⟨fun k=>by omega,fun k=>absurd k hx⟩
  ·rw[z17 e,h.grey i hi];simp[e]
 ·by_cases e:i=x
  ·subst e;rw[z1X];omega
  ·rw[z17 e];exact h.val i hi
theorem MInv.head (h:MInv N c (x::t) r fi):r fi=(x:Int)∧x<N:=by
 refine⟨?_,h.lt x (by simp)⟩
 have:=h.ring 0 x rfl
 rwa [Nat.add_zero,Nat.mod_eq_of_lt h.fi_lt] at this
theorem MInv.clean (h:MInv N c [] r fi) (i:Nat):MInv N (setC c i 1) [] r fi :=
 ⟨h.fi_lt,h.ring,h.lt,h.nodup,fun j hj=>by
  by_cases e:j=i
  ·subst e;simp[z1X]
  ·rw[z17 e];exact h.grey j hj,fun j hj=>by
  by_cases e:j=i
  ·subst e;simp[z1X]
  ·rw[z17 e];exact h.val j hj⟩
theorem MInv.two (h:MInv N c [] r fi) {i:Nat}(hi:i<N):c i=1∨c i=3:=by
 have h1:=h.val i hi
 have h2:=h.grey i hi
 simp at h2
 omega
end
def blk (c:Nat→Int):Nat→List Nat
 | 0=>[]
 | i+1=>if c i=3 then blk c i++[i] else blk c i
end Go.Proofs.YthkelaeemefnaaaGreat
namespace Go.Proofs.YthkelaeemefnaaaGreat
def cntB:Nat→(Nat→Bool)→Nat
 | 0,_=>0
 | n+1,A=>cntB n A+(if A n=true then 1 else 0)
def setB (A:Nat→Bool) (t:Nat) (v:Bool):Nat→Bool:=fun i=>if i=t then v else A i
theorem z9v (A:Nat→Bool) (t:Nat) (v:Bool):setB A t v t=v:=by simp[setB]
theorem z3s {A:Nat→Bool}{t i:Nat}{v:Bool}(h:i≠t):setB A t v i=A i:=by simp[setB,h]
theorem z6A (A:Nat→Bool):∀ n,cntB n A≤n
 | 0=>Nat.le_refl 0
 | n+1=>by
  have:=z6A A n
  unfold cntB
  split<;>omega
theorem z2P {A C:Nat→Bool}:∀ n,(∀ i,i<n→A i=C i)→cntB n A=cntB n C
 | 0,_=>rfl
 | n+1,h=>by
  unfold cntB
  rw[z2P n (fun i hi=>h i (by omega)),h n (by omega)]
theorem z81 {A:Nat→Bool}:∀ n,(∀ i,i<n→A i=true)→cntB n A=n
 | 0,_=>rfl
 | n+1,h=>by
  unfold cntB
  rw[z81 n (fun i hi=>h i (by omega)),if_pos (h n (by omega))]
theorem z5y:∀ n,cntB n (fun _=>false)=0
 | 0=>rfl
 | n+1=>by
  unfold cntB
  rw[z5y n];rfl
theorem z6a {A:Nat→Bool}:∀ n,cntB n A=n→∀ i,i<n→A i=true
 | 0,_,_,hi=>by omega
 | n+1,h,i,hi=>by
  have hl:=z6A A n
  unfold cntB at h
  split at h
  ·rename_i hn
   rcases Nat.lt_succ_iff_lt_or_eq.1 hi with r|rfl
   ·exact z6a n (by omega) i r
   ·exact hn
  ·omega
theorem z7R {A:Nat→Bool}{t:Nat}:∀ n,t<n→A t=false→cntB n (setB A t true)=cntB n A+1
 | 0,h,_=>by omega
 | n+1,h,hA=>by
  unfold cntB
  by_cases e:t=n
  ·subst e
   rw[z2P (C:=A) t (fun i hi=>z3s (by omega)),z9v,hA]
   simp
  ·rw[z7R n (by omega) hA,z3s (fun q=>e q.symm)]
   omega
theorem z98 {A:Nat→Bool}{t:Nat}{v:Bool}(h:A t=v):setB A t v=A:=by
 funext i
 unfold setB
 split
 ·rename_i e;rw[e,h]
 ·rfl
def allB (n:Nat) (A:Nat→Bool):Bool:=decide (cntB n A=n)
theorem allB_iff {n:Nat}{A:Nat→Bool}:allB n A=true↔∀ i,i<n→A i=true:=by
 unfold allB
 rw[decide_eq_true_iff]
 exact⟨z6a n,z81 n⟩
end Go.Proofs.YthkelaeemefnaaaGreat
