import Derived.Test.YthkelaeemefnaaaGreatMY30
import Derived.Test.YthkelaeemefnaaaGreatMM1qz
import Derived.Sort.LoopGhostIn
set_option maxRecDepth 100000
set_option maxHeartbeats 4000000
namespace Go.Proofs.YthkelaeemefnaaaGreat
open Go.RowKit Go.Shelf
attribute [local go_sem] Oper.semAt_some
theorem zbN (s:Nat) (w:World):
  Calls Tryz.prog 144 #[.pointer (some ⟨s,1,none⟩)] w fun e w'=>e=.returned (.func (.func 155) #[] #[.pointer (some ⟨w.heap.size,0,none⟩)])∧w'=w.alloc (.cells #[.pointer (some ⟨s,1,none⟩)] 186):=by
 go_enter Tryz.func144,Tryz.ntmps144
 go_wp2
 go_ret
 exact⟨rfl,rfl⟩
def It1 (R:World→Prop) (s bc bi N:Nat) (q:List Nat) (W:World):Prop:=(∃ c,Mk W s bc bi N c q)∧R W
def Mt1 (R:World→Prop) (s bc bi N:Nat) (q:List Nat) (x:Nat) (W:World):Prop:=(∃ t c r fi,q=x::t∧Wk W s bc bi N c r ((fi+1)%N) t.length∧MInv N c (x::t) r fi)∧R W
def Hd1 (R:World→Prop) (s bc bi N:Nat) (q:List Nat) (v:Int) (b:Bool) (W:World):Prop :=
 (b=false∧q=[]∧It1 R s bc bi N [] W)∨(b=true∧∃ (x:Nat) (t:List Nat),q=x::t∧v=x∧Mt1 R s bc bi N q x W)
def zcw (R:World→Prop) (s bc bi N:Nat) (q:List Nat) (Bk:World→Prop) (e:Ending) (W:World):Prop :=
 ∃ v b,e=.returned (.tuple #[.int .i64 v,.bool b])∧Hd1 R s bc bi N q v b W∧Bk W
theorem zg4 {Bk:World→Prop}(hBk:Book Bk) {P:Nat→Prop}{A B:World}(h:Bk A) (hb:Bt P A B) (hp:∀ k,P k→∃ x y z,A.heap[k]?=some (.cells x y z)):Bk B :=
 hBk A B h fun k o hk ho=>by
  refine (hb.block k (Array.getElem?_eq_some_iff.1 hk).1 fun q=>?_).trans hk
  obtain⟨x,y,z,e⟩:=hp k q
  rw[e] at hk;cases hk;cases ho
theorem Wk.cells {w:World}{s bc bi N:Nat}{c r:Nat→Int}{fi k:Nat}(h:Wk w s bc bi N c r fi k):∀ j,Mb s bc bi j→∃ x y z,w.heap[j]?=some (.cells x y z):=by
 rintro j (rfl|rfl|rfl)
 ·exact⟨_,_,_,h.here⟩
 ·obtain⟨x,hx,_⟩:=h.col;exact⟨_,_,_,hx⟩
 ·obtain⟨x,hx,_⟩:=h.itm;exact⟨_,_,_,hx⟩
theorem z7m {R:World→Prop}{s bc bi N:Nat}(hR:∀ A B,R A→Bt (Mb s bc bi) A B→R B) {q:List Nat}{Bk:World→Prop}(hBk:Book Bk) {W:World}(h:It1 R s bc bi N q W) (hb:Bk W):
  Calls Tryz.prog 156 #[.pointer (some ⟨s,1,none⟩)] W (zcw R s bc bi N q Bk):=by
 obtain⟨⟨c,r,fi,hW,hI⟩,hr⟩:=h
 cases q with
 | nil =>
  refine (z40 hW).mono ?_
  rintro e w' ⟨rfl,rfl⟩
  exact⟨_,_,rfl,.inl ⟨rfl,rfl,⟨c,r,fi,hW,hI⟩,hr⟩,hb⟩
 | cons x t =>
  have ht:=z7K hW hI.fi_lt (by have:=hI.few;simp at this;omega)
  rw[hI.head.1] at ht
  refine ht.mono ?_
  rintro e w' ⟨rfl,hW2,hB⟩
  exact⟨_,_,rfl,.inr ⟨rfl,x,t,rfl,rfl,⟨t,c,r,fi,rfl,hW2,hI⟩,hR _ _ hr hB⟩,zg4 hBk hb hB hW.cells⟩
theorem z6u {R:World→Prop}{s bc bi N:Nat}(hR:∀ A B,R A→Bt (Mb s bc bi) A B→R B) (Bn:Nat) (hBn:∀ W,R W→W.cell? ⟨Bn,0,none⟩=some (.pointer (some ⟨s,1,none⟩))) (n:Nat) (hn:1≤n) (q0:List Nat):
  zcm Fence.wide n Tryz.prog 155 #[.pointer (some ⟨Bn,0,none⟩)] (fun x:Nat=>#[Value.int .i64 (x:Int)]) (It1 R s bc bi N) (Mt1 R s bc bi N) (fun q _=>q.tail) (fun q=>q=[]) q0:=by
 intro l Bk W hBk hY h0 hb0
 have b0:=hBn W h0.2
 have hT:=z7m hR hBk h0 hb0
 have HY:Hid _:=hY
 have HB:Hid _:=hBn
 clear hY hBn
 refine callsIn_of_wp Tryz.func155 rfl trivial ?_ rfl
 simp only[Tryz.ntmps155,List.size_toArray,List.length_cons,List.length_nil,Nat.reduceAdd,Nat.reduceSub,Array.replicate_succ,Array.replicate_zero,List.push_toArray,List.append_toArray,List.nil_append,List.cons_append]
 gi_wp2_with (refine⟨trivial,?_⟩;gi_at_call 156;refine (callsIn_wide.2 hT).mono ?_;clear hT;rintro e w2 ⟨v2,b2,rfl,hd2,hk2⟩)
 have HD2:Hid (Hd1 R s bc bi N q0 v2 b2 w2):=hd2
 have HK2:Hid (Bk w2):=hk2
 clear hd2 hk2 b0 h0 hb0
 gi_loopg [3,4] q0.length (fun k v3 v4 wr=>∃ (q:List Nat) (v:Int) (b:Bool),v3=.int .i64 v∧v4=.bool b∧q.length=k∧Hid (Hd1 R s bc bi N q v b wr)∧Hid (Bk wr))
 case atStart=>exact⟨q0,v2,b2,rfl,rfl,rfl,HD2,HK2⟩
 case round =>
  clear HD2 HK2
  obtain⟨q,v,b,rfl,rfl,hlen,hd,hk⟩:=hrel
  rcases hd.out with ⟨rfl,rfl,hi⟩|⟨rfl,x,t,rfl,rfl,hm⟩
  ·clear hd
   gi_wp2
   refine⟨fun _ h=>(by cases h),?_⟩
   gi_wp2
   go_end0
   exact⟨⟨_,rfl⟩,[],rfl,hi,hk.out⟩
  ·clear hd
   obtain⟨fn,tmps,assign,body,hy,hRd⟩:=HY.out _ x _ hm hk.out
   gi_wp2
   refine hRd.mono ?_
   rintro e W3 ⟨rfl,hi3,hk3⟩
   have b3:=HB.out W3 hi3.2
   have hT3:=z7m hR hBk hi3 hk3
   clear hy hRd hm hk hi3 hk3
   gi_wp2_with (refine⟨trivial,?_⟩;gi_at_call 156;refine (callsIn_wide.2 hT3).mono ?_;clear hT3;rintro e w5 ⟨v5,b5,rfl,hd5,hk5⟩)
   gi_roundg t.length
   case rel=>exact⟨t,v5,b5,rfl,rfl,rfl,hd5,hk5⟩
   case measure=>simp at hlen;omega
attribute [local go_sem] Oper.semAt_some
theorem z9e (bc N:Nat) (w:World):
  Calls Tryz.prog 145 #[.slice (some ⟨bc,0,none⟩) N N,.int .i64 3] w fun e w'=>e=.returned (.func (.func 157) #[] #[.pointer (some ⟨w.heap.size,0,none⟩),.pointer (some ⟨w.heap.size+1,0,none⟩)])∧w'=(w.alloc (.cells #[.slice (some ⟨bc,0,none⟩) N N] 32)).alloc (.cells #[.int .i64 3] 3):=by
 go_enter Tryz.func145,Tryz.ntmps145
 go_wp2
 go_ret
 exact⟨rfl,rfl⟩
def Mt2 (I:Nat→World→Prop) (bc N:Nat) (i x:Nat) (W:World):Prop:=x=i∧i<N∧W.cell? ⟨bc,i,none⟩=some (.int .i64 3)∧I i W
theorem z5W {I:Nat→World→Prop}{N bc b1 b2:Nat}(hN:N≤4096) (hbox:∀ i W,I i W→W.cell? ⟨b1,0,none⟩=some (.slice (some ⟨bc,0,none⟩) N N)∧W.cell? ⟨b2,0,none⟩=some (.int .i64 3))
  (hrd:∀ i W,I i W→i<N→∃ v:Int,W.cell? ⟨bc,i,none⟩=some (.int .i64 v)∧(v≠3→I (i+1) W)) (n:Nat) (hn:1≤n):
  zcm Fence.wide n Tryz.prog 157 #[.pointer (some ⟨b1,0,none⟩),.pointer (some ⟨b2,0,none⟩)] (fun x:Nat=>#[Value.int .i64 (x:Int)]) I (Mt2 I bc N) (fun i _=>i+1) (fun i=>i=N) 0:=by
 intro l Bk W hBk hY h0 hb0
 have c1:=(hbox 0 W h0).1
 have HY:Hid _:=hY
 have HB:Hid _:=hbox
 have HR:Hid _:=hrd
 have H0:Hid (I 0 W∧Bk W):=⟨h0,hb0⟩
 clear hY hbox hrd h0 hb0
 refine callsIn_of_wp Tryz.func157 rfl trivial ?_ rfl
 simp only[Tryz.ntmps157,List.size_toArray,List.length_cons,List.length_nil,Nat.reduceAdd,Nat.reduceSub,Array.replicate_succ,Array.replicate_zero,List.push_toArray,List.append_toArray,List.nil_append,List.cons_append]
 gi_wp2
 clear c1
 gi_loopg [4,5,8] N (fun k s4 s5 v8 wr=>∃ i:Nat,v8=.int .i64 i∧i≤N∧N-i=k∧Hid (I i wr∧Bk wr))
 case atStart=>exact⟨0,rfl,by omega,rfl,H0⟩
 case round =>
  clear H0
  obtain⟨i,rfl,hi,hk,h⟩:=hrel
  by_cases hlt:i<N
  ·have hlt':(i:Int)<(N:Int):=by omega
   obtain⟨v,hv,hgo⟩:=HR.out i wr h.out.1 hlt
   have c2:=(HB.out i wr h.out.1).2
   by_cases h3:v=3
   ·subst h3
    obtain⟨fn,tmps,assign,body,hy,hRd⟩:=HY.out i i wr ⟨rfl,hlt,hv,h.out.1⟩ h.out.2
    clear hgo h
    gi_wp2
    refine hRd.mono ?_
    rintro e W3 ⟨rfl,hi3,hk3⟩
    clear hy hRd hv c2
    have H3:Hid (I (i+1) W3∧Bk W3):=⟨hi3,hk3⟩
    clear hi3 hk3
    gi_wp2
    gi_roundg (N-(i+1))
    case rel=>exact⟨i+1,by go_num,by omega,rfl,H3⟩
    case measure=>omega
   ·have e3:(v == 3)=false:=by simp[h3]
    have H3:Hid (I (i+1) wr∧Bk wr):=⟨hgo h3,h.out.2⟩
    clear hgo h
    gi_wp2
    refine⟨fun _ h=>(by cases h),?_⟩
    gi_wp2
    gi_roundg (N-(i+1))
    case rel=>exact⟨i+1,by go_num,by omega,rfl,H3⟩
    case measure=>omega
  ·obtain rfl:i=N:=by omega
   have hlt':¬ (i:Int)<(i:Int):=by omega
   gi_wp2
   go_end0
   exact⟨⟨_,rfl⟩,h.out⟩
attribute [local go_sem] Oper.semAt_some
section
variable {w w':World}{s bc bi N:Nat}{c:Nat→Int}{q:List Nat}
def Rs1 (w:World) (s bc bi:Nat) (W:World):Prop:=(Boxed W w.heap.size 79 (.pointer (some ⟨s,0,none⟩))∧Boxed W (w.heap.size+1) 186 (.pointer (some ⟨s,1,none⟩)))∧Bt (Mb s bc bi) w W
theorem Rs1.step (hm:∀ j,Mb s bc bi j→j<w.heap.size) (A B:World) (h:Rs1 w s bc bi A) (hb:Bt (Mb s bc bi) A B):Rs1 w s bc bi B:=by
 have l1:=h.1.1.lt
 have l2:=h.1.2.lt
 refine⟨⟨(hb.block _ l1 fun q=>?_).trans h.1.1,(hb.block _ l2 fun q=>?_).trans h.1.2⟩,h.2.trans hb⟩
 ·have:=hm _ q;omega
 ·have:=hm _ q;omega
theorem z3W {β:Type}{B:Nat}{I:β→World→Prop}(h:∀ s A A',I s A→(∀ k,(k<B∨∃ x y z,A.heap[k]?=some (.cells x y z))→k<A.heap.size→A'.heap[k]?=A.heap[k]?)→A'.os=A.os→A'.tape=A.tape→A'.output=A.output→A.heap.size≤A'.heap.size→I s A'):OwnFrom B I :=
 fun s A A' row hs hg hr=>h s A A' hs (fun k hk hl=>hg.block k hl fun e=>by
  obtain⟨h1,o,ho,hc⟩:=hr k e.symm
  rcases hk with hk|⟨x,y,z,hk⟩
  ·omega
  ·rw[hk] at ho;cases ho;cases hc) hg.os hg.tape hg.output hg.size
theorem Rs1.keep {B:Nat}(hB:w.heap.size≤B) {A A':World}(h:Rs1 w s bc bi A) (e:∀ k,(k<B∨∃ x y z,A.heap[k]?=some (.cells x y z))→k<A.heap.size→A'.heap[k]?=A.heap[k]?) (e1:A'.os=A.os) (e2:A'.tape=A.tape) (e3:A'.output=A.output) (e4:A.heap.size≤A'.heap.size):Rs1 w s bc bi A' :=
 ⟨⟨(e _ (.inr ⟨_,_,_,h.1.1⟩) h.1.1.lt).trans h.1.1,(e _ (.inr ⟨_,_,_,h.1.2⟩) h.1.2.lt).trans h.1.2⟩,e1.trans h.2.os,e2.trans h.2.tape,e3.trans h.2.output,Nat.le_trans h.2.size e4,fun k hk hq=>(e k (.inl (by omega)) (by have:=h.2.size;omega)).trans (h.2.block k hk hq)⟩
theorem Mk.keep {B:Nat}(hm:∀ j,Mb s bc bi j→j<B) {A A':World}(h:Mk A s bc bi N c q) (e:∀ k,(k<B∨∃ x y z,A.heap[k]?=some (.cells x y z))→k<A.heap.size→A'.heap[k]?=A.heap[k]?):Mk A' s bc bi N c q :=
 h.of_blocks fun j hj=>e j (.inl (hm j hj)) (h.mb_lt j hj)
theorem zej {B:Nat}(hm:∀ j,Mb s bc bi j→j<w.heap.size) (hB:w.heap.size≤B):OwnFrom B (It1 (Rs1 w s bc bi) s bc bi N) :=
 z3W fun q A A' h e e1 e2 e3 e4=>by
  obtain⟨⟨c,h1⟩,h2⟩:=h
  exact⟨⟨c,h1.keep (fun j hj=>Nat.lt_of_lt_of_le (hm j hj) hB) e⟩,h2.keep hB e e1 e2 e3 e4⟩
theorem zew {B:Nat}(hm:∀ j,Mb s bc bi j→j<w.heap.size) (hB:w.heap.size≤B) (x:Nat):OwnFrom B (fun q=>Mt1 (Rs1 w s bc bi) s bc bi N q x) :=
 z3W fun q A A' h e e1 e2 e3 e4=>by
  obtain⟨⟨t,c,r,fi,h0,h1,h3⟩,h2⟩:=h
  exact⟨⟨t,c,r,fi,h0,h1.of_blocks fun j hj=>e j (.inl (Nat.lt_of_lt_of_le (hm j hj) hB)) (h1.mb_lt j hj),h3⟩,h2.keep hB e e1 e2 e3 e4⟩
def It2 (w:World) (s bc bi N D b1 b2:Nat) (i:Nat) (W:World):Prop :=
 ((∃ c,Mk W s bc bi N c []∧∀ j,j<i→c j=1)∧Rs1 w s bc bi W)∧(Boxed W b1 32 (.slice (some ⟨bc,0,none⟩) N N)∧Boxed W b2 3 (.int .i64 3))∧W.heap[D]?=some (.deferred (some []))
theorem It2.keep {B D b1 b2 i:Nat}(hm:∀ j,Mb s bc bi j→j<w.heap.size) (hB:w.heap.size≤B) (hD:D<B) {A A':World}(h:It2 w s bc bi N D b1 b2 i A) (e:∀ k,(k<B∨∃ x y z,A.heap[k]?=some (.cells x y z))→k<A.heap.size→A'.heap[k]?=A.heap[k]?) (e1:A'.os=A.os) (e2:A'.tape=A.tape) (e3:A'.output=A.output) (e4:A.heap.size≤A'.heap.size):It2 w s bc bi N D b1 b2 i A':=by
 obtain⟨⟨⟨c,h1,h2⟩,h3⟩,⟨h4,h5⟩,h6⟩:=h
 exact⟨⟨⟨c,h1.keep (fun j hj=>Nat.lt_of_lt_of_le (hm j hj) hB) e,h2⟩,h3.keep hB e e1 e2 e3 e4⟩,⟨(e _ (.inr ⟨_,_,_,h4⟩) h4.lt).trans h4,(e _ (.inr ⟨_,_,_,h5⟩) h5.lt).trans h5⟩,(e D (.inl hD) (Array.getElem?_eq_some_iff.1 h6).1).trans h6⟩
theorem zeK {B D b1 b2:Nat}(hm:∀ j,Mb s bc bi j→j<w.heap.size) (hB:w.heap.size≤B) (hD:D<B):OwnFrom B (It2 w s bc bi N D b1 b2) :=
 z3W fun _ _ _ h e e1 e2 e3 e4=>h.keep hm hB hD e e1 e2 e3 e4
theorem zdP {B D b1 b2:Nat}(hm:∀ j,Mb s bc bi j→j<w.heap.size) (hB:w.heap.size≤B) (hD:D<B) (x:Nat):OwnFrom B (fun i=>Mt2 (It2 w s bc bi N D b1 b2) bc N i x) :=
 z3W fun i A A' h e e1 e2 e3 e4=>by
  obtain⟨h1,h2,h3,h4⟩:=h
  have hbc:bc<A.heap.size:=let ⟨⟨⟨c,h1,_⟩,_⟩,_⟩:=h4;h1.mb_lt bc (.inr (.inl rfl))
  exact⟨h1,h2,(World.cell?_of_block (a:=⟨bc,i,none⟩) (e bc (.inl (Nat.lt_of_lt_of_le (hm bc (.inr (.inl rfl))) hB)) hbc)).trans h3,h4.keep hm hB hD e e1 e2 e3 e4⟩
theorem It2.paint {D b1 b2 i:Nat}(hm:∀ j,Mb s bc bi j→j<w.heap.size) (l1:w.heap.size≤b1) (l2:w.heap.size≤b2) (l3:w.heap.size≤D) {A:World}(h:It2 w s bc bi N D b1 b2 i A):It2 w s bc bi N D b1 b2 (i+1) (A.setCell ⟨bc,i,none⟩ (.int .i64 1)):=by
 obtain⟨⟨⟨c,⟨r,fi,h1,h1'⟩,h2⟩,h3⟩,⟨h4,h5⟩,h6⟩:=h
 have hb:=hm bc (.inr (.inl rfl))
 refine⟨⟨⟨setC c i 1,⟨r,fi,h1.paint i 1,h1'.clean i⟩,fun j hj=>?_⟩,Rs1.step hm _ _ h3 ((Bt.refl _ A).set bc i _ (.inl (.inr (.inl rfl))))⟩,⟨(Below.heap_setCell _ _ _ _ (by show b1≠bc;omega)).trans h4,(Below.heap_setCell _ _ _ _ (by show b2≠bc;omega)).trans h5⟩,(Below.heap_setCell _ _ _ _ (by show D≠bc;omega)).trans h6⟩
 by_cases e:j=i
 ·subst e;exact z1X _ _ _
 ·rw[z17 e];exact h2 j (by omega)
theorem It2.read {D b1 b2 i:Nat}{A:World}(h:It2 w s bc bi N D b1 b2 i A) (hi:i<N):∃ v:Int,A.cell? ⟨bc,i,none⟩=some (.int .i64 v)∧(v≠3→It2 w s bc bi N D b1 b2 (i+1) A):=by
 obtain⟨⟨⟨c,⟨r,fi,h1,h1'⟩,h2⟩,h3⟩,h4⟩:=h
 refine⟨c i,h1.col.cell hi,fun hv=>⟨⟨⟨c,⟨r,fi,h1,h1'⟩,fun j hj=>?_⟩,h3⟩,h4⟩⟩
 by_cases e:j=i
 ·subst e
  rcases h1'.two hi with k|k
  ·exact k
  ·exact absurd k hv
 ·exact h2 j (by omega)
theorem Bt.putO {P:Nat→Prop}{w W:World}(h:Bt P w W) {D:Nat}(hD:w.heap.size≤D) (o:Obj):Bt P w (W.putObj D o) :=
 ⟨h.os,h.tape,h.output,by rw[World.putObj_size];exact h.size,fun k hk hq=>(World.putObj_heap_other (by omega)).trans (h.block k hk hq)⟩
theorem zbi (h:Mk w s bc bi N c q):
  Calls Tryz.prog 124 #[.pointer (some ⟨s,0,none⟩)] w fun e w'=>e=.returned (.tuple #[])∧Mk w' s bc bi N (fun _=>1) []∧Bt (Mb s bc bi) w w':=by
 have hm:=h.mb_lt
 have HF:Hid (N≤4096):=h.few.2
 have hb2:Below w.heap.size w ((w.alloc (.cells #[.pointer (some ⟨s,0,none⟩)] 79)).alloc (.cells #[.pointer (some ⟨s,1,none⟩)] 186)):=((Below.refl _ w).alloc (Nat.le_refl _) _).alloc (by simp) _
 have bW:=(Boxed.new w 79 (.pointer (some ⟨s,0,none⟩))).alloc (.cells #[.pointer (some ⟨s,1,none⟩)] 186)
 have bR:=Boxed.new (w.alloc (.cells #[.pointer (some ⟨s,0,none⟩)] 79)) 186 (.pointer (some ⟨s,1,none⟩))
 rw[World.size_alloc] at bR
 have H0:Hid (It1 (Rs1 w s bc bi) s bc bi N q ((w.alloc (.cells #[.pointer (some ⟨s,0,none⟩)] 79)).alloc (.cells #[.pointer (some ⟨s,1,none⟩)] 186))):=⟨⟨c,h.below hb2⟩,⟨bW,bR⟩,Bt.of_below hb2⟩
 clear h bW bR hb2
 refine (callsIn_wide (n:=5)).1 ?_
 refine callsIn_of_wp_marks Tryz.func124 rfl trivial ?_ rfl
 simp only[Tryz.ntmps124,List.size_toArray,List.length_cons,List.length_nil,Nat.reduceAdd,Nat.reduceSub,Array.replicate_succ,Array.replicate_zero,List.push_toArray,List.append_toArray,List.nil_append,List.cons_append]
 gi_wp2_with (refine⟨trivial,?_⟩;gi_at_call 144;refine (callsIn_wide.2 (zbN s _)).mono ?_;rintro e w' ⟨rfl,rfl⟩)
 refine z2j (F:=Fence.wide) (n:=5) rfl (by decide) (gf:=155) (lb:=#[.pointer (some ⟨w.heap.size+1,0,none⟩)]) rfl trivial (enters_of Tryz.func155 (by kernel_rfl) rfl)
  (z6u (R:=Rs1 w s bc bi) (N:=N) (Rs1.step hm) (w.heap.size+1) (fun W h=>h.1.2.cell) 4 (by decide) q) (fun _=>rfl) (zej hm (by simp;omega)) (zew hm (by simp;omega)) H0.out
  (fun x=>{ tmps:=#[.pointer (some ⟨s,0,none⟩),.pointer (some ⟨w.heap.size,0,none⟩),.int .i64 x,undef,.pointer (some ⟨s,0,none⟩),.bool false,.pointer (some ⟨s,0,none⟩),.pointer (some ⟨s,0,none⟩),.pointer (some ⟨s,1,none⟩),.func (.func 155) #[] #[.pointer (some ⟨w.heap.size+1,0,none⟩)],.int .i64 x,undef,undef,undef,undef,undef,undef,undef,undef,undef,undef,undef,undef,undef,undef,undef,undef,undef,undef],defers:=[] }) ?assign ?body ?done
 case assign =>
  intro l x W K hK
  gi_wp2
  exact hK
 case body =>
  rintro l q' x W ⟨⟨t,c,r,fi,rfl,hW,hI⟩,hR⟩
  have b0:=hR.1.1.cell
  have c0:=hW.c0
  have hxN:=hI.head.2
  have hx2:(x:Int)<(N:Int):=by omega
  have hr:=hW.col.cell hxN
  have hz:=hW.col.frozen x
  have HE:Hid (It1 (Rs1 w s bc bi) s bc bi N t (W.setCell ⟨bc,x,none⟩ (.int .i64 1))):=⟨⟨_,_,_,hW.paint x 1,hI.take 1 (.inl rfl)⟩,Rs1.step hm _ _ hR ((Bt.refl _ W).set bc x _ (.inl (.inr (.inl rfl))))⟩
  clear hW hI hR H0
  gi_wp2
  exact⟨(KeepsOthers.setCell _ _ _).from _,trivial,HE.out⟩
 case done =>
  rintro D q' W hD rfl ⟨⟨c,hM⟩,hR⟩ hK
  have b0:=hR.1.1.cell
  have c0:=hM.c0
  have hDl:D<W.heap.size:=(Array.getElem?_eq_some_iff.1 hK).1
  have hDw:w.heap.size≤D:=by simp at hD;omega
  have hs:=hR.2.size
  have hb2:Below W.heap.size W ((W.alloc (.cells #[.slice (some ⟨bc,0,none⟩) N N] 32)).alloc (.cells #[.int .i64 3] 3)):=((Below.refl _ W).alloc (Nat.le_refl _) _).alloc (by simp) _
  have bR:=(Boxed.new W 32 (.slice (some ⟨bc,0,none⟩) N N)).alloc (.cells #[.int .i64 3] 3)
  have bI:=Boxed.new (W.alloc (.cells #[.slice (some ⟨bc,0,none⟩) N N] 32)) 3 (.int .i64 3)
  rw[World.size_alloc] at bI
  have HI:Hid (It2 w s bc bi N D W.heap.size (W.heap.size+1) 0 ((W.alloc (.cells #[.slice (some ⟨bc,0,none⟩) N N] 32)).alloc (.cells #[.int .i64 3] 3))) :=
   ⟨⟨⟨c,hM.below hb2,fun j hj=>absurd hj (by omega)⟩,Rs1.step hm _ _ hR (Bt.of_below hb2)⟩,⟨bR,bI⟩,(hb2.block D hDl).trans hK⟩
  clear hM hR bR bI hb2 H0 hD
  gi_wp2_with (refine⟨trivial,?_⟩;gi_at_call 145;refine (callsIn_wide.2 (z9e bc N _)).mono ?_;rintro e w' ⟨rfl,rfl⟩)
  generalize hg:W.heap.size=g at HI hDl hs ⊢
  have hsz:((W.alloc (.cells #[.slice (some ⟨bc,0,none⟩) N N] 32)).alloc (.cells #[.int .i64 3] 3)).heap.size=g+2:=by simp[hg]
  generalize (W.alloc (.cells #[.slice (some ⟨bc,0,none⟩) N N] 32)).alloc (.cells #[.int .i64 3] 3)=W2 at HI hsz ⊢
  clear b0 c0 hK hg
  refine z2j (F:=Fence.wide) (n:=5) rfl (by decide) (gf:=157) (lb:=#[.pointer (some ⟨g,0,none⟩),.pointer (some ⟨g+1,0,none⟩)]) rfl trivial (enters_of Tryz.func157 (by kernel_rfl) rfl)
   (z5W (I:=It2 w s bc bi N D g (g+1)) (N:=N) (bc:=bc) HF.out (fun i W h=>⟨h.2.1.1.cell,h.2.1.2.cell⟩) (fun i W h hi=>h.read hi) 4 (by decide)) (fun _=>rfl) (zeK hm (by omega) (by omega)) (zdP hm (by omega) (by omega)) HI.out
   (fun x=>{ tmps:=#[.pointer (some ⟨s,0,none⟩),.pointer (some ⟨w.heap.size,0,none⟩),undef,.int .i64 x,.pointer (some ⟨s,0,none⟩),.bool false,.pointer (some ⟨s,0,none⟩),.pointer (some ⟨s,0,none⟩),.pointer (some ⟨s,1,none⟩),.func (.func 155) #[] #[.pointer (some ⟨w.heap.size+1,0,none⟩)],undef,undef,undef,undef,undef,undef,undef,.pointer (some ⟨s,0,none⟩),.pointer (some ⟨s,0,none⟩),.pointer (some ⟨s,0,none⟩),.slice (some ⟨bc,0,none⟩) N N,.func (.func 157) #[] #[.pointer (some ⟨g,0,none⟩),.pointer (some ⟨g+1,0,none⟩)],.int .i64 x,undef,undef,undef,undef,undef,undef],defers:=[] }) ?assign2 ?body2 ?done2
  case assign2 =>
   intro l x W K hK
   gi_wp2
   exact hK
  case body2 =>
   rintro l i x W3 ⟨rfl,hx,hc,hI⟩
   have b0:=hI.1.2.1.1.cell
   have c0:W3.cell? ⟨s,0,none⟩=some (.slice (some ⟨bc,0,none⟩) N N):=let ⟨⟨⟨_,h1,_⟩,_⟩,_⟩:=hI;h1.c0
   have hz:W3.frozen? ⟨bc,x,none⟩=false:=let ⟨⟨⟨_,h1,_⟩,_⟩,_⟩:=hI;h1.col.frozen x
   have hx2:(x:Int)<(N:Int):=by omega
   have HE:Hid (It2 w s bc bi N D g (g+1) (x+1) (W3.setCell ⟨bc,x,none⟩ (.int .i64 1))):=hI.paint hm (by omega) (by omega) (by omega)
   clear hI HI
   gi_wp2
   exact⟨(KeepsOthers.setCell _ _ _).from _,trivial,HE.out⟩
  case done2 =>
   rintro D2 i W3 hD2 rfl hI hK2
   obtain⟨⟨⟨c3,h1,h2⟩,h3⟩,_,hK1⟩:=hI
   have hD2w:w.heap.size≤D2:=by omega
   have hne:D≠D2:=by omega
   gi_wp2
   refine⟨by simp,.inl ⟨_,_,rfl,run_takeDeferred hK2,by simp,.inl ⟨_,_,rfl,run_takeDeferred ((World.putObj_heap_other hne).trans hK1),?_⟩⟩⟩
   refine⟨_,results_none rfl _ _ _,rfl,(h1.congr (fun j hj=>h2 j hj)).of_blocks (fun j hj=>?_),(h3.2.putO hD2w _).putO hDw _⟩
   have:=hm j hj
   exact (World.putObj_heap_other (by omega)).trans (World.putObj_heap_other (by omega))
end
end Go.Proofs.YthkelaeemefnaaaGreat
