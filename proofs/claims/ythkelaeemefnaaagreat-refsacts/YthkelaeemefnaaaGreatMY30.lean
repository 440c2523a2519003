import Derived.Test.YthkelaeemefnaaaGreatMY29
namespace Go.Proofs.YthkelaeemefnaaaGreat
open Go.RowKit
theorem kkey:Maps.Keyed Tryz.prog 3:=Maps.int_keyed Tryz.underlying3
theorem klit {t N:Nat}(h:t<N) (hN:N≤4096):(Lit.int .i64 (t:Int)).wf=true:=WalkArith.wf_i64 (by omega)
theorem z8y {w:World}{m n:Nat}{D:DataW Unit}(h:w.ownsMap Tryz.prog 3 unitElem m n D):w.ownsMap Tryz.prog 3 unitElem m (Maps.size D) D:=by
 obtain⟨es,clock,hb,F,_,rfl⟩:=h
 refine⟨es,clock,hb,F,?_,rfl⟩
 simp[Maps.size,length_sorted]
theorem z8N {w:World}{m n:Nat}{D:DataW Unit}(h:w.ownsMap Tryz.prog 3 unitElem m n D) (t e:TypeId) (ht:Tryz.prog.underlying t=some (.map 3 e)) (ty:TypeId):
  ∃ w',(Builtin.clear_ #[t] ty #[.map (some m)]).run Tryz.prog w=.ok (.tuple #[]) w'∧w'.ownsMap Tryz.prog 3 unitElem m 0 (.map []:DataW Unit)∧w.mapTurned w' m:=by
 obtain⟨es,clock,hb,F,_,rfl⟩:=h
 refine⟨ChangeMaps.setBlock w m (.map #[] clock),?_,⟨#[],clock,ChangeMaps.heap_setBlock_same hb _,⟨by simp[maxLen],⟨by simp,by simp,by simp⟩,by simp⟩,Nat.le_refl _,rfl⟩,⟨es,clock,#[],clock,hb,rfl⟩⟩
 simp[Builtin.clear_,run_underlying ht,MapKept.run_getObj_map hb,MapKept.run_setObj_map _ hb,Result.andThen,ChangeMaps.setBlock]
def Tset (w:World) (m N:Nat) (A:Nat→Bool):Prop :=
 ∃ D:DataW Unit,w.ownsMap Tryz.prog 3 unitElem m N D∧(∀ t:Nat,t<N→Maps.has D (.int .i64 (t:Int))=A t)∧Maps.size D=cntB N A
section
variable {w w':World}{m N:Nat}{A:Nat→Bool}
theorem Tset.of_block (h:Tset w m N A) (e:w'.heap[m]?=w.heap[m]?):Tset w' m N A:=by
 obtain⟨D,⟨es,clock,hb,r⟩,h2⟩:=h
 exact⟨D,⟨es,clock,e.trans hb,r⟩,h2⟩
theorem Tset.lt (h:Tset w m N A):m<w.heap.size:=let ⟨_,h1,_⟩:=h;h1.lt
theorem Tset.below (h:Tset w m N A) (hb:Below w.heap.size w w'):Tset w' m N A:=h.of_block (hb.block m h.lt)
theorem Tset.is_map (h:Tset w m N A):∃ es clock,w.heap[m]?=some (.map es clock):=let ⟨_,⟨es,clock,hb,_⟩,_⟩:=h;⟨es,clock,hb⟩
theorem Tset.congr {C:Nat→Bool}(h:Tset w m N A) (e:∀ i,i<N→A i=C i):Tset w m N C:=by
 obtain⟨D,h1,h2,h3⟩:=h
 exact⟨D,h1,fun t ht=>(h2 t ht).trans (e t ht),h3.trans (z2P N e)⟩
theorem Tset.none (h:w.ownsMap Tryz.prog 3 unitElem m 0 (.map []:DataW Unit)):Tset w m N (fun _=>false) :=
 ⟨_,h.mono (Nat.zero_le _),fun _ _=>rfl,by rw[z5y];rfl⟩
theorem Tset.made (w:World) (N:Nat):Tset (w.alloc (.map #[] 0)) w.heap.size N (fun _=>false):=Tset.none (World.ownsMap_made w Tryz.prog 3 unitElem)
theorem z9Y (h:Tset w m N A) (t:Nat) (ht:t<N) (hN:N≤4096):
  Calls Tryz.prog 108 #[.map (some m),.int .i64 t] w fun e w'=>e=.returned (.tuple #[])∧Tset w' m N (setB A t true)∧w.mapTurned w' m:=by
 obtain⟨D,h1,h2,h3⟩:=h
 have hl:=klit ht hN
 obtain⟨w1,hrun,ho,hturn⟩:=h1.store kkey Tryz.underlying111 (show N<maxLen by unfold maxLen;omega) (Maps.keyOf_int_mk Tryz.underlying3 hl) (unitElem_mk (H:=Unit))
 have HT:Hid (Tset w1 m N (setB A t true)∧w.mapTurned w1 m):=by
  refine⟨?_,hturn⟩
  have hk:WideAt.IsKeyLit (.int .i64 (t:Int)):=trivial
  have hsz:Maps.size (D.put (.int .i64 (t:Int)) (.agg []))=cntB N (setB A t true):=by
   rw[Maps.size_put (h1.tidy kkey),h2 t ht,h3]
   cases hA:A t with
   | true=>rw[z98 hA];rfl
   | false=>rw[z7R N ht hA];rfl
  refine⟨_,((z8y ho).mono ?_),fun i hi=>?_,hsz⟩
  ·rw[hsz];exact z6A _ _
  ·by_cases e:i=t
   ·subst e
    rw[Maps.has_put_same h1.isMap hk,z9v]
   ·rw[Maps.has_put_other (by intro q;injection q with _ q;omega),h2 i hi,z3s e]
 clear h1 h2 h3 ho hturn hl
 go_enter Tryz.func108,Tryz.ntmps108
 go_wp2
 go_end0
 exact⟨rfl,HT.out⟩
theorem z9j (h:Tset w m N A) (t:Nat) (ht:t<N) (hN:N≤4096):
  Calls Tryz.prog 126 #[.map (some m),.int .i64 t] w fun e w'=>e=.returned (.bool (A t))∧Below w.heap.size w w':=by
 obtain⟨D,h1,h2,h3⟩:=h
 have hz:(zeroValue 172).run Tryz.prog w=.ok (.agg #[]) w:=by kernel_rfl
 have hl:(Instr.lookup 111 (.map (some m)) (.int .i64 t) true).run Tryz.prog w=.ok (.tuple #[.agg #[],.bool (A t)]) w:=by
  obtain⟨v,ps,hrun,hv⟩:=h1.look_ok kkey Tryz.underlying111 hz unitElem_mk (Maps.keyOf_int_mk Tryz.underlying3 (klit ht hN))
  obtain⟨rfl,_⟩:=unitElem_inv hv
  rw[h2 t ht] at hrun
  exact hrun
 generalize A t=x at hl ⊢
 clear h1 h2 h3 hz ht
 have hb:=(Below.refl w.heap.size w).alloc (Nat.le_refl _) (.cells #[] 172)
 go_enter Tryz.func126,Tryz.ntmps126
 go_wp2
 go_ret
 exact⟨rfl,hb⟩
end
end Go.Proofs.YthkelaeemefnaaaGreat
namespace Go.Proofs.YthkelaeemefnaaaGreat
open Go.RowKit
theorem zfy:(Tryz.prog.info? 3).map (fun i=>(i.zero,i.size,i.bytes))=some (some (.int .i64 0),1,8):=by kernel_rfl
theorem zes (n:Nat) (hn:n≤4096) (w:World):
  Calls Tryz.prog 88 #[.int .i64 n] w fun e w'=>∃ b,e=.returned (.slice (some ⟨b,0,none⟩) n n)∧w'.rowIs b 3 n (fun i=>.int .i64 i)∧Below w.heap.size w w':=by
 have hmk:=run_make_row' (P:=Tryz.prog) 32 3 (.int .i64 0) 8 Tryz.underlying32 zfy rfl .i64 .i64 n (by omega) (by omega)
 have HB:Hid (Below w.heap.size w (w.alloc (.cells (madeCells #[.int .i64 0] n) 3))):=(Below.refl w.heap.size w).alloc (Nat.le_refl _) _
 have HR:Hid ((w.alloc (.cells (madeCells #[.int .i64 0] n) 3)).rowIs w.heap.size 3 n (fun _=>.int .i64 0)):=World.rowIs_made w (.int .i64 0) n 3
 go_enter Tryz.func88,Tryz.ntmps88
 go_wp2
 clear hmk
 go_loopg [9] n (fun r i wr=>∃ k:Nat,r=n-k∧k≤n∧i=.int .i64 k∧Hid (wr.rowIs w.heap.size 3 n (fun j=>if j<k then .int .i64 j else .int .i64 0))∧Hid (Below w.heap.size w wr))
 case atStart=>exact⟨0,rfl,by omega,rfl,HR.out.congr (fun i _=>rfl),HB⟩
 case round =>
  obtain⟨k,rfl,hk,rfl,hr,hb⟩:=hrel
  by_cases hlt:k<n
  ·have c0:=hr.out.cell hlt
   have f0:=hr.out.frozen k
   go_wp2
   go_roundg (n-(k+1))
   case rel =>
    refine⟨k+1,rfl,by omega,by go_num,(hr.out.set k _).congr (fun i _=>?_),hb.out.setCell (Nat.le_refl _) _⟩
    by_cases e:i=k
    ·subst e;simp
    ·have:(i<k+1)=(i<k):=by simp;omega
     simp[e,this]
   case measure=>omega
  ·obtain rfl:k=n:=by omega
   have hlt':¬ (k:Int)<(k:Int):=by omega
   go_wp2
   go_ret
   exact⟨_,rfl,hr.out.congr (fun i hi=>by simp[hi]),hb.out⟩
theorem zcO (n b:Nat) (hn:n≤4096) {w:World}(hr:w.rowIs b 3 n (fun i=>.int .i64 i)):
  Calls Tryz.prog 87 #[.slice (some ⟨b,0,none⟩) n n] w fun e w'=>∃ m,e=.returned (.map (some m))∧Tset w' m n (fun _=>true)∧Below w.heap.size w w'∧w.heap.size≤m:=by
 have hmm:∀ u:World,(Instr.makeMap 111 (some (.int .i64 n))).run Tryz.prog u=.ok (.map (some u.heap.size)) (u.alloc (.map #[] 0)):=by
  intro u
  simp[Instr.makeMap,run_underlying Tryz.underlying111,asInt,asIntOf,Result.andThen]
 have HB:Hid (Below w.heap.size w (w.alloc (.map #[] 0))):=(Below.refl w.heap.size w).alloc (Nat.le_refl _) _
 have HT:Hid (Tset (w.alloc (.map #[] 0)) w.heap.size n (fun _=>false)):=Tset.made w n
 have HR:Hid (w.rowIs b 3 n (fun i=>.int .i64 i)):=hr
 clear hr
 go_enter Tryz.func87,Tryz.ntmps87
 go_wp2
 clear hmm
 go_loopg [11] n (fun r i wr=>∃ k:Nat,r=n-k∧k≤n∧i=.int .i64 k∧Hid (Tset wr w.heap.size n (fun j=>decide (j<k)))∧Hid (Below w.heap.size w wr))
 case atStart=>exact⟨0,rfl,by omega,rfl,HT.out.congr (fun i _=>by simp),HB⟩
 case round =>
  obtain⟨k,rfl,hk,rfl,ht,hb⟩:=hrel
  by_cases hlt:k<n
  ·have c0:=(HR.out.of_block (hb.out.block b HR.out.lt)).cell hlt
   have ha:=z9Y ht.out k hlt hn
   go_wp2_with (go_at_call 108;refine ha.mono ?_;rintro e w2 ⟨rfl,ht2,hu2⟩)
   go_roundg (n-(k+1))
   case rel =>
    refine⟨k+1,rfl,by omega,by go_num,ht2.congr (fun i _=>?_),Bt.under hb.out hb.out.size (fun j hj=>Nat.le_of_eq hj.symm) (Bt.turned (P:=fun j=>j=w.heap.size) hu2 rfl)⟩
    unfold setB
    split
    ·rename_i e;simp[e]
    ·rename_i e
     have:(i<k+1)=(i<k):=by simp;omega
     simp[this]
   case measure=>omega
  ·obtain rfl:k=n:=by omega
   have hlt':¬ (k:Int)<(k:Int):=by omega
   go_wp2
   go_ret
   exact⟨_,rfl,ht.out.congr (fun i hi=>by simp[hi]),hb.out,Nat.le_refl _⟩
structure Sk (w:World) (s m N:Nat) (A:Nat→Bool) (x r:Int):Prop where
 here:w.heap[s]?=some (.cells #[.int .i64 N,.map (some m),.int .i64 x,.int .i64 r] 115 (0,0))
 set:Tset w m N A
 few:N≤8
section
variable {w w':World}{s m N:Nat}{A:Nat→Bool}{x r:Int}
theorem Sk.ne (h:Sk w s m N A x r):s≠m:=by
 rintro rfl
 obtain⟨es,clock,hb⟩:=h.set.is_map
 rw[h.here] at hb;simp at hb
theorem Sk.lt (h:Sk w s m N A x r):s<w.heap.size:=(Array.getElem?_eq_some_iff.1 h.here).1
theorem Sk.below (h:Sk w s m N A x r) (hb:Below w.heap.size w w'):Sk w' s m N A x r:=⟨(hb.block s h.lt).trans h.here,h.set.below hb,h.few⟩
theorem Sk.c0 (h:Sk w s m N A x r):w.cell? ⟨s,0,none⟩=some (.int .i64 N):=by simp[World.cell?,h.here]
theorem Sk.c1 (h:Sk w s m N A x r):w.cell? ⟨s,1,none⟩=some (.map (some m)):=by simp[World.cell?,h.here]
theorem Sk.c2 (h:Sk w s m N A x r):w.cell? ⟨s,2,none⟩=some (.int .i64 x):=by simp[World.cell?,h.here]
theorem Sk.c3 (h:Sk w s m N A x r):w.cell? ⟨s,3,none⟩=some (.int .i64 r):=by simp[World.cell?,h.here]
theorem Sk.congr {C:Nat→Bool}(h:Sk w s m N A x r) (e:∀ i,i<N→A i=C i):Sk w s m N C x r:=⟨h.here,h.set.congr e,h.few⟩
def Sb (s m:Nat):Nat→Prop:=fun k=>k=s∨k=m
theorem ze3 (N:Nat) (w:World) (h1:1≤N) (h8:N≤8):
  Calls Tryz.prog 52 #[.int .i64 N] w fun e w'=>∃ s m,e=.returned (.tuple #[.pointer (some ⟨s,0,none⟩),.int .i64 0])∧Sk w' s m N (fun _=>true) 0 0∧Below w.heap.size w w'∧w.heap.size≤s∧w.heap.size≤m:=by
 have d1:decide ((N:Int)<1)=false:=by simp;omega
 have d2:decide ((8:Int)<(N:Int))=false:=by simp;omega
 have HN:Hid (N≤8):=h8
 go_enter Tryz.func52,Tryz.ntmps52
 go_wp2_with (first
  | (go_at_call 88;refine (zes N (by omega) _).mono ?_;rintro e w1 ⟨b,rfl,hr1,hb1⟩)
  | (go_at_call 87;refine (zcO N b (by omega) hr1).mono ?_;rintro e w2 ⟨m,rfl,ht2,hb2,hm2⟩))
 go_ret2
 have hb12:=hb1.trans (hb2.mono hb1.size)
 have hb3:=hb12.alloc hb12.size (.cells #[.int .i64 N,.map (some m),.int .i64 0,.int .i64 0] 115)
 refine⟨_,m,rfl,⟨heap_alloc_new w2 _,ht2.of_block (Below.heap_alloc _ _ _ ht2.lt),HN.out⟩,hb3,hb12.size,Nat.le_trans hb1.size hm2⟩
theorem z1K (h:Sk w s m N A x r) (t:Nat) (ht:t<N):
  Calls Tryz.prog 125 #[.pointer (some ⟨s,0,none⟩),.int .i64 t] w fun e w'=>e=.returned (.bool true)∧w'=w:=by
 have c0:=h.c0
 have d1:(0:Int)≤(t:Int):=by omega
 have d2:(t:Int)<(N:Int):=by omega
 clear h
 go_enter Tryz.func125,Tryz.ntmps125
 go_wp2
 go_ret
 exact⟨rfl,rfl⟩
theorem z9r (h:Sk w s m N A x r):Calls Tryz.prog 123 #[.pointer (some ⟨s,0,none⟩)] w fun e w'=>e=.returned (.bool (allB N A))∧∃ q,w'=w.drewN q:=by
 have c0:=h.c0
 have c1:=h.c1
 obtain⟨D,h1,_,h3⟩:=h.set
 have hl:=fun q=>World.ownsMap.len (w:=w.drewN q) h1 Tryz.underlying111 3
 rw[h3] at hl
 have e:allB N A=(((cntB N A:Nat):Int) == (N:Int)):=by
  unfold allB
  by_cases q:cntB N A=N
  ·simp[q]
  ·have:¬ ((cntB N A:Nat):Int)=(N:Int):=by omega
   simp[q,this]
 rw[e]
 clear h h1 h3 e
 generalize cntB N A=c at hl ⊢
 go_enter Tryz.func123,Tryz.ntmps123
 go_wp2
 go_quiet (fail)
 go_wp2
 go_ret
 exact⟨rfl,nq,rfl⟩
theorem Sk.drewN (h:Sk w s m N A x r) (q:Nat):Sk (w.drewN q) s m N A x r:=h.below (z00 _ _ _)
theorem Sk.turn (h:Sk w s m N A x r) {C:Nat→Bool}(ht:Tset w' m N C) (hu:w.mapTurned w' m):Sk w' s m N C x r :=
 ⟨(hu.grown.block s h.lt (fun q=>h.ne (by cases q;rfl))).trans h.here,ht,h.few⟩
theorem z5A {u:World}{b k:Nat}{c:Array Value}{ty:TypeId}{v:Value}(h:u.heap[b]?=some (.cells c ty (0,0))):(u.setCell ⟨b,k,none⟩ v).heap[b]?=some (.cells (c.setIfInBounds k v) ty (0,0)):=by
 simp[World.setCell,Array.getElem?_modify,h]
theorem Sk.put2 (h:Sk w s m N A x r) (v:Int):Sk (w.setCell ⟨s,2,none⟩ (.int .i64 v)) s m N A v r :=
 ⟨by rw[z5A h.here];rfl,h.set.of_block (Below.heap_setCell _ _ _ _ (fun q=>h.ne q.symm)),h.few⟩
theorem Sk.put3 (h:Sk w s m N A x r) (v:Int):Sk (w.setCell ⟨s,3,none⟩ (.int .i64 v)) s m N A x v :=
 ⟨by rw[z5A h.here];rfl,h.set.of_block (Below.heap_setCell _ _ _ _ (fun q=>h.ne q.symm)),h.few⟩
theorem zg3 (h:Sk w s m N A x r) (v:Int) (hA:allB N A=true):
  Calls Tryz.prog 99 #[.pointer (some ⟨s,0,none⟩),.int .i64 v] w fun e w'=>e=.returned (.int .i64 0)∧Sk w' s m N (fun _=>false) v (wrap64 (r+1))∧Bt (Sb s m) w w':=by
 have hd:=z9r h
 rw[hA] at hd
 have HS:Hid (Sk w s m N A x r):=h
 clear h hA
 go_enter Tryz.func99,Tryz.ntmps99
 go_upto_region 5 with (go_at_call 123;refine hd.mono ?_;rintro e w1 ⟨rfl,q,rfl⟩)
 obtain⟨D,h1,_⟩:=(HS.out.drewN q).set
 have c1:=(HS.out.drewN q).c1
 obtain⟨w2,hrun,ho,hu⟩:=z8N h1 111 172 Tryz.underlying111 0
 have hs2:=(HS.out.drewN q).turn (C:=fun _=>false) (Tset.none ho) hu
 have HU:Hid (Bt (Sb s m) w w2):=(Bt.of_below (z00 w q _)).trans (Bt.turned hu (.inr rfl))
 have d2:=hs2.c2
 have d3:=hs2.c3
 have hs3:=hs2.put2 v
 have e3:=hs3.c3
 have HS4:Hid (Sk ((w2.setCell ⟨s,2,none⟩ (.int .i64 v)).setCell ⟨s,3,none⟩ (.int .i64 (wrap64 (r+1)))) s m N (fun _=>false) v (wrap64 (r+1))):=hs3.put3 _
 have z2:w2.frozen? ⟨s,2,none⟩=false:=by simp[World.frozen?,hs2.here]
 have z3:(w2.setCell ⟨s,2,none⟩ (.int .i64 v)).frozen? ⟨s,3,none⟩=false:=by simp[World.frozen?,hs3.here]
 clear h1 ho hu hs2 hs3 hd
 go_wp2
 go_ret
 exact⟨rfl,HS4.out,(HU.out.set s 2 _ (.inl (.inl rfl))).set s 3 _ (.inl (.inl rfl))⟩
theorem zed (h:Sk w s m N A x r) (t:Nat) (ht:t<N) (hA:A t=true):
  Calls Tryz.prog 101 #[.pointer (some ⟨s,0,none⟩),.int .i64 t] w fun e w'=>e=.returned (.tuple #[.int .i64 0,.bool false,.int .i64 0])∧Sk w' s m N A x r∧Bt (Sb s m) w w':=by
 have hd:=z1K h t ht
 have c1:=h.c1
 have hh:=z9j h.set t ht (by have:=h.few;omega)
 rw[hA] at hh
 have HS:Hid (Sk w s m N A x r):=h
 clear h hA
 go_enter Tryz.func101,Tryz.ntmps101
 go_wp2_with (first|(go_at_call 125;refine hd.mono ?_;rintro e w1 ⟨rfl,hw1⟩;replace hw1:=hw1.symm;subst hw1)|(go_at_call 126;refine hh.mono ?_;rintro e w2 ⟨rfl,hb2⟩))
 refine bodyPost_ret (results_tmp3 rfl _ _ _) rfl ⟨rfl,HS.out.below hb2,Bt.of_below hb2⟩
theorem zfP (h:Sk w s m N A x r) (t:Nat) (ht:t<N) (hA:A t=false):
  Calls Tryz.prog 101 #[.pointer (some ⟨s,0,none⟩),.int .i64 t] w fun e w'=>e=.returned (.tuple #[.int .i64 x,.bool true,.int .i64 0])∧Sk w' s m N A x r∧Bt (Sb s m) w w':=by
 have hd:=z1K h t ht
 have c1:=h.c1
 have hh:=z9j h.set t ht (by have:=h.few;omega)
 rw[hA] at hh
 have HS:Hid (Sk w s m N A x r):=h
 clear h hA
 go_enter Tryz.func101,Tryz.ntmps101
 go_wp2_with (first|(go_at_call 125;refine hd.mono ?_;rintro e w1 ⟨rfl,hw1⟩;replace hw1:=hw1.symm;subst hw1)|(go_at_call 126;refine hh.mono ?_;rintro e w2 ⟨rfl,hb2⟩;have c2:=(HS.out.below hb2).c2))
 refine bodyPost_ret (results_tmp3 rfl _ _ _) rfl ⟨rfl,HS.out.below hb2,Bt.of_below hb2⟩
theorem zaN (h:Sk w s m N A x r) (t:Nat) (ht:t<N):
  Calls Tryz.prog 102 #[.pointer (some ⟨s,0,none⟩),.int .i64 t] w fun e w'=>e=.returned (.int .i64 0)∧Sk w' s m N (setB A t true) x r∧Bt (Sb s m) w w':=by
 have hd:=z1K h t ht
 have c1:=h.c1
 have hh:=z9Y h.set t ht (by have:=h.few;omega)
 have HS:Hid (Sk w s m N A x r):=h
 clear h
 go_enter Tryz.func102,Tryz.ntmps102
 go_wp2_with (first|(go_at_call 125;refine hd.mono ?_;rintro e w1 ⟨rfl,hw1⟩;replace hw1:=hw1.symm;subst hw1)|(go_at_call 108;refine hh.mono ?_;rintro e w2 ⟨rfl,ht2,hu2⟩))
 go_ret
 exact⟨rfl,HS.out.turn ht2 hu2,Bt.turned hu2 (.inr rfl)⟩
end
end Go.Proofs.YthkelaeemefnaaaGreat
namespace Go.Proofs.YthkelaeemefnaaaGreat
open Go.RowKit
def Book (Bk:World→Prop):Prop:=∀ A B:World,Bk A→(∀ (k:Nat) (o:Obj),A.heap[k]?=some o→o.isCells=false→B.heap[k]?=some o)→Bk B
def zcm {α σ:Type} (F:Fence) (n:Nat) (P:Program) (g:Nat) (lb:Array Value) (encs:α→Array Value) (I:σ→World→Prop) (M:σ→α→World→Prop) (nx:σ→α→σ) (E:σ→Prop) (s0:σ):Prop :=
 ∀ (l:Nat) (Bk:World→Prop) (W:World),Book Bk →
  (∀ s x W1,M s x W1→Bk W1→YieldAt F (n-1) P l (encs x) W1 fun e W'=>e=.returned (.bool true)∧I (nx s x) W'∧Bk W') →
  I s0 W→Bk W →
  CallsIn F n P g (#[.func (.yield l) #[] #[]]++lb) W fun e W'=>(∃ v,e=.returned v)∧∃ s,E s∧I s W'∧Bk W'
abbrev zfj (B:Nat) (I:World→Prop) (W:World):Exit→Act→World→Prop:=ownPostG B (fun _ _=>True) (fun _:List Unit=>I) (fun _ _ _=>False) [] W
theorem z2j {F:Fence}{n:Nat}{P:Program}{α σ:Type}{g:Operand}{ps:Array Tmp}{assign body:Code}{Q:Exit→Act→World→Prop}{a:Act}{w:World}
  (hro:F.round=none) (h1:1≤n) {gf:Nat} {lb:Array Value} (hg:a.eval g=.func (.func gf) #[] lb) (hFg:F.fn gf) (eg:∀ args w,(callFunc gf args).run P w=.ok (.enter gf args) w)
  {encs:α→Array Value} {I:σ→World→Prop} {M:σ→α→World→Prop} {nx:σ→α→σ} {E:σ→Prop} {s0:σ} (hseq:zcm F (n-1) P gf lb encs I M nx E s0) (hps:∀ x,(encs x).size=ps.size)
  (hI:OwnFrom w.heap.size I) (hM:∀ x,OwnFrom w.heap.size (fun s=>M s x)) (h0:I s0 w) (a₁:α→Act)
  (hassign:∀ (l:Nat) (x:α) (W:World) (K:Act→World→Prop),K (a₁ x) W →
   assign.wpIn (F.inRound l) (n-1-1) P (Exit.then K (fun _ _ _=>False)) { tmps:=(ps.zip (encs x)).foldl (fun t (p,v)=>t.setIfInBounds p v) a.tmps,defers:=[] } W)
  (hbody:∀ (l:Nat) (s:σ) (x:α) (W:World),M s x W→body.wpIn (F.inRound l) (n-1-1) P (zfj w.heap.size (I (nx s x)) W) (a₁ x) W)
  (hdone:∀ (D:Nat) (s:σ) (W:World),w.heap.size≤D→E s→I s W→W.heap[D]?=some (.deferred (some []))→Q .normal { a with defers:={ target:=.collected D,args:=#[] }::a.defers } W):
  (Code.rangeFunc g ps assign body).wpIn F n P Q a w:=by
 refine wpIn_rangeFunc fun fn hfn=>?_
 rw[hro]
 let rec_:LoopState→Loop:=fun st=>{ state:=st,pending:=none,fn:=fn,tmps:=a.tmps,params:=ps,assign:=assign,body:=body,defers:=w.heap.size }
 let W1:=(w.alloc (.deferred (some []))).alloc (.loop (rec_ .ready))
 have hL:W1.heap[w.heap.size+1]?=some (.loop (rec_ .ready)):=by
  have:=World.alloc_heap_new (w.alloc (.deferred (some []))) (.loop (rec_ .ready));rwa [World.size_alloc] at this
 have hD:W1.heap[w.heap.size]?=some (.deferred (some [])):=(Below.heap_alloc _ _ _ (by simp)).trans (World.alloc_heap_new w _)
 refine⟨w.heap.size+1,[{ target:=.collected w.heap.size,args:=#[] }],W1,{ target:=.fn (.func gf) lb,args:=#[.func (.yield (w.heap.size+1)) #[] #[]] },W1,gf,#[.func (.yield (w.heap.size+1)) #[] #[]]++lb,W1,
  run_enterLoop_outer _ _ _ _ _,by simp only[resolve,hg];simp[go_sem],fun f' hf'=>by simp[Target.leads] at hf';subst hf';exact hFg,by simp[invoke,go_sem,eg],fun _=>h1,?_⟩
 refine (hseq (w.heap.size+1) (fun W=>W.heap[w.heap.size+1]?=some (.loop (rec_ .ready))∧W.heap[w.heap.size]?=some (.deferred (some []))) W1
  (fun A B hA k=>⟨k _ _ hA.1 rfl,k _ _ hA.2 rfl⟩) (fun s x W hm hb=>?_) (hI.alloc _ (hI.alloc _ h0)) ⟨hL,hD⟩).mono ?_
 ·obtain⟨hl,hd⟩:=hb
  have hy:=run_yield (P:=P) (args:=encs x) hl (hps x)
  refine⟨fn,_,assign,body,hy,roundIn_of_wpIn hfn (hassign _ x W _ ⟨_,run_beginRound hl rfl,?_⟩)⟩
  have hl2:(W.putObj (w.heap.size+1) (.loop (rec_ .busy))).heap[w.heap.size+1]?=some (.loop (rec_ .busy)):=World.putObj_heap_same (Array.getElem?_eq_some_iff.1 hl).1
  have hd2:(W.putObj (w.heap.size+1) (.loop (rec_ .busy))).heap[w.heap.size]?=some (.deferred (some [])):=(World.putObj_heap_other (by omega)).trans hd
  refine wpIn_mono (hbody _ s x _ ((hM x).putObj _ hm (by omega) hl rfl)) ?_
  rintro e a3 W3 hp
  cases e with
  | normal =>
   obtain⟨hk,_,hi⟩:=hp
   have hl3:=hk.same _ _ (by omega) hl2 rfl
   exact⟨_,_,run_endRound (P:=P) none hl3,rfl,hI.putObj _ hi (by omega) hl3 rfl,World.putObj_heap_same (Array.getElem?_eq_some_iff.1 hl3).1,(World.putObj_heap_other (by omega)).trans (hk.same _ _ (Nat.le_refl _) hd2 rfl)⟩
  | ret=>exact hp.2.elim
  | exit id=>exact hp.2.elim
  | goto t=>exact hp.2.elim
  | panic ch=>exact hp.elim
  | outgrown=>exact hp.elim
 ·rintro e W2 ⟨⟨v,rfl⟩,s,hE,hi,hl,hd⟩
  exact⟨none,_,run_endLoop (P:=P) hl (by simp[rec_]),hdone _ s _ (Nat.le_refl _) hE (hI.putObj _ hi (by omega) hl rfl) ((World.putObj_heap_other (by omega)).trans hd)⟩
end Go.Proofs.YthkelaeemefnaaaGreat
