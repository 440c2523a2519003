import Derived.Test.YthkelaeemefnaaaGreatMM2qz
set_option maxRecDepth 20000
set_option maxHeartbeats 1000000
namespace Go.Proofs.YthkelaeemefnaaaGreat
open Go.RowKit
structure Tr where
 row:List Int
 col:Nat→Int
 q:List Nat
 lr:Int
 ln:Int
 lw:Int
 sw:Nat
def Tr.grey (T:Tr) (p:Nat):Tr:=if T.col p=1 then { T with col:=setC T.col p 2,q:=T.q++[p] } else T
def Tr.mark (T:Tr) (r:Int):Tr:=if hasK T.row r=true then T.grey (posK T.row r) else T
structure TOk (N:Nat) (T:Tr):Prop where
 rise:z0g T.row
 few:T.row.length≤N
 inr:∀ p∈T.q,p<T.row.length
 swl:T.sw≤T.row.length
 lk:0≤T.ln∧T.ln≤T.lw∧T.lw≤100000
theorem TOk.grey {N:Nat}{T:Tr}(h:TOk N T) {p:Nat}(hp:p<T.row.length):TOk N (T.grey p):=by
 unfold Tr.grey
 split
 ·refine⟨h.rise,h.few,fun x hx=>?_,h.swl,h.lk⟩
  rcases List.mem_append.1 hx with e|e
  ·exact h.inr x e
  ·rw[List.mem_singleton.1 e];exact hp
 ·exact h
theorem z6F {K:List Int}{t:Int}(hs:z0g K) (h:hasK K t=true):posK K t<K.length:=(List.getElem?_eq_some_iff.1 (z1P hs h)).1
theorem TOk.mark {N:Nat}{T:Tr}(h:TOk N T) (r:Int):TOk N (T.mark r):=by
 unfold Tr.mark
 split
 ·rename_i e;exact h.grey (z6F h.rise e)
 ·exact h
def z0a (S:List (Option Cel)) (r:Int):Option Cel:=if 1≤r then (S[(r-1).toNat]?).join else none
theorem z0u (S:List (Option Cel)) (i:Nat):z0a S ((i:Int)+1)=(S[i]?).join:=by
 unfold z0a
 rw[if_pos (by omega),show ((i:Int)+1-1).toNat=i by omega]
theorem z0d {S:List (Option Cel)}{r:Int}{c:Cel}(h:z0a S r=some c):∃ i:Nat,r=(i:Int)+1∧S[i]?=some (some c):=by
 unfold z0a at h
 split at h
 ·refine⟨(r-1).toNat,by omega,?_⟩
  cases e:S[(r-1).toNat]? with
  | none=>rw[e] at h;simp at h
  | some o=>rw[e] at h;simp at h;rw[h]
 ·simp at h
theorem z0Y {S:List (Option Cel)}{r:Int}(h:z0a S r=none):∀ (i:Nat) (cl:Cel),r=(i:Int)+1→S[i]?≠some (some cl):=fun i cl hr hS=>by
 rw[hr,z0u,hS] at h;simp at h
def rfs (S:List (Option Cel)) (r:Int):Nat:=match z0a S r with
 | some c=>if c.kind=1∨c.kind=3 then c.n else 0
 | none=>0
theorem zeq {S:List (Option Cel)}{W:Nat}(h:sumS S≤W) (r:Int):rfs S r≤W:=by
 unfold rfs
 cases hc:z0a S r with
 | none=>exact Nat.zero_le _
 | some c =>
  obtain⟨i,_,hi⟩:=z0d hc
  have:=(z0E S i c hi).1
  simp only
  split<;>omega
def delS (S:List (Option Cel)) (r:Int):List (Option Cel):=if (z0a S r).isSome=true then S.set (r-1).toNat none else S
theorem zcP (S:List (Option Cel)) (r:Int):sumS (delS S r)≤sumS S:=by
 unfold delS
 split
 ·rename_i h
  obtain⟨c,hc⟩:=Option.isSome_iff_exists.1 h
  obtain⟨i,rfl,hi⟩:=z0d hc
  rw[show ((i:Int)+1-1).toNat=i by omega]
  have:=(z0E S i c hi).1
  omega
 ·exact Nat.le_refl _
structure Cm where
 W:Nat
 T:Nat
 m:Nat
 S:List (Option Cel)
 F:Nat→Nat→Int
 c:Int→Int
 rt:Nat→List Int
 A:Nat→Bool
 x:Int
 r:Int
 tr:Tr
 ph:Int
 cy:Int
def Cm.frm (X:Cm) (S':List (Option Cel)):Nat:=X.m+500*(cntS X.S-cntS S')
theorem Cm.frm_same (X:Cm):X.frm X.S=X.m:=by unfold Cm.frm;omega
def setL (f:Nat→List Int) (t:Nat) (l:List Int):Nat→List Int:=fun i=>if i=t then l else f i
def z2g (W:Nat):Int:=(z06 W:Int)-((W/4:Nat):Int)
theorem z5f (W:Nat):0≤z2g W∧z2g W≤1:=by unfold z2g z06;omega
structure Cx where
 P:Nat→Prop
 h:Nat
 s:Nat
 ms:Nat
 k:Nat
 bc:Nat
 bi:Nat
 rb:Nat
 vr:Nat→Value
 vw:Value
def Cx.own (Z:Cx) (hb T:Nat):Nat→Nat→Prop
 | 0,j=>Z.P j
 | 1,j=>Sb Z.s Z.ms j
 | 2,j=>Mb Z.k Z.bc Z.bi j
 | 3,j=>j=hb
 | 4,j=>j=Z.rb
 | 5,j=>Z.vw.ownBlock=some j
 | t+6,j=>t<T∧(Z.vr t).ownBlock=some j
def Cx.all (Z:Cx) (hb T:Nat) (j:Nat):Prop:=∃ i,Z.own hb T i j
def cst (X:Cm) (Z:Cx):Array Value:=#[.pointer (some ⟨Z.h,0,none⟩),.int .i64 (z2g X.W),.slice (some ⟨Z.rb,0,none⟩) X.T X.T,.pointer (some ⟨Z.s,0,none⟩),.pointer (some ⟨Z.h,0,none⟩),.int .i64 X.T,Z.vw,.pointer (some ⟨Z.k,0,none⟩),.int .i64 X.tr.lr,.int .i64 X.tr.ln,.int .i64 X.tr.lw,.int .i64 X.tr.sw,.int .i64 X.ph,.int .i64 X.cy]
structure CvC (B:Nat) (w0 w:World) (hb:Nat) (X:Cm) (Z:Cx):Prop where
 hv:Hv B w0 w Z.P Z.h X.W (X.T+1) X.m X.c X.S X.F
 sk:Sk w Z.s Z.ms X.T X.A X.x X.r
 wk:Mk w Z.k Z.bc Z.bi (z06 X.W/16) X.tr.col X.tr.q
 here:w.heap[hb]?=some (.cells (cst X Z) 86 (0,0))
 rts:w.rowIs Z.rb 102 X.T (fun i=>Z.vr i)
 rt:∀ t,t<X.T→Ri w B (Z.vr t) (X.rt t)
 row:Ri w B Z.vw X.tr.row
 dis:∀ i j k,Z.own hb X.T i k→Z.own hb X.T j k→i=j
 low:∀ i k,Z.own hb X.T i k→B≤k
 ok:TOk (z06 X.W/16) X.tr
 lim:(1024≤X.W∧X.W≤20000)∧1≤X.T∧X.T≤8
 rtl:∀ t,t<X.T→(X.rt t).length≤64
 fit:sumS X.S≤X.W/4
theorem z7b {own own':Nat→Nat→Prop}{n:Nat}(dis:∀ i j k,own i k→own j k→i=j) (lt:∀ i k,own i k→k<n) (i:Nat) (hW:∀ k,own' i k→own i k∨n≤k) (he:∀ j k,j≠i→own' j k→own j k):∀ a b k,own' a k→own' b k→a=b:=fun a b k ha hb=>by
 by_cases ea:a=i
 ·by_cases eb:b=i
  ·rw[ea,eb]
  ·have h2:=he b k eb hb
   subst ea
   rcases hW k ha with r|r
   ·exact dis _ _ k r h2
   ·have:=lt b k h2;omega
 ·by_cases eb:b=i
  ·have h2:=he a k ea ha
   subst eb
   rcases hW k hb with r|r
   ·exact dis _ _ k h2 r
   ·have:=lt a k h2;omega
  ·exact dis a b k (he a k ea ha) (he b k eb hb)
section
variable {B:Nat}{w0 w w':World}{hb:Nat}{X:Cm}{Z:Cx}
theorem Sk.of_blocks {w w':World}{s m N:Nat}{A:Nat→Bool}{x r:Int}(h:Sk w s m N A x r) (e:∀ j,Sb s m j→w'.heap[j]?=w.heap[j]?):Sk w' s m N A x r:=⟨(e s (.inl rfl)).trans h.here,h.set.of_block (e m (.inr rfl)),h.few⟩
theorem CvC.lt (H:CvC B w0 w hb X Z):∀ i k,Z.own hb X.T i k→k<w.heap.size
 | 0,k,h=>H.hv.lt k h
 | 1,k,h=>by
  rcases h with rfl|rfl
  ·exact H.sk.lt
  ·exact H.sk.set.lt
 | 2,k,h=>H.wk.mb_lt k h
 | 3,k,h=>by rw[show k=hb from h];exact z02 H.here
 | 4,k,h=>by rw[show k=Z.rb from h];exact H.rts.lt
 | 5,k,h=>(H.row.lt h).2
 | t+6,k,h=>((H.rt t h.1).lt h.2).2
theorem CvC.all_lt (H:CvC B w0 w hb X Z) {k:Nat}(h:Z.all hb X.T k):k<w.heap.size:=let ⟨i,hi⟩:=h;H.lt i k hi
theorem CvC.keep (H:CvC B w0 w hb X Z) (e:∀ k,Z.all hb X.T k→w'.heap[k]?=w.heap[k]?) (hs:w.heap.size≤w'.heap.size) (hB:Below B w0 w'):CvC B w0 w' hb X Z :=
 ⟨H.hv.keep (fun k hk=>e k ⟨0,hk⟩) hs hB,H.sk.of_blocks (fun k hk=>e k ⟨1,hk⟩),H.wk.of_blocks (fun k hk=>e k ⟨2,hk⟩),(e hb ⟨3,rfl⟩).trans H.here,H.rts.of_block (e Z.rb ⟨4,rfl⟩),fun t ht=>(H.rt t ht).of_block fun j hj=>e j ⟨t+6,ht,hj⟩,H.row.of_block fun j hj=>e j ⟨5,hj⟩,H.dis,H.low,H.ok,H.lim,H.rtl,H.fit⟩
theorem CvC.below (H:CvC B w0 w hb X Z) (b:Below w.heap.size w w'):CvC B w0 w' hb X Z:=H.keep (fun _ hk=>b.block _ (H.all_lt hk)) b.size (H.hv.bel.trans (b.mono H.hv.size))
theorem CvC.stay (H:CvC B w0 w hb X Z) {i:Nat}(hB:Bt (Z.own hb X.T i) w w') {j k:Nat}(hj:j≠i) (hk:Z.own hb X.T j k):w'.heap[k]?=w.heap[k]? :=
 hB.block k (H.lt j k hk) fun q=>hj (H.dis j i k hk q)
theorem CvC.under (H:CvC B w0 w hb X Z) {i:Nat}(hB:Bt (Z.own hb X.T i) w w'):Below B w0 w':=Bt.under H.hv.bel H.hv.size (H.low i) hB
def CcT (B:Nat) (w0 w:World) (hb:Nat) (Z:Cx) (X':Cm) (w':World):Prop:=∃ Z',CvC B w0 w' hb X' Z'∧Bt (Z.all hb X'.T) w w'∧Wider (Z.all hb X'.T) (Z'.all hb X'.T) w
theorem CcT.after {w1:World}{X':Cm}(b:Below w.heap.size w w1) (h:CcT B w0 w1 hb Z X' w'):CcT B w0 w hb Z X' w':=by
 obtain⟨Z',h1,h2,h3⟩:=h
 exact⟨Z',h1,(Bt.of_below b).trans h2,fun k hk=>(h3 k hk).imp id (fun r=>Nat.le_trans b.size r)⟩
theorem CvC.same (H:CvC B w0 w hb X Z):CcT B w0 w hb Z X w:=⟨Z,H,Bt.refl _ _,Wider.refl _ _⟩
theorem CcT.then {w1:World}{X':Cm}(h2:Bt (Z.all hb X'.T) w w1) {Z1:Cx}(h3:Wider (Z.all hb X'.T) (Z1.all hb X'.T) w) (h:CcT B w0 w1 hb Z1 X' w'):CcT B w0 w hb Z X' w':=by
 obtain⟨Z',k1,k2,k3⟩:=h
 exact⟨Z',k1,h2.wide k2 h3,h3.trans k3 h2.size⟩
def CcH (B:Nat) (w0 w:World) (hb:Nat) (Z:Cx) (X':Cm) (w':World):Prop:=∃ P',CvC B w0 w' hb X' { Z with P:=P' }∧Bt (Z.all hb X'.T) w w'∧Wider (Z.all hb X'.T) (({ Z with P:=P' }:Cx).all hb X'.T) w
theorem CcH.turn {X':Cm}(h:CcH B w0 w hb Z X' w'):CcT B w0 w hb Z X' w':=let ⟨P',h⟩:=h;⟨{ Z with P:=P' },h⟩
theorem CcH.after {w1:World}{X':Cm}(b:Below w.heap.size w w1) (h:CcH B w0 w1 hb Z X' w'):CcH B w0 w hb Z X' w':=by
 obtain⟨Z',h1,h2,h3⟩:=h
 exact⟨Z',h1,(Bt.of_below b).trans h2,fun k hk=>(h3 k hk).imp id (fun r=>Nat.le_trans b.size r)⟩
theorem CvC.cells (H:CvC B w0 w hb X Z) {m:Nat}{c:Int→Int}{S:List (Option Cel)}{F:Nat→Nat→Int}(hf:sumS S≤X.W/4) (ht:HvT B w0 w Z.P Z.h X.W (X.T+1) m c S F w'):CcH B w0 w hb Z { X with m:=m,c:=c,S:=S,F:=F } w':=by
 obtain⟨P',h1,h2,h3⟩:=ht
 have h2':Bt (Z.own hb X.T 0) w w':=h2
 have he:∀ j k,j≠0→({ Z with P:=P' }:Cx).own hb X.T j k→Z.own hb X.T j k:=fun j k hj hk=>by
  match j,hj,hk with
  | 1,_,hk=>exact hk
  | 2,_,hk=>exact hk
  | 3,_,hk=>exact hk
  | 4,_,hk=>exact hk
  | 5,_,hk=>exact hk
  | t+6,_,hk=>exact hk
 have hn:∀ k,({ Z with P:=P' }:Cx).own hb X.T 0 k→Z.own hb X.T 0 k∨w.heap.size≤k:=fun k hk=>h3 k hk
 refine⟨P',⟨h1,H.sk.of_blocks fun k hk=>H.stay h2' (j:=1) (by decide) hk,H.wk.of_blocks fun k hk=>H.stay h2' (j:=2) (by decide) hk,(H.stay h2' (j:=3) (by decide) rfl).trans H.here,H.rts.of_block (H.stay h2' (j:=4) (by decide) rfl),fun t ht=>(H.rt t ht).of_block fun j hj=>H.stay h2' (j:=t+6) (by omega) ⟨ht,hj⟩,H.row.of_block fun j hj=>H.stay h2' (j:=5) (by decide) hj,z7b H.dis H.lt 0 hn he,fun i k hk=>?_,H.ok,H.lim,H.rtl,hf⟩,h2.mono fun k _ hk=>⟨0,hk⟩,fun k hk=>?_⟩
 ·by_cases e:i=0
  ·subst e;exact h1.own k hk
  ·exact H.low i k (he i k e hk)
 ·obtain⟨i,hi⟩:=hk
  by_cases e:i=0
  ·subst e;exact (h3 k hi).imp (fun r=>⟨0,r⟩) id
  ·exact .inl ⟨i,he i k e hi⟩
theorem CvC.shakes (H:CvC B w0 w hb X Z) {A:Nat→Bool}{x r:Int}(hs:Sk w' Z.s Z.ms X.T A x r) (hB:Bt (Sb Z.s Z.ms) w w'):CvC B w0 w' hb { X with A:=A,x:=x,r:=r } Z:=by
 have h2':Bt (Z.own hb X.T 1) w w':=hB
 exact⟨H.hv.keep (fun k hk=>H.stay h2' (j:=0) (by decide) hk) hB.size (H.under h2'),hs,H.wk.of_blocks fun k hk=>H.stay h2' (j:=2) (by decide) hk,(H.stay h2' (j:=3) (by decide) rfl).trans H.here,H.rts.of_block (H.stay h2' (j:=4) (by decide) rfl),fun t ht=>(H.rt t ht).of_block fun j hj=>H.stay h2' (j:=t+6) (by omega) ⟨ht,hj⟩,H.row.of_block fun j hj=>H.stay h2' (j:=5) (by decide) hj,H.dis,H.low,H.ok,H.lim,H.rtl,H.fit⟩
theorem CvC.cols (H:CvC B w0 w hb X Z) {col:Nat→Int}{q:List Nat}(hm:Mk w' Z.k Z.bc Z.bi (z06 X.W/16) col q) (hB:Bt (Mb Z.k Z.bc Z.bi) w w') (hq:∀ p∈q,p<X.tr.row.length):CvC B w0 w' hb { X with tr:={ X.tr with col:=col,q:=q } } Z:=by
 have h2':Bt (Z.own hb X.T 2) w w':=hB
 exact⟨H.hv.keep (fun k hk=>H.stay h2' (j:=0) (by decide) hk) hB.size (H.under h2'),H.sk.of_blocks fun k hk=>H.stay h2' (j:=1) (by decide) hk,hm,(H.stay h2' (j:=3) (by decide) rfl).trans H.here,H.rts.of_block (H.stay h2' (j:=4) (by decide) rfl),fun t ht=>(H.rt t ht).of_block fun j hj=>H.stay h2' (j:=t+6) (by omega) ⟨ht,hj⟩,H.row.of_block fun j hj=>H.stay h2' (j:=5) (by decide) hj,H.dis,H.low,⟨H.ok.rise,H.ok.few,hq,H.ok.swl,H.ok.lk⟩,H.lim,H.rtl,H.fit⟩
theorem CvC.poke (H:CvC B w0 w hb X Z) (h1:Bt (fun k=>k=hb) w w') {tr:Tr}{ph cy:Int}(e1:tr.row=X.tr.row) (e2:tr.col=X.tr.col) (e3:tr.q=X.tr.q) (e4:tr.sw≤tr.row.length) (e5:0≤tr.ln∧tr.ln≤tr.lw∧tr.lw≤100000) (h2:w'.heap[hb]?=some (.cells (cst { X with tr:=tr,ph:=ph,cy:=cy } Z) 86 (0,0))):CvC B w0 w' hb { X with tr:=tr,ph:=ph,cy:=cy } Z:=by
 have h2':Bt (Z.own hb X.T 3) w w':=h1
 exact⟨H.hv.keep (fun k hk=>H.stay h2' (j:=0) (by decide) hk) h1.size (H.under h2'),H.sk.of_blocks fun k hk=>H.stay h2' (j:=1) (by decide) hk,by show Mk w' _ _ _ _ tr.col tr.q;rw[e2,e3];exact H.wk.of_blocks fun k hk=>H.stay h2' (j:=2) (by decide) hk,h2,H.rts.of_block (H.stay h2' (j:=4) (by decide) rfl),fun t ht=>(H.rt t ht).of_block fun j hj=>H.stay h2' (j:=t+6) (by omega) ⟨ht,hj⟩,by show Ri w' B Z.vw tr.row;rw[e1];exact H.row.of_block fun j hj=>H.stay h2' (j:=5) (by decide) hj,H.dis,H.low,⟨by show z0g tr.row;rw[e1];exact H.ok.rise,by show tr.row.length≤_;rw[e1];exact H.ok.few,by show ∀ p∈tr.q,p<tr.row.length;rw[e1,e3];exact H.ok.inr,e4,e5⟩,H.lim,H.rtl,H.fit⟩
theorem CvC.set (H:CvC B w0 w hb X Z) (j:Nat) (v:Value) {tr:Tr}{ph cy:Int}(e1:tr.row=X.tr.row) (e2:tr.col=X.tr.col) (e3:tr.q=X.tr.q) (e4:tr.sw≤tr.row.length) (e5:0≤tr.ln∧tr.ln≤tr.lw∧tr.lw≤100000) (h2:(cst X Z).setIfInBounds j v=cst { X with tr:=tr,ph:=ph,cy:=cy } Z):CvC B w0 (w.setCell ⟨hb,j,none⟩ v) hb { X with tr:=tr,ph:=ph,cy:=cy } Z∧Bt (Z.all hb X.T) w (w.setCell ⟨hb,j,none⟩ v):=by
 have hB:Bt (fun k=>k=hb) w (w.setCell ⟨hb,j,none⟩ v):=(Bt.refl _ w).set hb j v (.inl rfl)
 exact⟨H.poke hB e1 e2 e3 e4 e5 (by rw[mset H.here,h2]),hB.mono fun k _ hk=>⟨3,hk⟩⟩
theorem CvC.hlt (H:CvC B w0 w hb X Z):hb<w.heap.size:=z02 H.here
theorem CvC.fz (H:CvC B w0 w hb X Z) (j:Nat):w.frozen? ⟨hb,j,none⟩=false:=frz H.here j
theorem CvC.c0 (H:CvC B w0 w hb X Z):w.cell? ⟨hb,0,none⟩=some (.pointer (some ⟨Z.h,0,none⟩)):=by simp[World.cell?,H.here,cst]
theorem CvC.c1 (H:CvC B w0 w hb X Z):w.cell? ⟨hb,1,none⟩=some (.int .i64 (z2g X.W)):=by simp[World.cell?,H.here,cst]
theorem CvC.c2 (H:CvC B w0 w hb X Z):w.cell? ⟨hb,2,none⟩=some (.slice (some ⟨Z.rb,0,none⟩) X.T X.T):=by simp[World.cell?,H.here,cst]
theorem CvC.c3 (H:CvC B w0 w hb X Z):w.cell? ⟨hb,3,none⟩=some (.pointer (some ⟨Z.s,0,none⟩)):=by simp[World.cell?,H.here,cst]
theorem CvC.c4 (H:CvC B w0 w hb X Z):w.cell? ⟨hb,4,none⟩=some (.pointer (some ⟨Z.h,0,none⟩)):=by simp[World.cell?,H.here,cst]
theorem CvC.c5 (H:CvC B w0 w hb X Z):w.cell? ⟨hb,5,none⟩=some (.int .i64 X.T):=by simp[World.cell?,H.here,cst]
theorem CvC.c6 (H:CvC B w0 w hb X Z):w.cell? ⟨hb,6,none⟩=some (Z.vw):=by simp[World.cell?,H.here,cst]
theorem CvC.c7 (H:CvC B w0 w hb X Z):w.cell? ⟨hb,7,none⟩=some (.pointer (some ⟨Z.k,0,none⟩)):=by simp[World.cell?,H.here,cst]
theorem CvC.c8 (H:CvC B w0 w hb X Z):w.cell? ⟨hb,8,none⟩=some (.int .i64 X.tr.lr):=by simp[World.cell?,H.here,cst]
theorem CvC.c9 (H:CvC B w0 w hb X Z):w.cell? ⟨hb,9,none⟩=some (.int .i64 X.tr.ln):=by simp[World.cell?,H.here,cst]
theorem CvC.c10 (H:CvC B w0 w hb X Z):w.cell? ⟨hb,10,none⟩=some (.int .i64 X.tr.lw):=by simp[World.cell?,H.here,cst]
theorem CvC.c11 (H:CvC B w0 w hb X Z):w.cell? ⟨hb,11,none⟩=some (.int .i64 X.tr.sw):=by simp[World.cell?,H.here,cst]
theorem CvC.c12 (H:CvC B w0 w hb X Z):w.cell? ⟨hb,12,none⟩=some (.int .i64 X.ph):=by simp[World.cell?,H.here,cst]
theorem CvC.c13 (H:CvC B w0 w hb X Z):w.cell? ⟨hb,13,none⟩=some (.int .i64 X.cy):=by simp[World.cell?,H.here,cst]
theorem CvC.cells14 (H:CvC B w0 w hb X Z):(w.cell? ⟨hb,0,none⟩=some (.pointer (some ⟨Z.h,0,none⟩))∧w.cell? ⟨hb,1,none⟩=some (.int .i64 (z2g X.W))∧w.cell? ⟨hb,2,none⟩=some (.slice (some ⟨Z.rb,0,none⟩) X.T X.T)∧w.cell? ⟨hb,3,none⟩=some (.pointer (some ⟨Z.s,0,none⟩))∧w.cell? ⟨hb,4,none⟩=some (.pointer (some ⟨Z.h,0,none⟩))∧w.cell? ⟨hb,5,none⟩=some (.int .i64 X.T)∧w.cell? ⟨hb,6,none⟩=some Z.vw∧w.cell? ⟨hb,7,none⟩=some (.pointer (some ⟨Z.k,0,none⟩))∧w.cell? ⟨hb,8,none⟩=some (.int .i64 X.tr.lr)∧w.cell? ⟨hb,9,none⟩=some (.int .i64 X.tr.ln)∧w.cell? ⟨hb,10,none⟩=some (.int .i64 X.tr.lw)∧w.cell? ⟨hb,11,none⟩=some (.int .i64 X.tr.sw)∧w.cell? ⟨hb,12,none⟩=some (.int .i64 X.ph)∧w.cell? ⟨hb,13,none⟩=some (.int .i64 X.cy))∧hb<w.heap.size∧∀ j,w.frozen? ⟨hb,j,none⟩=false:=by
 refine⟨?_,z02 H.here,fun j=>frz H.here j⟩
 simp[World.cell?,H.here,cst]
end
end Go.Proofs.YthkelaeemefnaaaGreat
namespace Go.Proofs.YthkelaeemefnaaaGreat
open Go.RowKit
theorem zel (x:Int) (w:World):Calls Tryz.prog 120 #[.int .i64 x] w fun e w'=>e=.returned (.bool false)∧w'=w:=by
 go_enter Tryz.func120,Tryz.ntmps120
 go_wp2
 go_ret
 exact⟨rfl,rfl⟩
theorem z7V (a b:Int) (w:World):Calls Tryz.prog 119 #[.int .i64 a,.int .i64 b] w fun e w'=>e=.returned (.bool (decide (a<b)))∧w'=w:=by
 go_enter Tryz.func119,Tryz.ntmps119
 go_wp2_with (go_at_call 143;refine (z89 _ _).mono ?_;rintro e w9 ⟨rfl,hw9⟩;replace hw9:=hw9.symm;subst hw9)
 go_ret
 exact⟨rfl,rfl⟩
theorem bsI {w:World}{B:Nat}{v:Value}{U:List Int}(h:Ri w B v U) (hs:z0g U) (hl:U.length<1000000) (t:Int):
  Calls Tryz.prog 97 #[v,.int .i64 t] w fun e w'=>e=.returned (.tuple #[.int .i64 (posK U t),.bool (hasK U t)])∧w'=w:=by
 obtain⟨ao,cap,rfl⟩:=h.form
 have hpl:=z6O U t
 have HS:Hid (∀ (i:Nat) (x:Int),U[i]?=some x→(i<posK U t↔x<t)):=z1t U t hs
 have HA:Hid (hasK U t=true→U[posK U t]?=some t):=z1P hs
 have HN:Hid (hasK U t=false→∀ (i:Nat) (x:Int),U[i]?=some x→x≠t):=fun q i x=>z4s q
 have HC:Hid (∀ i,i<U.length→∃ (p:Nat) (x:Int),ao=some ⟨p,0,none⟩∧U[i]?=some x∧p<w.heap.size∧w.cell? ⟨p,i,none⟩=some (.int .i64 x)):=fun i hi=>by
  obtain⟨p,rfl,hp,_,_,hc⟩:=h.cells (by omega)
  have hri:U[i]?=some U[i]:=List.getElem?_eq_getElem hi
  exact⟨p,_,rfl,hri,hp.2,hc i _ hri⟩
 generalize hP:posK U t=P at *
 generalize hF:hasK U t=F at *
 clear hP hF hs h
 generalize hN:U.length=N at *
 have HL:Hid (U.length=N):=hN
 clear hN
 go_enter Tryz.func97,Tryz.ntmps97
 go_wp2
 go_loopg [7,8] N (fun kx s7 s8 wr=>∃ lo hi:Nat,s7=.int .i64 lo∧s8=.int .i64 hi∧lo≤P∧P≤hi∧hi≤N∧hi-lo≤kx∧wr=w)
 case atStart=>exact⟨0,N,rfl,rfl,by omega,by omega,by omega,by omega,rfl⟩
 case round =>
  obtain⟨lo,hi,rfl,rfl,h1,h2,h3,h4,rfl⟩:=hrel
  by_cases hlt:lo<hi
  ·have hm:(lo+hi)/2<N:=by omega
   obtain⟨p,x,rfl,hx,hp,hc⟩:=HC.out ((lo+hi)/2) (by omega)
   have hx':=HS.out _ _ hx
   clear hx
   by_cases hyx:x<t
   ·have hlp:(lo+hi)/2<P:=hx'.2 hyx
    have hd:decide (x<t)=true:=by simpa using hyx
    clear hx'
    go_wp2_with (go_at_call 119;refine (z7V _ _ _).mono ?_;rintro e w9 ⟨rfl,hw9⟩;replace hw9:=hw9.symm;subst hw9;rw[hd])
    go_roundg (hi-((lo+hi)/2+1))
    case measure=>omega
    case rel=>exact⟨(lo+hi)/2+1,hi,by rw[show ((lo:Int)+(hi:Int))/2+1=(((lo+hi)/2+1:Nat):Int) by omega],rfl,by omega,h2,h3,by omega,rfl⟩
   ·have hlp:P≤(lo+hi)/2:=by
     have:¬ (lo+hi)/2<P:=fun q=>hyx (hx'.1 q)
     omega
    have hd:decide (x<t)=false:=by simpa using hyx
    clear hx'
    go_wp2_with (go_at_call 119;refine (z7V _ _ _).mono ?_;rintro e w9 ⟨rfl,hw9⟩;replace hw9:=hw9.symm;subst hw9;rw[hd])
    go_roundg ((lo+hi)/2-lo)
    case measure=>omega
    case rel=>exact⟨lo,(lo+hi)/2,rfl,by rw[show ((lo:Int)+(hi:Int))/2=(((lo+hi)/2:Nat):Int) by omega],h1,by omega,by omega,by omega,rfl⟩
  ·obtain rfl:hi=lo:=by omega
   obtain rfl:P=hi:=by omega
   by_cases hn:P<N
   ·obtain⟨p,x,rfl,hx,hp,hc⟩:=HC.out P hn
    have hx':=HS.out _ _ hx
    cases hF:F with
    | true =>
     subst hF
     have hy:=HA.out rfl
     rw[hx] at hy
     obtain rfl:=Option.some.inj hy
     clear hx hy hx' HA HN
     have hq:(x == x)=true:=by simp
     go_wp2
     go_ret2
     exact⟨rfl,rfl⟩
    | false =>
     subst hF
     have hne:=HN.out rfl _ _ hx
     have hq:(x == t)=false:=by simpa using hne
     clear hx hx' hne HA HN
     go_wp2_with (go_at_call 120;refine (zel _ _).mono ?_;rintro e w9 ⟨rfl,hw9⟩;replace hw9:=hw9.symm;subst hw9)
     go_ret2
     exact⟨rfl,rfl⟩
   ·have hF:F=false:=by
     cases hF:F with
     | false=>rfl
     | true =>
      have:=(List.getElem?_eq_some_iff.1 (HA.out hF)).1
      rw[HL.out] at this
      omega
    subst hF
    clear HA HN
    go_wp2
    go_ret2
    exact⟨rfl,rfl⟩
section
variable {B:Nat}{w w':World}{rb T t:Nat}{vr:Nat→Value}{U:List Int}
theorem z4V (hr:w.rowIs rb 102 T (fun i=>vr i)) (ht:t<T) (hU:Ri w B (vr t) U):
  Calls Tryz.prog 80 #[.pointer (some ⟨rb,t,none⟩)] w fun e w'=>e=.returned (.bool (decide (64≤U.length)))∧w'=w:=by
 have hc:=hr.cell ht
 have hl:=hr.lt
 obtain⟨ao,cap,e⟩:=hU.form
 rw[e] at hc
 have hd:decide ((64:Int)≤(U.length:Int))=decide (64≤U.length):=by congr 1;exact propext (by omega)
 generalize decide (64≤U.length)=b at *
 generalize U.length=n at *
 clear hr hU
 go_enter Tryz.func80,Tryz.ntmps80
 go_wp2
 go_ret
 exact⟨by rw[← hd];rfl,rfl⟩
def z5t (B:Nat) (w:World) (rb T t:Nat) (vr:Nat→Value) (U:List Int) (w':World):Prop :=
 ∃ v',Ri w' B v' U∧w'.rowIs rb 102 T (fun i=>if i=t then v' else vr i)∧Bt (fun k=>k=rb∨(vr t).ownBlock=some k) w w'∧(v'.ownBlock=(vr t).ownBlock∨∃ j,v'.ownBlock=some j∧w.heap.size≤j)
attribute [local go_sem ↓] z1I
theorem z9E (hr:w.rowIs rb 102 T (fun i=>vr i)) (ht:t<T) (hU:Ri w B (vr t) U) (hB:B≤w.heap.size) (hl:U.length≤100000) (x:Int):
  Calls Tryz.prog 81 #[.pointer (some ⟨rb,t,none⟩),.int .i64 x] w fun e w'=>e=.returned (.tuple #[])∧z5t B w rb T t vr (U++[x]) w':=by
 have hc:=hr.cell ht
 have hlt:=hr.lt
 obtain⟨ao,cap,e⟩:=hU.form
 have hne:∀ k,(vr t).ownBlock=some k→k≠rb:=fun k hk q=>by
  subst q
  obtain⟨cur,h2⟩:=hU.kind hk
  obtain⟨c0,h1,_⟩:=hr
  rw[h1] at h2;simp at h2
 obtain⟨ao',cap',w3,hrun,hU3,hg,hat⟩:=hU.more x hB hl (heap_alloc_new w (.cells #[.int .i64 x] 3)) ((Below.refl _ _).alloc (Nat.le_refl _) _)
 have hr3:w3.rowIs rb 102 T (fun i=>vr i):=hr.of_block (hg.block rb hlt (fun q=>hne rb q.symm rfl))
 have c3:=hr3.cell ht
 have l3:=hr3.lt
 have f3:=hr3.frozen t
 have HF:Hid (z5t B w rb T t vr (U++[x]) (w3.setCell ⟨rb,t,none⟩ (.slice ao' (U.length+1) cap'))):=by
  have hne3:∀ k,(Value.slice ao' (U.length+1) cap').ownBlock=some k→k≠rb:=fun k hk q=>by
   subst q
   obtain⟨cur,h2⟩:=hU3.kind hk
   obtain⟨c0,h1,_⟩:=hr3
   rw[h1] at h2;simp at h2
  refine⟨_,hU3.of_block (fun j hj=>z03 _ _ (hne3 j hj)),(hr3.set t _).congr (fun i _=>?_),⟨hg.os,hg.tape,hg.output,by have:=hg.size;simp[World.setCell];omega,fun k hk q=>?_⟩,hat⟩
  ·by_cases e:i=t
   ·simp[e]
   ·simp[e]
  ·exact (z03 _ _ (fun z=>q (.inl z))).trans (hg.block k hk (fun z=>q (.inr z.symm)))
 rw[e] at hc c3 hrun
 clear hr hU hU3 hg hat hr3 hne e
 generalize U.length=n at *
 go_enter Tryz.func81,Tryz.ntmps81
 go_wp2
 go_end0
 exact⟨rfl,HF.out⟩
theorem zcL (hr:w.rowIs rb 102 T (fun i=>vr i)) (ht:t<T) (hU:Ri w B (vr t) []):
  Calls Tryz.prog 70 #[.pointer (some ⟨rb,t,none⟩)] w fun e w'=>e=.returned (.tuple #[.int .i64 0,.bool false])∧w'=w:=by
 have hc:=hr.cell ht
 have hlt:=hr.lt
 obtain⟨ao,cap,e⟩:=hU.form
 rw[e] at hc
 clear hr hU
 go_enter Tryz.func70,Tryz.ntmps70
 go_wp2
 go_ret2
 exact⟨rfl,rfl⟩
theorem zf4 (hr:w.rowIs rb 102 T (fun i=>vr i)) (ht:t<T) {x:Int}(hU:Ri w B (vr t) (U++[x])) (hl:U.length≤100000):
  Calls Tryz.prog 70 #[.pointer (some ⟨rb,t,none⟩)] w fun e w'=>e=.returned (.tuple #[.int .i64 x,.bool true])∧z5t B w rb T t vr U w':=by
 have hc:=hr.cell ht
 have hlt:=hr.lt
 have f3:=hr.frozen t
 obtain⟨ao,cap,e⟩:=hU.form
 have hU2:=hU
 rw[e] at hU2
 obtain⟨p,rfl,hp,hcap,_,hcs⟩:=hU2.cells (by simp)
 have cl:=hcs U.length x (by simp)
 have hcut:=hU2.cut
 have hne:p≠rb:=fun q=>by
  subst q
  obtain⟨cur,h2⟩:=hU2.kind (j:=p) rfl
  obtain⟨c0,h1,_⟩:=hr
  rw[h1] at h2;simp at h2
 rw[List.length_append,List.length_singleton] at e hcap
 have HF:Hid (z5t B w rb T t vr U (w.setCell ⟨rb,t,none⟩ (.slice (some ⟨p,0,none⟩) U.length cap))):=by
  refine⟨_,hcut.of_block (fun j hj=>?_),(hr.set t _).congr (fun i _=>?_),⟨rfl,rfl,rfl,by simp[World.setCell],fun k hk q=>z03 _ _ (fun z=>q (.inl z))⟩,.inl (by rw[e];rfl)⟩
  ·simp only[Value.ownBlock,Option.some.injEq] at hj
   subst hj
   exact z03 _ _ hne
  ·by_cases e:i=t
   ·simp[e]
   ·simp[e]
 have hp2:=hp.2
 have hcap1:=hcap.1
 rw[e] at hc
 have s0:¬ cap=0:=by omega
 have s1:U.length≤cap:=by omega
 clear hr hU hU2 hcut hne e hcs
 generalize U.length=n at *
 go_enter Tryz.func70,Tryz.ntmps70
 go_wp2
 go_ret2
 exact⟨rfl,HF.out⟩
end
section
variable {B:Nat}{w0 w w':World}{hb:Nat}{X:Cm}{Z:Cx}
theorem CvC.root (H:CvC B w0 w hb X Z) {t:Nat}(ht:t<X.T) {U:List Int}(hl:U.length≤64) (hp:z5t B w Z.rb X.T t Z.vr U w'):CcT B w0 w hb Z { X with rt:=setL X.rt t U } w':=by
 obtain⟨v',h1,h2,h3,h4⟩:=hp
 have st:∀ j k,j≠4→j≠t+6→Z.own hb X.T j k→w'.heap[k]?=w.heap[k]?:=fun j k n1 n2 hk=>h3.block k (H.lt j k hk) fun q=>q.elim (fun q=>n1 (H.dis j 4 k hk q)) (fun q=>n2 (H.dis j (t+6) k hk ⟨ht,q⟩))
 have hB:Below B w0 w':=Bt.under H.hv.bel H.hv.size (fun k q=>q.elim (fun q=>H.low 4 k q) (fun q=>H.low (t+6) k ⟨ht,q⟩)) h3
 have he:∀ j k,j≠t+6→({ Z with vr:=fun i=>if i=t then v' else Z.vr i }:Cx).own hb X.T j k→Z.own hb X.T j k:=fun j k hj hk=>by
  match j,hj,hk with
  | 0,_,hk=>exact hk
  | 1,_,hk=>exact hk
  | 2,_,hk=>exact hk
  | 3,_,hk=>exact hk
  | 4,_,hk=>exact hk
  | 5,_,hk=>exact hk
  | i+6,hj,hk =>
   have e:i≠t:=by omega
   obtain⟨k1,k2⟩:=hk
   refine⟨k1,?_⟩
   simpa [e] using k2
 have hn:∀ k,({ Z with vr:=fun i=>if i=t then v' else Z.vr i }:Cx).own hb X.T (t+6) k→Z.own hb X.T (t+6) k∨w.heap.size≤k:=fun k hk=>by
  obtain⟨k1,k2⟩:=hk
  have k3:v'.ownBlock=some k:=by simpa using k2
  rcases h4 with q|⟨j,q1,q2⟩
  ·exact .inl ⟨k1,by rw[← q];exact k3⟩
  ·rw[k3] at q1;simp at q1;exact .inr (by omega)
 refine⟨{ Z with vr:=fun i=>if i=t then v' else Z.vr i },⟨H.hv.keep (fun k hk=>st 0 k (by decide) (by omega) hk) h3.size hB,H.sk.of_blocks fun k hk=>st 1 k (by decide) (by omega) hk,H.wk.of_blocks fun k hk=>st 2 k (by decide) (by omega) hk,(st 3 hb (by decide) (by omega) rfl).trans H.here,h2,fun i hi=>?_,H.row.of_block fun j hj=>st 5 j (by decide) (by omega) hj,z7b H.dis H.lt (t+6) hn he,fun i k hk=>?_,H.ok,H.lim,fun i hi=>?_,H.fit⟩,h3.mono fun k _ hk=>hk.elim (fun q=>⟨4,q⟩) (fun q=>⟨t+6,ht,q⟩),fun k hk=>?_⟩
 ·show Ri w' B (if i=t then v' else Z.vr i) (setL X.rt t U i)
  unfold setL
  by_cases e:i=t
  ·rw[if_pos e,if_pos e];exact h1
  ·rw[if_neg e,if_neg e]
   exact (H.rt i hi).of_block fun j hj=>st (i+6) j (by omega) (by omega) ⟨hi,hj⟩
 ·by_cases e:i=t+6
  ·subst e
   rcases hn k hk with q|q
   ·exact H.low _ k q
   ·exact Nat.le_trans H.hv.size q
  ·exact H.low i k (he i k e hk)
 ·show (setL X.rt t U i).length≤64
  unfold setL
  by_cases e:i=t
  ·rw[if_pos e];exact hl
  ·rw[if_neg e];exact H.rtl i hi
 ·obtain⟨i,hi⟩:=hk
  by_cases e:i=t+6
  ·subst e
   exact (hn k hi).imp (fun q=>⟨t+6,q⟩) id
  ·exact .inl ⟨i,he i k e hi⟩
end
end Go.Proofs.YthkelaeemefnaaaGreat
namespace Go.Proofs.YthkelaeemefnaaaGreat
open Go.RowKit
section
variable {B:Nat}{w0 w w':World}{hb:Nat}{X:Cm}{Z:Cx}
theorem zfq {W:Nat}(h:W≤20000):z06 W/16<1000:=by unfold z06;omega
def CcS (B:Nat) (w0 w:World) (hb:Nat) (Z:Cx) (X':Cm) (w':World):Prop:=CvC B w0 w' hb X' Z∧Bt (Z.all hb X'.T) w w'
theorem CcS.turn {X':Cm}(h:CcS B w0 w hb Z X' w'):CcT B w0 w hb Z X' w':=⟨Z,h.1,h.2,Wider.refl _ _⟩
theorem CvC.row_few (H:CvC B w0 w hb X Z):X.tr.row.length<1000:=Nat.lt_of_le_of_lt H.ok.few (zfq H.lim.1.2)
theorem z32 (H:CvC B w0 w hb X Z) (r:Int):
  Calls Tryz.prog 71 #[.pointer (some ⟨hb,4,none⟩),.int .i64 r] w fun e w'=>e=.returned (.tuple #[])∧CcS B w0 w hb Z { X with tr:=X.tr.mark r } w':=by
 obtain⟨cc,hlt,_⟩:=H.cells14
 have hS:=bsI H.row H.ok.rise (by have:=H.row_few;omega) r
 obtain⟨ao,cap,hv⟩:=H.row.form
 cases hh:hasK X.tr.row r with
 | false =>
  rw[hh] at hS
  have e:X.tr.mark r=X.tr:=by unfold Tr.mark;rw[hh];rfl
  rw[e]
  have HF:Hid (CcS B w0 w hb Z { X with tr:=X.tr } w):=⟨H,Bt.refl _ _⟩
  rw[hv] at cc hS
  clear H hv hh e
  generalize posK X.tr.row r=P at *
  generalize X.tr.row.length=N at *
  go_enter Tryz.func71,Tryz.ntmps71
  go_wp2_with (go_at_call 97;refine hS.mono ?_;rintro e w9 ⟨rfl,hw9⟩;replace hw9:=hw9.symm;subst hw9)
  go_end0
  exact⟨rfl,HF.out⟩
 | true =>
  rw[hh] at hS
  have hp:=z6F H.ok.rise hh
  have hpN:=Nat.lt_of_lt_of_le hp H.ok.few
  have e:X.tr.mark r=X.tr.grey (posK X.tr.row r):=by unfold Tr.mark;rw[hh];rfl
  have hG:Calls Tryz.prog 98 #[.pointer (some ⟨Z.k,0,none⟩),.int .i64 (posK X.tr.row r:Nat)] w fun e w'=>(∃ b c,e=.returned (.tuple #[.bool b,.int .i64 c]))∧CcS B w0 w hb Z { X with tr:=X.tr.mark r } w':=by
   rw[e]
   by_cases hc:X.tr.col (posK X.tr.row r)=1
   ·refine (zcq H.wk (posK X.tr.row r) hpN hc).mono ?_
    rintro e w' ⟨rfl,h1,h2⟩
    refine⟨⟨_,_,rfl⟩,?_,h2.mono fun k _ hk=>⟨2,hk⟩⟩
    unfold Tr.grey
    rw[if_pos hc]
    exact H.cols h1 h2 fun p hq=>by
     rcases List.mem_append.1 hq with q|q
     ·exact H.ok.inr p q
     ·rw[List.mem_singleton.1 q];exact hp
   ·refine (zaH H.wk (posK X.tr.row r) hpN hc).mono ?_
    rintro e w' ⟨rfl,rfl⟩
    refine⟨⟨_,_,rfl⟩,?_,Bt.refl _ _⟩
    unfold Tr.grey
    rw[if_neg hc]
    exact H
  rw[hv] at cc hS
  clear H hv hh e hp hpN
  generalize posK X.tr.row r=P at *
  generalize X.tr.row.length=N at *
  go_enter Tryz.func71,Tryz.ntmps71
  go_wp2_with (first
   | (go_at_call 97;refine hS.mono ?_;rintro e w9 ⟨rfl,hw9⟩;replace hw9:=hw9.symm;subst hw9)
   | (go_at_call 98;refine hG.mono ?_;rintro e w1 ⟨⟨b,c,rfl⟩,hC⟩;have HF:Hid (CcS B w0 w hb Z { X with tr:=X.tr.mark r } w1):=hC;clear hC hG))
  go_end0
  exact⟨rfl,HF.out⟩
theorem z5P (H:CvC B w0 w hb X Z) (hm:X.m≤2000000) (r:Int):
  Calls Tryz.prog 107 #[.pointer (some ⟨hb,4,none⟩),.int .i64 r] w fun e w'=>e=.returned (.int .i64 (rfs X.S r:Nat))∧Below w.heap.size w w':=by
 obtain⟨cc,hlt,_⟩:=H.cells14
 cases hc:z0a X.S r with
 | none =>
  have e:rfs X.S r=0:=by unfold rfs;rw[hc]
  have hC:=z39 H.hv hm r (z0Y hc)
  rw[e]
  clear H hc e hm
  go_enter Tryz.func107,Tryz.ntmps107
  go_wp2_with (go_at_call 67;refine hC.mono ?_;rintro e w1 ⟨rfl,hb1⟩)
  go_ret
  exact⟨rfl,hb1.alloc hb1.size _⟩
 | some cl =>
  obtain⟨i,rfl,hi⟩:=z0d hc
  have hC:=z7L H.hv hm hi
  by_cases k1:cl.kind=1
  ·have e:rfs X.S ((i:Int)+1)=cl.n:=by unfold rfs;rw[hc];exact if_pos (.inl k1)
   rw[e]
   rw[k1] at hC
   generalize cl.n=n at *
   clear H hc hi e hm
   go_enter Tryz.func107,Tryz.ntmps107
   go_wp2_with (go_at_call 67;refine hC.mono ?_;rintro e w1 ⟨rfl,hb1⟩)
   go_ret
   exact⟨rfl,hb1.alloc hb1.size _⟩
  ·have k1':(cl.kind == 1)=false:=by simpa using k1
   by_cases k3:cl.kind=3
   ·have e:rfs X.S ((i:Int)+1)=cl.n:=by unfold rfs;rw[hc];exact if_pos (.inr k3)
    rw[e]
    rw[k3] at hC
    generalize cl.n=n at *
    clear H hc hi e hm
    go_enter Tryz.func107,Tryz.ntmps107
    go_wp2_with (go_at_call 67;refine hC.mono ?_;rintro e w1 ⟨rfl,hb1⟩)
    go_ret
    exact⟨rfl,hb1.alloc hb1.size _⟩
   ·have k3':(cl.kind == 3)=false:=by simpa using k3
    have e:rfs X.S ((i:Int)+1)=0:=by unfold rfs;rw[hc];exact if_neg (by omega)
    rw[e]
    generalize cl.kind=kd at *
    clear H hc hi e hm k1 k3
    go_enter Tryz.func107,Tryz.ntmps107
    go_wp2_with (go_at_call 67;refine hC.mono ?_;rintro e w1 ⟨rfl,hb1⟩)
    go_ret
    exact⟨rfl,hb1.alloc hb1.size _⟩
theorem Hv.more {P:Nat→Prop}{h W G m m':Nat}{c:Int→Int}{S:List (Option Cel)}{F:Nat→Nat→Int}(H:Hv B w0 w P h W G m c S F) (hm:m≤m'):Hv B w0 w P h W G m' c S F:=by
 obtain⟨Y,hX,e⟩:=H.cur
 obtain⟨f1,f2,f3,f4⟩:=hX.few
 exact⟨⟨Y,⟨hX.mem,hX.tab,hX.lnk,hX.enough,hX.big,hX.fit,hX.half,hX.calm,⟨by omega,by omega,by omega,by omega⟩,hX.cnt.mono (by omega)⟩,e⟩,H.own,H.bel,H.size⟩
theorem CvC.more (H:CvC B w0 w hb X Z) {m':Nat}(hm:X.m≤m'):CvC B w0 w hb { X with m:=m' } Z :=
 ⟨H.hv.more hm,H.sk,H.wk,H.here,H.rts,H.rt,H.row,H.dis,H.low,H.ok,H.lim,H.rtl,H.fit⟩
def Cm.mw (X:Cm) (r i:Int):Tr:=if 0≤i∧i<rfs X.S r then X.tr.mark (X.F (r-1).toNat i.toNat) else X.tr
theorem zco {S:List (Option Cel)}{r i:Int}(h:0≤i∧i<rfs S r):∃ (k:Nat) (cl:Cel) (j:Nat),r=(k:Int)+1∧S[k]?=some (some cl)∧i=j∧j<cl.n:=by
 unfold rfs at h
 cases hc:z0a S r with
 | none=>rw[hc] at h;simp at h;omega
 | some cl =>
  obtain⟨k,rfl,hk⟩:=z0d hc
  rw[hc] at h
  simp only at h
  split at h
  ·exact⟨k,cl,i.toNat,rfl,hk,by omega,by omega⟩
  ·simp at h;omega
def z3t (B:Nat) (w0 w:World) (hb:Nat) (Z:Cx) (X:Cm) (a r i:Int) (w':World):Prop:=∃ c',c' a≤X.c a+12∧X.c a≤c' a∧CcT B w0 w hb Z { X with m:=X.m+1,c:=c',tr:=X.mw r i } w'
theorem z3C (H:CvC B w0 w hb X Z) (hm:X.m≤1999999) (a r i:Int) (ha:0≤a∧a≤X.T):
  Calls Tryz.prog 84 #[.pointer (some ⟨hb,4,none⟩),.int .i64 a,.int .i64 r,.int .i64 i] w fun e w'=>e=.returned (.tuple #[])∧z3t B w0 w hb Z X a r i w':=by
 obtain⟨cc,hlt,_⟩:=H.cells14
 have hR:=z5P H (by omega) r
 by_cases hi:0≤i∧i<rfs X.S r
 ·obtain⟨k,cl,j,rfl,hk,rfl,hj⟩:=zco hi
  have hd:decide (rfs X.S ((k:Int)+1)≤j)=false:=by simp;omega
  have HX:Hid (∀ w1,Below w.heap.size w w1→w1.cell? ⟨hb,4,none⟩=some (.pointer (some ⟨Z.h,0,none⟩))∧hb<w1.heap.size∧Calls Tryz.prog 85 #[.pointer (some ⟨Z.h,0,none⟩),.int .i64 a,.int .i64 ((k:Int)+1),.int .i64 j] w1 fun e w2=>e=.returned (.tuple #[.int .i64 (X.F k j),.int .i64 0])∧Calls Tryz.prog 71 #[.pointer (some ⟨hb,4,none⟩),.int .i64 (X.F k j)] w2 fun e w3=>e=.returned (.tuple #[])∧z3t B w0 w hb Z X a ((k:Int)+1) j w3):=fun w1 hb1=>by
   have H1:=H.below hb1
   refine⟨H1.cells14.1.2.2.2.2.1,H1.cells14.2.1,(z9A H1.hv (by omega) hk a j j (by omega) rfl hj).mono ?_⟩
   rintro e w2 ⟨rfl,c',u1,u2,hT⟩
   refine⟨rfl,?_⟩
   obtain⟨Z2,H2,b2,d2⟩:=(H1.cells H.fit hT).turn
   refine (z32 H2 (X.F k j)).mono ?_
   rintro e w3 ⟨rfl,h3,b3⟩
   refine⟨rfl,c',u1,u2,CcT.after hb1 ⟨Z2,?_,b2.wide b3 d2,d2⟩⟩
   have e:X.mw ((k:Int)+1) (j:Int)=X.tr.mark (X.F k j):=by
    unfold Cm.mw
    rw[if_pos hi,show ((k:Int)+1-1).toNat=k by omega,Int.toNat_natCast]
   rw[e]
   exact h3
  generalize rfs X.S ((k:Int)+1)=n at *
  generalize X.F k j=v at *
  clear H hi hk hm
  go_enter Tryz.func84,Tryz.ntmps84
  go_wp2_with (first
   | (go_at_call 107;refine hR.mono ?_;rintro e w1 ⟨rfl,hb1⟩;obtain⟨k1,k2,hL⟩:=HX.out w1 hb1;clear hR HX)
   | (go_at_call 85;refine hL.mono ?_;rintro e w2 ⟨rfl,hM⟩;clear hL)
   | (go_at_call 71;refine hM.mono ?_;rintro e w3 ⟨rfl,hP⟩;have HP:Hid (z3t B w0 w hb Z X a ((k:Int)+1) j w3):=hP;clear hM hP))
  go_end0
  exact⟨rfl,HP.out⟩
 ·have e:X.mw r i=X.tr:=if_neg hi
  by_cases h1:(rfs X.S r:Int)≤i
  ·have HF:Hid (∀ w1,Below w.heap.size w w1→z3t B w0 w hb Z X a r i w1):=fun w1 hb1=>⟨X.c,by omega,by omega,CcT.after hb1 (by rw[e];exact (CvC.more (H.below hb1) (m':=X.m+1) (by omega)).same)⟩
   generalize rfs X.S r=n at *
   clear H hi e
   go_enter Tryz.func84,Tryz.ntmps84
   go_wp2_with (go_at_call 107;refine hR.mono ?_;rintro e w1 ⟨rfl,hb1⟩;clear hR)
   refine bodyPost_ret (results_none rfl _ _ _) rfl ?_
   exact⟨rfl,HF.out _ hb1⟩
  ·have hd:decide ((rfs X.S r:Int)≤i)=false:=by simp;omega
   have i0:i<0:=by omega
   have hrf:0≤(rfs X.S r:Int):=by omega
   have HX:Hid (∀ w1,Below w.heap.size w w1→w1.cell? ⟨hb,4,none⟩=some (.pointer (some ⟨Z.h,0,none⟩))∧hb<w1.heap.size∧Calls Tryz.prog 85 #[.pointer (some ⟨Z.h,0,none⟩),.int .i64 a,.int .i64 r,.int .i64 i] w1 fun e w2=>∃ x c,e=.returned (.tuple #[.int .i64 x,.int .i64 c])∧(c == 0)=false∧z3t B w0 w hb Z X a r i w2):=fun w1 hb1=>by
    have H1:=H.below hb1
    refine⟨H1.cells14.1.2.2.2.2.1,H1.cells14.2.1,?_⟩
    have fin:∀ w2,Below w1.heap.size w1 w2→z3t B w0 w hb Z X a r i w2:=fun w2 hb2=>⟨X.c,by omega,by omega,CcT.after hb1 (CcT.after hb2 (by rw[e];exact (CvC.more (H1.below hb2) (m':=X.m+1) (by omega)).same))⟩
    cases hc:z0a X.S r with
    | none =>
     refine (z6f H1.hv (by omega) a r i (fun q=>?_)).mono ?_
     ·obtain⟨k,cl,hr,hk⟩:=q.2
      exact z0Y hc k cl hr hk
     ·rintro e w2 ⟨rfl,hb2⟩
      exact⟨_,_,rfl,by decide,fin w2 hb2⟩
    | some cl =>
     obtain⟨k,rfl,hk⟩:=z0d hc
     refine (z42 H1.hv (by omega) hk a i (by omega) (by omega)).mono ?_
     rintro e w2 ⟨rfl,hb2⟩
     exact⟨_,_,rfl,by decide,fin w2 hb2⟩
   generalize rfs X.S r=n at *
   clear H hi e h1
   go_enter Tryz.func84,Tryz.ntmps84
   go_wp2_with (first
    | (go_at_call 107;refine hR.mono ?_;rintro e w1 ⟨rfl,hb1⟩;obtain⟨k1,k2,hL⟩:=HX.out w1 hb1;clear hR HX)
    | (go_at_call 85;refine hL.mono ?_;rintro e w2 ⟨x,c,rfl,hc0,hP⟩;have HP:Hid (z3t B w0 w hb Z X a r i w2):=hP;clear hL hP))
   go_end0
   exact⟨rfl,HP.out⟩
end
end Go.Proofs.YthkelaeemefnaaaGreat
namespace Go.Proofs.YthkelaeemefnaaaGreat
open Go.RowKit
section
variable {B:Nat}{w0 w w':World}{hb:Nat}{X:Cm}{Z:Cx}
theorem CvC.set3 (H:CvC B w0 w hb X Z) (a b c:Int) (hl:0≤b∧b≤c∧c≤100000):CvC B w0 (((w.setCell ⟨hb,8,none⟩ (.int .i64 a)).setCell ⟨hb,9,none⟩ (.int .i64 b)).setCell ⟨hb,10,none⟩ (.int .i64 c)) hb { X with tr:={ X.tr with lr:=a,ln:=b,lw:=c } } Z∧Bt (Z.all hb X.T) w (((w.setCell ⟨hb,8,none⟩ (.int .i64 a)).setCell ⟨hb,9,none⟩ (.int .i64 b)).setCell ⟨hb,10,none⟩ (.int .i64 c)):=by
 have hB:Bt (fun k=>k=hb) w (((w.setCell ⟨hb,8,none⟩ (.int .i64 a)).setCell ⟨hb,9,none⟩ (.int .i64 b)).setCell ⟨hb,10,none⟩ (.int .i64 c)):=(((Bt.refl (fun k=>k=hb) w).set hb 8 _ (.inl rfl)).set hb 9 _ (.inl rfl)).set hb 10 _ (.inl rfl)
 refine⟨H.poke (ph:=X.ph) (cy:=X.cy) hB rfl rfl rfl H.ok.swl hl ?_,hB.mono fun k _ hk=>⟨3,hk⟩⟩
 rw[mset (mset (mset H.here))]
 rfl
def z43 (B:Nat) (w0 w:World) (hb:Nat) (Z:Cx) (X:Cm) (b:Bool) (w':World):Prop :=
 (X.tr.ln<X.tr.lw∧b=true∧∃ c',CcT B w0 w hb Z { X with m:=X.m+1,c:=c',tr:={ X.mw X.tr.lr X.tr.ln with ln:=X.tr.ln+1 } } w') ∨
 (¬ X.tr.ln<X.tr.lw∧X.tr.q=[]∧b=false∧CcT B w0 w hb Z X w') ∨
 (¬ X.tr.ln<X.tr.lw∧∃ (p:Nat) (t:List Nat) (r:Int),X.tr.q=p::t∧X.tr.row[p]?=some r∧b=true∧CcT B w0 w hb Z { X with tr:={ X.tr with col:=setC X.tr.col p 3,q:=t,lr:=r,ln:=0,lw:=rfs X.S r } } w')
theorem z4N (X:Cm) (r i:Int):(X.mw r i).lr=X.tr.lr∧(X.mw r i).ln=X.tr.ln∧(X.mw r i).lw=X.tr.lw∧(X.mw r i).sw=X.tr.sw∧(X.mw r i).row=X.tr.row:=by
 unfold Cm.mw Tr.mark Tr.grey
 split
 ·split
  ·split<;>exact⟨rfl,rfl,rfl,rfl,rfl⟩
  ·exact⟨rfl,rfl,rfl,rfl,rfl⟩
 ·exact⟨rfl,rfl,rfl,rfl,rfl⟩
theorem look_ok (H:CvC B w0 w hb X Z) (hm:X.m≤1999999):
  Calls Tryz.prog 127 #[.pointer (some ⟨hb,4,none⟩)] w fun e w'=>∃ b,e=.returned (.bool b)∧z43 B w0 w hb Z X b w':=by
 have hlt:=H.hlt
 have cln:=H.c9
 have clw:=H.c10
 have hlk:=H.ok.lk
 by_cases h1:X.tr.ln<X.tr.lw
 ·have HX:Hid (∀ w1,Below w.heap.size w w1→(w1.cell? ⟨hb,5,none⟩=some (.int .i64 X.T)∧w1.cell? ⟨hb,8,none⟩=some (.int .i64 X.tr.lr)∧w1.cell? ⟨hb,9,none⟩=some (.int .i64 X.tr.ln))∧Calls Tryz.prog 84 #[.pointer (some ⟨hb,4,none⟩),.int .i64 X.T,.int .i64 X.tr.lr,.int .i64 X.tr.ln] w1 fun e w2=>e=.returned (.tuple #[])∧(w2.cell? ⟨hb,9,none⟩=some (.int .i64 X.tr.ln)∧hb<w2.heap.size∧w2.frozen? ⟨hb,9,none⟩=false)∧z43 B w0 w hb Z X true (w2.setCell ⟨hb,9,none⟩ (.int .i64 (X.tr.ln+1)))):=fun w1 hb1=>by
   have H1:=H.below hb1
   have c1:=H1.cells14.1
   refine⟨⟨c1.2.2.2.2.2.1,c1.2.2.2.2.2.2.2.2.1,c1.2.2.2.2.2.2.2.2.2.1⟩,(z3C H1 hm X.T X.tr.lr X.tr.ln (by omega)).mono ?_⟩
   rintro e w2 ⟨rfl,c',_,_,hT⟩
   obtain⟨Z2,H2,b2,d2⟩:=CcT.after hb1 hT
   obtain⟨e1,e2,e3,e4,e5⟩:=z4N X X.tr.lr X.tr.ln
   have c2:=H2.cells14
   have c9:w2.cell? ⟨hb,9,none⟩=some (.int .i64 X.tr.ln):=by rw[← e2];exact c2.1.2.2.2.2.2.2.2.2.2.1
   refine⟨rfl,⟨c9,c2.2.1,c2.2.2 9⟩,.inl ⟨h1,rfl,c',Z2,?_,?_,d2⟩⟩
   ·exact (H2.set 9 (.int .i64 (X.tr.ln+1)) (tr:={ X.mw X.tr.lr X.tr.ln with ln:=X.tr.ln+1 }) (ph:=X.ph) (cy:=X.cy) rfl rfl rfl (by show (X.mw _ _).sw≤(X.mw _ _).row.length;rw[e4,e5];exact H.ok.swl) (by show 0≤X.tr.ln+1∧X.tr.ln+1≤(X.mw _ _).lw∧(X.mw _ _).lw≤100000;rw[e3];omega) rfl).1
   ·exact b2.wide (H2.set 9 (.int .i64 (X.tr.ln+1)) (tr:={ X.mw X.tr.lr X.tr.ln with ln:=X.tr.ln+1 }) (ph:=X.ph) (cy:=X.cy) rfl rfl rfl (by show (X.mw _ _).sw≤(X.mw _ _).row.length;rw[e4,e5];exact H.ok.swl) (by show 0≤X.tr.ln+1∧X.tr.ln+1≤(X.mw _ _).lw∧(X.mw _ _).lw≤100000;rw[e3];omega) rfl).2 d2
  generalize hln:X.tr.ln=ln at *
  generalize hlw:X.tr.lw=lw at *
  generalize hlr:X.tr.lr=lr at *
  have c5:=H.c5
  have c8:=H.c8
  rw[hlr] at c8
  clear H
  go_enter Tryz.func127,Tryz.ntmps127
  go_wp2
  go_region
  go_wp2
  go_region_with (go_at_call 84;refine (HX.out _ (by first|exact (Below.refl _ _).drew.drew|exact (Below.refl _ _).drew)).2.mono ?_;rintro e w2 ⟨rfl,k2,hP⟩;have HP:Hid (z43 B w0 w hb Z X true (w2.setCell ⟨hb,9,none⟩ (.int .i64 (ln+1)))):=hP;clear hP HX)
  all_goals
   have hw:IntKind.i64.wrap (ln+1)=ln+1:=by rw[IntKind.wrap_i64];omega
   go_wp2
   go_ret
   exact⟨true,rfl,HP.out⟩
 ·have hd:decide (X.tr.ln<X.tr.lw)=false:=by simpa using h1
  cases hq:X.tr.q with
  | nil =>
   have hN:∀ n,Calls Tryz.prog 146 #[.pointer (some ⟨Z.k,0,none⟩)] (w.drewN n) fun e w'=>e=.returned (.tuple #[.int .i64 0,.bool false])∧w'=w.drewN n:=fun n=>by
    have:=H.wk.drewN n
    rw[hq] at this
    exact z8Y this
   have HF:Hid (∀ n,z43 B w0 w hb Z X false (w.drewN n)):=fun n=>.inr (.inl ⟨h1,hq,rfl,CcT.after (z00 _ _ _) (H.below (z00 _ _ _)).same⟩)
   generalize hln:X.tr.ln=ln at *
   generalize hlw:X.tr.lw=lw at *
   have c7:=H.c7
   clear H
   go_enter Tryz.func127,Tryz.ntmps127
   go_wp2
   go_region
   go_wp2_with (go_at_call 146;refine (hN 1).mono ?_;rintro e w9 ⟨rfl,hw9⟩;replace hw9:=hw9.symm;subst hw9)
   go_ret
   exact⟨false,rfl,HF.out 1⟩
  | cons p t =>
   have hpl:p<X.tr.row.length:=H.ok.inr p (by rw[hq];simp)
   obtain⟨r,hr⟩:∃ r,X.tr.row[p]?=some r:=⟨_,List.getElem?_eq_getElem hpl⟩
   have hfew:=H.row_few
   have hrf:(rfs X.S r:Nat)≤5000:=by
    have:=zeq H.fit r
    have:=H.lim.1.2
    omega
   obtain⟨ao,cap,hv⟩:=H.row.form
   have hrow:=H.row
   rw[hv] at hrow
   obtain⟨rp,rfl,hrp,_,_,hrc⟩:=hrow.cells (by omega)
   have HX:Hid (∀ n,Calls Tryz.prog 146 #[.pointer (some ⟨Z.k,0,none⟩)] (w.drewN n) fun e w1=>e=.returned (.tuple #[.int .i64 p,.bool true])∧(w1.cell? ⟨hb,6,none⟩=some (.slice (some ⟨rp,0,none⟩) X.tr.row.length cap)∧w1.cell? ⟨rp,p,none⟩=some (.int .i64 r)∧hb<w1.heap.size∧rp<w1.heap.size)∧Calls Tryz.prog 107 #[.pointer (some ⟨hb,4,none⟩),.int .i64 r] w1 fun e w2=>e=.returned (.int .i64 (rfs X.S r:Nat))∧(((∃ v,w2.cell? ⟨hb,8,none⟩=some v)∧(∃ v,w2.cell? ⟨hb,9,none⟩=some v)∧∃ v,w2.cell? ⟨hb,10,none⟩=some v)∧hb<w2.heap.size∧∀ j,w2.frozen? ⟨hb,j,none⟩=false)∧z43 B w0 w hb Z X true (((w2.setCell ⟨hb,8,none⟩ (.int .i64 r)).setCell ⟨hb,9,none⟩ (.int .i64 0)).setCell ⟨hb,10,none⟩ (.int .i64 (rfs X.S r:Nat)))):=fun n=>by
    have H0:=H.below (z00 w n _)
    have hk0:=H0.wk
    rw[hq] at hk0
    refine (zc5 hk0).mono ?_
    rintro e w1 ⟨rfl,hk1,b1⟩
    have H1:=H0.cols hk1 b1 (fun x hx=>H.ok.inr x (by rw[hq];simp[hx]))
    have c1:=H1.cells14
    have hrow1:=H1.row
    rw[hv] at hrow1
    obtain⟨rp',e,hrp1,_,_,hrc1⟩:=hrow1.cells (by show 0<X.tr.row.length;omega)
    simp only[Option.some.injEq,Addr.mk.injEq,and_true] at e
    subst e
    refine⟨rfl,⟨by rw[c1.1.2.2.2.2.2.2.1,hv],hrc1 p r hr,c1.2.1,hrp1.2⟩,(z5P H1 (by show X.m≤2000000;omega) r).mono ?_⟩
    rintro e w2 ⟨rfl,hb2⟩
    have H2:=H1.below hb2
    obtain⟨c2,l2,f2⟩:=H2.cells14
    obtain⟨H3,b3⟩:=H2.set3 r 0 (rfs X.S r:Nat) (by omega)
    refine⟨rfl,⟨⟨⟨_,c2.2.2.2.2.2.2.2.2.1⟩,⟨_,c2.2.2.2.2.2.2.2.2.2.1⟩,⟨_,c2.2.2.2.2.2.2.2.2.2.2.1⟩⟩,l2,f2⟩,.inr (.inr ⟨h1,p,t,r,hq,hr,rfl,?_⟩)⟩
    exact CcT.after (z00 w n _) ⟨Z,H3,(b1.mono fun k _ hk=>⟨2,hk⟩).trans ((Bt.of_below hb2).trans b3),Wider.refl _ _⟩
   generalize rfs X.S r=n at *
   generalize hln:X.tr.ln=ln at *
   generalize hlw:X.tr.lw=lw at *
   generalize X.tr.row.length=N at *
   have c7:=H.c7
   clear H hrow hrc hv hrp
   go_enter Tryz.func127,Tryz.ntmps127
   go_wp2
   go_region
   go_wp2_with (first
    | (go_at_call 146;refine (HX.out 1).mono ?_;rintro e w1 ⟨rfl,k1,hR⟩;clear HX)
    | (go_at_call 107;refine hR.mono ?_;rintro e w2 ⟨rfl,⟨⟨⟨v8,k8⟩,⟨v9,k9⟩,⟨v10,k10⟩⟩,k11,k12⟩,hP⟩;have HP:Hid (z43 B w0 w hb Z X true (((w2.setCell ⟨hb,8,none⟩ (.int .i64 r)).setCell ⟨hb,9,none⟩ (.int .i64 0)).setCell ⟨hb,10,none⟩ (.int .i64 n))):=hP;clear hP hR))
   go_ret
   exact⟨true,rfl,HP.out⟩
end
end Go.Proofs.YthkelaeemefnaaaGreat
