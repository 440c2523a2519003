import Derived.Test.YthkelaeemefnaaaGreatMY15
import Derived.Test.YthkelaeemefnaaaGreatMHNumsqz
import Derived.Test.YthkelaeemefnaaaGreatMO3qz
import Derived.Test.YthkelaeemefnaaaGreatMP5qz
namespace Go.Proofs.YthkelaeemefnaaaGreat
open Go.RowKit
structure Hx where
 P1:Nat→Prop
 P2:Nat→Prop
 b:Nat
 so:Nat
 mb:Nat
 p:Nat
 s:Nat
 N:Nat
 T:Int
 xs:List Int
 ws:Nat→Int
 nn:Nat
 D:DataW Unit
 O:List Ob
 q:St
 V:Int→Int→Int
 kb:Nat
 kc:Nat
 vc:Value
 ln:Nat
def z1y (so s:Nat):List (List Value) :=
 [[.int .i64 1,.int .i64 0,.int .i64 64,.iface 150 (.pointer (some ⟨so,0,none⟩))],[.int .i64 2,.int .i64 0,.int .i64 1000,.iface 153 (.agg #[.pointer (some ⟨s,0,none⟩)])],
  [.int .i64 3,.int .i64 0,.int .i64 1000,.iface 153 (.agg #[.pointer (some ⟨s,0,none⟩)])],[.int .i64 4,.int .i64 1,.int .i64 1,.iface 150 (.pointer (some ⟨so,0,none⟩))]]
def Hx.side (X:Hx) (h k:Nat):Prop:=k=h∨k=X.kb∨X.vc.ownBlock=some k
def Hx.own (X:Hx) (h k:Nat):Prop:=X.P1 k∨X.P2 k∨X.side h k
structure HpM (w:World) (h W G:Nat) (c:Int→Int) (room:Int) (R:List (List Value)) (X:Hx):Prop where
 sto:Sto w X.P2 X.so X.mb X.p X.b W 0 X.N G (natf c) X.T X.xs X.ws X.nn X.D X.O
 gd:Gd w X.P1 X.s X.b W G X.q X.V c
 meet:Meet w X.P1 X.P2 X.b
 lt1:∀ k,X.P1 k→k<w.heap.size
 here:w.heap[h]?=some (.cells #[.pointer (some ⟨X.b,0,none⟩),.slice (some ⟨X.kb,0,none⟩) 4 X.kc,.int .i64 4,X.vc,.int .i64 X.ln,.int .i64 room] 127 (0,0))
 kinds:Rs w 0 166 4 (.slice (some ⟨X.kb,0,none⟩) 4 X.kc) (z1y X.so X.s)
 cells:Rs w 0 170 6 X.vc R
 off:∀ k,X.side h k→¬ X.P1 k∧¬ X.P2 k
 zone:X.q.base=11*X.N+8∧11*X.N+8≤W
section
variable {w w':World}{h W G:Nat}{c:Int→Int}{room:Int}{R:List (List Value)}{X:Hx}
theorem HpM.h_lt (H:HpM w h W G c room R X):h<w.heap.size:=z02 H.here
theorem HpM.side_lt (H:HpM w h W G c room R X) {k:Nat}(hk:X.side h k):k<w.heap.size:=by
 rcases hk with e|e|e
 ·subst e;exact H.h_lt
 ·subst e;exact (H.kinds.lt (j:=X.kb) rfl).2
 ·exact (H.cells.lt e).2
theorem HpM.own_lt (H:HpM w h W G c room R X) {k:Nat}(hk:X.own h k):k<w.heap.size:=by
 rcases hk with e|e|e
 ·exact H.lt1 k e
 ·exact H.sto.raw.lt k e
 ·exact H.side_lt e
theorem HpM.five (H:HpM w h W G c room R X):w.cell? ⟨h,0,none⟩=some (.pointer (some ⟨X.b,0,none⟩))∧w.cell? ⟨h,1,none⟩=some (.slice (some ⟨X.kb,0,none⟩) 4 X.kc)∧w.cell? ⟨h,3,none⟩=some X.vc∧w.cell? ⟨h,4,none⟩=some (.int .i64 X.ln)∧w.cell? ⟨h,5,none⟩=some (.int .i64 room):=by
 simp[World.cell?,H.here]
theorem HpM.sides (H:HpM w h W G c room R X) (e:∀ k,X.side h k→w'.heap[k]?=w.heap[k]?):w'.heap[h]?=some (.cells #[.pointer (some ⟨X.b,0,none⟩),.slice (some ⟨X.kb,0,none⟩) 4 X.kc,.int .i64 4,X.vc,.int .i64 X.ln,.int .i64 room] 127 (0,0))∧Rs w' 0 166 4 (.slice (some ⟨X.kb,0,none⟩) 4 X.kc) (z1y X.so X.s)∧Rs w' 0 170 6 X.vc R :=
 ⟨(e h (.inl rfl)).trans H.here,H.kinds.of_block (fun k hk=>e k (.inr (.inl (by simpa [Value.ownBlock] using hk.symm)))),H.cells.of_block (fun k hk=>e k (.inr (.inr hk)))⟩
theorem HpM.below (H:HpM w h W G c room R X) (b:Below w.heap.size w w'):HpM w' h W G c room R X:=by
 obtain⟨s1,s2,s3⟩:=H.sides (w':=w') fun k hk=>b.block k (H.side_lt hk)
 refine⟨H.sto.below b,H.gd.below b,fun k hk hq=>?_,fun k hk=>Nat.lt_of_lt_of_le (H.lt1 k hk) b.size,s1,s2,s3,H.off,H.zone⟩
 rcases H.meet k hk hq with r|⟨bw,bs,W',G',ws,cs,hA,r⟩
 ·exact .inl r
 ·exact .inr ⟨bw,bs,W',G',ws,cs,hA.below b,r⟩
theorem HpM.store (H:HpM w h W G c room R X) {P2:Nat→Prop}{cs:Nat→Int}{T:Int}{xs:List Int}{ws:Nat→Int}{nn:Nat}{D:DataW Unit}{O:List Ob}(hS:Sto w' P2 X.so X.mb X.p X.b W 0 X.N G cs T xs ws nn D O) (hB:Bt X.P2 w w') (hW:Wider X.P2 P2 w) (hz:∀ a,9*X.N≤a→ws a=X.ws a):
  ∃ P1 V,HpM w' h W G (intf cs) room R { X with P1:=P1,P2:=P2,T:=T,xs:=xs,ws:=ws,nn:=nn,D:=D,O:=O,V:=V }∧(∀ t,t≠-1→∀ i,V t i=X.V t i)∧Bt (X.own h) w w'∧Wider (X.own h) ({ X with P1:=P1,P2:=P2,T:=T,xs:=xs,ws:=ws,nn:=nn,D:=D,O:=O,V:=V }.own h) w:=by
 obtain⟨P0,hP,hsub,_⟩:=H.sto.raw.pl
 obtain⟨bw,bs,w0,hA,hO,_⟩:=hP.ar
 obtain⟨P0',hP',hsub',_⟩:=hS.raw.pl
 obtain⟨bw',bs',w0',hA',hO',_,q1,q2⟩:=hP'.ar
 have hzn:=H.zone
 obtain⟨P1,hG,hM,hPP,hlt⟩:=H.gd.other H.lt1 H.meet hA hA' hB hW ⟨hsub' _ q1,hsub' _ q2⟩ fun a h1 _=>by
  rw[hO' a (.inr (by omega)),hO a (.inr (by omega)),hz a (by omega)]
 have far:∀ k,X.side h k→¬ P1 k∧¬ P2 k:=fun k hk=>by
  have h2:¬ P2 k:=fun r=>(hW k r).elim (H.off k hk).2 (fun q=>by have:=H.side_lt hk;omega)
  exact⟨fun r=>(hPP k r).elim (H.off k hk).1 h2,h2⟩
 obtain⟨s1,s2,s3⟩:=H.sides (w':=w') fun k hk=>hB.block k (H.side_lt hk) (H.off k hk).2
 refine⟨P1,_,⟨?_,hG,hM,hlt,s1,s2,s3,far,H.zone⟩,fun t ht i=>zd6 _ _ ht i,hB.mono (fun k _ r=>.inr (.inl r)),fun k hk=>?_⟩
 ·rw[z1l];exact hS
 ·rcases hk with r|r|r
  ·rcases hPP k r with q|q
   ·exact .inl (.inl q)
   ·exact (hW k q).elim (fun z=>.inl (.inr (.inl z))) .inr
  ·exact (hW k r).elim (fun z=>.inl (.inr (.inl z))) .inr
  ·exact .inl (.inr (.inr r))
theorem HpM.space (H:HpM w h W G c room R X) {q:St}{V:Int→Int→Int}{c':Int→Int}(ht:SpTurn w X.P1 X.s X.b W G q V c' w') (e1:q.base=X.q.base) (e2:q.half=X.q.half) (hV:∀ a,V (-1) a=X.V (-1) a):
  ∃ P1 ws,HpM w' h W G c' room R { X with P1:=P1,ws:=ws,q:=q,V:=V }∧(∀ a,a<9*X.N→ws a=X.ws a)∧Bt (X.own h) w w'∧Wider (X.own h) ({ X with P1:=P1,ws:=ws,q:=q,V:=V }.own h) w:=by
 have hzn:=H.zone
 obtain⟨ws,hE⟩:=SpTurn.other H.gd ht e1 e2 hV (Q:=X.P2) H.sto.raw.lt H.meet (lo:=0) (hi:=0+(10*X.N+1)) (.inl (by omega)) (by omega)
 obtain⟨hS,hw⟩:=H.sto.rerow hE
 obtain⟨P',hG,hB,hW,hb⟩:=ht
 have hM:=SpTurn.meet H.gd hG hW hb (Q:=X.P2) H.sto.raw.lt H.meet
 have far:∀ k,X.side h k→¬ (P' k∧k<w'.heap.size)∧¬ X.P2 k:=fun k hk=>by
  refine⟨fun r=>?_,(H.off k hk).2⟩
  exact (hW k r.1).elim (H.off k hk).1 (fun q=>by have:=H.side_lt hk;omega)
 obtain⟨s1,s2,s3⟩:=H.sides (w':=w') fun k hk=>hB.block k (H.side_lt hk) (H.off k hk).1
 refine⟨_,ws,⟨hS,hG.shrink,fun k hk=>hM k hk.1,fun k hk=>hk.2,s1,s2,s3,far,by rw[e1];exact hzn⟩,fun a ha=>hw a (Nat.zero_le _) (by omega),hB.mono (fun k _ r=>.inl r),fun k hk=>?_⟩
 rcases hk with r|r|r
 ·exact (hW k r.1).elim (fun z=>.inl (.inl z)) .inr
 ·exact .inl (.inr (.inl r))
 ·exact .inl (.inr (.inr r))
end
end Go.Proofs.YthkelaeemefnaaaGreat
namespace Go.Proofs.YthkelaeemefnaaaGreat
open Go.RowKit
theorem Gd.keep {w w':World}{P:Nat→Prop}{s b W G:Nat}{q:St}{V:Int→Int→Int}{c:Int→Int}(h:Gd w P s b W G q V c) (e:∀ k,P k→w'.heap[k]?=w.heap[k]?):Gd w' P s b W G q V c:=by
 obtain⟨hW,bw,bs,v,f,h,hI⟩:=h
 obtain⟨o1,o2,o3,o4,o5⟩:=h.own
 exact⟨hW,bw,bs,v,f,⟨(e s o1).trans h.here,⟨(e b o2).trans h.ar.here,h.ar.words.of_block (e bw o3),h.ar.steps.of_block (e bs o4),h.ar.part⟩,h.row.of_block (fun k hk=>e k (o5 k hk)),h.own⟩,hI⟩
theorem Meet.keep {w w':World}{P Q:Nat→Prop}{s b W G:Nat}{q:St}{V:Int→Int→Int}{c:Int→Int}(hm:Meet w P Q b) (h:Gd w P s b W G q V c) (e:∀ k,P k→w'.heap[k]?=w.heap[k]?):Meet w' P Q b:=by
 obtain⟨bw,bs,f,hA,_,o1,o2,o3,o4⟩:=h.ar
 have hA':Ar w' b bw bs W G (natf f) (natf c):=⟨(e b o2).trans hA.here,hA.words.of_block (e bw o3),hA.steps.of_block (e bs o4),hA.part⟩
 intro k hk hq
 rcases hm k hk hq with r|⟨bw',bs',W',G',ws,cs,hB,r⟩
 ·exact .inl r
 ·obtain⟨rfl,rfl,_⟩:=hA.one hB
  exact .inr ⟨bw',bs',W,G,_,_,hA',r⟩
section
variable {w w':World}{h W G:Nat}{c:Int→Int}{room:Int}{R:List (List Value)}{X:Hx}
theorem HpM.reside (H:HpM w h W G c room R X) {room':Int}{R':List (List Value)}{vc:Value}{ln:Nat}(hB:Bt (X.side h) w w') (h1:w'.heap[h]?=some (.cells #[.pointer (some ⟨X.b,0,none⟩),.slice (some ⟨X.kb,0,none⟩) 4 X.kc,.int .i64 4,vc,.int .i64 ln,.int .i64 room'] 127 (0,0)))
  (h2:w'.heap[X.kb]?=w.heap[X.kb]?) (h3:Rs w' 0 170 6 vc R') (n1:∀ k,vc.ownBlock=some k→X.side h k∨w.heap.size≤k):
  HpM w' h W G c room' R' { X with vc:=vc,ln:=ln }∧Bt (X.own h) w w'∧Wider (X.own h) ({ X with vc:=vc,ln:=ln }.own h) w:=by
 have e:∀ k,X.P1 k∨X.P2 k→w'.heap[k]?=w.heap[k]?:=fun k hk=>by
  refine hB.block k (hk.elim (H.lt1 k) (H.sto.raw.lt k)) (fun r=>?_)
  exact hk.elim (H.off k r).1 (H.off k r).2
 have new:∀ k,({ X with vc:=vc,ln:=ln }:Hx).side h k→X.side h k∨w.heap.size≤k:=fun k hk=>by
  rcases hk with r|r|r
  ·exact .inl (.inl r)
  ·exact .inl (.inr (.inl r))
  ·exact n1 k r
 refine⟨⟨⟨H.sto.raw.keep (fun k hk=>e k (.inr hk)) hB.size,H.sto.inv,H.sto.mp⟩,H.gd.keep (fun k hk=>e k (.inl hk)),H.meet.keep H.gd (fun k hk=>e k (.inl hk)),fun k hk=>Nat.lt_of_lt_of_le (H.lt1 k hk) hB.size,h1,H.kinds.of_block (fun k hk=>?_),h3,fun k hk=>?_,H.zone⟩,hB.mono (fun k _ r=>.inr (.inr r)),fun k hk=>?_⟩
 ·simp only[Value.ownBlock,Option.some.injEq] at hk
  subst hk
  exact h2
 ·rcases new k hk with r|r
  ·exact H.off k r
  ·exact⟨fun z=>by have:=H.lt1 k z;omega,fun z=>by have:=H.sto.raw.lt k z;omega⟩
 ·rcases hk with r|r|r
  ·exact .inl (.inl r)
  ·exact .inl (.inr (.inl r))
  ·exact (new k r).elim (fun z=>.inl (.inr (.inr z))) .inr
theorem HpM.kb_ne (H:HpM w h W G c room R X):X.kb≠h∧∀ k,X.vc.ownBlock=some k→k≠X.kb∧k≠h:=by
 obtain⟨cur,hk⟩:=H.kinds.kind (j:=X.kb) rfl
 have hh:=H.here
 refine⟨fun e=>?_,fun k e=>⟨fun z=>?_,fun z=>?_⟩⟩
 ·rw[e,hh] at hk;simp at hk
 ·obtain⟨c2,h2⟩:=H.cells.kind e
  rw[z,hk] at h2;simp at h2
 ·obtain⟨c2,h2⟩:=H.cells.kind e
  rw[z,hh] at h2;simp at h2
theorem HpM.poke (H:HpM w h W G c room R X) (r:Int):HpM (w.setCell ⟨h,5,none⟩ (.int .i64 r)) h W G c r R X∧Bt (X.own h) w (w.setCell ⟨h,5,none⟩ (.int .i64 r)):=by
 have hk:=H.kb_ne
 have hb:Bt (X.side h) w (w.setCell ⟨h,5,none⟩ (.int .i64 r)):=⟨rfl,rfl,rfl,by simp[World.setCell],fun k _ e=>z03 _ _ (fun z=>e (.inl z))⟩
 obtain⟨r1,r2,_⟩:=H.reside (ln:=X.ln) hb (z05 H.here 5 _) (z03 _ _ hk.1) (H.cells.of_block fun k e=>z03 _ _ (hk.2 k e).2) (fun k e=>.inl (.inr (.inr e)))
 exact⟨r1,r2⟩
end
def TabT (w:World) (h W G:Nat) (c:Int→Int) (room:Int) (S:List (Option Cel)) (X:Hx) (w':World):Prop :=
 ∃ vc ln,HpM w' h W G c room (z0y X.so X.s S) { X with vc:=vc,ln:=ln }∧Tab S ln∧Bt (X.own h) w w'∧Wider (X.own h) ({ X with vc:=vc,ln:=ln }.own h) w
def AddT (w:World) (h W G:Nat) (c:Int→Int) (room:Int) (S:List (Option Cel)) (X:Hx) (cl:Cel) (e:Ending) (w':World):Prop :=
 ∃ (i:Nat) (S':List (Option Cel)),e=.returned (.int .i64 ((i:Int)+1))∧z23 S S' i cl∧S'.length≤S.length+1∧TabT w h W G c room S' X w'
section
variable {w:World}{h W G:Nat}{c:Int→Int}{room:Int}{S:List (Option Cel)}{X:Hx}
theorem AddT.after {w1 w':World}{cl:Cel}{e:Ending}(hb:Below w.heap.size w w1) (ht:AddT w1 h W G c room S X cl e w'):AddT w h W G c room S X cl e w':=by
 obtain⟨i,S',h1,h2,h3,vc,ln,h4,h5,h7,h8⟩:=ht
 exact⟨i,S',h1,h2,h3,vc,ln,h4,h5,(Bt.of_below hb).trans h7,fun k hk=>(h8 k hk).imp id (fun r=>Nat.le_trans hb.size r)⟩
theorem za7 (H:HpM w h W G c room (z0y X.so X.s S) X) (hT:Tab S X.ln) (hS:S.length≤100000) (cl:Cel):
  Calls Tryz.prog 116 #[.pointer (some ⟨h,3,none⟩),.agg #[.int .i64 cl.kind,.int .i64 cl.cls,.int .i64 cl.n,.iface (kty cl) (kvl X.so X.s cl),.int .i64 cl.at_]] w (AddT w h W G c room S X cl):=by
 have hk:=H.kb_ne
 obtain⟨t1,t2⟩:=hT.more cl
 have hlen:(z0y X.so X.s S).length≤100000:=by rw[z3A];exact Nat.le_trans (z2w S) hS
 have hln:X.ln=S.length:=hT
 refine (zd5 H.here H.cells hlen (by omega) cl.kind cl.cls cl.n cl.at_ (kty cl) (kvl X.so X.s cl)).mono ?_
 rintro e w' ⟨v',rfl,hR,hH',hB,hat⟩
 have hB':Bt (X.side h) w w':=hB.mono fun k _ z=>z.elim .inl (fun z=>.inr (.inr z))
 have eR:z0y X.so X.s (S++[some cl])=z0y X.so X.s S++[[.int .i64 ((X.ln:Int)+1),.int .i64 cl.kind,.int .i64 cl.cls,.int .i64 cl.n,.iface (kty cl) (kvl X.so X.s cl),.int .i64 cl.at_]]:=by
  unfold z0y
  rw[z2v,List.map_append,hln,Nat.zero_add];rfl
 obtain⟨r1,r2,r3⟩:=H.reside (ln:=X.ln+1) (R':=z0y X.so X.s (S++[some cl])) hB' hH' (hB.block _ (H.kinds.lt (j:=X.kb) rfl).2 (fun z=>z.elim hk.1 (fun z=>(hk.2 _ z).1 rfl))) (by rw[eR];exact hR)
  (fun k e=>by
   rcases hat with q|⟨j,q1,q2⟩
   ·exact .inl (.inr (.inr (by rw[← q];exact e)))
   ·rw[e] at q1;simp at q1;exact .inr (by omega))
 exact⟨S.length,_,by rw[hln],t2,by simp,v',_,r1,t1,r2,r3⟩
theorem zb8 (H:HpM w h W G c room (z0y X.so X.s S) X) (hT:Tab S X.ln) (hS:S.length<100000) {i:Nat}{cl:Cel}(hi:S[i]?=some (some cl)) (t:Int) (ht:t=(i:Int)+1):
  Calls Tryz.prog 158 #[.pointer (some ⟨h,3,none⟩),.int .i64 t] w fun e w'=>e=.returned (.tuple #[])∧TabT w h W G c room (S.set i none) X w':=by
 have hk:=H.kb_ne
 obtain⟨j,j1,j2,j3⟩:=z4Q X.so X.s hi
 have hf:=z2w S
 refine (z8V H.here H.cells (z2B _ _ S) (zaG _ _ S) (z0r 0 S) (by omega) t (i:=j) (by rw[ht];exact j2)).mono ?_
 rintro e w' ⟨rfl,v',hR',hH',hB,hat⟩
 refine⟨rfl,?_⟩
 have hB':Bt (X.side h) w w':=hB.mono fun k _ z=>z.elim .inl (fun z=>.inr (.inr z))
 obtain⟨r1,r2,r3⟩:=H.reside (ln:=X.ln) (R':=z0y X.so X.s (S.set i none)) hB' hH' (hB.block _ (H.kinds.lt (j:=X.kb) rfl).2 (fun z=>z.elim hk.1 (fun z=>(hk.2 _ z).1 rfl))) (by rw[j3];exact hR')
  (fun k e=>.inl (.inr (.inr (by rw[← hat];exact e))))
 exact⟨_,_,r1,hT.gone i,r2,r3⟩
end
end Go.Proofs.YthkelaeemefnaaaGreat
