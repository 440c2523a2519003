import Derived.Test.YthkelaeemefnaaaGreatMO2qz
import Derived.Carry
set_option maxRecDepth 20000
set_option maxHeartbeats 1000000
namespace Go.Proofs.YthkelaeemefnaaaGreat
open Go.RowKit
theorem Mine.of_block {w w':World}{B:Nat}{v:Value}{n:Nat}{f:Nat→Int}(h:Mine w B v n f) (e:∀ k,v.ownBlock=some k→w'.heap[k]?=w.heap[k]?):Mine w' B v n f:=by
 refine⟨h.1,?_⟩
 rcases h.2 with r|⟨g,cap,cur,rfl,h1,h2,h3⟩
 ·exact .inl r
 ·exact .inr ⟨g,cap,cur,rfl,h1,(e g rfl).trans h2,h3⟩
theorem Mine.lt {w:World}{B:Nat}{v:Value}{n:Nat}{f:Nat→Int}(h:Mine w B v n f) {k:Nat}(hk:v.ownBlock=some k):B≤k∧k<w.heap.size:=World.ownsRow.lt h k hk
theorem Mine.one (w:World) (B:Nat) (x:Int) (hB:B≤w.heap.size):Mine (w.alloc (.cells #[.int .i64 x] 3)) B (.slice (some ⟨w.heap.size,0,none⟩) 1 1) 1 (fun _=>x) :=
 ⟨rfl,.inr ⟨w.heap.size,1,#[.int .i64 x],rfl,hB,heap_alloc_new w _,Nat.le_refl _,by decide,rfl,rfl⟩⟩
section
variable {w:World}{P:Nat→Prop}{so mb p b W base N G:Nat}{cs:Nat→Int}{T:Int}{xs:List Int}{ws:Nat→Int}{nn:Nat}{D:DataW Unit}{O:List Ob}
theorem Raw.keep {w':World}(h:Raw w P so mb p b W base N G cs T xs ws nn D) (e:∀ k,P k→w'.heap[k]?=w.heap[k]?) (hs:w.heap.size≤w'.heap.size):Raw w' P so mb p b W base N G cs T xs ws nn D:=by
 obtain⟨P0,h1,h2,h3,h4⟩:=h.pl
 exact⟨⟨P0,h1.keep (fun j hj=>e j (h2 j hj)) hs,h2,h3,h4⟩,(e so h.own.1).trans h.here,z19 h.map (e mb h.own.2),h.own,fun k hk=>Nat.lt_of_lt_of_le (h.lt k hk) hs⟩
structure Bes (w0 w:World) (P0 P:Nat→Prop) (so mb p b W base N G:Nat) (cs:Nat→Int) (T:Int) (xs:List Int) (ws:Nat→Int) (nn:Nat) (D:DataW Unit) (v:Value) (m:Nat) (F:Nat→Int):Prop where
 raw:Raw w P so mb p b W base N G cs T xs ws nn D
 row:Mine w w0.heap.size v m F
 off:∀ k,v.ownBlock=some k→¬ P k
 bt:Bt P0 w0 w
 wider:Wider P0 P w0
theorem Bes.turn {w0 w':World}{P0:Nat→Prop}{cs':Nat→Int}{T':Int}{xs':List Int}{ws':Nat→Int}{v:Value}{m:Nat}{F:Nat→Int}(h:Bes w0 w P0 P so mb p b W base N G cs T xs ws nn D v m F) (ht:RawT w P so mb p b W base N G cs' T' xs' ws' nn D w'):
  ∃ P',Bes w0 w' P0 P' so mb p b W base N G cs' T' xs' ws' nn D v m F:=by
 obtain⟨P',h1,h2,h3⟩:=ht
 exact⟨P',h1,h.row.of_block fun k hk=>h2.block k (h.row.lt hk).2 (h.off k hk),fun k hk r=>(h3 k r).elim (h.off k hk) (fun q=>by have:=(h.row.lt hk).2;omega),h.bt.wide h2 h.wider,h.wider.trans h3 h.bt.size⟩
def zer (w:World) (P:Nat→Prop) (so mb p b W base N G:Nat) (cs:Nat→Int) (T:Int) (xs:List Int) (ws:Nat→Int) (nn:Nat) (D:DataW Unit) (m:Nat) (F:Nat→Int) (e:Ending) (w':World):Prop :=
 ∃ v cs' P',e=.returned v∧Grew cs cs' 10∧Bes w w' P P' so mb p b W base N G cs' T xs ws nn D v m F
theorem zfo (h:Sto w P so mb p b W base N G cs T xs ws nn D O) {o:Ob}(ho:o∈O) (g:Nat) (hg:g<G):
  Calls Tryz.prog 213 #[.pointer (some ⟨so,0,none⟩),.int .i64 g,.int .i64 o.ref,.int .i64 (frg o.n:Nat)] w (zer w P so mb p b W base N G cs T xs ws nn D (frg o.n) (fun k=>(o.c k:Nat))):=by
 have hs:=h.inv.size o ho
 have hc0:=(h.wf ho).2.2
 have hf:∀ u,Calls Tryz.prog 224 #[.int .i64 o.ref] u fun e w'=>e=.returned (.int .i64 (o.c 0:Nat))∧w'=u:=fun u=>z44 (o.c 0) (by omega) u
 have Hl:Hid (∀ k,k+1<frg o.n→ws (base+8*o.c k+0)=(o.c (k+1):Nat)):=fun k hk=>h.inv.link o ho k hk
 have Hu:Hid (∀ k,k<frg o.n→o.c k<N∧ws (base+8*N+o.c k)≠0):=fun k hk=>h.inv.used o ho k hk
 have HR:Hid (Raw w P so mb p b W base N G cs T xs ws nn D):=h.raw
 have h9:=z13 hs
 have h1:=z1k o.n
 generalize o.ref=ref at hf ⊢
 generalize frg o.n=M at Hl Hu h9 h1 ⊢
 clear h
 go_enter Tryz.func213,Tryz.ntmps213
 go_wp2_with (go_at_call 224;refine (hf _).mono ?_;rintro e w9 ⟨rfl,hw9⟩;replace hw9:=hw9.symm;subst hw9)
 have HB0:Hid (Bes w (w.alloc (.cells #[.int .i64 (o.c 0:Nat)] 3)) P P so mb p b W base N G cs T xs ws nn D (.slice (some ⟨w.heap.size,0,none⟩) 1 1) 1 (fun k=>(o.c k:Nat))) :=
  ⟨HR.out.below ((Below.refl _ _).alloc (Nat.le_refl _) _),(Mine.one w w.heap.size _ (Nat.le_refl _)).congr fun i hi=>by rw[show i=0 by omega],fun k hk r=>by simp only[Value.ownBlock,Option.some.injEq] at hk;subst hk;have:=HR.out.lt _ r;omega,Bt.of_below ((Below.refl _ _).alloc (Nat.le_refl _) _),Wider.refl _ _⟩
 clear hf
 go_loopg [9,10,11,12,19] M (fun kx s9 s10 s11 s12 s19 wr=>∃ (j:Nat) (cs':Nat→Int) (P':Nat→Prop),s19=.int .i64 j∧s9=.int .i64 (o.c j:Nat)∧j+1≤M∧M-1-j≤kx∧Grew cs cs' j∧Bes w wr P P' so mb p b W base N G cs' T xs ws nn D s10 (j+1) (fun k=>(o.c k:Nat)))
 case atStart=>exact⟨0,cs,P,rfl,rfl,by omega,by omega,Grew.refl _ _,HB0.out⟩
 case round =>
  clear HB0
  obtain⟨j,cs',P',rfl,rfl,hj,hk,hgr,hBs⟩:=hrel
  by_cases hlt:j+1<M
  ·have hlt':(j:Int)<(M:Int)-1:=by omega
   have cc:=hBs.raw.cells
   have hL:=hBs.raw.load g (o.c j) 0 hg (Hu.out j (by omega)).1 (Hu.out j (by omega)).2 (by omega)
   rw[Hl.out j hlt] at hL
   have HG:Hid (Grew cs cs' j):=hgr
   clear hgr
   go_wp2_with (first
    | (at_builtin;refine z8W _ _ hrun rfl rfl rfl rfl rfl ?_;clear hrun)
    | (go_at_call 216;refine hL.mono ?_;rintro e w2 ⟨rfl,hR2⟩;obtain⟨P2,hB2⟩:=hBs.turn hR2;obtain⟨q,cp,w3,hrun,hM3,hg3,hat⟩:=app1 hB2.row ((o.c (j+1):Nat):Int) hB2.bt.size (by omega);clear hR2))
   go_roundg (M-1-(j+1))
   case measure=>omega
   case rel =>
    have hnb:∀ k,u10.ownBlock=some k→¬ P2 k:=hB2.off
    have ek:∀ k,P2 k→w3.heap[k]?=w2.heap[k]?:=fun k hk=>hg3.block k (hB2.raw.lt k hk) (fun e=>hnb k e.symm hk)
    refine⟨j+1,_,P2,by go_num,rfl,by omega,by omega,HG.out.tick g,hB2.raw.keep ek hg3.size,?_,?_,?_,hB2.wider⟩
    ·refine hM3.congr fun i hi=>?_
     unfold cat
     by_cases e:i<j+1
     ·rw[if_pos e]
     ·rw[if_neg e,show i=j+1 by omega]
    ·intro k hk r
     simp only[Value.ownBlock,Option.some.injEq] at hk
     subst hk
     rcases hat with e|e
     ·exact hnb _ e r
     ·have:=hB2.raw.lt _ r;omega
    ·have hb:=hB2.bt
     exact⟨hg3.os.trans hb.os,hg3.tape.trans hb.tape,hg3.output.trans hb.output,Nat.le_trans hb.size hg3.size,fun k hk hp=>(hg3.block k (Nat.lt_of_lt_of_le hk hb.size) (fun e=>by have:=(hB2.row.lt e.symm).1;omega)).trans (hb.block k hk hp)⟩
  ·have hlt':¬ (j:Int)<(M:Int)-1:=by omega
   obtain rfl:M=j+1:=by omega
   go_wp2
   go_ret
   exact⟨_,cs',P',rfl,hgr.mono (by omega),hBs⟩
end
end Go.Proofs.YthkelaeemefnaaaGreat
namespace Go.Proofs.YthkelaeemefnaaaGreat
open Go.RowKit
theorem Mine.cell {w:World}{B q cap n:Nat}{f:Nat→Int}(h:Mine w B (.slice (some ⟨q,0,none⟩) n cap) n f) {i:Nat}(hi:i<n):w.cell? ⟨q,i,none⟩=some (.int .i64 (f i)):=by
 obtain⟨p,c,e,_,_,_,cur,hg,_,_,hc⟩:=h.shape (by omega)
 simp only[Value.slice.injEq,Option.some.injEq,Addr.mk.injEq,and_true] at e
 obtain⟨rfl,_⟩:=e
 simp only[World.cell?,hg]
 exact hc i hi
section
variable {w:World}{P:Nat→Prop}{so mb p b W base N G:Nat}{cs:Nat→Int}{T:Int}{xs:List Int}{ws:Nat→Int}{nn:Nat}{D:DataW Unit}{O:List Ob}
def zc8 (w:World) (P:Nat→Prop) (so mb p b W base N G:Nat) (cs:Nat→Int) (T:Int) (xs:List Int) (ws:Nat→Int) (nn:Nat) (O:List Ob) (k:Nat) (e:Ending) (w':World):Prop :=
 e=.returned (.int .i64 0)∧∃ xs' cs' D' P',Grew cs cs' 300∧xs'.length=xs.length+k∧Sto w' P' so mb p b W base N G cs' (T+k) xs' ws nn D' O∧Bt P w w'∧Wider P P' w
theorem zeQ (h:Sto w P so mb p b W base N G cs T xs ws nn D O) {a:Nat}{o:Ob}(ha:O[a]?=some o) (g:Nat) (hg:g<G) (hT:T≤900000):
  Calls Tryz.prog 207 #[.pointer (some ⟨so,0,none⟩),.int .i64 g,.int .i64 o.ref] w (zc8 w P so mb p b W base N G cs T xs (z3o base N ws o.c (frg o.n)) nn (O.eraseIdx a) (frg o.n)):=by
 have ho:=List.mem_of_getElem? ha
 have hac:=h.access ho g hg
 have hs:=h.inv.size o ho
 have hfr:=z1n o.n (by omega)
 have hrow:=zfo h ho g hg
 have hwf:=(h.wf ho).1
 have HF:Hid (OInv (z3o base N ws o.c (frg o.n)) base N (xs.length+frg o.n) (O.eraseIdx a)∧Mp (D.del (.int .i64 o.ref)) (O.eraseIdx a)):=⟨h.inv.free ha,h.mp.del ha fun b z hb hne=>h.inv.ref_ne hb ha hne⟩
 have Hu:Hid (∀ k,k<frg o.n→o.c k<N∧z3o base N ws o.c k (base+8*N+o.c k)≠0):=fun k hk=>⟨(h.inv.used o ho k hk).1,by
  rw[z3n ws o.c k fun j hj e=>by have:=h.inv.inj o ho j k (by omega) hk e;omega]
  exact (h.inv.used o ho k hk).2⟩
 have h9:=z13 hs
 have h1:=z1k o.n
 generalize o.ref=ref at hac hrow hwf HF ⊢
 generalize frg o.n=M at *
 clear h ha
 go_enter Tryz.func207,Tryz.ntmps207
 go_wp2_with (first
  | (go_at_call 212;refine hac.mono ?_;rintro e w9 ⟨rfl,hw9⟩;replace hw9:=hw9.symm;subst hw9)
  | (go_at_call 159;refine (hfr _).mono ?_;rintro e w9 ⟨rfl,hw9⟩;replace hw9:=hw9.symm;subst hw9)
  | (go_at_call 213;refine hrow.mono ?_;rintro e w2 ⟨v,cs2,P2,rfl,hg2,hB2⟩;obtain⟨q,cp,rfl,_⟩:=hB2.row.shape h1))
 clear hac hfr hrow
 have HB2:Hid (Bes w w2 P P2 so mb p b W base N G cs2 T xs ws nn D (.slice (some ⟨q,0,none⟩) M cp) M (fun k=>(o.c k:Nat))):=hB2
 clear hB2
 go_loopg [10,28] (M+1) (fun kx s10 s28 wr=>∃ (k:Nat) (cs':Nat→Int) (xs':List Int) (P':Nat→Prop),s28=.int .i64 k∧k≤M∧M-k≤kx∧Grew cs2 cs' (10*k)∧xs'.length=xs.length+k∧Bes w wr P P' so mb p b W base N G cs' (T+k) xs' (z3o base N ws o.c k) nn D (.slice (some ⟨q,0,none⟩) M cp) M (fun k=>(o.c k:Nat)))
 case atStart=>exact⟨0,cs2,xs,P2,rfl,by omega,by omega,Grew.refl _ _,rfl,by rw[show T+((0:Nat):Int)=T by omega];exact HB2.out⟩
 case round =>
  clear HB2
  obtain⟨k,cs',xs',P',rfl,hk,hkx,hgr,hl,hBs⟩:=hrel
  have cc:=hBs.raw.cells
  by_cases hlt:k<M
  ·have hlt':(k:Int)<(M:Int):=by omega
   have ck:=hBs.row.cell hlt
   have hfk:=hBs.raw.free (by omega) g (o.c k) hg (Hu.out k hlt).1 (Hu.out k hlt).2
   have HG:Hid (Grew cs2 cs' (10*k)∧xs'.length=xs.length+k):=⟨hgr,hl⟩
   clear hgr hl
   go_wp2_with (go_at_call 214;refine hfk.mono ?_;rintro e w3 ⟨rfl,xs3,cs3,hl3,hg3,hR3⟩;obtain⟨P3,hB3⟩:=hBs.turn hR3)
   go_roundg (M-(k+1))
   case measure=>omega
   case rel =>
    refine⟨k+1,cs3,xs3,P3,by go_num,by omega,by omega,(HG.out.1.trans hg3).mono (by omega),by have:=HG.out.2;omega,?_⟩
    rw[show T+((k+1:Nat):Int)=T+(k:Int)+1 by omega]
    exact hB3
  ·obtain rfl:k=M:=by omega
   have hlt':¬ (k:Int)<(k:Int):=by omega
   go_wp2_with (at_delete;refine wpList_delete_own _ rfl _ _ 203 3 rfl 3 zan Tryz.underlying203 _ mb nn D rfl hBs.raw.map _ _ rfl (Maps.keyOf_int_mk Tryz.underlying3 hwf) ?_;intro w5 hm5 ht5)
   go_ret
   obtain⟨P5,hR5,hB5,hW5⟩:=hBs.raw.remap hm5 ht5.grown
   refine⟨rfl,xs',cs',_,P5,(hg2.trans hgr).mono (by omega),hl,⟨hR5,?_,HF.out.2⟩,hBs.bt.wide hB5 hBs.wider,hBs.wider.trans hW5 hBs.bt.size⟩
   rw[hl];exact HF.out.1
end
end Go.Proofs.YthkelaeemefnaaaGreat
namespace Go.Proofs.YthkelaeemefnaaaGreat
open Go.RowKit
theorem zdV {w:World}{P0:Nat→Prop}{p b W base N G:Nat}{cs:Nat→Int}{T:Int}{xs:List Int}{ws:Nat→Int}(h:Pl w P0 p b W base N G cs T xs ws) (hN:OInv ws base N xs.length []):
  Calls Tryz.prog 133 #[.pointer (some ⟨p,0,none⟩)] w fun e w'=>∃ so mb,e=.returned (.tuple #[.pointer (some ⟨so,0,none⟩),.int .i64 0])∧Sto w' (fun k=>P0 k∨k=so∨k=mb) so mb p b W base N G cs T xs ws 0 (.map []) []∧Below w.heap.size w w'∧w.heap.size≤so∧w.heap.size≤mb:=by
 have hlt:=h.lt
 have a1:=(Below.refl w.heap.size w).alloc (Nat.le_refl _) (.map #[] 0)
 have a2:=a1.alloc (by simp) (.cells #[.pointer (some ⟨p,0,none⟩),.map (some w.heap.size)] 205)
 have hsz:(w.alloc (.map #[] 0)).heap.size=w.heap.size+1:=Go.Deep.nblk_alloc _ _
 have HS:Hid (Sto ((w.alloc (.map #[] 0)).alloc (.cells #[.pointer (some ⟨p,0,none⟩),.map (some w.heap.size)] 205)) (fun k=>P0 k∨k=w.heap.size+1∨k=w.heap.size) (w.heap.size+1) w.heap.size p b W base N G cs T xs ws 0 (.map []) []):=by
  refine⟨⟨⟨P0,h.below a2,fun _ r=>.inl r,fun r=>by have:=hlt _ r;omega,fun r=>by have:=hlt _ r;omega⟩,?_,?_,⟨.inr (.inl rfl),.inr (.inr rfl)⟩,fun k hk=>?_⟩,hN,Mp.none⟩
  ·have e:=heap_alloc_new (w.alloc (.map #[] 0)) (.cells #[.pointer (some ⟨p,0,none⟩),.map (some w.heap.size)] 205)
   rw[hsz] at e
   exact e
  ·exact z19 (World.ownsMap_made w Tryz.prog 3 (plainElem Tryz.prog 3)) (Below.heap_alloc _ _ _ (by rw[hsz];omega))
  ·have e:((w.alloc (.map #[] 0)).alloc (.cells #[.pointer (some ⟨p,0,none⟩),.map (some w.heap.size)] 205)).heap.size=w.heap.size+1+1:=by rw[Go.Deep.nblk_alloc,hsz]
   rw[e]
   rcases hk with r|rfl|rfl
   ·have:=hlt _ r;omega
   ·omega
   ·omega
 clear h hN
 have hmm:=@run_makeMap Tryz.prog
 go_enter Tryz.func133,Tryz.ntmps133
 go_wp2
 go_ret2
 exact⟨_,_,rfl,HS.out,a2,by omega,by omega⟩
theorem Few.mono {K K':Int}{cs:Nat→Int}(h:Few K cs) (hk:K≤K'):Few K' cs:=fun j=>by have:=h j;omega
theorem z7U {O:List Ob}{o:Ob}{ws:Nat→Int}{base N len i:Nat}(h:OInv ws base N len O) (ho:o∈O):hop i o.n≤8:=by
 have:=z0T i o.n;have:=z13 (h.size o ho);omega
theorem Lk.alike {base cap:Nat}{ws ws':Nat→Int}:∀ {xs:List Int},Lk base ws xs→(∀ x∈xs,1≤x∧x≤cap)→(∀ a,base≤a→a≤base+cap→ws' a=ws a)→Lk base ws' xs
 | [],_,_,_=>trivial
 | x::r,h,hr,e=>⟨by have:=hr x (by simp);rw[e _ (by omega) (by omega)];exact h.1,Lk.alike h.2 (fun y hy=>hr y (by simp[hy])) e⟩
theorem Inv.alike {base cap:Nat}{ws ws':Nat→Int}{T:Int}{xs:List Int}(h:Inv base cap ws calm T xs) (e:∀ a,base≤a→a≤base+cap→ws' a=ws a):Inv base cap ws' calm T xs :=
 ⟨h.t0,by rw[e _ (by omega) (by omega)];exact h.top,h.chain.alike h.range e,h.range,h.nodup,fun _=>trivial,h.diff⟩
theorem Stk.rerow {w w':World}{P:Nat→Prop}{s b bw bs bt bu bl W G base cap:Nat}{ws cs:Nat→Int}{ob:Nat→Nat}{ws' cs':Nat→Int}(h:Stk w P s b bw bs bt bu bl W G base cap ws cs (fun _=>.idle) ob) (hA:Ar w' b bw bs W G ws' cs') (e:∀ k,P k→k≠bw→k≠bs→w'.heap[k]?=w.heap[k]?) (hs:w.heap.size≤w'.heap.size):Stk w' P s b bw bs bt bu bl W G base cap ws' cs' (fun _=>.idle) ob:=by
 obtain⟨f1,f2,f3,f4,f5,f6,f7⟩:=h.foot
 obtain⟨t,u,l,t1,t2,u1,u2,l1,l2⟩:=h.bx
 exact⟨hA,⟨(e bt f5 t1 t2).trans t,(e bu f6 u1 u2).trans u,(e bl f7 l1 l2).trans l,t1,t2,u1,u2,l1,l2⟩,h.here.of_block (e s f1 (fun q=>z1W h.ar.words h.here q.symm) (fun q=>z1W h.ar.steps h.here q.symm)),fun _ _=>trivial,fun _ _ _ _ _ q=>absurd rfl q,fun _ _=>rfl,h.foot,fun k hk=>Nat.lt_of_lt_of_le (h.lt k hk) hs,h.few,h.big,h.base1,h.cap1,h.cap2⟩
theorem Good.rerow {w w':World}{P:Nat→Prop}{s b W base G cap:Nat}{old cs ws' cs':Nat→Int}{T:Int}{xs:List Int}(h:Good w P s ⟨b,W,base,old⟩ G cap cs calm T xs) (e:Else w w' P b W G base (base+cap+1) ws' cs'):Good w' P s ⟨b,W,base,ws'⟩ G cap cs' calm T xs:=by
 obtain⟨bw,bs,bt,bu,bl,ws,ob,hS,hI,hO⟩:=h
 obtain⟨e1,e2,e3⟩:=e.rows bw bs ws cs hS.ar
 exact⟨bw,bs,bt,bu,bl,ws',ob,hS.rerow e1 e3 e.size,hI.alike fun a h1 h2=>e2 a h1 (by have h2':a≤base+cap:=h2;omega),fun _ _=>rfl⟩
theorem Good.ar {w:World}{P:Nat→Prop}{s b W base G cap:Nat}{old cs:Nat→Int}{T:Int}{xs:List Int}(h:Good w P s ⟨b,W,base,old⟩ G cap cs calm T xs):∃ bw bs ws,Ar w b bw bs W G ws cs∧(∀ a,a<base∨base+cap<a→ws a=old a)∧P b∧P bw∧P bs:=by
 obtain⟨bw,bs,bt,bu,bl,ws,ob,hS,hI,hO⟩:=h
 exact⟨bw,bs,ws,hS.ar,hO,hS.foot.2.1,hS.foot.2.2.1,hS.foot.2.2.2.1⟩
section
variable {w w':World}{P:Nat→Prop}{b W base G:Nat}{cs ws ws' cs':Nat→Int}{T:Int}{xs:List Int}
theorem PlC.rerow {Q:Nat→Prop}{p s bc pl k n:Nat}(h:PlC w P Q p s bc pl k b W base n G cs T xs ws) (e:Else w w' P b W G base (base+(10*n+1)) ws' cs'):PlC w' P Q p s bc pl k b W base n G cs' T xs ws':=by
 obtain⟨bw,bs,w0,hA,hO,_,qw,qs⟩:=h.good.ar
 obtain⟨_,e2,e3⟩:=e.rows bw bs w0 cs hA
 have n1:=h.n1
 have far:∀ j,¬ Q j→j≠bw∧j≠bs:=fun j hj=>⟨fun r=>hj (r ▸ qw),fun r=>hj (r ▸ qs)⟩
 have f1:=far p h.off.1
 have f2:=far bc h.off.2.1
 have f3:=far pl h.off.2.2
 refine⟨h.good.rerow (e.sub h.sub (by omega) (by omega)),(e3 p h.foot.1 f1.1 f1.2).trans h.here,(e3 bc h.foot.2.1 f2.1 f2.2).trans h.box,(z1U (e3 pl h.foot.2.2 f3.1 f3.2)).trans h.list,h.sub,h.foot,h.off,fun j hj=>Nat.lt_of_lt_of_le (h.lt j hj) e.size,h.fit,h.big,h.n1,h.n2,fun f hf=>?_⟩
 have ew:ws' (base+8*n+f)=ws (base+8*n+f):=(e2 _ (by omega) (by omega)).trans (hO _ (.inl (by show base+8*n+f<base+9*n;omega)))
 rw[ew]
 exact h.col f hf
theorem Pl.rerow {p n:Nat}(h:Pl w P p b W base n G cs T xs ws) (e:Else w w' P b W G base (base+(10*n+1)) ws' cs'):Pl w' P p b W base n G cs' T xs ws':=by
 obtain⟨Q,s,bc,pl,k,h⟩:=h
 exact⟨Q,s,bc,pl,k,h.rerow e⟩
theorem Pl.ar {p n:Nat}(h:Pl w P p b W base n G cs T xs ws):∃ bw bs w0,Ar w b bw bs W G w0 cs∧(∀ a,a<base+9*n∨base+10*n<a→w0 a=ws a)∧P b∧P bw∧P bs:=by
 obtain⟨Q,s,bc,pl,k,h⟩:=h
 obtain⟨bw,bs,w0,hA,hO,q1,q2,q3⟩:=h.good.ar
 exact⟨bw,bs,w0,hA,fun a ha=>hO a (by show a<base+9*n∨base+9*n+n<a;omega),h.sub _ q1,h.sub _ q2,h.sub _ q3⟩
variable {so mb p N:Nat}{nn:Nat}{D:DataW Unit}{O:List Ob}
theorem Raw.rerow (h:Raw w P so mb p b W base N G cs T xs ws nn D) (e:Else w w' P b W G base (base+(10*N+1)) ws' cs'):Raw w' P so mb p b W base N G cs' T xs ws' nn D:=by
 obtain⟨P0,h1,h2,h3,h4⟩:=h.pl
 obtain⟨bw,bs,w0,hA,_,_,qw,qs⟩:=h1.ar
 obtain⟨_,_,e3⟩:=e.rows bw bs w0 cs hA
 have far:∀ j,¬ P0 j→j≠bw∧j≠bs:=fun j hj=>⟨fun r=>hj (r ▸ qw),fun r=>hj (r ▸ qs)⟩
 exact⟨⟨P0,h1.rerow (e.sub h2 (Nat.le_refl _) (Nat.le_refl _)),h2,h3,h4⟩,(e3 so h.own.1 (far so h3).1 (far so h3).2).trans h.here,z19 h.map (e3 mb h.own.2 (far mb h4).1 (far mb h4).2),h.own,fun k hk=>Nat.lt_of_lt_of_le (h.lt k hk) e.size⟩
theorem OInv.alike {len:Nat}(h:OInv ws base N len O) (e:∀ a,base≤a→a<base+9*N→ws' a=ws a):OInv ws' base N len O:=by
 refine⟨h.size,fun o ho k hk=>?_,h.inj,h.apart,fun o ho k hk=>?_,h.sum⟩
 ·have h1:=h.used o ho k hk
  exact⟨h1.1,by rw[e _ (by omega) (by omega)];exact h1.2⟩
 ·have h1:=h.used o ho k (by omega)
  rw[e _ (by omega) (by omega)]
  exact h.link o ho k hk
theorem Sto.rerow (h:Sto w P so mb p b W base N G cs T xs ws nn D O) (e:Else w w' P b W G base (base+(10*N+1)) ws' cs'):Sto w' P so mb p b W base N G cs' T xs ws' nn D O∧∀ a,base≤a→a<base+9*N→ws' a=ws a:=by
 obtain⟨P0,h1,_⟩:=h.raw.pl
 obtain⟨bw,bs,w0,hA,hO,_⟩:=h1.ar
 obtain⟨_,e2,_⟩:=e.rows bw bs w0 cs hA
 have ee:∀ a,base≤a→a<base+9*N→ws' a=ws a:=fun a l1 l2=>(e2 a l1 (by omega)).trans (hO a (.inl l2))
 exact⟨⟨h.raw.rerow e,h.inv.alike ee,h.mp⟩,ee⟩
end
end Go.Proofs.YthkelaeemefnaaaGreat
