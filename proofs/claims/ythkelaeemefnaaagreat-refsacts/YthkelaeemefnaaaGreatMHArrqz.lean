import Derived.Test.YthkelaeemefnaaaGreatMP5qz
import Derived.Test.YthkelaeemefnaaaGreatMHMathqz
set_option maxRecDepth 20000
namespace Go.Proofs.YthkelaeemefnaaaGreat
open Go.RowKit
def Up (c c':Int→Int) (g k:Int):Prop:=(∀ j,j≠g→c' j=c j)∧c g≤c' g∧c' g≤c g+k
theorem Up.refl (c:Int→Int) (g:Int):Up c c g 0:=⟨fun _ _=>rfl,Int.le_refl _,by omega⟩
theorem Up.trans {c c' c'':Int→Int}{g k l:Int}(h:Up c c' g k) (h':Up c' c'' g l):Up c c'' g (k+l) :=
 ⟨fun j hj=>(h'.1 j hj).trans (h.1 j hj),Int.le_trans h.2.1 h'.2.1,by have:=h.2.2;have:=h'.2.2;omega⟩
theorem Up.mono {c c':Int→Int}{g k l:Int}(h:Up c c' g k) (hl:k≤l):Up c c' g l:=⟨h.1,h.2.1,by have:=h.2.2;omega⟩
theorem Ticked.up {c c':Int→Int}{g k:Int}(h:Ticked c c' g k) (h0:0≤c g) (h1:c g+k≤1000000000000):Up c c' g k:=by
 obtain⟨h2,d,h3,h4,h5⟩:=h
 rw[IntWalk.wrap64_in _ (by omega)] at h5
 exact⟨h2,by omega,by omega⟩
theorem SpTurn.after {w w1 w':World}{P:Nat→Prop}{s b W G:Nat}{q q':St}{V V':Int→Int→Int}{c c':Int→Int}(h:Gd w P s b W G q V c) (hb:Below w.heap.size w w1) (ht:SpTurn w1 P s b W G q' V' c' w'):SpTurn w P s b W G q' V' c' w':=by
 obtain⟨P',hG,hB,hW,e⟩:=ht
 obtain⟨bw,bs,f,hA,_⟩:=h.ar
 exact⟨P',hG,(Bt.of_below hb).trans hB,fun k hk=>(hW k hk).imp id (fun r=>Nat.le_trans hb.size r),e.trans (hb.block b hA.lt)⟩
theorem SpTurn.trans {w w1 w':World}{P P1:Nat→Prop}{s b W G:Nat}{q':St}{V':Int→Int→Int}{c':Int→Int}(hB:Bt P w w1) (hW:Wider P P1 w) (hb:w1.heap[b]?=w.heap[b]?) (ht:SpTurn w1 P1 s b W G q' V' c' w'):SpTurn w P s b W G q' V' c' w':=by
 obtain⟨P',hG,hB',hW',e⟩:=ht
 exact⟨P',hG,hB.wide hB' hW,hW.trans hW' hB.size,e.trans hb⟩
structure Same (q q':St):Prop where
 shape:q'.xs.map (fun z=>(z.id,z.n))=q.xs.map (fun z=>(z.id,z.n))
 base:q'.base=q.base
 half:q'.half=q.half
 given:q'.given=q.given
 off:q'.c.on=false
theorem z5Z {g:Ary→Int}(hg:∀ x y:Ary,x.n=y.n→g x=g y):∀ (a b:List Ary),a.map (fun z=>(z.id,z.n))=b.map (fun z=>(z.id,z.n))→sumG g a=sumG g b
 | [],[],_=>rfl
 | [],_::_,h=>by simp at h
 | _::_,[],h=>by simp at h
 | x::r,y::r',h=>by
  simp only[List.map_cons,List.cons.injEq,Prod.mk.injEq] at h
  simp only[sumG,hg x y h.1.2,z5Z hg r r' h.2]
section
variable {w:World}{P:Nat→Prop}{s b W G:Nat}{q:St}{V:Int→Int→Int}{c:Int→Int}
theorem zeU:∀ xs:List Ary,(∀ x∈xs,0≤x.n)→0≤sumG wt xs∧sumG wt xs≤sumG sz xs
 | [],_=>⟨Int.le_refl _,Int.le_refl _⟩
 | x::r,h=>by
  have h1:=zeU r fun z hz=>h z (by simp[hz])
  have h2:=h x (by simp)
  simp only[sumG,sz,wt];omega
theorem zc0 (h:Gd w P s b W G q V c) {x:Ary}(hx:x∈q.xs) (g i:Int) (hg:0≤g∧g<G) (hi:0≤i∧i<x.n):
  Calls Tryz.prog 272 #[.agg #[.pointer (some ⟨s,0,none⟩)],.int .i64 g,.int .i64 x.id,.int .i64 i] w fun e w'=>e=.returned (.tuple #[.int .i64 (V x.id i),.int .i64 0])∧∃ c',Ticked c c' g 2∧SpTurn w P s b W G q V c' w':=by
 have hb:=(Below.refl w.heap.size w).alloc (Nat.le_refl _) (.cells #[.pointer (some ⟨s,0,none⟩)] 153)
 have hG:=zeZ (h.below hb) hx g i hg hi
 have HA:Hid (∀ c' w',SpTurn (w.alloc (.cells #[.pointer (some ⟨s,0,none⟩)] 153)) P s b W G q V c' w'→SpTurn w P s b W G q V c' w'):=fun c' w' ht=>SpTurn.after h hb ht
 clear h hb hx
 go_enter Tryz.func272,Tryz.ntmps272
 go_wp2_with (go_at_call 277;refine hG.mono ?_;rintro e w1 ⟨rfl,c',h1,h2⟩)
 go_ret2
 exact⟨rfl,c',h1,HA.out c' w1 h2⟩
theorem ze1 (h:Gd w P s b W G q V c) {x:Ary}(hx:x∈q.xs) (g i y:Int) (hg:0≤g∧g<G) (hi:0≤i∧i<x.n):
  Calls Tryz.prog 274 #[.agg #[.pointer (some ⟨s,0,none⟩)],.int .i64 g,.int .i64 x.id,.int .i64 i,.int .i64 y] w fun e w'=>e=.returned (.int .i64 0)∧∃ c',Ticked c c' g 4∧SpTurn w P s b W G q (updV V x.id i y) c' w':=by
 have hb:=(Below.refl w.heap.size w).alloc (Nat.le_refl _) (.cells #[.pointer (some ⟨s,0,none⟩)] 153)
 have hG:=z9M (h.below hb) hx g i y hg hi
 have HA:Hid (∀ c' w',SpTurn (w.alloc (.cells #[.pointer (some ⟨s,0,none⟩)] 153)) P s b W G q (updV V x.id i y) c' w'→SpTurn w P s b W G q (updV V x.id i y) c' w'):=fun c' w' ht=>SpTurn.after h hb ht
 clear h hb hx
 go_enter Tryz.func274,Tryz.ntmps274
 go_wp2_with (go_at_call 278;refine hG.mono ?_;rintro e w1 ⟨rfl,c',h1,h2⟩)
 go_ret
 exact⟨rfl,c',h1,HA.out c' w1 h2⟩
theorem zd2 (h:Gd w P s b W G q V c) {x:Ary}(hx:x∈q.xs) (g:Int):
  Calls Tryz.prog 271 #[.agg #[.pointer (some ⟨s,0,none⟩)],.int .i64 g,.int .i64 x.id] w fun e w'=>e=.returned (.int .i64 0)∧SpTurn w P s b W G (z0M q (pos q.xs x.id) x.n) V c w':=by
 have hb:=(Below.refl w.heap.size w).alloc (Nat.le_refl _) (.cells #[.pointer (some ⟨s,0,none⟩)] 153)
 have hG:=zen (h.below hb) hx
 have HA:Hid (∀ w',SpTurn (w.alloc (.cells #[.pointer (some ⟨s,0,none⟩)] 153)) P s b W G (z0M q (pos q.xs x.id) x.n) V c w'→SpTurn w P s b W G (z0M q (pos q.xs x.id) x.n) V c w'):=fun w' ht=>SpTurn.after h hb ht
 clear h hb hx
 go_enter Tryz.func271,Tryz.ntmps271
 go_wp2_with (go_at_call 276;refine hG.mono ?_;rintro e w1 ⟨rfl,h2⟩)
 go_ret
 exact⟨rfl,HA.out w1 h2⟩
structure Under (q0 q:St) (c0 c:Int→Int) (g K:Int):Prop where
 shape:q.xs.map (fun z=>(z.id,z.n))=q0.xs.map (fun z=>(z.id,z.n))
 base:q.base=q0.base
 half:q.half=q0.half
 given:q.given=q0.given
 dropped:q.dropped=0
 cost:Up c0 c g (4*(K-(if q.c.on=true then z0D q else 0)))
 rank:(if q.c.on=true then z0D q else 0)≤K
theorem Under.step {q0 q q':St}{c0 c c':Int→Int}{g K:Int}(h:Under q0 q c0 c g K) (hon:q.c.on=true) (h1:1≤z0D q) (hs:z2G q q') (ht:Ticked c c' g 4) (hc:0≤c0 g∧c0 g+4*K≤1000000000):Under q0 q' c0 c' g K∧((if q'.c.on=true then z0D q' else 0)<z0D q):=by
 have hr:=h.rank
 rw[if_pos hon] at hr
 have hcs:=h.cost
 rw[if_pos hon] at hcs
 have hup:=ht.up (by have:=hcs.2;omega) (by have:=hcs.2;omega)
 cases hq:q'.c.on with
 | true =>
  have h2:=(hs.on hq).2.2
  refine⟨⟨hs.shape.trans h.shape,hs.base.trans h.base,hs.half.trans h.half,hs.given.trans h.given,hs.dropped.trans h.dropped,?_,?_⟩,?_⟩
  ·rw[if_pos hq];exact (hcs.trans hup).mono (by omega)
  ·rw[if_pos hq];omega
  ·rw[if_pos rfl];exact h2
 | false =>
  refine⟨⟨hs.shape.trans h.shape,hs.base.trans h.base,hs.half.trans h.half,hs.given.trans h.given,hs.dropped.trans h.dropped,?_,?_⟩,?_⟩
  ·rw[if_neg (by rw[hq];simp)];exact (hcs.trans hup).mono (by omega)
  ·rw[if_neg (by rw[hq];simp)];omega
  ·rw[if_neg (by simp)];omega
theorem zcx (h:Gd w P s b W G q V c) (hlt:∀ k,P k→k<w.heap.size) (hoff:q.c.on=false) (g:Int) (hg:0≤g∧g<G) (hgi:q.given≤1000000000) (hc:0≤c g∧c g≤900000000):
  Calls Tryz.prog 275 #[.agg #[.pointer (some ⟨s,0,none⟩)],.int .i64 g] w fun e w'=>e=.returned (.tuple #[])∧∃ q' c',Same q q'∧q'.dropped=0∧Up c c' g 140000∧SpTurn w P s b W G q' V c' w':=by
 have hb:=(Below.refl w.heap.size w).alloc (Nat.le_refl _) (.cells #[.pointer (some ⟨s,0,none⟩)] 153)
 have hBg:=zbl (h.below hb) hoff
 obtain⟨hW,_,_,_,f,_,hI⟩:=id h
 have hrk:=z8G hI
 have hw:=zeU q.xs fun x hx=>(hI.ids x hx).2.2
 have hK:1+sumG wt q.xs≤32769:=by have:=hI.sums;have:=hI.big;have:=hI.base0;omega
 obtain⟨K,hKe⟩:∃ K:Nat,(K:Int)=1+sumG wt q.xs:=⟨(1+sumG wt q.xs).toNat,by omega⟩
 have HA:Hid (∀ q' c' w',SpTurn (w.alloc (.cells #[.pointer (some ⟨s,0,none⟩)] 153)) P s b W G q' V c' w'→SpTurn w P s b W G q' V c' w'):=fun q' c' w' ht=>SpTurn.after h hb ht
 have HU:Hid (Under q (z0x q) c c g K∧(z0x q).c.on=true):=by
  refine⟨⟨rfl,rfl,rfl,rfl,rfl,?_,?_⟩,rfl⟩
  ·rw[if_pos (show (z0x q).c.on=true from rfl),hrk,← hKe];exact (Up.refl c g).mono (by omega)
  ·rw[if_pos (show (z0x q).c.on=true from rfl),hrk,← hKe];exact Int.le_refl _
 have hK2:K≤32769:=by omega
 have hcell:∀ w1,Bt P (w.alloc (.cells #[.pointer (some ⟨s,0,none⟩)] 153)) w1→w1.cell? ⟨w.heap.size,0,none⟩=some (.pointer (some ⟨s,0,none⟩))∧w.heap.size<w1.heap.size:=fun w1 hB=>by
  have e:=heap_alloc_new w (.cells #[.pointer (some ⟨s,0,none⟩)] 153)
  have hs:=hB.size
  rw[Go.Deep.nblk_alloc] at hs
  have e2:=(hB.block w.heap.size (by rw[Go.Deep.nblk_alloc];omega) (fun r=>by have:=hlt _ r;omega)).trans e
  exact⟨z08 e2,by omega⟩
 have HG:Hid (q.given≤1000000000):=hgi
 have HC:Hid (0≤c g∧c g≤900000000):=hc
 clear h hb hI hrk hw hK hKe hlt hgi hc hoff
 obtain⟨W0,hW0⟩:∃ W0,W0=w.alloc (.cells #[.pointer (some ⟨s,0,none⟩)] 153):=⟨_,rfl⟩
 rw[← hW0] at HA hcell
 have HW:Hid (W0=w.alloc (.cells #[.pointer (some ⟨s,0,none⟩)] 153)):=hW0
 clear hW0
 go_enter Tryz.func275,Tryz.ntmps275
 go_wp2_with (go_at_call 279;refine hBg.mono ?_;rintro e w1 ⟨rfl,hT1⟩;rw[← HW.out] at hT1;clear hBg)
 go_loopg [4] (K+1) (fun kx s4 wr=>∃ qr cr,s4=.bool qr.c.on∧Under q qr c cr g K∧(if qr.c.on=true then z0D qr else 0)≤(kx:Int)∧SpTurn W0 P s b W G qr V cr wr)
 case atStart=>exact⟨z0x q,c,by rw[HU.out.2],HU.out.1,by have:=HU.out.1.rank;omega,hT1⟩
 case round =>
  obtain⟨qr,cr,rfl,hU,hk,Pr,hG,hB,hWd,hbb⟩:=hrel
  have hcc:=hcell wr hB
  cases hon:qr.c.on with
  | true =>
   obtain⟨_,_,_,_,fr,_,hIr⟩:=id hG
   have hr1:=hIr.rank1
   have hcs:=hU.cost
   have hrk:=hU.rank
   rw[if_pos hon] at hcs hrk hk
   have hc0:=HC.out
   have hst:=zbe hG hon g hg (by rw[hU.given];exact HG.out) (IntWalk.wrap64_in _ (by have:=hcs.2;omega))
   have HU2:Hid (∀ q' c',z2G qr q'→Ticked cr c' g 4→Under q q' c c' g K∧((if q'.c.on=true then z0D q' else 0)<z0D qr)):=fun q' c' h1 h2=>hU.step hon hr1 h1 h2 ⟨HC.out.1,by have:=HC.out.2;omega⟩
   have HT:Hid (∀ q' c' w',SpTurn wr Pr s b W G q' V c' w'→SpTurn W0 P s b W G q' V c' w'):=fun q' c' w' ht=>SpTurn.trans hB hWd hbb ht
   have Hr:Hid (1≤z0D qr∧z0D qr≤(gk:Int)):=⟨hr1,hk⟩
   clear hU hIr hr1 hcs hrk hk hG hB hWd hbb hc0 hon
   go_wp2_with (go_at_call 280;refine hst.mono ?_;rintro e w2 ⟨q',c',rfl,hs,htk,hT2⟩;clear hst)
   have h9:=HU2.out q' c' hs htk
   have h8:=Hr.out
   go_roundg (gk-1)
   case measure=>omega
   case rel=>exact⟨q',c',rfl,h9.1,by omega,HT.out _ _ _ hT2⟩
  | false =>
   obtain⟨_,_,_,_,fr,_,hIr⟩:=id hG
   have hcs:=hU.cost
   have hrk:=hU.rank
   rw[if_neg (by rw[hon];simp)] at hcs hrk
   have HF:Hid (Same q qr∧qr.dropped=0∧Up c cr g 140000):=⟨⟨hU.shape,hU.base,hU.half,hU.given,hon⟩,hU.dropped,hcs.mono (by omega)⟩
   have HT:Hid (SpTurn W0 P s b W G qr V cr wr):=⟨Pr,hG,hB,hWd,hbb⟩
   clear hU hIr hcs hrk hk hG hB hWd hbb
   go_wp2
   go_end0
   exact⟨rfl,qr,cr,HF.out.1,HF.out.2.1,HF.out.2.2,HA.out _ _ _ HT.out⟩
def z7g (w:World) (P:Nat→Prop) (s b W G:Nat) (q:St) (V:Int→Int→Int) (c:Int→Int) (g:Int) (n:Int) (e:Ending) (w':World):Prop :=
 e=.returned (.tuple #[.int .i64 (q.given+1),.int .i64 0])∧∃ q' c',Same q q'∧Up c c' g 150000∧SpTurn w P s b W G (made q' n) (fun id i=>if id=q.given+1 then 0 else V id i) c' w'
theorem zbU (h:Gd w P s b W G q V c) (hlt:∀ k,P k→k<w.heap.size) (hoff:q.c.on=false) (g n:Int) (hg:0≤g∧g<G) (hn:0≤n∧n≤1000) (hr:sumG sz q.xs+(n+4)≤q.half) (hgi:q.given<1000000000) (hc:0≤c g∧c g≤900000000):
  Calls Tryz.prog 273 #[.agg #[.pointer (some ⟨s,0,none⟩)],.int .i64 g,.int .i64 n] w (z7g w P s b W G q V c g n):=by
 have hb:=(Below.refl w.heap.size w).alloc (Nat.le_refl _) (.cells #[.pointer (some ⟨s,0,none⟩)] 153)
 have hG:=h.below hb
 by_cases hrm:n+4≤q.half-q.taken
 ·have hM:=z4h hG g n hg hn hrm hgi
  have HA:Hid (∀ c' w',Ticked c c' g (n+2)→SpTurn (w.alloc (.cells #[.pointer (some ⟨s,0,none⟩)] 153)) P s b W G (made q n) (fun id i=>if id=q.given+1 then 0 else V id i) c' w'→z7g w P s b W G q V c g n (.returned (.tuple #[.int .i64 (q.given+1),.int .i64 0])) w'):=fun c' w' h1 h2 =>
   ⟨rfl,q,c',⟨rfl,rfl,rfl,rfl,hoff⟩,(h1.up hc.1 (by omega)).mono (by omega),SpTurn.after h hb h2⟩
  clear h hb hG hlt hoff hrm hr
  go_enter Tryz.func273,Tryz.ntmps273
  go_wp2_with (go_at_call 261;refine hM.mono ?_;rintro e w1 ⟨rfl,c',h1,h2⟩)
  go_ret2
  exact HA.out c' w1 h1 h2
 ·have hF:=z9T hG g n hg hn (by omega)
  have hbox:∀ w1,Below (w.alloc (.cells #[.pointer (some ⟨s,0,none⟩)] 153)).heap.size (w.alloc (.cells #[.pointer (some ⟨s,0,none⟩)] 153)) w1→w1.heap[w.heap.size]?=some (.cells #[.pointer (some ⟨s,0,none⟩)] 153 (0,0)):=fun w1 hb1 =>
   (hb1.block w.heap.size (by rw[Go.Deep.nblk_alloc];omega)).trans (heap_alloc_new w _)
  have HC:Hid (∀ w1,Below (w.alloc (.cells #[.pointer (some ⟨s,0,none⟩)] 153)).heap.size (w.alloc (.cells #[.pointer (some ⟨s,0,none⟩)] 153)) w1→Calls Tryz.prog 275 #[.agg #[.pointer (some ⟨s,0,none⟩)],.int .i64 g] w1 fun e w'=>e=.returned (.tuple #[])∧(w'.cell? ⟨w.heap.size,0,none⟩=some (.pointer (some ⟨s,0,none⟩))∧w.heap.size<w'.heap.size) ∧
    Calls Tryz.prog 261 #[.pointer (some ⟨s,0,none⟩),.int .i64 g,.int .i64 n] w' fun e w'=>e=.returned (.tuple #[.int .i64 (q.given+1),.int .i64 0])∧z7g w P s b W G q V c g n (.returned (.tuple #[.int .i64 (q.given+1),.int .i64 0])) w'):=fun w1 hb1=>by
   have hbw:=hb.trans (hb1.mono hb.size)
   have hG1:=h.below hbw
   have e1:=hbox w1 hb1
   refine (zcx hG1 (fun k hk=>Nat.lt_of_lt_of_le (hlt k hk) hbw.size) hoff g hg (by omega) hc).mono ?_
   rintro e w2 ⟨rfl,q',c',hS,hd,hU,P2,hG2,hB2,hW2,hbb⟩
   have e2:=(hB2.block w.heap.size (z02 e1) (fun r=>by have:=hlt _ r;omega)).trans e1
   refine⟨rfl,⟨z08 e2,z02 e2⟩,?_⟩
   obtain⟨_,_,_,_,f,_,hI⟩:=id hG2
   have hsm:=hI.sums
   have ho:=hI.off hS.off
   have hss:=z5Z (g:=sz) (fun x y hxy=>by show x.n+4=y.n+4;omega) _ _ hS.shape
   refine (z4h hG2 g n hg hn (by rw[hS.half];omega) (by rw[hS.given];exact hgi)).mono ?_
   rintro e w3 ⟨rfl,c3,h3,h4⟩
   have hu2:=hU.2
   refine⟨by rw[hS.given],rfl,q',c3,hS,(hU.trans (h3.up (by omega) (by omega))).mono (by omega),SpTurn.after h hbw (SpTurn.trans hB2 hW2 hbb ?_)⟩
   rw[hS.given] at h4
   exact h4
  have HB:Hid (∀ w1,Below (w.alloc (.cells #[.pointer (some ⟨s,0,none⟩)] 153)).heap.size (w.alloc (.cells #[.pointer (some ⟨s,0,none⟩)] 153)) w1→w1.heap[w.heap.size]?=some (.cells #[.pointer (some ⟨s,0,none⟩)] 153 (0,0))):=hbox
  clear h hb hG hlt hoff hrm hr hbox
  go_enter Tryz.func273,Tryz.ntmps273
  go_wp2_with (first
   | (go_at_call 275;refine (HC.out w1 hb1).mono ?_;rintro e w2 ⟨rfl,hcc,hM⟩)
   | (go_at_call 261;first
       | (refine hF.mono ?_;rintro e w1 ⟨rfl,hb1⟩;clear hF;have e1:=HB.out w1 hb1;have c1:=z08 e1;have c2:=z02 e1;clear e1)
       | (refine hM.mono ?_;rintro e w3 ⟨rfl,hP⟩)))
  go_ret2
  exact hP
end
end Go.Proofs.YthkelaeemefnaaaGreat
