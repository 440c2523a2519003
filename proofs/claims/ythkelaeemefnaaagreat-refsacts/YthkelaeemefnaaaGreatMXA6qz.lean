import Derived.Test.YthkelaeemefnaaaGreatMXA3qz
set_option maxRecDepth 20000
set_option maxHeartbeats 8000000
namespace Go.Proofs.YthkelaeemefnaaaGreat
open Go.RowKit
section
variable {B:Nat}{w0 w w':World}{rh hb:Nat}{X:Cm}{fs qs:List Int}{y rb W T i:Nat}{va vq:Value}{vr:Nat→Value}{R:Nat→List Int}{Q:List Int}{L:List Lr}{E:Nat→Prop}
theorem Ri.set {g n cap:Nat}{U:List Int}(h:Ri w B (.slice (some ⟨g,0,none⟩) n cap) U) {j:Nat}(hj:j<U.length) (v:Int):Ri (w.setCell ⟨g,j,none⟩ (.int .i64 v)) B (.slice (some ⟨g,0,none⟩) n cap) (U.set j v):=by
 have h1:=(Ri.rs.1 h).set (i:=j) (by rw[List.length_map];exact hj) (r:=[.int .i64 v]) rfl
 rw[← List.map_set] at h1
 have h2:=Ri.rs.2 h1
 rw[Nat.mul_one] at h2
 exact h2
theorem Pl13.setw (H:Pl13 B w0 w rh hb X fs qs y rb W T va vq vr R Q L E) {k:Nat}{z:Lr}(hk:L[k]?=some z) {g n cap:Nat}(hv:z.v=.slice (some ⟨g,0,none⟩) n cap) {j:Nat}(hj:j<z.ws.length) (v:Int):Pl13 B w0 (w.setCell ⟨g,j,none⟩ (.int .i64 v)) rh hb X fs qs y rb W T va vq vr R Q (L.set k { z with ws:=z.ws.set j v }) E:=by
 have hmem:(z.v,z.ws)∈bunL vq Q vr R T L:=List.mem_of_getElem? (z6l hk)
 have hg:z.v.ownBlock=some g:=by rw[hv];rfl
 obtain⟨a1,a2,a3,a4⟩:=H.lm.apart
 obtain⟨b1,b2,b3⟩:=a4 _ hmem
 have st:∀ q,q≠g→(w.setCell ⟨g,j,none⟩ (.int .i64 v)).heap[q]?=w.heap[q]?:=fun q hq=>z03 _ _ hq
 have hB:Bt (fun q=>z.v.ownBlock=some q) w (w.setCell ⟨g,j,none⟩ (.int .i64 v)):=⟨rfl,rfl,rfl,by simp[World.setCell],fun q _ hn=>st q (fun e=>hn (by rw[hg,e]))⟩
 have hrow:L.map rowR=(L.set k { z with ws:=z.ws.set j v }).map rowR:=by
  rw[List.map_set]
  have:(L.map rowR)[k]?=some (rowR z):=by rw[List.getElem?_map,hk];rfl
  apply List.ext_getElem?
  intro a
  rw[List.getElem?_set]
  by_cases e:k=a
  ·subst e
   rw[if_pos rfl,this,if_pos (List.getElem?_eq_some_iff.1 this).1]
   rfl
  ·rw[if_neg e]
 have hw:=H.lm.word hk
 rw[hv] at hw
 have bun3:=H.lm.bun.set (z6l hk) hB (v:=z.v) (U:=z.ws.set j v) (by rw[hv];exact hw.set hj v) (.inl rfl)
 have e3:(bunL vq Q vr R T L).set (T+1+k) (z.v,z.ws.set j v)=bunL vq Q vr R T (L.set k { z with ws:=z.ws.set j v }):=z9H (z:={ z with ws:=z.ws.set j v })
 rw[e3] at bun3
 refine H.remake (hB.mono (fun q _ hq=>.inr (.inr (.inr ⟨_,hmem,hq⟩)))) ⟨(st y (fun e=>b1 (by rw[hg,e]))).trans H.lm.here,?_,H.lm.rts.of_block (st rb (fun e=>b2 (by rw[hg,e]))),bun3,H.lm.low⟩ (fun q hq=>?_)
 ·rw[← hrow]
  exact H.lm.row.of_block (fun q hq=>st q (fun e=>b3 g hg (by rw[← e];exact hq)))
 ·rcases hq with e|e|e|⟨p,q1,q2⟩
  ·exact .inl (.inl e)
  ·exact .inl (.inr (.inl e))
  ·exact .inl (.inr (.inr (.inl e)))
  ·rw[← e3] at q1
   rcases List.mem_or_eq_of_mem_set q1 with e|e
   ·exact .inl (.inr (.inr (.inr ⟨p,e,q2⟩)))
   ·rw[e] at q2
    exact .inl (.inr (.inr (.inr ⟨_,hmem,q2⟩)))
theorem Ok13.putw (h:Ok13 X fs qs W T L i) {k:Nat}{z:Lr}(hk:L[k]?=some z) {k2:Nat}(hr:z.ref=(k2:Int)+1) {j:Nat}{v:Int}(h4:z.kind≠4) (c':Int→Int):Ok13 (X.putw k2 j v c') fs qs W T (L.set k { z with ws:=z.ws.set j v }) (i+1):=by
 have h1:=h.few
 have h2:=h.cost
 have h3:=h.cy
 have hin:∀ x∈L.set k { z with ws:=z.ws.set j v },(x={ z with ws:=z.ws.set j v })∨(x∈L∧x.ref≠z.ref):=fun x hx=>by
  obtain⟨a,ha,e⟩:=List.getElem_of_mem hx
  have hxa:(L.set k { z with ws:=z.ws.set j v })[a]?=some x:=by rw[List.getElem?_eq_getElem ha,e]
  rw[List.getElem?_set] at hxa
  by_cases q:k=a
  ·subst q
   rw[if_pos rfl,if_pos (List.getElem?_eq_some_iff.1 hk).1] at hxa
   exact .inl (by simpa using hxa.symm)
  ·rw[if_neg q] at hxa
   exact .inr ⟨List.mem_of_getElem? hxa,fun e2=>q (h.ag.inj hk hxa e2.symm)⟩
 have hmap:∀ f:Lr→Int,f { z with ws:=z.ws.set j v }=f z→(L.set k { z with ws:=z.ws.set j v }).map f=L.map f:=fun f hf=>by
  rw[List.map_set,hf]
  have:(L.map f)[k]?=some (f z):=by rw[List.getElem?_map,hk];rfl
  apply List.ext_getElem?
  intro a
  rw[List.getElem?_set]
  by_cases e:k=a
  ·subst e
   rw[if_pos rfl,this,if_pos (List.getElem?_eq_some_iff.1 this).1]
  ·rw[if_neg e]
 have hfilt:((L.set k { z with ws:=z.ws.set j v }).filter fun x=>x.fin&&!x.qd).map Lr.ref=(L.filter fun x=>x.fin&&!x.qd).map Lr.ref:=by
  have key:∀ (L:List Lr) (k:Nat),L[k]?=some z→((L.set k { z with ws:=z.ws.set j v }).filter fun x=>x.fin&&!x.qd).map Lr.ref=(L.filter fun x=>x.fin&&!x.qd).map Lr.ref:=by
   intro L
   induction L with
   | nil=>intro k hk;simp at hk
   | cons a r ih =>
    intro k hk
    cases k with
    | zero =>
     simp at hk
     subst hk
     simp only[List.set_cons_zero,List.filter_cons]
     split<;>rfl
    | succ k =>
     have:=ih k (by simpa using hk)
     simp only[List.set_cons_succ,List.filter_cons]
     split
     ·simp only[List.map_cons,this]
     ·exact this
  exact key L k hk
 refine⟨⟨?_,fun x hx=>?_,?_,fun x hx hx4=>?_⟩,h.eT,h.eW,h.lim,h.r64,⟨by omega,by rw[List.length_set];omega⟩,?_,?_⟩
 ·rw[hmap Lr.ref rfl];exact h.ag.refs
 ·rcases hin x hx with rfl|⟨hxL,hne⟩
  ·obtain⟨cl,q1,q2,q3,q4⟩:=h.ag.cel z (List.mem_of_getElem? hk)
   refine⟨cl,q1,q2,by rw[List.length_set];exact q3,fun a ha=>?_⟩
   show (z.ws.set j v)[a]?=some (setF X.F k2 (fun l=>if l=j then v else X.F k2 l) (z.ref-1).toNat a)
   rw[hr,show ((k2:Int)+1-1).toNat=k2 by omega,z0L]
   by_cases e:a=j
   ·subst e
    rw[if_pos rfl,List.getElem?_set_self (by omega)]
   ·rw[if_neg e,List.getElem?_set_ne (fun q=>e q.symm),q4 a ha,hr]
    unfold wd
    rw[show ((k2:Int)+1-1).toNat=k2 by omega]
  ·obtain⟨cl,q1,q2,q3,q4⟩:=h.ag.cel x hxL
   refine⟨cl,q1,q2,q3,fun a ha=>?_⟩
   rw[q4 a ha]
   show some (X.F (x.ref-1).toNat a)=some (setF X.F k2 (fun l=>if l=j then v else X.F k2 l) (x.ref-1).toNat a)
   obtain⟨k3,e3,_⟩:=z0d q1
   rw[z0n _ _ (by omega)]
 ·rw[hfilt];exact h.ag.fin
 ·rcases hin x hx with rfl|⟨hxL,_⟩
  ·exact absurd hx4 h4
  ·exact h.ag.weak x hxL hx4
 ·show X.m+2+500*cntS X.S≤_
  omega
 ·show 0≤X.cy∧X.cy≤_
  omega
end
end Go.Proofs.YthkelaeemefnaaaGreat
namespace Go.Proofs.YthkelaeemefnaaaGreat
open Go.RowKit
section
variable {w:World}{A A2:Nat}
attribute [local go_sem ↓] z1I
def z3u (A:Nat) (w:World) (v:Value) (V:List Int) (e:Ending) (w':World):Prop:=∃ ao cap,e=.returned (.slice ao V.length cap)∧Ri w' A (.slice ao V.length cap) V∧Bt (fun k=>v.ownBlock=some k) w w'∧((Value.slice ao V.length cap).ownBlock=v.ownBlock∨∃ j,(Value.slice ao V.length cap).ownBlock=some j∧w.heap.size≤j)
theorem z92 {ao:Option Addr}{n cap:Nat}{U:List Int}(hU:Ri w A (.slice ao n cap) U) (hn:U.length=n) (hA:A≤w.heap.size) (hl:n≤1000) (x:Int) (hx:∀ u∈U,u<x):
  Calls Tryz.prog 62 #[.slice ao n cap,.int .i64 x] w (z3u A w (.slice ao n cap) (U++[x])):=by
 obtain⟨ao',cap',w3,hrun,hU3,hg,hat⟩:=hU.more x hA (by omega) (heap_alloc_new w (.cells #[.int .i64 x] 3)) ((Below.refl _ _).alloc (Nat.le_refl _) _)
 rw[hn] at hrun hU3 hat
 have hU4:=hU3
 obtain⟨p,hp0,hp,hcap,hfz,hcs⟩:=hU3.cells (by simp)
 subst hp0
 have cn:=hcs n x (by rw[← hn];simp)
 have hpl:=hp.2
 have fz:=hfz n
 have HE:Hid (z3u A w (.slice ao n cap) (U++[x]) (.returned (.slice (some ⟨p,0,none⟩) (n+1) cap')) (w3.setCell ⟨p,n,none⟩ (.int .i64 x))):=by
  have hl2:(U++[x]).length=n+1:=by rw[List.length_append,hn];rfl
  have hs:=hU4.set (j:=n) (by omega) x
  have es:(U++[x]).set n x=U++[x]:=by rw[← hn];simp
  rw[es] at hs
  refine⟨_,cap',by rw[hl2],by rw[hl2];exact hs,⟨hg.os,hg.tape,hg.output,by simpa [World.setCell] using hg.size,fun k hk q=>?_⟩,by rw[hl2];exact hat⟩
  have hne:k≠p:=fun e=>by
   rcases hat with z|⟨j,z1,z2⟩
   ·exact q (by rw[← z,e];rfl)
   ·simp[Value.ownBlock] at z1
    omega
  exact (z03 _ _ hne).trans (hg.block k hk (fun z=>q z.symm))
 have HC:Hid (∀ m u,U[m]?=some u→w3.cell? ⟨p,m,none⟩=some (.int .i64 u)∧u<x):=fun m u hm=>⟨hcs m u (by rw[List.getElem?_append_left (List.getElem?_eq_some_iff.1 hm).1];exact hm),hx u (List.mem_of_getElem? hm)⟩
 have HN:Hid (U.length=n):=hn
 clear hU hU4 hU3 hg hat hp hcap hfz hcs hx hn
 go_enter Tryz.func62,Tryz.ntmps62
 cases n with
 | zero =>
  go_wp2
  go_loopg [5] 1 (fun kx s5 wr=>s5=.int .i64 0∧wr=w3)
  case atStart=>exact⟨rfl,rfl⟩
  case round =>
   obtain⟨rfl,rfl⟩:=hrel
   go_wp2
   go_ret
   exact HE.out
 | succ m =>
  obtain⟨u,hu⟩:∃ u,U[m]?=some u:=⟨_,List.getElem?_eq_getElem (by rw[HN.out];omega)⟩
  obtain⟨cm,hux⟩:=HC.out m u hu
  have g0:decide (x<u)=false:=by simp;omega
  have g1:(0:Int)<(m:Int)+1:=by omega
  have g2:(m:Int)<(m:Int)+1+1:=by omega
  clear HC HN hu hux
  go_wp2
  go_loopg [5] 1 (fun kx s5 wr=>s5=.int .i64 ((m:Int)+1)∧wr=w3)
  case atStart=>exact⟨rfl,rfl⟩
  case round =>
   obtain⟨rfl,rfl⟩:=hrel
   go_wp2
   go_ret
   exact HE.out
theorem z82 {ao bo:Option Addr}{n ca cb:Nat}{U:List Int}(hU:Ri w A (.slice ao n ca) U) (hV:Ri w A2 (.slice bo n cb) U) (hn:U.length=n) (hl:n≤1000):
  Calls Tryz.prog 31 #[.slice ao n ca,.slice bo n cb] w fun e w'=>e=.returned (.bool true)∧Below w.heap.size w w':=by
 have HC:Hid (∀ j,j<n→∃ p q u,ao=some ⟨p,0,none⟩∧bo=some ⟨q,0,none⟩∧p<w.heap.size∧q<w.heap.size∧w.cell? ⟨p,j,none⟩=some (.int .i64 u)∧w.cell? ⟨q,j,none⟩=some (.int .i64 u)):=fun j hj=>by
  obtain⟨u,hu⟩:∃ u,U[j]?=some u:=⟨_,List.getElem?_eq_getElem (by omega)⟩
  obtain⟨p,e1,h1,_,_,h2⟩:=hU.cells (by omega)
  obtain⟨q,e2,h3,_,_,h4⟩:=hV.cells (by omega)
  exact⟨p,q,u,e1,e2,h1.2,h3.2,h2 j u hu,h4 j u hu⟩
 clear hU hV hn
 go_enter Tryz.func31,Tryz.ntmps31
 go_wp2
 go_loopg [5] 1001 (fun kx s5 wr=>∃ j:Nat,s5=.int .i64 j∧j≤n∧n-j≤kx∧Hid (Below w.heap.size w wr))
 case atStart=>exact⟨0,rfl,by omega,by omega,Below.refl _ _⟩
 case round =>
  obtain⟨j,rfl,hj,hkx,HB⟩:=hrel
  by_cases hjn:j<n
  ·have g1:(j:Int)<(n:Int):=by omega
   obtain⟨p,q,u,e1,e2,hp,hq,cp,cq⟩:=HC.out j hjn
   subst e1
   subst e2
   have dp:wr.cell? ⟨p,j,none⟩=some (.int .i64 u):=(z0q (a:=⟨p,j,none⟩) (HB.out.block p hp)).trans cp
   have dq:wr.cell? ⟨q,j,none⟩=some (.int .i64 u):=(z0q (a:=⟨q,j,none⟩) (HB.out.block q hq)).trans cq
   have lp:p<wr.heap.size:=Nat.lt_of_lt_of_le hp HB.out.size
   have lq:q<wr.heap.size:=Nat.lt_of_lt_of_le hq HB.out.size
   have HB2:Hid (∀ n,Below w.heap.size w (wr.drewN n)):=fun n=>HB.out.trans ((z00 wr n _).mono HB.out.size)
   clear HB cp cq hp hq
   go_wp2
   go_quiet (fail)
   go_wp2
   go_roundg (n-(j+1))
   case measure=>omega
   case rel=>exact⟨j+1,by go_num,by omega,by omega,HB2.out _⟩
  ·have g1:¬ (j:Int)<(n:Int):=by omega
   go_wp2
   go_ret
   exact⟨rfl,HB.out⟩
theorem z6h {ao:Option Addr}{n ca:Nat}{U:List Int}(hU:Ri w A (.slice ao n ca) U) (hn:U.length=n) (hl:n≤1000):
  Calls Tryz.prog 63 #[.slice ao n ca] w fun e w'=>e=.returned (.tuple #[])∧Bt (fun k=>(Value.slice ao n ca).ownBlock=some k) w w':=by
 have H0:Hid (∃ U:List Int,U.length=n∧Ri w A (.slice ao n ca) U∧Bt (fun k=>(Value.slice ao n ca).ownBlock=some k) w w):=⟨U,hn,hU,rfl,rfl,rfl,Nat.le_refl _,fun _ _ _=>rfl⟩
 clear hU hn
 go_enter Tryz.func63,Tryz.ntmps63
 go_wp2
 go_loopg [2] 1001 (fun kx s2 wr=>∃ j:Nat,s2=.int .i64 j∧j≤n∧n-j≤kx∧Hid (∃ U:List Int,U.length=n∧Ri wr A (.slice ao n ca) U∧Bt (fun k=>(Value.slice ao n ca).ownBlock=some k) w wr))
 case atStart=>exact⟨0,rfl,by omega,by omega,H0⟩
 case round =>
  clear H0
  obtain⟨j,rfl,hj,hkx,HB⟩:=hrel
  by_cases hjn:j<n
  ·have g1:(j:Int)<(n:Int):=by omega
   obtain⟨U,hn,hU,hB⟩:=HB.out
   obtain⟨u,hu⟩:∃ u,U[j]?=some u:=⟨_,List.getElem?_eq_getElem (by omega)⟩
   obtain⟨p,e1,h1,_,hfz,h2⟩:=hU.cells (by omega)
   subst e1
   have cp:=h2 j u hu
   have lp:=h1.2
   have fz:=hfz j
   have HN:Hid (∀ z,∃ U:List Int,U.length=n∧Ri (wr.setCell ⟨p,j,none⟩ (.int .i64 z)) A (.slice (some ⟨p,0,none⟩) n ca) U∧Bt (fun k=>(Value.slice (some ⟨p,0,none⟩) n ca).ownBlock=some k) w (wr.setCell ⟨p,j,none⟩ (.int .i64 z))):=fun z=>⟨U.set j z,by rw[List.length_set];exact hn,hU.set (by omega) z,hB.os,hB.tape,hB.output,by simpa [World.setCell] using hB.size,fun k hk q=>(z03 _ _ (fun e=>q (by rw[show k=p from e];rfl))).trans (hB.block k hk q)⟩
   clear HB hU hB hu h1 hfz h2 hn
   go_wp2
   go_roundg (n-(j+1))
   case measure=>omega
   case rel=>exact⟨j+1,by go_num,by omega,by omega,HN.out _⟩
  ·have g1:¬ (j:Int)<(n:Int):=by omega
   have HE:Hid (Bt (fun k=>(Value.slice ao n ca).ownBlock=some k) w wr):=(let ⟨_,_,_,h⟩:=HB.out;h)
   clear HB
   go_wp2
   go_end0
   exact⟨rfl,HE.out⟩
end
end Go.Proofs.YthkelaeemefnaaaGreat
namespace Go.Proofs.YthkelaeemefnaaaGreat
open Go.RowKit
def z1w (f:Lr→Lr) (L:List Lr) (i:Nat):List Lr:=(L.take i).map f++L.drop i
theorem z4m (f:Lr→Lr) (L:List Lr):z1w f L 0=L:=by simp[z1w]
theorem z6m (f:Lr→Lr) (L:List Lr):z1w f L L.length=L.map f:=by simp[z1w]
theorem z1A (f:Lr→Lr) (L:List Lr) (i:Nat):(z1w f L i).length=L.length:=by
 unfold z1w
 rw[List.length_append,List.length_map,List.length_take,List.length_drop]
 omega
theorem z4K (f:Lr→Lr) {L:List Lr}{i:Nat}{z:Lr}(hz:L[i]?=some z):(z1w f L i)[i]?=some z:=by
 have hi:=(List.getElem?_eq_some_iff.1 hz).1
 unfold z1w
 rw[List.getElem?_append_right (by rw[List.length_map,List.length_take];omega),List.length_map,List.length_take,Nat.min_eq_left (by omega),Nat.sub_self,List.getElem?_drop,Nat.add_zero]
 exact hz
theorem z2T (f:Lr→Lr) {L:List Lr}{i:Nat}{z:Lr}(hz:L[i]?=some z):z1w f L (i+1)=(z1w f L i).set i (f z):=by
 have hi:=(List.getElem?_eq_some_iff.1 hz).1
 have hd:L.drop i=z::L.drop (i+1):=by
  rw[List.drop_eq_getElem_cons hi]
  rw[List.getElem?_eq_getElem hi] at hz
  simp only[Option.some.injEq] at hz
  rw[hz]
 unfold z1w
 rw[List.set_append,if_neg (by rw[List.length_map,List.length_take];omega),List.length_map,List.length_take,Nat.min_eq_left (by omega),Nat.sub_self,hd,List.set_cons_zero,List.take_add_one,hz,List.map_append,List.append_assoc]
 rfl
theorem z9h {α:Type}(g:Lr→α) (f:Lr→Lr) (hg:∀ x,g (f x)=g x) (L:List Lr) (i:Nat):(z1w f L i).map g=L.map g:=by
 unfold z1w
 rw[List.map_append,List.map_map,show (g ∘ f)=g from funext hg,← List.map_append,List.take_append_drop]
theorem z9b {L L':List Lr}(h:L'.map Lr.ref=L.map Lr.ref) {t R:Int}(hf:FndR L t R):FndR L' t R:=by
 have at_:∀ (a:Nat) (x:Lr),L'[a]?=some x→∃ z,L[a]?=some z∧z.ref=x.ref:=fun a x hx=>by
  have:(L'.map Lr.ref)[a]?=some x.ref:=by rw[List.getElem?_map,hx];rfl
  rw[h,List.getElem?_map] at this
  obtain⟨z,hz,e⟩:=Option.map_eq_some_iff.1 this
  exact⟨z,hz,e⟩
 rcases hf with ⟨i,x,h1,h2,h3,h4⟩|⟨h1,h2⟩
 ·have:(L.map Lr.ref)[i]?=some x.ref:=by rw[List.getElem?_map,h1];rfl
  rw[← h,List.getElem?_map] at this
  obtain⟨z,hz,e⟩:=Option.map_eq_some_iff.1 this
  refine .inl ⟨i,z,hz,by rw[e,h2],fun j u hj hu q=>?_,h4⟩
  obtain⟨z2,hz2,e2⟩:=at_ j u hu
  exact h3 j z2 hj hz2 (by rw[e2,q])
 ·refine .inr ⟨fun x hx q=>?_,h2⟩
  obtain⟨a,ha,e⟩:=List.getElem_of_mem hx
  obtain⟨z,hz,ez⟩:=at_ a x (by rw[List.getElem?_eq_getElem ha,e])
  exact h1 z (List.mem_of_getElem? hz) (by rw[ez,q])
theorem zcH {cur c':Array Value}{a0 a1 a2 a3 b:Value}(o:Nat) (h0:cur[o]?=some a0) (h1:cur[o+1]?=some a1) (h2:cur[o+2]?=some a2) (h3:cur[o+3]?=some a3) (hsz:o+5≤cur.size) (g:∀ j,c'[j]?=if o≤j∧j<o+[a0,a1,a2,a3,b].length then [a0,a1,a2,a3,b][j-o]? else cur[j]?):c'=cur.setIfInBounds (o+4) b:=by
 apply Array.ext_getElem?
 intro a
 rw[g a,Array.getElem?_setIfInBounds]
 simp only[List.length_cons,List.length_nil]
 by_cases hin:o≤a∧a<o+5
 ·rw[if_pos hin]
  rcases (show a=o∨a=o+1∨a=o+2∨a=o+3∨a=o+4 by omega) with e|e|e|e|e
  ·subst e;rw[if_neg (by omega),h0,Nat.sub_self];rfl
  ·subst e;rw[if_neg (by omega),h1,show o+1-o=1 by omega];rfl
  ·subst e;rw[if_neg (by omega),h2,show o+2-o=2 by omega];rfl
  ·subst e;rw[if_neg (by omega),h3,show o+3-o=3 by omega];rfl
  ·subst e;rw[if_pos rfl,if_pos (by omega),show o+4-o=4 by omega];rfl
 ·rw[if_neg hin,if_neg (by omega)]
structure Cy13 (B:Nat) (w0:World) (rh hb:Nat) (X:Cm) (fs qs:List Int) (y rb W T:Nat) (va vq:Value) (vr:Nat→Value) (L':List Lr) (A gs n:Nat) (sn:Nat→Bool) (v4:Value) (U4:List Int) (v5:Value) (U5:List Int) (u:World):Prop where
 pl:Pl13 B w0 u rh hb X fs qs y rb W T va vq vr X.rt qs L' (fun k=>k=gs∨v4.ownBlock=some k∨v5.ownBlock=some k)
 seen:u.rowIs gs 4 n (fun i=>.bool (sn i))
 r4:Ri u A v4 U4
 r5:Ri u A v5 U5
 dis:∀ k,v4.ownBlock=some k→v5.ownBlock≠some k
 low:∀ k,Pown y rb va (bunL vq qs vr X.rt T L') k→k<A
 gsA:A≤gs
 szA:A≤u.heap.size
section
variable {B:Nat}{w0 u u':World}{rh hb:Nat}{X:Cm}{fs qs:List Int}{y rb W T:Nat}{va vq:Value}{vr:Nat→Value}{L' L'':List Lr}{A gs n:Nat}{sn:Nat→Bool}{v4 v5 v:Value}{U4 U5 U:List Int}
theorem Cy13.gs4 (h:Cy13 B w0 rh hb X fs qs y rb W T va vq vr L' A gs n sn v4 U4 v5 U5 u):v4.ownBlock≠some gs∧v5.ownBlock≠some gs:=by
 obtain⟨cur,hc,_⟩:=h.seen
 refine⟨fun e=>?_,fun e=>?_⟩
 ·obtain⟨c2,h2⟩:=h.r4.kind e;rw[hc] at h2;simp at h2
 ·obtain⟨c2,h2⟩:=h.r5.kind e;rw[hc] at h2;simp at h2
theorem Cy13.law (h:Cy13 B w0 rh hb X fs qs y rb W T va vq vr L' A gs n sn v4 U4 v5 U5 u) (hp:Pl13 B w0 u' rh hb X fs qs y rb W T va vq vr X.rt qs L'' (fun k=>k=gs∨v4.ownBlock=some k∨v5.ownBlock=some k)) (hs:u.heap.size≤u'.heap.size) (hB:∀ k,A≤k→k<u.heap.size→u'.heap[k]?=u.heap[k]?) (hlow:∀ k,Pown y rb va (bunL vq qs vr X.rt T L'') k→k<A):Cy13 B w0 rh hb X fs qs y rb W T va vq vr L'' A gs n sn v4 U4 v5 U5 u' :=
 ⟨hp,h.seen.of_block (hB gs h.gsA h.seen.lt),h.r4.of_block (fun k hk=>hB k (h.r4.lt hk).1 (h.r4.lt hk).2),h.r5.of_block (fun k hk=>hB k (h.r5.lt hk).1 (h.r5.lt hk).2),h.dis,hlow,h.gsA,Nat.le_trans h.szA hs⟩
theorem Cy13.put4 (h:Cy13 B w0 rh hb X fs qs y rb W T va vq vr L' A gs n sn v4 U4 v5 U5 u) (hB:Bt (fun k=>v4.ownBlock=some k) u u') (hv:Ri u' A v U) (hat:v.ownBlock=v4.ownBlock∨∃ j,v.ownBlock=some j∧u.heap.size≤j):Cy13 B w0 rh hb X fs qs y rb W T va vq vr L' A gs n sn v U v5 U5 u':=by
 have hvn:∀ k,v.ownBlock=some k→v4.ownBlock=some k∨u.heap.size≤k:=fun k hk=>by
  rcases hat with q|⟨j,q1,q2⟩
  ·rw[q] at hk;exact .inl hk
  ·rw[q1] at hk;simp at hk;omega
 have st:∀ k,k<u.heap.size→v4.ownBlock≠some k→u'.heap[k]?=u.heap[k]?:=fun k hk q=>hB.block k hk q
 have hlm:∀ k,Pown y rb va (bunL vq qs vr X.rt T L') k→u'.heap[k]?=u.heap[k]?:=fun k hk=>st k (h.pl.lm.lt hk).1 (fun q=>by have:=h.low k hk;have:=(h.r4.lt q).1;omega)
 refine⟨⟨h.pl.rs.mine (hB.mono (fun k _ hk=>.inr (.inr (.inl hk)))) (fun k hk=>?_),h.pl.lm.same hlm⟩,h.seen.of_block (st gs h.seen.lt h.gs4.1),hv,h.r5.of_block (fun k hk=>st k (h.r5.lt hk).2 (fun q=>h.dis k q hk)),fun k hk q=>?_,h.low,h.gsA,Nat.le_trans h.szA hB.size⟩
 ·rcases hk with q|q|q|q
  ·exact .inl (.inl q)
  ·exact .inl (.inr (.inl q))
  ·rcases hvn k q with z|z
   ·exact .inl (.inr (.inr (.inl z)))
   ·exact .inr ⟨z,(hv.lt q).2⟩
  ·exact .inl (.inr (.inr (.inr q)))
 ·rcases hvn k hk with z|z
  ·exact h.dis k z q
  ·have:=(h.r5.lt q).2;omega
theorem Cy13.put5 (h:Cy13 B w0 rh hb X fs qs y rb W T va vq vr L' A gs n sn v4 U4 v5 U5 u) (hB:Bt (fun k=>v5.ownBlock=some k) u u') (hv:Ri u' A v U) (hat:v.ownBlock=v5.ownBlock∨∃ j,v.ownBlock=some j∧u.heap.size≤j):Cy13 B w0 rh hb X fs qs y rb W T va vq vr L' A gs n sn v4 U4 v U u':=by
 have hvn:∀ k,v.ownBlock=some k→v5.ownBlock=some k∨u.heap.size≤k:=fun k hk=>by
  rcases hat with q|⟨j,q1,q2⟩
  ·rw[q] at hk;exact .inl hk
  ·rw[q1] at hk;simp at hk;omega
 have st:∀ k,k<u.heap.size→v5.ownBlock≠some k→u'.heap[k]?=u.heap[k]?:=fun k hk q=>hB.block k hk q
 have hlm:∀ k,Pown y rb va (bunL vq qs vr X.rt T L') k→u'.heap[k]?=u.heap[k]?:=fun k hk=>st k (h.pl.lm.lt hk).1 (fun q=>by have:=h.low k hk;have:=(h.r5.lt q).1;omega)
 refine⟨⟨h.pl.rs.mine (hB.mono (fun k _ hk=>.inr (.inr (.inr hk)))) (fun k hk=>?_),h.pl.lm.same hlm⟩,h.seen.of_block (st gs h.seen.lt h.gs4.2),h.r4.of_block (fun k hk=>st k (h.r4.lt hk).2 (fun q=>h.dis k hk q)),hv,fun k hk q=>?_,h.low,h.gsA,Nat.le_trans h.szA hB.size⟩
 ·rcases hk with q|q|q|q
  ·exact .inl (.inl q)
  ·exact .inl (.inr (.inl q))
  ·exact .inl (.inr (.inr (.inl q)))
  ·rcases hvn k q with z|z
   ·exact .inl (.inr (.inr (.inr z)))
   ·exact .inr ⟨z,(hv.lt q).2⟩
 ·rcases hvn k q with z|z
  ·exact h.dis k hk z
  ·have:=(h.r4.lt hk).2;omega
theorem Cy13.below (h:Cy13 B w0 rh hb X fs qs y rb W T va vq vr L' A gs n sn v4 U4 v5 U5 u) (b:Below u.heap.size u u'):Cy13 B w0 rh hb X fs qs y rb W T va vq vr L' A gs n sn v4 U4 v5 U5 u' :=
 ⟨h.pl.below b,h.seen.of_block (b.block gs h.seen.lt),h.r4.below b,h.r5.below b,h.dis,h.low,h.gsA,Nat.le_trans h.szA b.size⟩
theorem zak (h:L''.map Lr.v=L'.map Lr.v) {k:Nat}:Pown y rb va (bunL vq qs vr X.rt T L'') k↔Pown y rb va (bunL vq qs vr X.rt T L') k:=by
 have key:∀ L1 L2:List Lr,L1.map Lr.v=L2.map Lr.v→(∃ q∈bunL vq qs vr X.rt T L1,q.1.ownBlock=some k)→∃ q∈bunL vq qs vr X.rt T L2,q.1.ownBlock=some k:=fun L1 L2 e ⟨q,h1,h2⟩=>by
  unfold bunL at h1 ⊢
  rcases List.mem_cons.1 h1 with z|z
  ·exact⟨_,List.mem_cons_self,by rw[z] at h2;exact h2⟩
  ·rcases List.mem_append.1 z with z|z
   ·exact⟨q,List.mem_cons_of_mem _ (List.mem_append_left _ z),h2⟩
   ·obtain⟨x,hx,rfl⟩:=List.mem_map.1 z
    have:x.v∈L2.map Lr.v:=by rw[← e];exact List.mem_map.2 ⟨x,hx,rfl⟩
    obtain⟨x2,hx2,e2⟩:=List.mem_map.1 this
    exact⟨(x2.v,x2.ws),List.mem_cons_of_mem _ (List.mem_append_right _ (List.mem_map.2 ⟨x2,hx2,rfl⟩)),by show x2.v.ownBlock=some k;rw[e2];exact h2⟩
 unfold Pown
 constructor
 ·rintro (q|q|q|q)
  ·exact .inl q
  ·exact .inr (.inl q)
  ·exact .inr (.inr (.inl q))
  ·exact .inr (.inr (.inr (key _ _ h q)))
 ·rintro (q|q|q|q)
  ·exact .inl q
  ·exact .inr (.inl q)
  ·exact .inr (.inr (.inl q))
  ·exact .inr (.inr (.inr (key _ _ h.symm q)))
theorem Cy13.setw (h:Cy13 B w0 rh hb X fs qs y rb W T va vq vr L' A gs n sn v4 U4 v5 U5 u) {k:Nat}{z:Lr}(hk:L'[k]?=some z) {g m cap:Nat}(hv:z.v=.slice (some ⟨g,0,none⟩) m cap) {j:Nat}(hj:j<z.ws.length) (x:Int):Cy13 B w0 rh hb X fs qs y rb W T va vq vr (L'.set k { z with ws:=z.ws.set j x }) A gs n sn v4 U4 v5 U5 (u.setCell ⟨g,j,none⟩ (.int .i64 x)):=by
 have hmap:(L'.set k { z with ws:=z.ws.set j x }).map Lr.v=L'.map Lr.v:=by
  rw[List.map_set]
  have:(L'.map Lr.v)[k]?=some z.v:=by rw[List.getElem?_map,hk];rfl
  apply List.ext_getElem?
  intro a
  rw[List.getElem?_set]
  by_cases e:k=a
  ·subst e
   rw[if_pos rfl,this,if_pos (List.getElem?_eq_some_iff.1 this).1]
  ·rw[if_neg e]
 have hg:g<A:=h.low g (.inr (.inr (.inr ⟨_,List.mem_of_getElem? (z6l hk),by rw[hv];rfl⟩)))
 exact h.law (h.pl.setw hk hv hj x) (by simp[World.setCell]) (fun k hk _=>z03 _ _ (fun e=>by have:k=g:=e;omega)) (fun k hk=>h.low k ((zak hmap).1 hk))
theorem Cy13.setqd (h:Cy13 B w0 rh hb X fs qs y rb W T va vq vr L' A gs n sn v4 U4 v5 U5 u) {k:Nat}{z:Lr}(hk:L'[k]?=some z) {p cap:Nat}(hv:va=.slice (some ⟨p,0,none⟩) L'.length cap):Cy13 B w0 rh hb X fs qs y rb W T va vq vr (L'.set k { z with qd:=true }) A gs n sn v4 U4 v5 U5 (u.setCell ⟨p,k*5+4,none⟩ (.bool true)):=by
 have hkl:=(List.getElem?_eq_some_iff.1 hk).1
 have hmapv:∀ (α:Type) (f:Lr→α),f { z with qd:=true }=f z→(L'.set k { z with qd:=true }).map f=L'.map f:=fun α f hf=>by
  rw[List.map_set,hf]
  have:(L'.map f)[k]?=some (f z):=by rw[List.getElem?_map,hk];rfl
  apply List.ext_getElem?
  intro a
  rw[List.getElem?_set]
  by_cases e:k=a
  ·subst e
   rw[if_pos rfl,this,if_pos (List.getElem?_eq_some_iff.1 this).1]
  ·rw[if_neg e]
 have hbun:bunL vq qs vr X.rt T (L'.set k { z with qd:=true })=bunL vq qs vr X.rt T L':=by
  unfold bunL
  rw[hmapv _ (fun x=>(x.v,x.ws)) rfl]
 have hpA:p<A:=h.low p (.inr (.inr (.inl (by rw[hv];rfl))))
 obtain⟨a1,a2,a3,a4⟩:=h.pl.lm.apart
 have hvo:va.ownBlock=some p:=by rw[hv];rfl
 have st:∀ q,q≠p→(u.setCell ⟨p,k*5+4,none⟩ (.bool true)).heap[q]?=u.heap[q]?:=fun q hq=>z03 _ _ hq
 have hrow:=h.pl.lm.row
 rw[hv] at hrow
 have hset:=hrow.set (i:=k) (by rw[List.length_map];exact hkl) (r:=rowR { z with qd:=true }) rfl
 have hblk:∃ cur,u.heap[p]?=some (.cells cur 90 (0,0)):=hrow.kind (j:=p) rfl
 obtain⟨cur,hcur⟩:=hblk
 have e5:(u.setCells p (k*5) (rowR { z with qd:=true })).heap[p]?=(u.setCell ⟨p,k*5+4,none⟩ (.bool true)).heap[p]?:=by
  obtain⟨p',e',hp',_,_,hcs⟩:=hrow.cells (by rw[List.length_map];omega)
  simp only[Option.some.injEq,Addr.mk.injEq,and_true] at e'
  subst e'
  have h5:=z9L (hcs k (rowR z) (by rw[List.getElem?_map,hk];rfl))
  have hsz:k*5+5≤cur.size:=by
   rcases hrow.own.2 with ⟨q,_⟩|⟨g,c2,cur2,q,_,q2,q3,_,q5,_⟩
   ·simp at q
   ·simp only[Value.slice.injEq,Option.some.injEq,Addr.mk.injEq,and_true] at q
    obtain⟨e1,_,_⟩:=q
    subst e1
    rw[hcur] at q2
    simp only[Option.some.injEq,Obj.cells.injEq,and_true] at q2
    rw[q2]
    rw[List.length_map] at q3
    have:(k+1)*5≤c2*5:=Nat.mul_le_mul_right 5 (by omega)
    omega
  obtain⟨c',g1,g2,g3⟩:=z1s (rowR { z with qd:=true }) (k*5) u cur hcur (by show k*5+5≤cur.size;exact hsz)
  rw[g1,z05 hcur]
  have cget:∀ b,u.cell? ⟨p,b,none⟩=cur[b]?:=fun b=>by simp[World.cell?,hcur]
  obtain⟨c0,c1,c2,c3,c4⟩:=h5
  rw[cget] at c0 c1 c2 c3
  rw[zcH (k*5) c0 c1 c2 c3 hsz g3]
 have hrow2:Rs (u.setCell ⟨p,k*5+4,none⟩ (.bool true)) B 90 5 va ((L'.set k { z with qd:=true }).map rowR):=by
  rw[hv,List.map_set]
  exact hset.of_block (fun q hq=>by
   simp only[Value.ownBlock,Option.some.injEq] at hq
   subst hq
   exact e5.symm)
 have hlm:Lm B (u.setCell ⟨p,k*5+4,none⟩ (.bool true)) rh y rb W T va vq vr X.rt qs (L'.set k { z with qd:=true }):=by
  refine⟨(st y (fun e=>a2 (by rw[hvo,e]))).trans h.pl.lm.here,hrow2,h.pl.lm.rts.of_block (st rb (fun e=>a3 (by rw[hvo,e]))),?_,h.pl.lm.low⟩
  rw[hbun]
  exact h.pl.lm.bun.same (fun q hq k hk=>st k (fun e=>(a4 q hq).2.2 k hk (by rw[hvo,e])))
 have hp9:=h.pl.remake (w':=u.setCell ⟨p,k*5+4,none⟩ (.bool true)) ⟨rfl,rfl,rfl,by simp[World.setCell],fun q _ hn=>st q (fun e=>hn (.inr (.inr (.inl (by rw[hvo,e])))))⟩ hlm (fun q hq=>.inl (by rw[hbun] at hq;exact hq))
 exact h.law hp9 (by simp[World.setCell]) (fun q hq _=>st q (fun e=>by omega)) (fun q hq=>h.low q (by rw[hbun] at hq;exact hq))
end
end Go.Proofs.YthkelaeemefnaaaGreat
namespace Go.Proofs.YthkelaeemefnaaaGreat
open Go.RowKit
structure Cq13 (B:Nat) (w0:World) (rh hb:Nat) (X:Cm) (fs qs:List Int) (y rb W T:Nat) (va vq:Value) (vr:Nat→Value) (Q:List Int) (L':List Lr) (v4:Value) (U4:List Int) (v5:Value) (U5:List Int) (u:World):Prop where
 pl:Pl13 B w0 u rh hb X fs qs y rb W T va vq vr X.rt Q L' (fun k=>v4.ownBlock=some k∨v5.ownBlock=some k)
 r4:Ri u B v4 U4
 r5:Ri u B v5 U5
 dis:∀ k,v4.ownBlock=some k→v5.ownBlock≠some k
 ap:∀ k,Pown y rb va (bunL vq Q vr X.rt T L') k→v4.ownBlock≠some k∧v5.ownBlock≠some k
structure Cz13 (B:Nat) (w0:World) (rh hb:Nat) (X:Cm) (fs qs:List Int) (y rb W T:Nat) (va vq:Value) (vr:Nat→Value) (Q:List Int) (L':List Lr) (v4:Value) (U4:List Int) (v5:Value) (U5:List Int) (A gs n:Nat) (sn:Nat→Bool) (vl:Value) (M:List Lr) (u:World):Prop where
 pl:Pl13 B w0 u rh hb X fs qs y rb W T va vq vr X.rt Q L' (fun k=>v4.ownBlock=some k∨v5.ownBlock=some k∨vl.ownBlock=some k)
 seen:u.rowIs gs 4 n (fun i=>.bool (sn i))
 r4:Ri u B v4 U4
 r5:Ri u B v5 U5
 dis:∀ k,v4.ownBlock=some k→v5.ownBlock≠some k
 ap:∀ k,Pown y rb va (bunL vq Q vr X.rt T L') k→v4.ownBlock≠some k∧v5.ownBlock≠some k
 row:Rs u A 90 5 vl (M.map rowR)
 low:∀ k,(Pown y rb va (bunL vq Q vr X.rt T L') k∨v4.ownBlock=some k∨v5.ownBlock=some k∨k=gs)→k<A
 sz:A≤u.heap.size
section
variable {B:Nat}{w0 u u':World}{rh hb:Nat}{X:Cm}{fs qs:List Int}{y rb W T:Nat}{va vq:Value}{vr:Nat→Value}{Q:List Int}{L':List Lr}{A gs n:Nat}{sn:Nat→Bool}{v4 v5 vl:Value}{U4 U5:List Int}{M:List Lr}
theorem Cy13.queue (h:Cy13 B w0 rh hb X fs qs y rb W T va vq vr L' A gs n sn v4 U4 v5 U5 u) (hl:qs.length+U5.length≤10000):∃ ao cap u3,(appC #[32,32] 32 #[vq,v5]).run Tryz.prog u=.ok (.slice ao (qs.length+U5.length) cap) u3∧(u3.cell? ⟨y,5,none⟩=some vq∧y<u3.heap.size∧u3.frozen? ⟨y,5,none⟩=false)∧Cq13 B w0 rh hb X fs qs y rb W T va (.slice ao (qs.length+U5.length) cap) vr (qs++U5) L' v4 U4 v5 U5 (u3.setCell ⟨y,5,none⟩ (.slice ao (qs.length+U5.length) cap)):=by
 have hBA:B≤A:=Nat.le_of_lt (Nat.lt_of_le_of_lt h.pl.lm.low.1 (h.low y (.inl rfl)))
 obtain⟨ao,cap,u3,hrun,hR,hg,hat⟩:=h.pl.lm.que.adds h.pl.rs.size h.r5 hl
 have hB3:Bt (fun k=>vq.ownBlock=some k) u u3:=⟨hg.os,hg.tape,hg.output,hg.size,fun k hk q=>hg.block k hk (fun z=>q z.symm)⟩
 obtain⟨hc,hp⟩:=h.pl.setq hB3 hR hat
 have hyA:=h.low y (.inl rfl)
 have hqA:∀ k,vq.ownBlock=some k→k<A:=fun k hk=>h.low k (.inr (.inr (.inr ⟨_,List.mem_of_getElem? z7r,hk⟩)))
 have st:∀ k,A≤k→k<u.heap.size→(u3.setCell ⟨y,5,none⟩ (.slice ao (qs.length+U5.length) cap)).heap[k]?=u.heap[k]?:=fun k h1 h2=>(z03 _ _ (fun e=>by have:k=y:=e;omega)).trans (hB3.block k h2 (fun q=>by have:=hqA k q;omega))
 refine⟨ao,cap,u3,hrun,hc,⟨hp.rs.less (fun k hk=>hk.imp id (fun z=>.inr z)),hp.lm⟩,(h.r4.of_block (fun k hk=>st k (h.r4.lt hk).1 (h.r4.lt hk).2)).lower hBA,(h.r5.of_block (fun k hk=>st k (h.r5.lt hk).1 (h.r5.lt hk).2)).lower hBA,h.dis,fun k hk=>?_⟩
 have key:k<A∨u.heap.size≤k:=by
  rcases hk with q|q|q|⟨p,q1,q2⟩
  ·exact .inl (h.low k (.inl q))
  ·exact .inl (h.low k (.inr (.inl q)))
  ·exact .inl (h.low k (.inr (.inr (.inl q))))
  ·rw[← z3e (vq:=vq) (Q:=qs)] at q1
   rcases List.mem_or_eq_of_mem_set q1 with z|z
   ·exact .inl (h.low k (.inr (.inr (.inr ⟨p,z,q2⟩))))
   ·rw[z] at q2
    rcases hat with z2|⟨j,z1,z2⟩
    ·exact .inl (hqA k (by rw[← z2];exact q2))
    ·have:(Value.slice ao (qs.length+U5.length) cap).ownBlock=some k:=q2
     rw[z1] at this
     simp at this
     exact .inr (by omega)
 exact⟨fun e=>by have:=h.r4.lt e;omega,fun e=>by have:=h.r5.lt e;omega⟩
theorem Cq13.seen (h:Cq13 B w0 rh hb X fs qs y rb W T va vq vr Q L' v4 U4 v5 U5 u) (b:Below u.heap.size u u') (hs:u'.rowIs u.heap.size 4 n (fun i=>.bool (sn i))):Cz13 B w0 rh hb X fs qs y rb W T va vq vr Q L' v4 U4 v5 U5 u'.heap.size u.heap.size n sn (.slice none 0 0) [] u':=by
 have hp:=h.pl.below b
 refine⟨⟨hp.rs.less (fun k hk=>hk.imp id (fun z=>z.imp id (fun z=>z.elim id (fun q=>by simp[Value.ownBlock] at q)))),hp.lm⟩,hs,h.r4.below b,h.r5.below b,h.dis,h.ap,Rs.nil _ _ _ _,fun k hk=>?_,Nat.le_refl _⟩
 rcases hk with q|q|q|q
 ·exact (hp.lm.lt q).1
 ·exact ((h.r4.below b).lt q).2
 ·exact ((h.r5.below b).lt q).2
 ·rw[q];exact hs.lt
theorem Cz13.below (h:Cz13 B w0 rh hb X fs qs y rb W T va vq vr Q L' v4 U4 v5 U5 A gs n sn vl M u) (b:Below u.heap.size u u'):Cz13 B w0 rh hb X fs qs y rb W T va vq vr Q L' v4 U4 v5 U5 A gs n sn vl M u' :=
 ⟨h.pl.below b,h.seen.of_block (b.block gs h.seen.lt),h.r4.below b,h.r5.below b,h.dis,h.ap,h.row.below b,h.low,Nat.le_trans h.sz b.size⟩
theorem Cz13.app (h:Cz13 B w0 rh hb X fs qs y rb W T va vq vr Q L' v4 U4 v5 U5 A gs n sn vl M u) (x:Lr) (hx:x∈L') (hM:M.length≤1000) {u1:World}{a:Nat}(hb1:Below u.heap.size u u1) (ha:u1.heap[a]?=some (.cells (rowR x).toArray 90 (0,0))):∃ ao cap ao' cap' u3,vl=.slice ao M.length cap∧(appC #[31,31] 31 #[.slice ao M.length cap,.slice (some ⟨a,0,none⟩) 1 1]).run Tryz.prog u1=.ok (.slice ao' (M.length+1) cap') u3∧Cz13 B w0 rh hb X fs qs y rb W T va vq vr Q L' v4 U4 v5 U5 A gs n sn (.slice ao' (M.length+1) cap') (M++[x]) u3:=by
 obtain⟨i0,hi0,hzz⟩:=Option.map_eq_some_iff.1 zdr
 simp only[Prod.mk.injEq] at hzz
 obtain⟨hz0,hz1,hz2⟩:=hzz
 have hlen:(M.map rowR).length=M.length:=List.length_map _
 obtain⟨j,hj,ej⟩:=List.getElem_of_mem hx
 obtain⟨av,cv,ev⟩:=(h.pl.lm.word (by rw[List.getElem?_eq_getElem hj,ej])).form
 obtain⟨v',u3,hrun,hR,hg,hat⟩:=h.row.app (P:=Tryz.prog) (t:=31) (ty:=31) Tryz.underlying31 hi0 hz0 hz1 hz2 rfl (by decide) (rowR x) rfl (by simp[rowR,Value.oneCell',ev]) h.sz (by rw[hlen];unfold maxLen;omega) (by rw[hlen];omega) ha hb1
 obtain⟨ao',cap',e⟩:=hR.form
 rw[List.length_append,List.length_singleton,hlen] at e
 subst e
 obtain⟨ao,cap,eva⟩:=h.row.form
 rw[hlen] at eva
 have hB3:Bt (fun k=>vl.ownBlock=some k) u u3:=⟨hg.os,hg.tape,hg.output,hg.size,fun k hk q=>hg.block k hk (fun z=>q z.symm)⟩
 have st:∀ k,k<A→u3.heap[k]?=u.heap[k]?:=fun k hk=>hB3.block k (Nat.lt_of_lt_of_le hk h.sz) (fun q=>by have:=(h.row.lt q).1;omega)
 refine⟨ao,cap,ao',cap',u3,eva,by rw[← eva];exact hrun,⟨h.pl.rs.mine (hB3.mono (fun k _ hk=>.inr (.inr (.inr hk)))) (fun k hk=>?_),h.pl.lm.same (fun k hk=>st k (h.low k (.inl hk)))⟩,h.seen.of_block (st gs (h.low gs (.inr (.inr (.inr rfl))))),h.r4.of_block (fun k hk=>st k (h.low k (.inr (.inl hk)))),h.r5.of_block (fun k hk=>st k (h.low k (.inr (.inr (.inl hk))))),h.dis,h.ap,by rw[List.map_append];exact hR,h.low,Nat.le_trans h.sz hg.size⟩
 rcases hk with q|q|q|q
 ·exact .inl (.inl q)
 ·exact .inl (.inr (.inl q))
 ·exact .inl (.inr (.inr (.inl q)))
 ·rcases hat with z|⟨j,z1,z2⟩
  ·rw[z] at q;exact .inl (.inr (.inr (.inr q)))
  ·have hlt:=(hR.lt z1).2
   rw[z1] at q;simp at q;subst q
   exact .inr ⟨z2,hlt⟩
theorem Cz13.done (h:Cz13 B w0 rh hb X fs qs y rb W T va vq vr Q L' v4 U4 v5 U5 A gs n sn vl M u) (hs:List.Sublist M L'):(u.cell? ⟨y,3,none⟩=some va∧y<u.heap.size∧u.frozen? ⟨y,3,none⟩=false)∧Cq13 B w0 rh hb X fs qs y rb W T vl vq vr Q M v4 U4 v5 U5 (u.setCell ⟨y,3,none⟩ vl):=by
 have hh:=h.pl.lm.here
 obtain⟨a1,a2,a3,a4⟩:=h.pl.lm.apart
 have hBA:B≤A:=Nat.le_of_lt (Nat.lt_of_le_of_lt h.pl.lm.low.1 (h.low y (.inl (.inl rfl))))
 have st:∀ k,k≠y→(u.setCell ⟨y,3,none⟩ vl).heap[k]?=u.heap[k]?:=fun k hk=>z03 _ _ hk
 have hly:vl.ownBlock≠some y:=fun e=>by have:=(h.row.lt e).1;have:=h.low y (.inl (.inl rfl));omega
 have hsub:List.Sublist (bunL vq Q vr X.rt T M) (bunL vq Q vr X.rt T L'):=zbG (hs.map _)
 have hown:∀ k,Pown y rb vl (bunL vq Q vr X.rt T M) k→Pown y rb va (bunL vq Q vr X.rt T L') k∨vl.ownBlock=some k:=fun k hk=>by
  rcases hk with q|q|q|⟨p,q1,q2⟩
  ·exact .inl (.inl q)
  ·exact .inl (.inr (.inl q))
  ·exact .inr q
  ·exact .inl (.inr (.inr (.inr ⟨p,hsub.subset q1,q2⟩)))
 have hlm:Lm B (u.setCell ⟨y,3,none⟩ vl) rh y rb W T vl vq vr X.rt Q M :=
  ⟨by rw[mset hh];rfl,(h.row.lower hBA).of_block (fun k hk=>st k (fun e=>hly (by rw[← e];exact hk))),h.pl.lm.rts.of_block (st rb (fun e=>a1 e.symm)),(h.pl.lm.bun.sub hsub).same (fun q hq k hk=>st k (fun e=>(a4 q (hsub.subset hq)).1 (by rw[← e];exact hk))),h.pl.lm.low⟩
 have hBt:Bt (fun k=>Pown y rb va (bunL vq Q vr X.rt T L') k∨(v4.ownBlock=some k∨v5.ownBlock=some k∨vl.ownBlock=some k)) u (u.setCell ⟨y,3,none⟩ vl):=⟨rfl,rfl,rfl,by simp[World.setCell],fun k _ hn=>st k (fun e=>hn (.inl (.inl e)))⟩
 refine⟨⟨h.pl.lm.cells.2.2.2.1,h.pl.lm.y_lt,frz hh 3⟩,⟨h.pl.rs.mine hBt (fun k hk=>?_),hlm⟩,h.r4.of_block (fun k hk=>st k (fun e=>(h.ap y (.inl rfl)).1 (by rw[← e];exact hk))),h.r5.of_block (fun k hk=>st k (fun e=>(h.ap y (.inl rfl)).2 (by rw[← e];exact hk))),h.dis,fun k hk=>?_⟩
 ·rcases hk with q|q|q
  ·rcases hown k q with z|z
   ·exact .inl (.inl z)
   ·exact .inl (.inr (.inr (.inr z)))
  ·exact .inl (.inr (.inl q))
  ·exact .inl (.inr (.inr (.inl q)))
 ·rcases hown k hk with z|z
  ·exact h.ap k z
  ·have h1:=(h.row.lt z).1
   exact⟨fun e=>by have:=h.low k (.inr (.inl e));omega,fun e=>by have:=h.low k (.inr (.inr (.inl e)));omega⟩
end
end Go.Proofs.YthkelaeemefnaaaGreat
namespace Go.Proofs.YthkelaeemefnaaaGreat
open Go.RowKit
section
variable {B:Nat}{w0 u u':World}{rh hb:Nat}{X:Cm}{fs qs:List Int}{y rb W T i:Nat}{va vq:Value}{vr:Nat→Value}{Q:List Int}{L M:List Lr}{v4 v5:Value}{U4 U5:List Int}
theorem zaB (s:Int→Bool):∀ L:List Lr,sumR (L.map (gR s))=sumR L
 | []=>rfl
 | x::r=>by
  show (gR s x).ws.length+16+sumR (r.map (gR s))=x.ws.length+16+sumR r
  rw[zaB s r,(z2p s x).2.2.2.1]
  unfold clrR
  split
  ·simp
  ·rfl
theorem z7Z (p:Int→Bool):∀ l:List Int,l.length=(l.filter p).length+(l.filter fun r=>!p r).length
 | []=>rfl
 | a::r=>by
  have:=z7Z p r
  cases e:p a
  ·rw[List.filter_cons_of_neg (by rw[e];decide),List.filter_cons_of_pos (by rw[e];rfl),List.length_cons,List.length_cons];omega
  ·rw[List.filter_cons_of_pos e,List.filter_cons_of_neg (by rw[e];decide),List.length_cons,List.length_cons];omega
theorem Cq13.se {s:Int→Bool}(h:Cq13 B w0 rh hb X fs qs y rb W T va vq vr (qs++U5) (L.map (gR s)) v4 U4 v5 U5 u) (hO:Ok13 X fs qs W T L i) (hi:i≤200) (hU5:U5=(L.filter (p2R s)).map Lr.ref):Calls Tryz.prog 61 #[.pointer (some ⟨y,0,none⟩)] u (z20 u X (qs++U5) (L.map (gR s))):=by
 have hf:=h.pl.rs.fit
 have hsum:=z0I hO.ag
 have h1:=hO.few
 have h2:=hO.lim
 rw[hO.eW] at hf
 have hl5:U5.length≤L.length:=by rw[hU5,List.length_map];exact List.length_filter_le _ _
 refine Se13.see ⟨h.pl.lm,by rw[List.length_map];omega,hO.ag.rd2 s,⟨fs,qs,h.pl.rs.rq⟩,fun r hr=>?_,hO.eT,fun _ _=>rfl,by omega,hO.r64,by rw[List.length_append];omega,by rw[zaB];omega⟩
 rcases List.mem_append.1 hr with q|q
 ·exact h.pl.rs.rq.que r q
 ·rw[hU5] at q
  obtain⟨x,hx,rfl⟩:=List.mem_map.1 q
  rw[← hO.ag.refs]
  exact List.mem_map.2 ⟨x,(List.mem_filter.1 hx).1,rfl⟩
theorem z9W {a4 a5:Option Addr}{m4 c4 m5 c5:Nat}(h:Cq13 B w0 rh hb X fs qs y rb W T va vq vr (qs++U5) M (.slice a4 m4 c4) U4 (.slice a5 m5 c5) U5 u) (hO:Ok13 X fs qs W T L i) (hi:i≤200) {s s2:Int→Bool}(hs:∀ r,s r=true↔RchQ X qs r) (hs2:∀ r,s2 r=true↔RchQ X (qs++U5) r) (hU4:U4=(L.filter (p1R s)).map Lr.ref) (hU5:U5=(L.filter (p2R s)).map Lr.ref) (hm4:U4.length=m4) (hm5:U5.length=m5) (hM:M=(L.map (gR s)).filter fun x=>s2 x.ref):
  Calls Tryz.prog 16 #[.pointer (some ⟨rh,0,none⟩)] u fun e w1=>∃ ac cc ad cd,e=.returned (.tuple #[.slice ac m4 cc,.slice ad m5 cd,.int .i64 0]) ∧
  Calls Tryz.prog 31 #[.slice ac m4 cc,.slice a4 m4 c4] w1 fun e w2=>e=.returned (.bool true) ∧
  Calls Tryz.prog 31 #[.slice ad m5 cd,.slice a5 m5 c5] w2 fun e w3=>e=.returned (.bool true) ∧
  Calls Tryz.prog 63 #[.slice ac m4 cc] w3 fun e w4=>e=.returned (.tuple #[]) ∧
  Calls Tryz.prog 63 #[.slice ad m5 cd] w4 fun e w5=>e=.returned (.tuple #[])∧Ed13 B w0 rh hb y rb W T (i+1) w5:=by
 have hf:=h.pl.rs.fit
 have hrq:=h.pl.rs.rq
 have h1:=hO.few
 have h2:=hO.lim
 have h3:=hO.cost
 have h4:=hO.cy
 rw[hO.eW] at hf
 have hl4:U4.length≤L.length:=by rw[hU4,List.length_map];exact List.length_filter_le _ _
 have hl5:U5.length≤L.length:=by rw[hU5,List.length_map];exact List.length_filter_le _ _
 refine (zcs h.pl.rs (by omega) ⟨h4.1,by omega⟩ (by omega)).mono ?_
 rintro e w1 ⟨X',u1,u2,vc,vd,rfl,hcd,hS,hvc,hvd,hst,hnew,hsz,hdis⟩
 have hcl:=hO.ag.cleared hcd hrq hs
 have hqu:=(hO.ag.queued hcd hs).1
 rw[hcl,← hU4] at hvc
 rw[hqu,← hU5] at hvd hS
 have hag:Ag13 X' (fs.filter fun r=>!u1 r) M:=by
  rw[hM]
  exact hO.ag.cyc hcd hrq hs (by rw[hqu,← hU5];exact hs2)
 obtain⟨ac,cc,evc⟩:=hvc.form
 obtain⟨ad,cd,evd⟩:=hvd.form
 rw[hm4] at evc
 rw[hm5] at evd
 rw[evc] at hvc hS hnew hdis
 rw[evd] at hvd hS hnew hdis
 refine⟨ac,cc,ad,cd,by rw[evc,evd],?_⟩
 have h41:Ri w1 B (.slice a4 m4 c4) U4:=h.r4.of_block (fun k hk=>hst k (.inr (.inl hk)))
 have h51:Ri w1 B (.slice a5 m5 c5) U5:=h.r5.of_block (fun k hk=>hst k (.inr (.inr hk)))
 have hlm1:=h.pl.lm.same (w':=w1) (fun k hk=>hst k (.inl hk))
 refine (z82 hvc h41 hm4 (by omega)).mono ?_
 rintro e w2 ⟨rfl,b2⟩
 refine⟨rfl,?_⟩
 refine (z82 (hvd.below b2) (h51.below b2) hm5 (by omega)).mono ?_
 rintro e w3 ⟨rfl,b3⟩
 refine⟨rfl,?_⟩
 have hS3:=((hS.below b2).1.below b3).1
 have hlm3:=(hlm1.below b2).below b3
 have hvc3:=(hvc.below b2).below b3
 have hvd3:=(hvd.below b2).below b3
 have hsz3:u.heap.size≤w3.heap.size:=Nat.le_trans hsz (Nat.le_trans b2.size b3.size)
 refine (z6h hvc3 hm4 (by omega)).mono ?_
 rintro e w4 ⟨rfl,b4⟩
 refine⟨rfl,?_⟩
 have hvd4:Ri w4 B (.slice ad m5 cd) U5:=hvd3.of_block (fun k hk=>b4.block k (hvd3.lt hk).2 (fun q=>hdis k q hk))
 have hS4:=hS3.mine (b4.mono (fun k _ hk=>.inr (.inl hk))) (O':=fun k=>(Pown y rb va (bunL vq (qs++U5) vr X.rt T M) k∨(Value.slice a4 m4 c4).ownBlock=some k∨(Value.slice a5 m5 c5).ownBlock=some k)∨(Value.slice ac m4 cc).ownBlock=some k∨(Value.slice ad m5 cd).ownBlock=some k) (fun k hk=>.inl hk)
 have hlm4:=hlm3.same (w':=w4) (fun k hk=>b4.block k (hlm3.lt hk).1 (fun q=>by have:=hnew k (.inl q);have:=(h.pl.lm.lt hk).1;omega))
 refine (z6h hvd4 hm5 (by omega)).mono ?_
 rintro e w5 ⟨rfl,b5⟩
 refine⟨rfl,?_⟩
 have hS5:=hS4.mine (b5.mono (fun k _ hk=>.inr (.inr hk))) (O':=fun k=>Pown y rb va (bunL vq (qs++U5) vr X.rt T M) k∨False) (fun k hk=>.inl (.inl (.inl (hk.elim id (fun z=>z.elim)))))
 have hlm5:=hlm4.same (w':=w5) (fun k hk=>b5.block k (hlm4.lt hk).1 (fun q=>by have:=hnew k (.inr q);have:=(h.pl.lm.lt hk).1;omega))
 rw[← hcd.rt] at hS5 hlm5
 have hfl:(fs.filter fun r=>!u1 r).length+(qs++U5).length≤i:=by
  have:=z7Z u1 fs
  rw[hqu,← hU5] at this
  rw[List.length_append]
  omega
 have hMl:M.length≤L.length:=by
  rw[hM]
  have:=List.length_filter_le (fun x:Lr=>s2 x.ref) (L.map (gR s))
  rw[List.length_map] at this
  exact this
 have hc:=hcd.cost
 have hcy:=hcd.cy
 exact⟨X',_,_,va,vq,vr,M,⟨hS5,hlm5⟩,hag,hcd.T.trans hO.eT,hcd.W.trans hO.eW,hO.lim,by rw[hcd.rt];exact hO.r64,by omega,by omega,by omega⟩
end
end Go.Proofs.YthkelaeemefnaaaGreat
namespace Go.Proofs.YthkelaeemefnaaaGreat
open Go.RowKit
section
variable {B:Nat}{w0 w:World}{rh hb:Nat}{X:Cm}{fs qs:List Int}{y rb W T i:Nat}{va vq:Value}{vr:Nat→Value}{L:List Lr}
theorem Cy13.cell {u:World}{L':List Lr}{A gs n:Nat}{sn:Nat→Bool}{v4 v5:Value}{U4 U5:List Int}(h:Cy13 B w0 rh hb X fs qs y rb W T va vq vr L' A gs n sn v4 U4 v5 U5 u) {k:Nat}{z:Lr}(hk:L'[k]?=some z):∃ p cap az cz,va=.slice (some ⟨p,0,none⟩) L'.length cap∧z.v=.slice az z.ws.length cz∧k<L'.length∧p<u.heap.size∧(u.cell? ⟨p,k*5,none⟩=some (.int .i64 z.ref)∧u.cell? ⟨p,k*5+1,none⟩=some (.int .i64 z.kind)∧u.cell? ⟨p,k*5+2,none⟩=some (.slice az z.ws.length cz)∧u.cell? ⟨p,k*5+3,none⟩=some (.bool z.fin)∧u.cell? ⟨p,k*5+4,none⟩=some (.bool z.qd))∧(∀ j,u.frozen? ⟨p,j,none⟩=false)∧(∀ j v,z.ws[j]?=some v→∃ g,az=some ⟨g,0,none⟩∧g<u.heap.size∧g<A∧u.cell? ⟨g,j,none⟩=some (.int .i64 v)∧u.frozen? ⟨g,j,none⟩=false)∧(u.cell? ⟨y,3,none⟩=some va∧y<u.heap.size):=by
 obtain⟨ao,cap,e,hF⟩:=h.pl.lm.form
 obtain⟨p,e1,hp,c0,hz⟩:=hF k z hk
 have hw:=h.pl.lm.word hk
 obtain⟨az,cz,e2⟩:=hw.form
 refine⟨p,cap,az,cz,by rw[e,e1],e2,(List.getElem?_eq_some_iff.1 hk).1,hp,⟨c0.1,c0.2.1,by rw[c0.2.2.1,e2],c0.2.2.2⟩,hz,fun j v hv=>?_,⟨h.pl.lm.cells.2.2.2.1,h.pl.lm.y_lt⟩⟩
 rw[e2] at hw
 obtain⟨g,e3,hg,_,hfz,hc⟩:=hw.cells (by have:=(List.getElem?_eq_some_iff.1 hv).1;omega)
 exact⟨g,e3,hg.2,h.low g (.inr (.inr (.inr ⟨_,List.mem_of_getElem? (z6l hk),by rw[e2,e3];rfl⟩))),hc j v hv,hfz j⟩
theorem z65 {f:Lr→Lr}{L:List Lr}{j:Nat}{z:Lr}(hz:L[j]?=some z) (hf:f z=z):z1w f L (j+1)=z1w f L j:=by
 rw[z2T f hz,hf]
 have:=z4K f hz
 apply List.ext_getElem?
 intro a
 rw[List.getElem?_set]
 by_cases e:j=a
 ·subst e
  rw[if_pos rfl,this,if_pos (List.getElem?_eq_some_iff.1 this).1]
 ·rw[if_neg e]
theorem z1F {L:List Lr}{j:Nat}{z:Lr}(hz:L[j]?=some z) (p:Lr→Bool):((L.take (j+1)).filter p).map Lr.ref=((L.take j).filter p).map Lr.ref++(if p z=true then [z.ref] else []):=by
 rw[List.take_add_one,hz,Option.toList_some,List.filter_append,List.map_append]
 congr 1
 by_cases q:p z=true
 ·rw[if_pos q];simp[q]
 ·rw[if_neg q];simp[q]
theorem Ag13.rise {L:List Lr}(h:Ag13 X fs L) {j:Nat}{z:Lr}(hz:L[j]?=some z) (p:Lr→Bool):∀ r∈((L.take j).filter p).map Lr.ref,r<z.ref:=fun r hr=>by
 obtain⟨x,hx,rfl⟩:=List.mem_map.1 hr
 obtain⟨a,ha,e⟩:=List.getElem_of_mem (List.mem_filter.1 hx).1
 have hal:a<j:=by have:=ha;rw[List.length_take] at this;omega
 have hj:=(List.getElem?_eq_some_iff.1 hz).1
 have hr1:(L.map Lr.ref).Pairwise (·<·):=by rw[h.refs];exact z0r 0 X.S
 have hx1:(L.map Lr.ref)[a]'(by rw[List.length_map];omega)=x.ref:=by
  rw[List.getElem_map]
  rw[List.getElem_take] at e
  rw[e]
 have hz1:(L.map Lr.ref)[j]'(by rw[List.length_map];omega)=z.ref:=by
  rw[List.getElem_map]
  rw[List.getElem?_eq_getElem hj] at hz
  simp only[Option.some.injEq] at hz
  rw[hz]
 have:=List.pairwise_iff_getElem.1 hr1 a j (by rw[List.length_map];omega) (by rw[List.length_map];omega) hal
 rw[hx1,hz1] at this
 exact this
theorem z9R {s:Int→Bool}(L:List Lr) (j:Nat):(z1w (clrR s) L j).map Lr.ref=L.map Lr.ref:=z9h Lr.ref (clrR s) (fun x=>(z30 s x).1) L j
def C2S (B:Nat) (w0:World) (rh hb:Nat) (X:Cm) (fs qs:List Int) (y rb W T:Nat) (va vq:Value) (vr:Nat→Value) (L:List Lr) (A n:Nat) (s:Int→Bool) (sn:Nat→Bool) (v4:Value) (U4:List Int) (j m:Nat) (a5:Option Addr) (c5:Nat) (U5:List Int) (u:World):Prop:=U5.length=m∧U5=((L.take j).filter (p2R s)).map Lr.ref∧Cy13 B w0 rh hb X fs qs y rb W T va vq vr (z1w (qdR s) (L.map (clrR s)) j) A A n sn v4 U4 (.slice a5 m c5) U5 u
theorem C2S.skip {s:Int→Bool}{A n:Nat}{sn:Nat→Bool}{j m:Nat}{a5:Option Addr}{c5:Nat}{v4:Value}{U4 U5:List Int}{u u':World}(h:C2S B w0 rh hb X fs qs y rb W T va vq vr L A n s sn v4 U4 j m a5 c5 U5 u) {z:Lr}(hz:L[j]?=some z) (hp:p2R s z=false) (b:Below u.heap.size u u'):C2S B w0 rh hb X fs qs y rb W T va vq vr L A n s sn v4 U4 (j+1) m a5 c5 U5 u':=by
 obtain⟨h1,h2,h3⟩:=h
 refine⟨h1,?_,?_⟩
 ·rw[z1F hz,if_neg (by rw[hp];decide),List.append_nil];exact h2
 ·rw[z65 (z:=clrR s z) (by rw[List.getElem?_map,hz];rfl) (by unfold qdR;rw[za2,if_neg (by rw[hp];decide)])]
  exact h3.below b
def C3S (B:Nat) (w0:World) (rh hb:Nat) (X:Cm) (fs qs:List Int) (y rb W T:Nat) (va vq:Value) (vr:Nat→Value) (L:List Lr) (n:Nat) (s s2:Int→Bool) (v4:Value) (U4:List Int) (v5:Value) (U5:List Int) (A2 g2:Nat) (sn2:Nat→Bool) (j m:Nat) (al:Option Addr) (cl:Nat) (M:List Lr) (u:World):Prop:=M.length=m∧M=((L.map (gR s)).take j).filter (fun x=>s2 x.ref)∧Cz13 B w0 rh hb X fs qs y rb W T va vq vr (qs++U5) (L.map (gR s)) v4 U4 v5 U5 A2 g2 n sn2 (.slice al m cl) M u
theorem z5p {L:List Lr}{j:Nat}{z:Lr}(hz:L[j]?=some z) (p:Lr→Bool):(L.take (j+1)).filter p=(L.take j).filter p++(if p z=true then [z] else []):=by
 rw[List.take_add_one,hz,Option.toList_some,List.filter_append]
 congr 1
 by_cases q:p z=true
 ·rw[if_pos q];simp[q]
 ·rw[if_neg q];simp[q]
theorem C3S.skip {s s2:Int→Bool}{n A2 g2:Nat}{sn2:Nat→Bool}{j m:Nat}{al:Option Addr}{cl:Nat}{v4 v5:Value}{U4 U5:List Int}{M:List Lr}{u:World}(h:C3S B w0 rh hb X fs qs y rb W T va vq vr L n s s2 v4 U4 v5 U5 A2 g2 sn2 j m al cl M u) {z:Lr}(hz:(L.map (gR s))[j]?=some z) (hp:s2 z.ref=false):C3S B w0 rh hb X fs qs y rb W T va vq vr L n s s2 v4 U4 v5 U5 A2 g2 sn2 (j+1) m al cl M u:=by
 obtain⟨h1,h2,h3⟩:=h
 exact⟨h1,by rw[z5p hz,if_neg (by rw[hp];decide),List.append_nil];exact h2,h3⟩
theorem C3S.app {s s2:Int→Bool}{n A2 g2:Nat}{sn2:Nat→Bool}{j m:Nat}{al:Option Addr}{cl:Nat}{v4 v5:Value}{U4 U5:List Int}{M:List Lr}{u u1:World}(h:C3S B w0 rh hb X fs qs y rb W T va vq vr L n s s2 v4 U4 v5 U5 A2 g2 sn2 j m al cl M u) {z:Lr}(hz:(L.map (gR s))[j]?=some z) (hp:s2 z.ref=true) (hm:m≤1000) {a:Nat}(hb1:Below u.heap.size u u1) (ha:u1.heap[a]?=some (.cells (rowR z).toArray 90 (0,0))):∃ ao' cap' u3,(appC #[31,31] 31 #[.slice al m cl,.slice (some ⟨a,0,none⟩) 1 1]).run Tryz.prog u1=.ok (.slice ao' (m+1) cap') u3∧C3S B w0 rh hb X fs qs y rb W T va vq vr L n s s2 v4 U4 v5 U5 A2 g2 sn2 (j+1) (m+1) ao' cap' (M++[z]) u3:=by
 obtain⟨h1,h2,h3⟩:=h
 obtain⟨ao,cap,ao',cap',u3,e,hrun,hz3⟩:=h3.app z (List.mem_of_getElem? hz) (by omega) hb1 ha
 rw[h1] at e hrun hz3
 rw[← e] at hrun
 exact⟨ao',cap',u3,hrun,by rw[List.length_append,h1];rfl,by rw[z5p hz,if_pos hp,h2],hz3⟩
theorem C3S.cell {s s2:Int→Bool}{n A2 g2:Nat}{sn2:Nat→Bool}{j m:Nat}{al:Option Addr}{cl:Nat}{v4 v5:Value}{U4 U5:List Int}{M:List Lr}{u:World}(h:C3S B w0 rh hb X fs qs y rb W T va vq vr L n s s2 v4 U4 v5 U5 A2 g2 sn2 j m al cl M u) {z:Lr}(hz:(L.map (gR s))[j]?=some z):∃ p cap az nz cz,va=.slice (some ⟨p,0,none⟩) L.length cap∧z.v=.slice az nz cz∧p<u.heap.size∧(u.cell? ⟨p,j*5,none⟩=some (.int .i64 z.ref)∧u.cell? ⟨p,j*5+1,none⟩=some (.int .i64 z.kind)∧u.cell? ⟨p,j*5+2,none⟩=some (.slice az nz cz)∧u.cell? ⟨p,j*5+3,none⟩=some (.bool z.fin)∧u.cell? ⟨p,j*5+4,none⟩=some (.bool z.qd)):=by
 obtain⟨_,_,h3⟩:=h
 obtain⟨ao,cap,e,hF⟩:=h3.pl.lm.form
 obtain⟨p,e1,hp,c0,_⟩:=hF j z hz
 obtain⟨az,cz,e2⟩:=(h3.pl.lm.word hz).form
 rw[List.length_map] at e
 exact⟨p,cap,az,_,cz,by rw[e,e1],e2,hp,c0.1,c0.2.1,by rw[c0.2.2.1,e2],c0.2.2.2⟩
def C1S (B:Nat) (w0:World) (rh hb:Nat) (X:Cm) (fs qs:List Int) (y rb W T:Nat) (va vq:Value) (vr:Nat→Value) (L:List Lr) (A n:Nat) (s:Int→Bool) (sn:Nat→Bool) (j m:Nat) (a4:Option Addr) (c4:Nat) (U4:List Int) (u:World):Prop:=U4.length=m∧U4=((L.take j).filter (p1R s)).map Lr.ref∧Cy13 B w0 rh hb X fs qs y rb W T va vq vr (z1w (clrR s) L j) A A n sn (.slice a4 m c4) U4 (.slice none 0 0) [] u
theorem C1S.skip {s:Int→Bool}{A n:Nat}{sn:Nat→Bool}{j m:Nat}{a4:Option Addr}{c4:Nat}{U4:List Int}{u u':World}(h:C1S B w0 rh hb X fs qs y rb W T va vq vr L A n s sn j m a4 c4 U4 u) {z:Lr}(hz:L[j]?=some z) (hp:p1R s z=false) (b:Below u.heap.size u u'):C1S B w0 rh hb X fs qs y rb W T va vq vr L A n s sn (j+1) m a4 c4 U4 u':=by
 obtain⟨h1,h2,h3⟩:=h
 refine⟨h1,?_,?_⟩
 ·rw[z1F hz,if_neg (by rw[hp];decide),List.append_nil];exact h2
 ·rw[z65 hz (by unfold clrR;rw[if_neg (by rw[hp];decide)])]
  exact h3.below b
attribute [local go_sem ↓] z1I
theorem z94 (H:Pl13 B w0 w rh hb X fs qs y rb W T va vq vr X.rt qs L (fun _=>False)) (hO:Ok13 X fs qs W T L i) (hi:i≤200):
  Calls Tryz.prog 29 #[.pointer (some ⟨y,0,none⟩)] w (z0p B w0 rh hb y rb W T (i+1)):=by
 have HO:Hid (Ok13 X fs qs W T L i):=hO
 have hS:=(hO.se (by omega) H).see
 obtain⟨s,hs⟩:∃ s:Int→Bool,∀ r,s r=true↔RchQ X qs r:=⟨fun r=>@decide (RchQ X qs r) (Classical.propDecidable _),fun r=>by simp⟩
 obtain⟨A,hAe⟩:∃ A,A=w.heap.size:=⟨_,rfl⟩
 have HSe:Hid (∀ e w1,z20 w X qs L e w1→∃ sn:Nat→Bool,e=.returned (.slice (some ⟨A,0,none⟩) L.length L.length)∧Cy13 B w0 rh hb X fs qs y rb W T va vq vr L A A L.length sn (.slice none 0 0) [] (.slice none 0 0) [] w1∧∀ k z,L[k]?=some z→sn k=s z.ref):=fun e w1 ⟨sn,h1,h2,h3,h4⟩=>by
  have hx1:A<w1.heap.size:=by rw[hAe];exact h3.lt
  have hrs:RS B w0 rh hb X fs qs (fun k=>Pown y rb va (bunL vq qs vr X.rt T L) k∨(k=A∨(Value.slice none 0 0).ownBlock=some k∨(Value.slice none 0 0).ownBlock=some k)) w1:=H.rs.mine (Bt.of_below h2) (fun k hk=>by
   rcases hk with q|q|q|q
   ·exact .inl (.inl q)
   ·exact .inr ⟨by omega,by omega⟩
   ·simp[Value.ownBlock] at q
   ·simp[Value.ownBlock] at q)
  refine⟨sn,by rw[hAe];exact h1,⟨⟨hrs,H.lm.below h2⟩,by rw[hAe];exact h3,Ri.nil _ _,Ri.nil _ _,fun k hk=>by simp[Value.ownBlock] at hk,fun k hk=>by rw[hAe];exact (H.lm.lt hk).1,Nat.le_refl _,by omega⟩,fun k z hz=>?_⟩
  have:=h4 k z hz
  have h5:=hs z.ref
  cases e1:sn k<;>cases e2:s z.ref<;>simp_all
 obtain⟨n,hn⟩:∃ n,n=L.length:=⟨_,rfl⟩
 have HN:Hid (n=L.length):=hn
 have hn1:n≤1000:=by have:=hO.few;omega
 have HSr:Hid (∀ r,s r=true↔RchQ X qs r):=hs
 have HIx:Hid (∀ k,k<n→∃ z,L[k]?=some z):=fun k hk=>⟨_,List.getElem?_eq_getElem (by omega)⟩
 rw[← hn] at HSe
 clear H hO hs hAe hn
 go_enter Tryz.func29,Tryz.ntmps29
 go_wp2_with (go_at_call 61;refine hS.mono ?_;intro e w1 hp1;obtain⟨sn,rfl,hc1,hr1⟩:=HSe.out e w1 hp1;have H1:Hid (Cy13 B w0 rh hb X fs qs y rb W T va vq vr L A A n sn (.slice none 0 0) [] (.slice none 0 0) [] w1):=hc1;have HSn:Hid (∀ k z,L[k]?=some z→sn k=s z.ref):=hr1;clear hS hp1 hc1 hr1 HSe)
 go_loopg [4,6,7,8] 1001 (fun kx s4 s6 s7 s8 wr=>∃ (j m:Nat) (a4:Option Addr) (c4:Nat) (U4:List Int),s4=.slice a4 m c4∧s6=.int .i64 j∧j≤n∧n-j≤kx∧m≤j∧Hid (C1S B w0 rh hb X fs qs y rb W T va vq vr L A n s sn j m a4 c4 U4 wr))
 case atStart=>exact⟨0,0,none,0,[],rfl,rfl,by omega,by omega,by omega,⟨rfl,rfl,by rw[z4m];exact H1.out⟩⟩
 case round =>
  clear H1
  obtain⟨j,m,a4,c4,U4,rfl,rfl,hj,hkx,hmj,HJ⟩:=hrel
  by_cases hjn:j<n
  ·have g1:(j:Int)<(n:Int):=by omega
   obtain⟨z,hz⟩:=HIx.out j hjn
   have hz':=z4K (clrR s) hz
   obtain⟨p,cap,az,cz,e1,e2,e3,e4,⟨e5,e6,e7,e8,e9⟩,e10,e11,⟨e12,e13⟩⟩:=HJ.out.2.2.cell hz'
   rw[z1A,← HN.out] at e1
   rw[e1] at e12
   have HZ:Hid (L[j]?=some z∧(z1w (clrR s) L j)[j]?=some z∧z.v=.slice az z.ws.length cz):=⟨hz,hz',e2⟩
   obtain⟨nz,hnz⟩:∃ nz,nz=z.ws.length:=⟨_,rfl⟩
   have HNZ:Hid (nz=z.ws.length):=hnz
   rw[← hnz] at e7
   have HB7:Hid (Below wr.heap.size wr (wr.alloc (.cells #[.int .i64 z.ref,.int .i64 z.kind,.slice az nz cz,.bool z.fin,.bool z.qd] 90))):=(Below.refl _ _).alloc (Nat.le_refl _) _
   have hb7:(wr.alloc (.cells #[.int .i64 z.ref,.int .i64 z.kind,.slice az nz cz,.bool z.fin,.bool z.qd] 90)).heap[wr.heap.size]?=some (.cells #[.int .i64 z.ref,.int .i64 z.kind,.slice az nz cz,.bool z.fin,.bool z.qd] 90 (0,0)):=heap_alloc_new wr _
   clear hz hz' e2 hnz
   go_upto_region 7 with fail
   clear e5 e6 e7 e8 e9 e10 e12 e13 e4
   obtain⟨bx,hbx⟩:∃ bx,bx=wr.heap.size:=⟨_,rfl⟩
   have HBX:Hid (bx=wr.heap.size):=hbx
   rw[← hbx] at hb7
   rw[← hbx]
   clear hbx
   have HC7:=HJ.out.2.2.below HB7.out
   generalize World.alloc _ _=W7 at *
   have d0:W7.cell? ⟨bx,0,none⟩=some (.int .i64 z.ref)∧W7.cell? ⟨bx,1,none⟩=some (.int .i64 z.kind)∧W7.cell? ⟨bx,2,none⟩=some (.slice az nz cz):=by simp[World.cell?,hb7]
   have dl:bx<W7.heap.size:=z02 hb7
   have HSkip:Hid (p1R s z=false→C1S B w0 rh hb X fs qs y rb W T va vq vr L A n s sn (j+1) m a4 c4 U4 W7):=fun hp=>HJ.out.skip HZ.out.1 hp HB7.out
   by_cases h4:z.kind=4
   ·obtain⟨v,hv,hv2⟩:=HO.out.ag.weak z (List.mem_of_getElem? HZ.out.1) h4
    rw[h4] at d0
    have hnz1:0<nz:=by rw[HNZ.out];exact (List.getElem?_eq_some_iff.1 hv).1
    have hp1:p1R s z=(v != 0&&!(s v)):=by unfold p1R;rw[z4u hv,h4];rfl
    obtain⟨p2,cap2,az2,cz2,f1,f2,f3,f4,_,_,f11,⟨f12,f13⟩⟩:=HC7.cell HZ.out.2.1
    rw[HZ.out.2.2] at f2
    simp only[Value.slice.injEq,true_and] at f2
    obtain⟨rfl,rfl⟩:=f2
    obtain⟨g,rfl,g2,gA,g4,g5⟩:=f11 0 v hv
    by_cases hv0:v=0
    ·have HN2:Hid (C1S B w0 rh hb X fs qs y rb W T va vq vr L A n s sn (j+1) m a4 c4 U4 W7):=HSkip.out (by rw[hp1,hv0];rfl)
     rw[hv0] at g4
     clear HJ HZ HSkip HC7 HB7 hb7 hp1 hv hv2 h4 hv0 f1 f3 f4 f11 f12 f13 e1 e3 e11
     go_wp2
     go_roundg (n-(j+1))
     case measure=>omega
     case rel=>exact⟨j+1,m,a4,c4,U4,rfl,by go_num,by omega,by omega,by omega,HN2.out⟩
    ·obtain⟨zv,hzv,hzvr⟩:=HO.out.ag.mem (hv2.resolve_left hv0)
     obtain⟨k,hk,ek⟩:=List.getElem_of_mem hzv
     have hk2:L[k]?=some zv:=by rw[List.getElem?_eq_getElem hk,ek]
     have hfn:FndR (z1w (clrR s) L j) v (k:Int):=z9b (z9R L j) (.inl ⟨k,zv,hk2,hzvr,fun a x ha hx q=>by have:=HO.out.ag.inj hx hk2 (by rw[q,hzvr]);omega,rfl⟩)
     have hfi:=z1N HC7.pl.lm (by rw[z1A];have:=HO.out.few;omega) v k hfn
     have hsv:sn k=s v:=by rw[HSn.out k zv hk2,hzvr]
     have hkn:k<n:=by rw[HN.out];exact hk
     have cs:=HC7.seen.cell hkn
     have lgs:=HC7.seen.lt
     have g6:(v == 0)=false:=by simpa using hv0
     have k0:decide ((k:Int)<0)=false:=by simp
     have k1:(k:Int)<(n:Int):=by omega
     cases hsb:s v with
     | true =>
      rw[hsv,hsb] at cs
      have HN2:Hid (C1S B w0 rh hb X fs qs y rb W T va vq vr L A n s sn (j+1) m a4 c4 U4 W7):=HSkip.out (by rw[hp1,hsb];simp)
      clear HJ HZ HSkip HC7 HB7 hb7 hp1 hv hv2 h4 hv0 f1 f3 f4 f11 f12 f13 e1 e3 e11 hzv hzvr hk ek hk2 hfn hsv hsb
      go_wp2_with (go_at_call 30;refine hfi.mono ?_;rintro e w9 ⟨rfl,hw9⟩;replace hw9:=hw9.symm;subst hw9)
      go_roundg (n-(j+1))
      case measure=>omega
      case rel=>exact⟨j+1,m,a4,c4,U4,rfl,by go_num,by omega,by omega,by omega,HN2.out⟩
     | false =>
      rw[hsv,hsb] at cs
      have hpt:p1R s z=true:=by rw[hp1,hsb];simpa using hv0
      have hU:=HJ.out.1
      have hUe:=HJ.out.2.1
      have hpu:=z92 HC7.r4 hU HC7.szA (by omega) z.ref (by rw[hUe];exact HO.out.ag.rise HZ.out.1 _)
      have HNx:Hid (∀ e w8,z3u A W7 (.slice a4 m c4) (U4++[z.ref]) e w8→∃ a8 c8,e=.returned (.slice a8 (m+1) c8)∧(w8.cell? ⟨y,3,none⟩=some (.slice (some ⟨p,0,none⟩) n cap)∧y<w8.heap.size∧p<w8.heap.size∧w8.cell? ⟨p,j*5+2,none⟩=some (.slice (some ⟨g,0,none⟩) nz cz)∧g<w8.heap.size∧(∃ vo,w8.cell? ⟨g,0,none⟩=some vo)∧w8.frozen? ⟨g,0,none⟩=false)∧C1S B w0 rh hb X fs qs y rb W T va vq vr L A n s sn (j+1) (m+1) a8 c8 (U4++[z.ref]) (w8.setCell ⟨g,0,none⟩ (.int .i64 0))):=fun e w8 ⟨a8,c8,q1,q2,q3,q4⟩=>by
       have hl:(U4++[z.ref]).length=m+1:=by rw[List.length_append,hU];rfl
       rw[hl] at q1 q2 q4
       have H8:=HC7.put4 q3 q2 q4
       obtain⟨p3,cap3,az3,cz3,r1,r2,r3,r4,⟨_,_,r7,_,_⟩,_,r11,⟨r12,r13⟩⟩:=H8.cell HZ.out.2.1
       rw[HZ.out.2.2] at r2
       simp only[Value.slice.injEq,true_and] at r2
       obtain⟨rfl,rfl⟩:=r2
       rw[z1A,← HN.out] at r1
       rw[e1] at r1
       simp only[Value.slice.injEq,Option.some.injEq,Addr.mk.injEq,true_and,and_true] at r1
       obtain⟨rfl,rfl⟩:=r1
       obtain⟨g',eg,s2,_,s4,s5⟩:=r11 0 v hv
       simp only[Option.some.injEq,Addr.mk.injEq,and_true] at eg
       subst eg
       refine⟨a8,c8,q1,⟨by rw[r12,e1],r13,r4,by rw[r7,HNZ.out],s2,⟨_,s4⟩,s5⟩,hl,?_,?_⟩
       ·rw[z1F HZ.out.1,if_pos hpt,hUe]
       ·have h9:=H8.setw HZ.out.2.1 HZ.out.2.2 (j:=0) (by rw[← HNZ.out];exact hnz1) 0
        rw[z2T (clrR s) HZ.out.1]
        have:clrR s z={ z with ws:=z.ws.set 0 0 }:=by unfold clrR;rw[if_pos hpt]
        rw[this]
        exact h9
      have n0:(0:Int)<(nz:Int):=by omega
      clear HJ HZ HSkip HC7 HB7 hb7 hp1 hv hv2 h4 hv0 f1 f3 f4 f11 f12 f13 e1 e3 e11 hzv hzvr hk ek hk2 hfn hsv hsb hpt hU hUe
      go_wp2_with (first
       | (go_at_call 30;refine hfi.mono ?_;rintro e w9 ⟨rfl,hw9⟩;replace hw9:=hw9.symm;subst hw9)
       | (go_at_call 62;refine hpu.mono ?_;intro e w8 hq8;obtain⟨a8,c8,rfl,⟨t1,t2,t3,t4,t5,⟨vo,t6⟩,t7⟩,h8⟩:=HNx.out e w8 hq8;have H8:Hid (C1S B w0 rh hb X fs qs y rb W T va vq vr L A n s sn (j+1) (m+1) a8 c8 (U4++[z.ref]) (w8.setCell ⟨g,0,none⟩ (.int .i64 0))):=h8;clear hpu hq8 HNx h8))
      go_roundg (n-(j+1))
      case measure=>omega
      case rel=>exact⟨j+1,m+1,a8,c8,U4++[z.ref],rfl,by go_num,by omega,by omega,by omega,H8.out⟩
   ·have g6:(z.kind != 4)=true:=by simpa using h4
    have HN2:Hid (C1S B w0 rh hb X fs qs y rb W T va vq vr L A n s sn (j+1) m a4 c4 U4 W7):=HSkip.out (by unfold p1R;rw[show (z.kind == 4)=false by simpa using h4];rfl)
    generalize z.kind=zk at *
    clear HJ HZ HSkip HC7 HB7 hb7 h4 e1 e3 e11
    go_wp2
    go_roundg (n-(j+1))
    case measure=>omega
    case rel=>exact⟨j+1,m,a4,c4,U4,rfl,by go_num,by omega,by omega,by omega,HN2.out⟩
  ·have g1:¬ (j:Int)<(n:Int):=by omega
   obtain⟨m4,hm4⟩:∃ m4,m4=m:=⟨_,rfl⟩
   have H2:Hid (C2S B w0 rh hb X fs qs y rb W T va vq vr L A n s sn (.slice a4 m c4) U4 0 0 none 0 [] wr∧U4.length=m∧U4=(L.filter (p1R s)).map Lr.ref):=(by
    obtain⟨q1,q2,q3⟩:=HJ.out
    have hjL:j=L.length:=by rw[← HN.out];omega
    rw[hjL,List.take_length] at q2
    rw[hjL,z6m] at q3
    exact⟨⟨rfl,rfl,by rw[z4m];exact q3⟩,q1,q2⟩:C2S B w0 rh hb X fs qs y rb W T va vq vr L A n s sn (.slice a4 m c4) U4 0 0 none 0 [] wr∧U4.length=m∧U4=(L.filter (p1R s)).map Lr.ref)
   have HU4:Hid (U4.length=m∧U4=(L.filter (p1R s)).map Lr.ref):=H2.out.2
   have c3n:wr.cell? ⟨y,3,none⟩=some va∧y<wr.heap.size:=⟨H2.out.1.2.2.pl.lm.cells.2.2.2.1,H2.out.1.2.2.pl.lm.y_lt⟩
   have hform:∃ ao cap,va=.slice ao n cap:=by
    obtain⟨ao,cap,e,_⟩:=H2.out.1.2.2.pl.lm.form
    rw[z1A,List.length_map,← HN.out] at e
    exact⟨ao,cap,e⟩
   obtain⟨ao,cap,eva⟩:=hform
   have HVA:Hid (va=.slice ao n cap):=eva
   rw[eva] at c3n
   clear HJ hm4 eva
   go_wp2
   clear c3n
   go_loopg [5,9] 1001 (fun kx s5 s9 wx=>∃ (j m5:Nat) (a5:Option Addr) (c5:Nat) (U5:List Int),s5=.slice a5 m5 c5∧s9=.int .i64 j∧j≤n∧n-j≤kx∧m5≤j∧Hid (C2S B w0 rh hb X fs qs y rb W T va vq vr L A n s sn (.slice a4 m c4) U4 j m5 a5 c5 U5 wx))
   case atStart=>exact⟨0,0,none,0,[],rfl,rfl,by omega,by omega,by omega,H2.out.1⟩
   case round =>
    clear H2
    obtain⟨j,m5,a5,c5,U5,rfl,rfl,hj2,hkx2,hmj2,HJ⟩:=hrel
    by_cases hjn2:j<n
    ·have g2:(j:Int)<(n:Int):=by omega
     obtain⟨z,hz⟩:=HIx.out j hjn2
     have hz1:(L.map (clrR s))[j]?=some (clrR s z):=by rw[List.getElem?_map,hz];rfl
     have hz':=z4K (qdR s) hz1
     obtain⟨p,cap2,az,cz,e1,e2,e3,e4,⟨e5,e6,e7,e8,e9⟩,e10,_,⟨e12,e13⟩⟩:=HJ.out.2.2.cell hz'
     obtain⟨x1,x2,x3,x4,x5⟩:=z30 s z
     rw[z1A,List.length_map,← HN.out,HVA.out] at e1
     simp only[Value.slice.injEq,true_and] at e1
     obtain⟨rfl,rfl⟩:=e1
     rw[HVA.out] at e12
     rw[x1] at e5
     rw[x3] at e8
     rw[x4] at e9
     have cs:=HJ.out.2.2.seen.cell hjn2
     have lgs:=HJ.out.2.2.seen.lt
     rw[HSn.out j z hz] at cs
     have hp2:p2R s z=(z.fin&&!z.qd&&!(s z.ref)):=rfl
     have HSkip:Hid (p2R s z=false→C2S B w0 rh hb X fs qs y rb W T va vq vr L A n s sn (.slice a4 m c4) U4 (j+1) m5 a5 c5 U5 wr):=fun hp=>HJ.out.skip hz hp (Below.refl _ _)
     have hU:=HJ.out.1
     have hUe:=HJ.out.2.1
     have hpu:=z92 HJ.out.2.2.r5 hU HJ.out.2.2.szA (by omega) z.ref (by rw[hUe];exact HO.out.ag.rise hz _)
     have HNx:Hid (p2R s z=true→∀ e w8,z3u A wr (.slice a5 m5 c5) (U5++[z.ref]) e w8→∃ a8 c8,e=.returned (.slice a8 (m5+1) c8)∧(w8.cell? ⟨y,3,none⟩=some (.slice (some ⟨p,0,none⟩) n cap)∧y<w8.heap.size∧p<w8.heap.size∧(∃ vo,w8.cell? ⟨p,j*5+4,none⟩=some vo)∧w8.frozen? ⟨p,j*5+4,none⟩=false)∧C2S B w0 rh hb X fs qs y rb W T va vq vr L A n s sn (.slice a4 m c4) U4 (j+1) (m5+1) a8 c8 (U5++[z.ref]) (w8.setCell ⟨p,j*5+4,none⟩ (.bool true))):=fun hpt e w8 ⟨a8,c8,q1,q2,q3,q4⟩=>by
      have hl:(U5++[z.ref]).length=m5+1:=by rw[List.length_append,hU];rfl
      rw[hl] at q1 q2 q4
      have H8:=HJ.out.2.2.put5 q3 q2 q4
      obtain⟨p3,cap3,az3,cz3,r1,r2,r3,r4,⟨_,_,_,_,r9⟩,r10,_,⟨r12,r13⟩⟩:=H8.cell hz'
      have r1':=r1
      rw[z1A,List.length_map,← HN.out,HVA.out] at r1
      simp only[Value.slice.injEq,Option.some.injEq,Addr.mk.injEq,true_and,and_true] at r1
      obtain⟨rfl,rfl⟩:=r1
      refine⟨a8,c8,q1,⟨by rw[r12,HVA.out],r13,r4,⟨_,r9⟩,r10 _⟩,hl,?_,?_⟩
      ·rw[z1F hz,if_pos hpt,hUe]
      ·have h9:=H8.setqd hz' r1'
       rw[z2T (qdR s) hz1]
       have:qdR s (clrR s z)={ clrR s z with qd:=true }:=by unfold qdR;rw[za2,if_pos hpt]
       rw[this]
       exact h9
     generalize hrf:z.ref=rf at *
     generalize hfi:z.fin=fi at *
     generalize hqd:z.qd=qd at *
     generalize hsr:s rf=sr at *
     clear HJ hz hz1 hz' e2 e3 e6 e7 x1 x2 x3 x4 x5 hU hUe hrf hfi hqd hsr
     cases fi with
     | false =>
      have HN2:=HSkip.out (by rw[hp2];rfl)
      have HN3:Hid (C2S B w0 rh hb X fs qs y rb W T va vq vr L A n s sn (.slice a4 m c4) U4 (j+1) m5 (some ⟨p,0,none⟩) c5 U5 wr)∨True:=.inr trivial
      have HN4:Hid (C2S B w0 rh hb X fs qs y rb W T va vq vr L A n s sn (.slice a4 m c4) U4 (j+1) m5 a5 c5 U5 wr):=HN2
      clear HSkip HNx hpu hp2 HN2 HN3
      go_wp2
      go_roundg (n-(j+1))
      case measure=>omega
      case rel=>exact⟨j+1,m5,a5,c5,U5,rfl,by go_num,by omega,by omega,by omega,HN4.out⟩
     | true =>
      cases qd with
      | true =>
       have HN4:Hid (C2S B w0 rh hb X fs qs y rb W T va vq vr L A n s sn (.slice a4 m c4) U4 (j+1) m5 a5 c5 U5 wr):=HSkip.out (by rw[hp2];rfl)
       clear HSkip HNx hpu hp2
       go_wp2
       go_roundg (n-(j+1))
       case measure=>omega
       case rel=>exact⟨j+1,m5,a5,c5,U5,rfl,by go_num,by omega,by omega,by omega,HN4.out⟩
      | false =>
       cases sr with
       | true =>
        have HN4:Hid (C2S B w0 rh hb X fs qs y rb W T va vq vr L A n s sn (.slice a4 m c4) U4 (j+1) m5 a5 c5 U5 wr):=HSkip.out (by rw[hp2];rfl)
        clear HSkip HNx hpu hp2
        go_wp2
        go_roundg (n-(j+1))
        case measure=>omega
        case rel=>exact⟨j+1,m5,a5,c5,U5,rfl,by go_num,by omega,by omega,by omega,HN4.out⟩
       | false =>
        have HNy:Hid (∀ e w8,z3u A wr (.slice a5 m5 c5) (U5++[rf]) e w8→∃ a8 c8,e=.returned (.slice a8 (m5+1) c8)∧(w8.cell? ⟨y,3,none⟩=some (.slice (some ⟨p,0,none⟩) n cap)∧y<w8.heap.size∧p<w8.heap.size∧(∃ vo,w8.cell? ⟨p,j*5+4,none⟩=some vo)∧w8.frozen? ⟨p,j*5+4,none⟩=false)∧C2S B w0 rh hb X fs qs y rb W T va vq vr L A n s sn (.slice a4 m c4) U4 (j+1) (m5+1) a8 c8 (U5++[rf]) (w8.setCell ⟨p,j*5+4,none⟩ (.bool true))):=HNx.out (by rw[hp2];rfl)
        clear HSkip HNx hp2
        go_wp2_with (go_at_call 62;refine hpu.mono ?_;intro e w8 hq8;obtain⟨a8,c8,rfl,⟨t1,t2,t3,⟨vo,t6⟩,t7⟩,h8⟩:=HNy.out e w8 hq8;have H8:Hid (C2S B w0 rh hb X fs qs y rb W T va vq vr L A n s sn (.slice a4 m c4) U4 (j+1) (m5+1) a8 c8 (U5++[rf]) (w8.setCell ⟨p,j*5+4,none⟩ (.bool true))):=h8;clear hpu hq8 HNy h8)
        go_roundg (n-(j+1))
        case measure=>omega
        case rel=>exact⟨j+1,m5+1,a8,c8,U5++[rf],rfl,by go_num,by omega,by omega,by omega,H8.out⟩
    ·have g2:¬ (j:Int)<(n:Int):=by omega
     have HQ:Hid (Cy13 B w0 rh hb X fs qs y rb W T va vq vr (L.map (gR s)) A A n sn (.slice a4 m c4) U4 (.slice a5 m5 c5) U5 wr∧U5.length=m5∧U5=(L.filter (p2R s)).map Lr.ref):=(by
      obtain⟨q1,q2,q3⟩:=HJ.out
      have hjL:j=L.length:=by rw[← HN.out];omega
      have hjM:j=(L.map (clrR s)).length:=by rw[List.length_map];exact hjL
      rw[hjL,List.take_length] at q2
      rw[hjM,z6m,List.map_map,show (qdR s ∘ clrR s)=gR s from rfl] at q3
      exact⟨q3,q1,q2⟩:Cy13 B w0 rh hb X fs qs y rb W T va vq vr (L.map (gR s)) A A n sn (.slice a4 m c4) U4 (.slice a5 m5 c5) U5 wr∧U5.length=m5∧U5=(L.filter (p2R s)).map Lr.ref)
     obtain⟨aq,cq,evq⟩:=HQ.out.1.pl.lm.que.form
     obtain⟨a6,c6,u3,hrun,⟨d1,d2,d3⟩,hq3⟩:=HQ.out.1.queue (by rw[HQ.out.2.1];have:=HO.out.few;omega)
     rw[HQ.out.2.1] at hrun hq3
     obtain⟨nq,hnq⟩:∃ nq,nq=qs.length:=⟨_,rfl⟩
     rw[evq,← hnq] at hrun d1
     rw[← hnq] at hq3
     have hnq1:nq≤1000:=by have:=HO.out.few;omega
     have c3n:wr.cell? ⟨y,3,none⟩=some (.slice ao n cap)∧y<wr.heap.size∧wr.cell? ⟨y,5,none⟩=some (.slice aq nq cq):=⟨by rw[← HVA.out];exact HQ.out.1.pl.lm.cells.2.2.2.1,HQ.out.1.pl.lm.y_lt,by rw[hnq,← evq];exact HQ.out.1.pl.lm.cells.2.2.2.2.2⟩
     have hS2:=hq3.se HO.out hi HQ.out.2.2
     obtain⟨s2,hs2⟩:∃ s2:Int→Bool,∀ r,s2 r=true↔RchQ X (qs++U5) r:=⟨fun r=>@decide (RchQ X (qs++U5) r) (Classical.propDecidable _),fun r=>by simp⟩
     have HSr2:Hid (∀ r,s2 r=true↔RchQ X (qs++U5) r):=hs2
     have HU5:Hid (U5.length=m5∧U5=(L.filter (p2R s)).map Lr.ref):=HQ.out.2
     obtain⟨g2',hg2⟩:∃ g2',g2'=(u3.setCell ⟨y,5,none⟩ (.slice a6 (nq+m5) c6)).heap.size:=⟨_,rfl⟩
     have HSe2:Hid (∀ e w6,z20 (u3.setCell ⟨y,5,none⟩ (.slice a6 (nq+m5) c6)) X (qs++U5) (L.map (gR s)) e w6→∃ (sn2:Nat→Bool) (A2:Nat),e=.returned (.slice (some ⟨g2',0,none⟩) n n)∧C3S B w0 rh hb X fs qs y rb W T va (.slice a6 (nq+m5) c6) vr L n s s2 (.slice a4 m c4) U4 (.slice a5 m5 c5) U5 A2 g2' sn2 0 0 none 0 [] w6∧∀ (k:Nat) (z:Lr),(L.map (gR s))[k]?=some z→sn2 k=s2 z.ref):=fun e w6 ⟨sn2,h1,h2,h3,h4⟩=>by
      rw[List.length_map,← HN.out,← hg2] at h1 h3
      rw[hg2] at h3
      refine⟨sn2,_,h1,⟨rfl,rfl,by rw[hg2];exact hq3.seen h2 h3⟩,fun k z hz=>?_⟩
      exact Bool.eq_iff_iff.2 ((h4 k z hz).trans (hs2 z.ref).symm)
     clear HJ HQ hq3 evq hnq hs2 hg2
     go_wp2_with (go_at_call 61;refine hS2.mono ?_;intro e w6 hp6;obtain⟨sn2,A2,rfl,hc6,hr6⟩:=HSe2.out e w6 hp6;have H6:Hid (C3S B w0 rh hb X fs qs y rb W T va (.slice a6 (nq+m5) c6) vr L n s s2 (.slice a4 m c4) U4 (.slice a5 m5 c5) U5 A2 g2' sn2 0 0 none 0 [] w6):=hc6;have HSn2:Hid (∀ (k:Nat) (z:Lr),(L.map (gR s))[k]?=some z→sn2 k=s2 z.ref):=hr6;clear hS2 hp6 hc6 hr6 HSe2)
     clear c3n d1 d2 d3 hrun
     go_loopg [10,11] 1001 (fun kx s10 s11 wx=>∃ (j m6:Nat) (al:Option Addr) (cl:Nat) (M:List Lr),s10=.slice al m6 cl∧s11=.int .i64 j∧j≤n∧n-j≤kx∧m6≤j∧Hid (C3S B w0 rh hb X fs qs y rb W T va (.slice a6 (nq+m5) c6) vr L n s s2 (.slice a4 m c4) U4 (.slice a5 m5 c5) U5 A2 g2' sn2 j m6 al cl M wx))
     case atStart=>exact⟨0,0,none,0,[],rfl,rfl,by omega,by omega,by omega,H6.out⟩
     case round =>
      clear H6
      obtain⟨j,m6,al,cl,M,rfl,rfl,hj3,hkx3,hmj3,HJ⟩:=hrel
      by_cases hjn3:j<n
      ·have g3:(j:Int)<(n:Int):=by omega
       obtain⟨z,hz⟩:∃ z,(L.map (gR s))[j]?=some z:=⟨_,List.getElem?_eq_getElem (by rw[List.length_map,← HN.out];exact hjn3)⟩
       obtain⟨p,cap2,az,nz,cz,e1,e2,e4,⟨e5,e6,e7,e8,e9⟩⟩:=HJ.out.cell hz
       have e12:wr.cell? ⟨y,3,none⟩=some va∧y<wr.heap.size:=⟨HJ.out.2.2.pl.lm.cells.2.2.2.1,HJ.out.2.2.pl.lm.y_lt⟩
       rw[← HN.out,HVA.out] at e1
       simp only[Value.slice.injEq,true_and] at e1
       obtain⟨rfl,rfl⟩:=e1
       rw[HVA.out] at e12
       have cs:=HJ.out.2.2.seen.cell hjn3
       have lgs:=HJ.out.2.2.seen.lt
       rw[HSn2.out j z hz] at cs
       cases hsz:s2 z.ref with
       | false =>
        rw[hsz] at cs
        have HN4:Hid (C3S B w0 rh hb X fs qs y rb W T va (.slice a6 (nq+m5) c6) vr L n s s2 (.slice a4 m c4) U4 (.slice a5 m5 c5) U5 A2 g2' sn2 (j+1) m6 al cl M wr):=HJ.out.skip hz hsz
        clear HJ hz hsz e2 e5 e6 e7 e8 e9
        go_wp2
        go_roundg (n-(j+1))
        case measure=>omega
        case rel=>exact⟨j+1,m6,al,cl,M,rfl,by go_num,by omega,by omega,by omega,HN4.out⟩
       | true =>
        rw[hsz] at cs
        have b8:Below wr.heap.size wr (wr.alloc (.cells #[.int .i64 z.ref,.int .i64 z.kind,.slice az nz cz,.bool z.fin,.bool z.qd] 90)):=(Below.refl _ _).alloc (Nat.le_refl _) _
        obtain⟨a8,c8,u8,hrun8,h8⟩:=HJ.out.app hz hsz (by omega) b8 (a:=wr.heap.size) (by
         have:=heap_alloc_new wr (.cells #[.int .i64 z.ref,.int .i64 z.kind,.slice az nz cz,.bool z.fin,.bool z.qd] 90)
         rw[show (rowR z).toArray=#[.int .i64 z.ref,.int .i64 z.kind,.slice az nz cz,.bool z.fin,.bool z.qd] by simp[rowR,e2]]
         exact this)
        have HN4:Hid (C3S B w0 rh hb X fs qs y rb W T va (.slice a6 (nq+m5) c6) vr L n s s2 (.slice a4 m c4) U4 (.slice a5 m5 c5) U5 A2 g2' sn2 (j+1) (m6+1) a8 c8 (M++[z]) u8):=h8
        clear HJ hz hsz e2 b8 h8
        generalize z.ref=zr at *
        generalize z.kind=zk at *
        generalize z.fin=zf at *
        generalize z.qd=zq at *
        go_wp2
        go_roundg (n-(j+1))
        case measure=>omega
        case rel=>exact⟨j+1,m6+1,a8,c8,M++[z],rfl,by go_num,by omega,by omega,by omega,HN4.out⟩
      ·have g3:¬ (j:Int)<(n:Int):=by omega
       have hjL:j=(L.map (gR s)).length:=by rw[List.length_map,← HN.out];omega
       obtain⟨q1,q2,q3⟩:=HJ.out
       rw[hjL,List.take_length] at q2
       obtain⟨⟨k1,k2,k3⟩,hq7⟩:=q3.done (by rw[q2];exact List.filter_sublist)
       rw[HVA.out] at k1
       have hC:=z9W hq7 HO.out hi HSr.out HSr2.out HU4.out.2 HU5.out.2 HU4.out.1 HU5.out.1 q2
       have d0:(wr.setCell ⟨y,3,none⟩ (.slice al m6 cl)).cell? ⟨y,0,none⟩=some (.pointer (some ⟨rh,0,none⟩))∧y<(wr.setCell ⟨y,3,none⟩ (.slice al m6 cl)).heap.size:=⟨hq7.pl.lm.cells.1,hq7.pl.lm.y_lt⟩
       clear HJ q1 q2 q3 hq7 hjL
       go_upto_region 27 with fail
       generalize World.setCell _ _ _=W7 at *
       clear k1 k2 k3
       go_wp2_with (first
        | (go_at_call 16;refine hC.mono ?_;clear hC;rintro e w11 ⟨ac,cc,ad,cd,rfl,hC⟩)
        | (go_at_call 9;refine (z04 _ _).mono ?_;rintro e w9 ⟨rfl,hw9⟩;replace hw9:=hw9.symm;subst hw9)
        | (go_at_call 31;refine hC.mono ?_;clear hC;rintro e w12 ⟨rfl,hC⟩)
        | (go_at_call 63;refine hC.mono ?_;clear hC;rintro e w13 ⟨rfl,hC⟩))
       go_ret
       exact⟨rfl,hC⟩
end
end Go.Proofs.YthkelaeemefnaaaGreat
