import Derived.Test.YthkelaeemefnaaaGreatMXR3qz
namespace Go.Proofs.YthkelaeemefnaaaGreat
open Go.RowKit
def seg (b:Nat):Nat→List Int
 | 0=>[]
 | j+1=>seg b j++[(b:Int)+j+1]
structure Rg (n k:Nat) (P:List Int) (X:Cm):Prop where
 T:X.T=1
 W:X.W=16384
 ph:X.ph=0
 lk:¬ X.tr.ln<X.tr.lw
 all:X.A 0=true
 len:X.S.length=n
 cell:∀ i,i<n→∃ a,X.S[i]?=some (some ⟨1,0,2,a⟩)
 rt:X.rt 0=P
 ring:∀ x,x<k→X.F x 1=0∧X.F x 0=if x+1<k then (x:Int)+2 else 1
 sum:sumS X.S=18*n
 cy:X.cy=0
section
variable {B:Nat}{w0 w w':World}{hb:Nat}
end
end Go.Proofs.YthkelaeemefnaaaGreat
namespace Go.Proofs.YthkelaeemefnaaaGreat
open Go.RowKit
end Go.Proofs.YthkelaeemefnaaaGreat
namespace Go.Proofs.YthkelaeemefnaaaGreat
open Go.RowKit
def RS (B:Nat) (w0:World) (rh hb:Nat) (X:Cm) (fs qs:List Int) (O:Nat→Prop) (w:World):Prop:=∃ Z vf vq,Sr B w0 w rh hb X Z vf vq fs qs O∧Rq X fs qs
def RT (B:Nat) (w0:World) (rh hb:Nat) (X:Cm) (fs qs:List Int) (O:Nat→Prop) (w w':World):Prop:=RS B w0 rh hb X fs qs O w'∧(∀ k,O k→w'.heap[k]?=w.heap[k]?)∧w.heap.size≤w'.heap.size
def Cm.made (X:Cm) (t:Nat) (kd cls:Int) (n:Nat) (a:Int) (c':Int→Int):Cm:={ X with m:=X.m+500,c:=c',S:=X.S++[some ⟨kd,cls,n,a⟩],F:=setF X.F X.S.length (fun _=>0),rt:=setL X.rt t (X.rt t++[(X.S.length:Int)+1]) }
def Cm.weaked (X:Cm) (t:Nat) (r a:Int) (c':Int→Int):Cm:={ X with m:=X.m+501,c:=c',S:=X.S++[some ⟨4,10,1,a⟩],F:=setF X.F X.S.length (fun l=>if l=0 then r else 0),rt:=setL X.rt t (X.rt t++[(X.S.length:Int)+1]) }
def Cm.rooted (X:Cm) (t:Nat) (l:List Int):Cm:={ X with rt:=setL X.rt t l }
def Cm.cost (X:Cm) (m:Nat) (c':Int→Int):Cm:={ X with m:=X.m+m,c:=c' }
def Cm.putw (X:Cm) (k j:Nat) (v:Int) (c':Int→Int):Cm:={ X with m:=X.m+2,c:=c',F:=setF X.F k (fun l=>if l=j then v else X.F k l) }
section
variable {B:Nat}{w0 w w':World}{rh hb:Nat}{X X':Cm}{Z:Cx}{vf vq:Value}{fs qs fs' qs':List Int}{O O':Nat→Prop}
theorem z1q (S:List (Option Cel)) (cl:Cel):z23 S (S++[some cl]) S.length cl:=((show Tab S S.length from rfl).more cl).2
theorem RS.bel (h:RS B w0 rh hb X fs qs O w):Below B w0 w:=let ⟨_,_,_,H,_⟩:=h;H.rv.cv.hv.bel
theorem RS.rq (h:RS B w0 rh hb X fs qs O w):Rq X fs qs:=let ⟨_,_,_,_,h⟩:=h;h
theorem RS.size (h:RS B w0 rh hb X fs qs O w):B≤w.heap.size:=let ⟨_,_,_,H,_⟩:=h;H.rv.cv.hv.size
theorem RS.fit (h:RS B w0 rh hb X fs qs O w):sumS X.S≤X.W/4:=let ⟨_,_,_,H,_⟩:=h;H.rv.cv.fit
theorem RS.own (h:RS B w0 rh hb X fs qs O w) {k:Nat}(hk:O k):k<w.heap.size∧B≤k:=let ⟨_,_,_,H,_⟩:=h;(H.out k hk).2
theorem RS.below (h:RS B w0 rh hb X fs qs O w) (b:Below w.heap.size w w'):RT B w0 rh hb X fs qs O w w':=by
 obtain⟨Z,vf,vq,H,hq⟩:=h
 obtain⟨H',e⟩:=H.below b
 exact⟨⟨Z,vf,vq,H',hq⟩,e,b.size⟩
theorem RS.less (h:RS B w0 rh hb X fs qs O w) (hO:∀ k,O' k→O k):RS B w0 rh hb X fs qs O' w:=by
 obtain⟨Z,vf,vq,H,hq⟩:=h
 exact⟨Z,vf,vq,H.less hO,hq⟩
theorem RS.mine (h:RS B w0 rh hb X fs qs O w) (hB:Bt O w w') (hO:∀ k,O' k→O k∨(w.heap.size≤k∧k<w'.heap.size)):RS B w0 rh hb X fs qs O' w':=by
 obtain⟨Z,vf,vq,H,hq⟩:=h
 exact⟨Z,vf,vq,H.mine hB hO,hq⟩
theorem RT.of (H:Sr B w0 w rh hb X Z vf vq fs qs O) (hT:RvT B w0 w rh hb Z vf vq X' fs' qs' w') (e:X'.T=X.T) (hq:Rq X' fs' qs'):RT B w0 rh hb X' fs' qs' O w w':=by
 have hT':=hT
 obtain⟨⟨Z1,vf1,vq1,k1⟩,k2⟩:=H.call hT e
 obtain⟨_,_,_,_,b,_⟩:=hT'
 exact⟨⟨Z1,vf1,vq1,k1,hq⟩,k2,b.size⟩
theorem RS.app (H:RS B w0 rh hb X fs qs O w) {v:Value}{U:List Int}(hU:Ri w B v U) (hv:∀ k,v.ownBlock=some k→O k) (hl:U.length≤100000) (x:Int):
  ∃ ao cap ao' cap' w3,v=.slice ao U.length cap∧(appC #[32,32] 32 #[.slice ao U.length cap,.slice (some ⟨w.heap.size,0,none⟩) 1 1]).run Tryz.prog (w.alloc (.cells #[.int .i64 x] 3))=.ok (.slice ao' (U.length+1) cap') w3 ∧
   Ri w3 B (.slice ao' (U.length+1) cap') (U++[x])∧RS B w0 rh hb X fs qs (fun k=>O k∨(Value.slice ao' (U.length+1) cap').ownBlock=some k) w3∧(∀ k,O k→v.ownBlock≠some k→w3.heap[k]?=w.heap[k]?)∧((Value.slice ao' (U.length+1) cap').ownBlock=v.ownBlock∨∃ j,(Value.slice ao' (U.length+1) cap').ownBlock=some j∧w.heap.size≤j):=by
 obtain⟨Z,vf,vq,hS,hq⟩:=H
 obtain⟨ao,cap,ao',cap',w3,q0,hrun,hU3,hS3,q1,q2⟩:=hS.app hU hv hl x
 exact⟨ao,cap,ao',cap',w3,q0,hrun,hU3,⟨Z,vf,vq,hS3,hq⟩,q1,q2⟩
theorem RT.refl (h:RS B w0 rh hb X fs qs O w):RT B w0 rh hb X fs qs O w w:=⟨h,fun _ _=>rfl,Nat.le_refl _⟩
theorem Rq.added (h:Rq X fs qs) {t:Nat}{cl:Cel}{f:Nat→Int}(hf:∀ j,(cl.kind=1∨cl.kind=3)→f j=0) (hw:cl.kind=4→1≤cl.n) (m:Nat) (c':Int→Int) {fs':List Int}(hfs:∀ r∈fs',r∈fs∨r=(X.S.length:Int)+1):Rq { X with m:=m,c:=c',S:=X.S++[some cl],F:=setF X.F X.S.length f,rt:=setL X.rt t (X.rt t++[(X.S.length:Int)+1]) } fs' qs:=by
 have hA:=z1q X.S cl
 have hn:∀ r,r∈nums 0 X.S→r∈nums 0 (X.S++[some cl]):=fun r hr=>by
  obtain⟨c,hc⟩:=nums_cel.1 hr
  refine nums_cel.2 ?_
  by_cases e:r=(X.S.length:Int)+1
  ·exact⟨cl,by rw[e];exact z0W hA⟩
  ·exact⟨c,by rw[z10 hA e];exact hc⟩
 have hnew:(X.S.length:Int)+1∈nums 0 (X.S++[some cl]):=nums_cel.2 ⟨cl,z0W hA⟩
 refine⟨h.ph,h.all,h.lk,⟨fun u hu r hr=>?_,fun r hr j hj=>?_⟩,fun r hr=>?_,fun r hr=>hn r (h.que r hr),fun r c hc h4=>?_⟩
 ·by_cases e:u=t
  ·subst e
   have hr':r∈X.rt u++[(X.S.length:Int)+1]:=by simpa [setL] using hr
   rcases List.mem_append.1 hr' with q|q
   ·exact (h.clo.kroot u hu r q).imp id (hn r)
   ·rw[List.mem_singleton.1 q];exact .inr hnew
  ·have hr':r∈X.rt u:=by simpa [setL,e] using hr
   exact (h.clo.kroot u hu r hr').imp id (hn r)
 ·have hj':j<rfs (X.S++[some cl]) r:=hj
  have hr':r∈nums 0 (X.S++[some cl]):=hr
  show setF X.F X.S.length f (r-1).toNat j=0∨setF X.F X.S.length f (r-1).toNat j∈nums 0 (X.S++[some cl])
  by_cases e:r=(X.S.length:Int)+1
  ·left
   rw[e,show ((X.S.length:Int)+1-1).toNat=X.S.length by omega,z0L]
   obtain⟨_,c,hc,hk,_⟩:=z11 hj'
   rw[e,z0W hA] at hc
   cases hc
   exact hf j hk
  ·rw[z1e hA e] at hj'
   have hm:r∈nums 0 X.S:=by
    obtain⟨c,hc⟩:=nums_cel.1 hr'
    rw[z10 hA e] at hc
    exact nums_cel.2 ⟨c,hc⟩
   have h1:=(z11 hj').1
   rw[z0n _ _ (by omega)]
   exact (h.clo.kword r hm j hj').imp id (hn _)
 ·rcases hfs r hr with q|q
  ·exact hn r (h.fin r q)
  ·rw[q];exact hnew
 ·have hc':z0a (X.S++[some cl]) r=some c:=hc
  by_cases e:r=(X.S.length:Int)+1
  ·rw[e,z0W hA] at hc'
   cases hc'
   exact hw h4
  ·rw[z10 hA e] at hc'
   exact h.weak r c hc' h4
theorem Rq.cost (h:Rq X fs qs) (m:Nat) (c':Int→Int):Rq { X with m:=m,c:=c' } fs qs:=⟨h.ph,h.all,h.lk,⟨h.clo.kroot,h.clo.kword⟩,h.fin,h.que,h.weak⟩
theorem Rq.rooted (h:Rq X fs qs) (t:Nat) {l:List Int}(hl:t<X.T→∀ r∈l,r∈X.rt t∨r=0∨r∈nums 0 X.S) (hq:∀ r∈qs',r∈qs):Rq (X.rooted t l) fs qs':=by
 refine⟨h.ph,h.all,h.lk,⟨fun u hu r hr=>?_,h.clo.kword⟩,h.fin,fun r hr=>h.que r (hq r hr),h.weak⟩
 by_cases e:u=t
 ·subst e
  have hr':r∈l:=by simpa [Cm.rooted,setL] using hr
  rcases hl hu r hr' with q|q
  ·exact h.clo.kroot u hu r q
  ·exact q
 ·have hr':r∈X.rt u:=by simpa [Cm.rooted,setL,e] using hr
  exact h.clo.kroot u hu r hr'
theorem Rq.putw (h:Rq X fs qs) {k j:Nat}{v:Int}{cl:Cel}(hk:X.S[k]?=some (some cl)) (hv:cl.kind=2∨v=0∨v∈nums 0 X.S) (c':Int→Int):Rq (X.putw k j v c') fs qs:=by
 refine⟨h.ph,h.all,h.lk,⟨h.clo.kroot,fun r hr l hl=>?_⟩,h.fin,h.que,h.weak⟩
 have hl':l<rfs X.S r:=hl
 have h1:=(z11 hl').1
 show setF X.F k (fun l=>if l=j then v else X.F k l) (r-1).toNat l=0∨_
 by_cases e:(r-1).toNat=k
 ·have er:r=(k:Int)+1:=by omega
  obtain⟨_,c,hc,hkd,_⟩:=z11 hl'
  rw[er,z0u,hk] at hc
  simp at hc;subst hc
  have hkk:wd (X.putw k j v c') r l=if l=j then v else X.F k l:=by
   show setF X.F k (fun l=>if l=j then v else X.F k l) (r-1).toNat l=_
   rw[e,z0L]
  show wd (X.putw k j v c') r l=0∨wd (X.putw k j v c') r l∈nums 0 X.S
  rw[hkk]
  split
  ·exact hv.resolve_left (by omega)
  ·have:=h.clo.kword r hr l hl'
   unfold wd at this
   rw[e] at this
   exact this
 ·have hkk:wd (X.putw k j v c') r l=wd X r l:=by
   show setF X.F k (fun l=>if l=j then v else X.F k l) (r-1).toNat l=X.F (r-1).toNat l
   exact z0n _ _ e _
  show wd (X.putw k j v c') r l=0∨wd (X.putw k j v c') r l∈nums 0 X.S
  rw[hkk]
  exact h.clo.kword r hr l hl'
theorem RS.new (W T:Nat) (H:Rv B w0 w rh hb (cm0 W T) Z (.slice none 0 0) (.slice none 0 0) [] []):RS B w0 rh hb (cm0 W T) [] [] (fun _=>False) w:=by
 refine⟨Z,_,_,H.sr,rfl,?_,by show ¬ (0:Int)<0;omega,⟨fun t _ r hr=>?_,fun r hr=>?_⟩,fun r hr=>by simp at hr,fun r hr=>by simp at hr,fun r c hc=>?_⟩
 ·exact allB_iff.2 (fun _ _=>rfl)
 ·have:r∈([]:List Int):=hr
  simp at this
 ·have:r∈([]:List Int):=hr
  simp at this
 ·have:z0a [] r=some c:=hc
  unfold z0a at this
  split at this<;>simp at this
theorem zev (h:RS B w0 rh hb X fs qs O w) (hm:X.m≤1999000) (hfl:fs.length<4000) (t:Nat) (kd cls:Int) (n:Nat) (ht:t<X.T) (hF:Fits kd cls n) (hr:(X.rt t).length<64) (hs:sumS X.S+(n+16)≤X.W/4) (b:Bool) (ti:Int) (hti:ti=t):
  Calls Tryz.prog 13 #[.pointer (some ⟨rh,0,none⟩),.int .i64 ti,.int .i64 kd,.int .i64 cls,.int .i64 n,.bool b] w fun e w'=>e=.returned (.tuple #[.int .i64 ((X.S.length:Int)+1),.int .i64 0])∧∃ a c',RT B w0 rh hb (X.made t kd cls n a c') (if b=true then fs++[(X.S.length:Int)+1] else fs) qs O w w':=by
 obtain⟨Z,vf,vq,H,hq⟩:=h
 subst hti
 have hk4:=hF.1
 cases b with
 | false =>
  refine (z85 H.rv t kd cls n false (.inl rfl) (R:=fun x c1 w'=>x=(X.S.length:Int)+1∧c1=0∧∃ a c',RT B w0 rh hb (X.made t kd cls n a c') fs qs O w w') ?_).mono ?_
  ·refine (z4I H.rv.cv (by omega) t kd cls n ht hF hr hs).mono ?_
   rintro e w' ⟨i,S',a,c',rfl,hAd,hT⟩
   have hi:=hAd.at_
   subst hi
   have hS:=hAd.eq
   subst hS
   refine⟨_,_,rfl,rfl,rfl,a,c',RT.of H (H.rv.heapT hT rfl) rfl ?_⟩
   exact hq.added (cl:=⟨kd,cls,n,a⟩) (f:=fun _=>0) (fun _ _=>rfl) (fun q=>by have:kd=4:=q;omega) _ _ (fun r hr=>.inl hr)
  ·rintro e w' ⟨x,c1,rfl,rfl,rfl,a,c',h⟩
   exact⟨rfl,a,c',h⟩
 | true =>
  refine (z5r H.rv hfl t kd cls n (R:=fun x u=>x=(X.S.length:Int)+1∧∃ a c',RT B w0 rh hb (X.made t kd cls n a c') (fs++[(X.S.length:Int)+1]) qs O w u) ?_).mono ?_
  ·refine (z4I H.rv.cv (by omega) t kd cls n ht hF hr hs).mono ?_
   rintro e w' ⟨i,S',a,c',rfl,hAd,hT⟩
   have hi:=hAd.at_
   subst hi
   have hS:=hAd.eq
   subst hS
   obtain⟨Z',H2,b2,d2⟩:=H.rv.heap hT rfl
   refine⟨_,rfl,⟨_,Z',H2⟩,fun u hu=>⟨rfl,a,c',?_⟩⟩
   refine RT.of (X':=X.made t kd cls n a c') H (RvT.then b2 d2 (hu _ Z' H2)) rfl ?_
   exact hq.added (cl:=⟨kd,cls,n,a⟩) (f:=fun _=>0) (fun _ _=>rfl) (fun q=>by have:kd=4:=q;omega) _ _ (fun r hr=>by
    rcases List.mem_append.1 hr with q|q
    ·exact .inl q
    ·exact .inr (List.mem_singleton.1 q))
  ·rintro e w' ⟨x,rfl,rfl,a,c',h⟩
   exact⟨rfl,a,c',h⟩
theorem zey (h:RS B w0 rh hb X fs qs O w) (hm:X.m≤1999000) (t:Nat) (r:Int) (ht:t<X.T) {k:Nat}{cl:Cel}(hk:X.S[k]?=some (some cl)) (hr:r=(k:Int)+1) (hl:(X.rt t).length<64) (hs:sumS X.S+(1+16)≤X.W/4) (ti:Int) (hti:ti=t):
  Calls Tryz.prog 14 #[.pointer (some ⟨rh,0,none⟩),.int .i64 ti,.int .i64 r] w fun e w'=>e=.returned (.tuple #[.int .i64 ((X.S.length:Int)+1),.int .i64 0])∧∃ a c',RT B w0 rh hb (X.weaked t r a c') fs qs O w w':=by
 obtain⟨Z,vf,vq,H,hq⟩:=h
 subst hti
 refine (z4R H.rv t r (R:=fun x c1 w'=>x=(X.S.length:Int)+1∧c1=0∧∃ a c',RT B w0 rh hb (X.weaked t r a c') fs qs O w w') ?_).mono ?_
 ·refine (z7j H.rv.cv hm t r ht hk hr hl hs).mono ?_
  rintro e w' ⟨i,S',a,c',rfl,hAd,hT⟩
  have hi:=hAd.at_
  subst hi
  have hS:=hAd.eq
  subst hS
  refine⟨_,_,rfl,rfl,rfl,a,c',RT.of H (H.rv.heapT hT rfl) rfl ?_⟩
  exact hq.added (cl:=⟨4,10,1,a⟩) (fun _ q=>by simp at q) (fun _=>Nat.le_refl _) _ _ (fun r hr=>.inl hr)
 ·rintro e w' ⟨x,c1,rfl,rfl,rfl,a,c',h⟩
  exact⟨rfl,a,c',h⟩
theorem zfT (h:RS B w0 rh hb X fs qs O w) (t:Nat) (ht:t<X.T) {U:List Int}{r:Int}(hU:X.rt t=U++[r]) (ti:Int) (hti:ti=t):
  Calls Tryz.prog 15 #[.pointer (some ⟨rh,0,none⟩),.int .i64 ti] w fun e w'=>e=.returned (.tuple #[.int .i64 r,.int .i64 0])∧RT B w0 rh hb (X.rooted t U) fs qs O w w':=by
 obtain⟨Z,vf,vq,H,hq⟩:=h
 subst hti
 have et:X.popTr r=X.tr:=if_neg (by rw[hq.ph];decide)
 have hP:=za4 H.rv.cv t ht hU
 rw[et] at hP
 refine (z77 H.rv t r 0 (X':=X.rooted t U) rfl hP).mono ?_
 rintro e w' ⟨rfl,hT⟩
 exact⟨rfl,RT.of H hT rfl (hq.rooted t (fun _ x hx=>.inl (by rw[hU];exact List.mem_append_left _ hx)) (fun _ h=>h))⟩
theorem ze7 (h:RS B w0 rh hb X fs qs O w) (t:Nat) (r:Int) (ht:t<X.T) (hl:(X.rt t).length<64) (hr:r=0∨r∈nums 0 X.S) (ti:Int) (hti:ti=t):
  Calls Tryz.prog 20 #[.pointer (some ⟨rh,0,none⟩),.int .i64 ti,.int .i64 r] w fun e w'=>e=.returned (.int .i64 0)∧RT B w0 rh hb (X.rooted t (X.rt t++[r])) fs qs O w w':=by
 obtain⟨Z,vf,vq,H,hq⟩:=h
 subst hti
 refine (z7t H.rv t r 0 (X':=X.rooted t (X.rt t++[r])) rfl (z7F H.rv.cv t r ht hl)).mono ?_
 rintro e w' ⟨rfl,hT⟩
 refine⟨rfl,RT.of H hT rfl (hq.rooted t (fun _ x hx=>?_) (fun _ h=>h))⟩
 rcases List.mem_append.1 hx with q|q
 ·exact .inl q
 ·rw[List.mem_singleton.1 q];exact .inr hr
theorem zdN {x:Int}(h:RS B w0 rh hb X fs (x::qs) O w) (ht:0<X.T) (hl:(X.rt 0).length<64):
  Calls Tryz.prog 17 #[.pointer (some ⟨rh,0,none⟩)] w fun e w'=>e=.returned (.tuple #[.int .i64 x,.bool true])∧RT B w0 rh hb (X.rooted 0 (X.rt 0++[x])) fs qs O w w':=by
 obtain⟨Z,vf,vq,H,hq⟩:=h
 refine (z7P H.rv ht hl).mono ?_
 rintro e w' ⟨rfl,hT⟩
 refine⟨rfl,RT.of (X':=X.rooted 0 (X.rt 0++[x])) H hT rfl (hq.rooted 0 (fun _ y hy=>?_) (fun y hy=>List.mem_cons_of_mem _ hy))⟩
 rcases List.mem_append.1 hy with q|q
 ·exact .inl q
 ·rw[List.mem_singleton.1 q];exact .inr (.inr (hq.que x (by simp)))
theorem zaM (h:RS B w0 rh hb X fs qs O w) (hm:X.m≤1999000) (t:Int) (ht:0≤t∧t<X.T) {k:Nat}{cl:Cel}(hk:X.S[k]?=some (some cl)) (h4:cl.kind≠4) (i:Int) (j:Nat) (hi:i=j) (hj:j<cl.n) (r:Int) (hr:r=(k:Int)+1):
  Calls Tryz.prog 21 #[.pointer (some ⟨rh,0,none⟩),.int .i64 t,.int .i64 r,.int .i64 i] w fun e w'=>e=.returned (.tuple #[.int .i64 (X.F k j),.int .i64 0])∧∃ c',RT B w0 rh hb (X.cost 1 c') fs qs O w w':=by
 obtain⟨Z,vf,vq,H,hq⟩:=h
 refine (zc4 H.rv (by omega) t ht hk h4 i j hi hj r hr).mono ?_
 rintro e w' ⟨rfl,c',hT⟩
 exact⟨rfl,c',RT.of (X':=X.cost 1 c') H hT rfl (hq.cost _ _)⟩
theorem zcM (h:RS B w0 rh hb X fs qs O w) (hm:X.m≤1999000) (t:Int) (ht:0≤t∧t<X.T) {k:Nat}{cl:Cel}(hk:X.S[k]?=some (some cl)) (h4:cl.kind=4) (r:Int) (hr:r=(k:Int)+1):
  Calls Tryz.prog 22 #[.pointer (some ⟨rh,0,none⟩),.int .i64 t,.int .i64 r] w fun e w'=>e=.returned (.tuple #[.int .i64 (X.F k 0),.int .i64 0])∧∃ c',RT B w0 rh hb (X.cost 1 c') fs qs O w w':=by
 obtain⟨Z,vf,vq,H,hq⟩:=h
 have hn:=hq.weak ((k:Int)+1) cl (by rw[z0u,hk];rfl) h4
 refine (z5n H.rv (by omega) t ht hk h4 hn r hr).mono ?_
 rintro e w' ⟨rfl,c',hT⟩
 exact⟨rfl,c',RT.of (X':=X.cost 1 c') H hT rfl (hq.cost _ _)⟩
theorem zdf (h:RS B w0 rh hb X fs qs O w) (hm:X.m≤1999000) (t v:Int) (ht:0≤t∧t<X.T) {k:Nat}{cl:Cel}(hk:X.S[k]?=some (some cl)) (h4:cl.kind≠4) (i:Int) (j:Nat) (hi:i=j) (hj:j<cl.n) (r:Int) (hr:r=(k:Int)+1) (hv:cl.kind=2∨v=0∨v∈nums 0 X.S):
  Calls Tryz.prog 19 #[.pointer (some ⟨rh,0,none⟩),.int .i64 t,.int .i64 r,.int .i64 i,.int .i64 v] w fun e w'=>e=.returned (.int .i64 0)∧∃ c',RT B w0 rh hb (X.putw k j v c') fs qs O w w':=by
 obtain⟨Z,vf,vq,H,hq⟩:=h
 refine (zeH H.rv (by omega) t v ht hk h4 i j hi hj r hr).mono ?_
 rintro e w' ⟨rfl,c',hT⟩
 have et:X.pw ((k:Int)+1) i=X.tr:=if_neg (by rw[hq.ph];decide)
 rw[et] at hT
 exact⟨rfl,c',RT.of (X':=X.putw k j v c') H hT rfl (hq.putw hk hv c')⟩
theorem zex (h:RS B w0 rh hb X fs qs O w) (hm:X.m≤1999000):
  Calls Tryz.prog 18 #[.pointer (some ⟨rh,0,none⟩)] w fun e w'=>∃ v,e=.returned v∧Ri w' w.heap.size v (nums 0 X.S)∧Below w.heap.size w w'∧RT B w0 rh hb X fs qs O w w':=by
 have h':=h
 obtain⟨Z,vf,vq,H,hq⟩:=h
 refine (z86 H.rv (by omega)).mono ?_
 rintro e w' ⟨v,rfl,hr,hb1⟩
 exact⟨v,rfl,hr,hb1,h'.below hb1⟩
def zf6 (B:Nat) (w0:World) (rh hb:Nat) (X:Cm) (fs qs:List Int) (O:Nat→Prop) (w:World) (e:Ending) (w':World):Prop:=∃ X' u1 u2 vc vd,e=.returned (.tuple #[vc,vd,.int .i64 0])∧Cyd X X' fs qs u1 u2∧RS B w0 rh hb X' (fs.filter fun r=>!u1 r) (qs++fs.filter u1) (fun k=>O k∨vc.ownBlock=some k∨vd.ownBlock=some k) w'∧Ri w' B vc (clrd X u1 (nums 0 X.S))∧Ri w' B vd (fs.filter u1)∧(∀ k,O k→w'.heap[k]?=w.heap[k]?)∧(∀ k,vc.ownBlock=some k∨vd.ownBlock=some k→w.heap.size≤k)∧w.heap.size≤w'.heap.size∧∀ k,vc.ownBlock=some k→vd.ownBlock≠some k
theorem zcs (h:RS B w0 rh hb X fs qs O w) (hm:X.m+500*cntS X.S+3*sumS X.S≤1999999) (hc:0≤X.cy∧X.cy≤999999) (hl:fs.length+qs.length≤4000):Calls Tryz.prog 16 #[.pointer (some ⟨rh,0,none⟩)] w (zf6 B w0 rh hb X fs qs O w):=by
 obtain⟨Z,vf,vq,H,hq⟩:=h
 refine (z6k H.rv hq hm hc hl).mono ?_
 rintro e w' ⟨X',u1,u2,vc,vd,rfl,hcd,hO,hvc,hvd,hdis⟩
 have hsz:w.heap.size≤w'.heap.size:=by obtain⟨_,_,_,_,b,_⟩:=hO.t;exact b.size
 obtain⟨⟨Z1,vf1,vq1,k1⟩,k2⟩:=H.callO hO hcd.T
 obtain⟨_,_,_,_,_,_,k3⟩:=hO
 exact⟨X',u1,u2,vc,vd,rfl,hcd,⟨Z1,vf1,vq1,k1,hcd.next hq⟩,hvc,hvd,k2,k3,hsz,hdis⟩
end
end Go.Proofs.YthkelaeemefnaaaGreat
namespace Go.Proofs.YthkelaeemefnaaaGreat
open Go.RowKit
def Flat (X:Cm):Prop:=∀ r j,j<rfs X.S r→wd X r j=0
section
variable {X X':Cm}{fs qs U:List Int}{u1 u2:Int→Bool}
theorem Flat.reach (h:Flat X) (r:Int):RchQ X U r↔((∃ t,t<X.T∧r∈X.rt t)∨r∈U)∧r≠0:=by
 constructor
 ·intro hr
  refine hr.least (P:=fun r=>((∃ t,t<X.T∧r∈X.rt t)∨r∈U)∧r≠0) (fun t ht x hx h0=>⟨.inl ⟨t,ht,hx⟩,h0⟩) (fun x hx h0=>⟨.inr hx,h0⟩) (fun x _ _ j hj h0=>absurd (h x j hj) h0)
 ·rintro⟨⟨t,ht,q⟩|q,h0⟩
  ·exact RchQ.root ht q h0
  ·exact RchQ.from q h0
theorem Flat.cyc (h:Flat X) (hc:Cyd X X' fs qs u1 u2):Flat X':=fun r j hj=>by
 obtain⟨_,c,hcl,_⟩:=z11 hj
 have hr:r∈nums 0 X'.S:=nums_cel.2 ⟨c,hcl⟩
 have hj':j<rfs X.S r:=by rw[← z4O (hc.cel r hr)];exact hj
 show X'.F (r-1).toNat j=0
 rw[hc.F]
 unfold clrF
 split
 ·rfl
 ·exact h r j hj'
theorem Flat.made (h:Flat X) (t:Nat) (kd cls:Int) (n:Nat) (a:Int) (c':Int→Int):Flat (X.made t kd cls n a c'):=fun r j hj=>by
 have hj':j<rfs (X.S++[some ⟨kd,cls,n,a⟩]) r:=hj
 show setF X.F X.S.length (fun _=>0) (r-1).toNat j=0
 by_cases e:(r-1).toNat=X.S.length
 ·rw[e,z0L]
 ·rw[z0n _ _ e]
  have h1:=(z11 hj').1
  rw[z1e (z1q X.S _) (by omega)] at hj'
  exact h r j hj'
theorem Flat.weaked (h:Flat X) (t:Nat) (v a:Int) (c':Int→Int):Flat (X.weaked t v a c'):=fun r j hj=>by
 have hj':j<rfs (X.S++[some ⟨4,10,1,a⟩]) r:=hj
 show setF X.F X.S.length (fun l=>if l=0 then v else 0) (r-1).toNat j=0
 have h1:=(z11 hj').1
 by_cases e:r=(X.S.length:Int)+1
 ·obtain⟨_,c,hc,hk,_⟩:=z11 hj'
  rw[e,z0W (z1q X.S _)] at hc
  cases hc
  simp at hk
 ·rw[z1e (z1q X.S _) e] at hj'
  rw[z0n _ _ (by omega)]
  exact h r j hj'
theorem zaz (S:List (Option Cel)) (cl:Cel):nums 0 (S++[some cl])=nums 0 S++[(S.length:Int)+1]:=by
 have key:∀ (S:List (Option Cel)) (k:Nat),nums k (S++[some cl])=nums k S++[(k:Int)+S.length+1]:=by
  intro S
  induction S with
  | nil=>intro k;simp[nums]
  | cons o S ih =>
   intro k
   have e:((k+1:Nat):Int)+(S.length:Int)+1=(k:Int)+((S.length+1:Nat):Int)+1:=by omega
   cases o with
   | none=>simp only[List.cons_append,nums,ih (k+1),List.length_cons,e]
   | some c=>simp only[List.cons_append,nums,ih (k+1),List.length_cons,e]
 have:=key S 0
 rw[show ((0:Nat):Int)+(S.length:Int)+1=(S.length:Int)+1 by omega] at this
 exact this
structure Fs (T W k:Nat) (X:Cm):Prop where
 T:X.T=T
 W:X.W=W
 flat:Flat X
 obj:∀ r cl,z0a X.S r=some cl→r≤(k:Int)→cl.kind=1
 cy:0≤X.cy
theorem Fs.cyc {T W k:Nat}(h:Fs T W k X) (hc:Cyd X X' fs qs u1 u2):Fs T W k X' :=
 ⟨hc.T.trans h.T,hc.W.trans h.W,h.flat.cyc hc,fun r cl hr hk=>h.obj r cl (by rw[← hc.cel r (nums_cel.2 ⟨cl,hr⟩)];exact hr) hk,by rw[hc.cy];have:=h.cy;omega⟩
theorem Fs.rooted {T W k:Nat}(h:Fs T W k X) (t:Nat) (l:List Int):Fs T W k (X.rooted t l):=⟨h.T,h.W,h.flat,h.obj,h.cy⟩
theorem Fs.made {T W k:Nat}(h:Fs T W k X) (t:Nat) (cls:Int) (n:Nat) (a:Int) (c':Int→Int):Fs T W k (X.made t 1 cls n a c'):=by
 refine⟨h.T,h.W,h.flat.made t 1 cls n a c',fun r cl hr hk=>?_,h.cy⟩
 have hr':z0a (X.S++[some ⟨1,cls,n,a⟩]) r=some cl:=hr
 by_cases e:r=(X.S.length:Int)+1
 ·rw[e,z0W (z1q X.S _)] at hr'
  cases hr'
  rfl
 ·rw[z10 (z1q X.S _) e] at hr'
  exact h.obj r cl hr' hk
theorem Fs.weaked {T W k:Nat}(h:Fs T W k X) (hk:k≤X.S.length) (t:Nat) (v a:Int) (c':Int→Int):Fs T W k (X.weaked t v a c'):=by
 refine⟨h.T,h.W,h.flat.weaked t v a c',fun r cl hr hk'=>?_,h.cy⟩
 have hr':z0a (X.S++[some ⟨4,10,1,a⟩]) r=some cl:=hr
 rw[z10 (z1q X.S _) (by omega)] at hr'
 exact h.obj r cl hr' hk'
structure Bd (n:Nat) (X:Cm):Prop where
 len:X.S.length=n
 sum:sumS X.S=17*n
 cnt:cntS X.S=n
 ns:nums 0 X.S=seg 0 n
theorem Bd.nil (W T:Nat):Bd 0 (cm0 W T):=⟨rfl,rfl,rfl,rfl⟩
theorem Bd.more {n:Nat}(h:Bd n X) {X':Cm}{cl:Cel}(e:X'.S=X.S++[some cl]) (hn:cl.n=1):Bd (n+1) X':=by
 refine⟨by rw[e,List.length_append,h.len];rfl,by rw[e,(z16 _ _).1,h.sum,hn];omega,by rw[e,(z16 _ _).2,h.cnt],?_⟩
 rw[e,zaz,h.ns,h.len]
 show _=seg 0 n++[((0:Nat):Int)+n+1]
 rw[show ((0:Nat):Int)+(n:Int)+1=(n:Int)+1 by omega]
end
end Go.Proofs.YthkelaeemefnaaaGreat
