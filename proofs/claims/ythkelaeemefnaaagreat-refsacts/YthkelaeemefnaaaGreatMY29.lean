import Derived.Test.YthkelaeemefnaaaGreatMH5qz
import Derived.Test.YthkelaeemefnaaaGreatMH6qz
import Derived.Test.YthkelaeemefnaaaGreatMH4qz
namespace Go.Proofs.YthkelaeemefnaaaGreat
open Go.RowKit
structure Hv (B:Nat) (w0 w:World) (P:Nat→Prop) (h W G m:Nat) (c:Int→Int) (S:List (Option Cel)) (F:Nat→Nat→Int):Prop where
 cur:∃ X,HpC w h W G m c S F X∧∀ k,P k↔X.own h k
 own:∀ k,P k→B≤k
 bel:Below B w0 w
 size:B≤w.heap.size
def HvT (B:Nat) (w0 w:World) (P:Nat→Prop) (h W G m:Nat) (c:Int→Int) (S:List (Option Cel)) (F:Nat→Nat→Int) (w':World):Prop :=
 ∃ P',Hv B w0 w' P' h W G m c S F∧Bt P w w'∧Wider P P' w
section
variable {B:Nat}{w0 w w':World}{P:Nat→Prop}{h W G m:Nat}{c:Int→Int}{S:List (Option Cel)}{F:Nat→Nat→Int}
theorem Hv.lt (H:Hv B w0 w P h W G m c S F):∀ k,P k→k<w.heap.size:=by
 obtain⟨X,hX,e⟩:=H.cur
 exact fun k hk=>hX.mem.own_lt ((e k).1 hk)
theorem Hv.below (H:Hv B w0 w P h W G m c S F) (hb:Below w.heap.size w w'):Hv B w0 w' P h W G m c S F:=by
 obtain⟨X,hX,e⟩:=H.cur
 exact⟨⟨X,hX.below hb,e⟩,H.own,H.bel.trans (hb.mono H.size),Nat.le_trans H.size hb.size⟩
theorem Hv.turn (H:Hv B w0 w P h W G m c S F) {X:Hx}(e:∀ k,P k↔X.own h k) {m':Nat}{c':Int→Int}{S':List (Option Cel)}{F':Nat→Nat→Int}(ht:HpT w h W G m' c' S' F' X w'):HvT B w0 w P h W G m' c' S' F' w':=by
 obtain⟨X',h1,h2,h3⟩:=ht
 have hB:Bt P w w':=h2.mono fun k _ z=>(e k).2 z
 have hW:Wider P (X'.own h) w:=fun k hk=>(h3 k hk).imp (e k).2 id
 exact⟨_,⟨⟨X',h1,fun k=>Iff.rfl⟩,fun k hk=>(hW k hk).elim (H.own k) (fun z=>Nat.le_trans H.size z),Bt.under H.bel H.size H.own hB,Nat.le_trans H.size hB.size⟩,hB,hW⟩
theorem HpC.keep {X:Hx}(H:HpC w h W G m c S F X) (e:∀ k,X.own h k→w'.heap[k]?=w.heap[k]?) (hs:w.heap.size≤w'.heap.size):HpC w' h W G m c S F X:=by
 obtain⟨s1,s2,s3⟩:=H.mem.sides (w':=w') fun k hk=>e k (.inr (.inr hk))
 exact⟨⟨⟨H.mem.sto.raw.keep (fun k hk=>e k (.inr (.inl hk))) hs,H.mem.sto.inv,H.mem.sto.mp⟩,H.mem.gd.keep (fun k hk=>e k (.inl hk)),H.mem.meet.keep H.mem.gd (fun k hk=>e k (.inl hk)),fun k hk=>Nat.lt_of_lt_of_le (H.mem.lt1 k hk) hs,s1,s2,s3,H.mem.off,H.mem.zone⟩,H.tab,H.lnk,H.enough,H.big,H.fit,H.half,H.calm,H.few,H.cnt⟩
theorem Hv.keep (H:Hv B w0 w P h W G m c S F) (e:∀ k,P k→w'.heap[k]?=w.heap[k]?) (hs:w.heap.size≤w'.heap.size) (hb:Below B w0 w'):Hv B w0 w' P h W G m c S F:=by
 obtain⟨X,hX,ee⟩:=H.cur
 exact⟨⟨X,hX.keep (fun k hk=>e k ((ee k).2 hk)) hs,ee⟩,H.own,hb,Nat.le_trans H.size hs⟩
theorem Hv.facts (H:Hv B w0 w P h W G m c S F):sumS S≤z06 W∧500*S.length≤m∧(512≤W∧W≤20000)∧∀ g:Nat,0≤c g∧c g≤400*(m:Int):=by
 obtain⟨X,hX,_⟩:=H.cur
 exact⟨hX.fit,hX.few.2.2.2,hX.big,fun g=>hX.cnt g⟩
def ZNew (w:World) (W G:Nat) (e:Ending) (w':World):Prop:=∃ h P,e=.returned (.tuple #[.pointer (some ⟨h,0,none⟩),.int .i64 0])∧Hv w.heap.size w w' P h W G 0 (fun _=>0) [] (fun _ _=>0)
theorem zgb (x y:Int) (W G:Nat) (w:World) (hx:x=W) (hy:y=G) (hW:512≤W∧W≤20000) (hG:1≤G∧G≤12):Calls Tryz.prog 53 #[.int .i64 x,.int .i64 y] w (ZNew w W G):=by
 subst hx hy
 refine (zdW W G w hW hG).mono ?_
 rintro e w' ⟨h,X,rfl,hX,hb,ho⟩
 exact⟨h,_,rfl,⟨X,hX,fun k=>Iff.rfl⟩,ho,hb,hb.size⟩
def ZMk (B:Nat) (w0 w:World) (P:Nat→Prop) (h W G m:Nat) (S:List (Option Cel)) (F:Nat→Nat→Int) (t cls:Int) (n:Nat) (e:Ending) (w':World):Prop :=
 ∃ (i:Nat) (S':List (Option Cel)) (a:Int) (c':Int→Int),e=.returned (.tuple #[.int .i64 ((i:Int)+1),.int .i64 0])∧z23 S S' i ⟨t,cls,n,a⟩∧HvT B w0 w P h W G (m+500) c' S' (setF F i (fun _=>0)) w'
theorem zfh (H:Hv B w0 w P h W G m c S F) (hm:m≤2000000) (A t cls n:Int) (N:Nat) (hN:n=N) (hA:0≤A∧A<G) (ht:1≤t∧t≤4) (hn:kmin t≤n∧n≤kmax t) (hcls:0≤cls) (hfit:sumS S+(N+16)≤z06 W):
  Calls Tryz.prog 94 #[.pointer (some ⟨h,0,none⟩),.int .i64 A,.int .i64 t,.int .i64 cls,.int .i64 n] w (ZMk B w0 w P h W G m S F t cls N):=by
 subst hN
 obtain⟨g,rfl⟩:=Int.eq_ofNat_of_zero_le hA.1
 obtain⟨X,hX,e⟩:=H.cur
 have hM:Calls Tryz.prog 94 #[.pointer (some ⟨h,0,none⟩),.int .i64 g,.int .i64 t,.int .i64 cls,.int .i64 N] w (zaX w h W G m S F X t cls N):=by
  by_cases q:t=1∨t=4
  ·exact zcB hX hm g (by omega) t cls N q hn hcls hfit
  ·exact zbM hX hm g (by omega) t cls N (by omega) hn hcls hfit
 refine hM.mono ?_
 rintro e' w' ⟨i,S',a,c',rfl,hAd,hT⟩
 exact⟨i,S',a,c',rfl,hAd,H.turn e hT⟩
theorem zal (H:Hv B w0 w P h W G m c S F) (t cls n:Int):Calls Tryz.prog 65 #[.pointer (some ⟨h,0,none⟩),.int .i64 t,.int .i64 cls,.int .i64 n] w fun e w'=>(∃ code:Int,e=.returned (.int .i64 code)∧(code=0↔(1≤t∧t≤4)∧(kmin t≤n∧n≤kmax t)∧0≤cls))∧Below w.heap.size w w':=by
 obtain⟨X,hX,_⟩:=H.cur
 by_cases ht:1≤t∧t≤4
 ·by_cases hn:(kmin t≤n∧n≤kmax t)∧0≤cls
  ·exact (z2I hX.mem t cls n ht hn).mono fun e w' q=>⟨⟨0,q.1,by simp[ht,hn]⟩,q.2⟩
  ·refine (z71 hX.mem t cls n ht hn).mono fun e w' q=>⟨⟨900,q.1,?_⟩,q.2⟩
   exact⟨fun q=>by omega,fun q=>absurd q.2 hn⟩
 ·refine (z72 hX.mem t cls n ht).mono fun e w' q=>⟨⟨902,q.1,?_⟩,q.2⟩
  exact⟨fun q=>by omega,fun q=>absurd q.1 ht⟩
def ZLd (B:Nat) (w0 w:World) (P:Nat→Prop) (h W G m:Nat) (c:Int→Int) (S:List (Option Cel)) (F:Nat→Nat→Int) (A v:Int) (e:Ending) (w':World):Prop :=
 e=.returned (.tuple #[.int .i64 v,.int .i64 0])∧∃ c',c' A≤c A+12∧c A≤c' A∧HvT B w0 w P h W G (m+1) c' S F w'
def ZPt (B:Nat) (w0 w:World) (P:Nat→Prop) (h W G m:Nat) (c:Int→Int) (S:List (Option Cel)) (F:Nat→Nat→Int) (A:Int) (e:Ending) (w':World):Prop :=
 e=.returned (.int .i64 0)∧∃ c',c' A≤c A+12∧c A≤c' A∧HvT B w0 w P h W G (m+1) c' S F w'
theorem z9A (H:Hv B w0 w P h W G m c S F) (hm:m≤2000000) {i:Nat}{cl:Cel}(hi:S[i]?=some (some cl)) (A I:Int) (j:Nat) (hA:0≤A∧A<G) (hj:I=j) (hjn:j<cl.n):
  Calls Tryz.prog 85 #[.pointer (some ⟨h,0,none⟩),.int .i64 A,.int .i64 ((i:Int)+1),.int .i64 I] w (ZLd B w0 w P h W G m c S F A (F i j)):=by
 subst hj
 obtain⟨g,rfl⟩:=Int.eq_ofNat_of_zero_le hA.1
 obtain⟨X,hX,e⟩:=H.cur
 refine (zcT hX hm hi g j (by omega) hjn).mono ?_
 rintro e' w' ⟨rfl,c',u1,u2,hT⟩
 exact⟨rfl,c',u1,u2,H.turn e hT⟩
theorem zet (H:Hv B w0 w P h W G m c S F) (hm:m≤2000000) {i:Nat}{cl:Cel}(hi:S[i]?=some (some cl)) (A I v:Int) (j:Nat) (hA:0≤A∧A<G) (hj:I=j) (hjn:j<cl.n):
  Calls Tryz.prog 69 #[.pointer (some ⟨h,0,none⟩),.int .i64 A,.int .i64 ((i:Int)+1),.int .i64 I,.int .i64 v] w (ZPt B w0 w P h W G m c S (setF F i (fun l=>if l=j then v else F i l)) A):=by
 subst hj
 obtain⟨g,rfl⟩:=Int.eq_ofNat_of_zero_le hA.1
 obtain⟨X,hX,e⟩:=H.cur
 refine (zek hX hm hi g j v (by omega) hjn).mono ?_
 rintro e' w' ⟨rfl,c',u1,u2,hT⟩
 exact⟨rfl,c',u1,u2,H.turn e hT⟩
theorem z6f (H:Hv B w0 w P h W G m c S F) (hm:m≤2000000) (A t I:Int) (hg:Gone G S A t):
  Calls Tryz.prog 85 #[.pointer (some ⟨h,0,none⟩),.int .i64 A,.int .i64 t,.int .i64 I] w fun e w'=>e=.returned (.tuple #[.int .i64 0,.int .i64 904])∧Below w.heap.size w w':=by
 obtain⟨X,hX,_⟩:=H.cur
 exact zbq hX hm A t I hg
theorem zbX (H:Hv B w0 w P h W G m c S F) (hm:m≤2000000) (A t I v:Int) (hg:Gone G S A t):
  Calls Tryz.prog 69 #[.pointer (some ⟨h,0,none⟩),.int .i64 A,.int .i64 t,.int .i64 I,.int .i64 v] w fun e w'=>e=.returned (.int .i64 904)∧Below w.heap.size w w':=by
 obtain⟨X,hX,_⟩:=H.cur
 exact zei hX hm A t I v hg
theorem z42 (H:Hv B w0 w P h W G m c S F) (hm:m≤2000000) {i:Nat}{cl:Cel}(hi:S[i]?=some (some cl)) (A I:Int) (hA:0≤A∧A<G) (hI:¬ (0≤I∧I<cl.n)):
  Calls Tryz.prog 85 #[.pointer (some ⟨h,0,none⟩),.int .i64 A,.int .i64 ((i:Int)+1),.int .i64 I] w fun e w'=>e=.returned (.tuple #[.int .i64 0,.int .i64 903])∧Below w.heap.size w w':=by
 obtain⟨g,rfl⟩:=Int.eq_ofNat_of_zero_le hA.1
 obtain⟨X,hX,_⟩:=H.cur
 exact zac hX hm hi g (by omega) I hI
theorem zaI (H:Hv B w0 w P h W G m c S F) (hm:m≤2000000) {i:Nat}{cl:Cel}(hi:S[i]?=some (some cl)) (A I v:Int) (hA:0≤A∧A<G) (hI:¬ (0≤I∧I<cl.n)):
  Calls Tryz.prog 69 #[.pointer (some ⟨h,0,none⟩),.int .i64 A,.int .i64 ((i:Int)+1),.int .i64 I,.int .i64 v] w fun e w'=>e=.returned (.int .i64 903)∧Below w.heap.size w w':=by
 obtain⟨g,rfl⟩:=Int.eq_ofNat_of_zero_le hA.1
 obtain⟨X,hX,_⟩:=H.cur
 exact zbJ hX hm hi g (by omega) I v hI
def ZFr (B:Nat) (w0 w:World) (P:Nat→Prop) (h W G m:Nat) (S:List (Option Cel)) (F:Nat→Nat→Int) (i:Nat) (e:Ending) (w':World):Prop :=
 e=.returned (.int .i64 0)∧∃ c',HvT B w0 w P h W G (m+500) c' (S.set i none) F w'
theorem zfA (H:Hv B w0 w P h W G m c S F) (hm:m≤2000000) {i:Nat}{cl:Cel}(hi:S[i]?=some (some cl)) (A:Int) (hA:0≤A∧A<G):
  Calls Tryz.prog 147 #[.pointer (some ⟨h,0,none⟩),.int .i64 A,.int .i64 ((i:Int)+1)] w (ZFr B w0 w P h W G m S F i):=by
 obtain⟨g,rfl⟩:=Int.eq_ofNat_of_zero_le hA.1
 obtain⟨X,hX,e⟩:=H.cur
 refine (zcC hX hm hi g (by omega)).mono ?_
 rintro e' w' ⟨rfl,c',hT⟩
 exact⟨rfl,c',H.turn e hT⟩
theorem zaO (H:Hv B w0 w P h W G m c S F) (hm:m≤2000000) (A t:Int) (hg:Gone G S A t):
  Calls Tryz.prog 147 #[.pointer (some ⟨h,0,none⟩),.int .i64 A,.int .i64 t] w fun e w'=>e=.returned (.int .i64 904)∧Below w.heap.size w w':=by
 obtain⟨X,hX,_⟩:=H.cur
 exact zc2 hX hm A t hg
theorem z7L (H:Hv B w0 w P h W G m c S F) (hm:m≤2000000) {i:Nat}{cl:Cel}(hi:S[i]?=some (some cl)):
  Calls Tryz.prog 67 #[.pointer (some ⟨h,0,none⟩),.int .i64 ((i:Int)+1)] w fun e w'=>e=.returned (.tuple #[.agg #[.int .i64 cl.kind,.int .i64 cl.cls,.int .i64 cl.n],.int .i64 0])∧Below w.heap.size w w':=by
 obtain⟨X,hX,_⟩:=H.cur
 exact zct hX hm hi
theorem z39 (H:Hv B w0 w P h W G m c S F) (hm:m≤2000000) (t:Int) (hn:∀ (i:Nat) (cl:Cel),t=(i:Int)+1→S[i]?≠some (some cl)):
  Calls Tryz.prog 67 #[.pointer (some ⟨h,0,none⟩),.int .i64 t] w fun e w'=>e=.returned (.tuple #[.agg #[.int .i64 0,.int .i64 0,.int .i64 0],.int .i64 904])∧Below w.heap.size w w':=by
 obtain⟨X,hX,_⟩:=H.cur
 exact zbS hX hm t hn
theorem zde (H:Hv B w0 w P h W G m c S F) (hm:m≤2000000):Calls Tryz.prog 83 #[.pointer (some ⟨h,0,none⟩)] w (z7i w S):=by
 obtain⟨X,hX,_⟩:=H.cur
 exact zbY hX hm
theorem zai (H:Hv B w0 w P h W G m c S F):Calls Tryz.prog 54 #[.pointer (some ⟨h,0,none⟩)] w fun e w'=>e=.returned (.int .i64 ((z06 W:Int)-sumS S))∧w'=w:=by
 obtain⟨X,hX,_⟩:=H.cur
 exact zbz hX
end
end Go.Proofs.YthkelaeemefnaaaGreat
namespace Go.Proofs.YthkelaeemefnaaaGreat
open Go.RowKit
theorem Bt.turned {P:Nat→Prop}{w w':World}{m:Nat}(h:w.mapTurned w' m) (hm:P m):Bt P w w':=by
 have g:=h.grown
 exact⟨g.os,g.tape,g.output,g.size,fun k hk e=>g.block k hk (fun q=>e (by cases q;exact hm))⟩
end Go.Proofs.YthkelaeemefnaaaGreat
