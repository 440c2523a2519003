import Derived.Test.YthkelaeemefnaaaGreatMS4qz
import Derived.Deep.DeepAppendWide
import Derived.Deep.Upon
namespace Go.Proofs.YthkelaeemefnaaaGreat
open Go.RowKit
def Ints (w:World) (v:Value) (n:Nat) (f:Nat→Int):Prop :=
 ∃ (ao:Option Addr) (cap:Nat),v=.slice ao n cap∧(n=0∨∃ B o:Nat,ao=some ⟨B,o,none⟩∧B<w.heap.size∧∀ i,i<n→w.cell? ⟨B,o+i,none⟩=some (.int .i64 (f i)))
theorem Ints.below {w w':World}{v:Value}{n:Nat}{f:Nat→Int}(h:Ints w v n f) (hb:Below w.heap.size w w'):Ints w' v n f:=by
 obtain⟨ao,cap,rfl,h0|⟨B,o,rfl,hB,hc⟩⟩:=h
 ·exact⟨ao,cap,rfl,Or.inl h0⟩
 ·exact⟨_,cap,rfl,Or.inr ⟨B,o,rfl,Nat.lt_of_lt_of_le hB hb.size,fun i hi=>(World.cell?_of_block (a:=⟨B,o+i,none⟩) (hb.block B hB)).trans (hc i hi)⟩⟩
def cellsOf (n:Nat) (f:Nat→Int):List Value:=(List.range n).map fun i=>.int .i64 (f i)
theorem z1r (n:Nat) (f:Nat→Int):(cellsOf n f).length=n:=by simp[cellsOf]
theorem z2i {n:Nat}{f:Nat→Int}{j:Nat}(h:j<n):(cellsOf n f)[j]?=some (.int .i64 (f j)):=by simp[cellsOf,h]
theorem z6H {n:Nat}{f:Nat→Int}{j:Nat}{u:Value}(h:(cellsOf n f)[j]?=some u):j<n∧u=.int .i64 (f j):=by
 have hj:j<n:=by
  have:=(List.getElem?_eq_some_iff.1 h).1
  rwa [z1r] at this
 rw[z2i hj] at h
 exact⟨hj,(Option.some.inj h).symm⟩
theorem z3y {n:Nat}{f:Nat→Int}:∀ u∈cellsOf n f,u.oneCell'=true:=by
 intro u hu
 obtain⟨i,_,rfl⟩:=List.mem_map.1 hu
 rfl
def cat (n:Nat) (f g:Nat→Int):Nat→Int:=fun i=>if i<n then f i else g (i-n)
theorem z3p (n m:Nat) (f g:Nat→Int):cellsOf n f++cellsOf m g=cellsOf (n+m) (cat n f g):=by
 unfold cellsOf
 rw[List.range_add,List.map_append,List.map_map]
 congr 1
 ·apply List.map_congr_left
  intro i hi
  have:=List.mem_range.1 hi
  simp[cat,this]
 ·apply List.map_congr_left
  intro i hi
  have h2:¬ n+i<n:=by omega
  simp only[cat,Function.comp,h2,if_false,Nat.add_sub_cancel_left]
theorem z4P {n:Nat}{f g:Nat→Int}(h:∀ i,i<n→f i=g i):cellsOf n f=cellsOf n g:=by
 unfold cellsOf
 apply List.map_congr_left
 intro i hi
 rw[h i (List.mem_range.1 hi)]
def Mine (w:World) (B:Nat) (v:Value) (n:Nat) (f:Nat→Int):Prop:=w.ownsRow B 3 1 v n (cellsOf n f)
theorem Mine.congr {w:World}{B:Nat}{v:Value}{n:Nat}{f g:Nat→Int}(h:Mine w B v n f) (e:∀ i,i<n→f i=g i):Mine w B v n g:=by
 unfold Mine;rw[← z4P e];exact h
theorem Mine.below {w w':World}{B:Nat}{v:Value}{n:Nat}{f:Nat→Int}(h:Mine w B v n f) (k:Below w.heap.size w w'):Mine w' B v n f :=
 World.ownsRow.kept h (row:=none) ⟨k.os,k.tape,k.output,k.size,fun i hi _=>k.block i hi⟩ (by cases h:v.ownBlock<;>simp)
theorem Mine.nil (w:World) (B:Nat) (f:Nat→Int):Mine w B (.slice none 0 0) 0 f:=World.ownsRow_nil w B 3 1
theorem Mine.empty (w:World) (B:Nat) (f:Nat→Int) (hB:B≤w.heap.size):Mine (w.alloc (.cells #[] 3)) B (.slice (some ⟨w.heap.size,0,none⟩) 0 0) 0 f:=World.ownsRow_made w #[] 0 hB (by decide) rfl
theorem Mine.shape {w:World}{B:Nat}{v:Value}{n:Nat}{f:Nat→Int}(h:Mine w B v n f) (hn:0<n):∃ p cap,v=.slice (some ⟨p,0,none⟩) n cap∧B≤p∧n≤cap∧p<w.heap.size ∧
  ∃ cur:Array Value,w.heap[p]?=some (.cells cur 3 (0,0))∧cur.size=cap∧cap≤maxLen∧∀ i,i<n→cur[i]?=some (.int .i64 (f i)):=by
 rcases h.2 with ⟨_,h0⟩|⟨g,cap,cur,rfl,hb,hg,hc,hm,hs,ht⟩
 ·omega
 ·refine⟨g,cap,rfl,hb,hc,(Array.getElem?_eq_some_iff.1 hg).1,cur,hg,by simpa using hs,hm,fun i hi=>?_⟩
  have:=z2i (f:=f) hi
  rw[← ht,List.getElem?_take,if_pos (by omega)] at this
  simpa using this
theorem Mine.ints {w:World}{B:Nat}{v:Value}{n:Nat}{f:Nat→Int}(h:Mine w B v n f):Ints w v n f:=by
 rcases h.2 with ⟨rfl,rfl⟩|⟨g,cap,cur,rfl,hb,hg,hc,hm,hs,ht⟩
 ·exact⟨none,0,rfl,Or.inl rfl⟩
 ·refine⟨_,_,rfl,Or.inr ⟨g,0,rfl,(Array.getElem?_eq_some_iff.1 hg).1,fun i hi=>?_⟩⟩
  have:=z2i (f:=f) hi
  rw[← ht,List.getElem?_take,if_pos (by omega)] at this
  rw[Nat.zero_add]
  simp only[World.cell?,hg]
  simpa using this
theorem z6Q {w w':World}{B:Nat}{v:Value}{n:Nat}{f:Nat→Int}(h:Mine w B v n f) (hg:w.grownBy w' v.ownBlock) (hB:B≤w.heap.size):Below B w w' :=
 ⟨hg.os,hg.tape,hg.output,hg.size,fun k hk=>hg.block k (by omega) (fun e=>by have:=(World.ownsRow.lt h k e.symm).1;omega)⟩
theorem z1D (B o j:Nat):(⟨B,o,none⟩:Addr).add j=⟨B,o+j,none⟩:=by unfold Addr.add;split<;>simp_all
theorem app {w:World}{B:Nat}{v x:Value}{n m:Nat}{f g:Nat→Int}(h:Mine w B v n f) (hx:Ints w x m g) (hB:B≤w.heap.size) (hb:n+m≤26388279066624):
  ∃ v' w',(Builtin.append_ #[32,32] 32 #[v,x]).run Tryz.prog w=.ok v' w'∧Mine w' B v' (n+m) (cat n f g)∧Below B w w'∧w.grownBy w' v.ownBlock:=by
 obtain⟨i,hi,hzz⟩:=Option.map_eq_some_iff.1 zbL
 simp only[Prod.mk.injEq] at hzz
 obtain⟨hz,hs,hby⟩:=hzz
 obtain⟨ao,cap,rfl,hv⟩:=hx
 have hcat:cellsOf n f++cellsOf m g=cellsOf (n+m) (cat n f g):=z3p n m f g
 have key:∀ (a:Addr),ao=some a→(∀ j u,(cellsOf m g)[j]?=some u→w.cell? (a.add j)=some u)→∃ v' w',(Builtin.append_ #[32,32] 32 #[v,.slice ao m cap]).run Tryz.prog w=.ok v' w'∧Mine w' B v' (n+m) (cat n f g)∧Below B w w'∧w.grownBy w' v.ownBlock:=by
  rintro a rfl hc
  obtain⟨v',w',hr,ho,hg,_⟩:=run_append_own_wide (P:=Tryz.prog) w B 32 32 3 i _ 1 8 Tryz.underlying32 hi hz hs hby rfl (by decide) v n (cellsOf n f) h a m cap (cellsOf m g) (by rw[z1r,Nat.mul_one]) hc z3y (by unfold maxLen;omega) (by omega) hB
  exact⟨v',w',hr,by unfold Mine;rw[← hcat];exact ho,z6Q h hg hB,hg⟩
 rcases hv with rfl|⟨C,o,rfl,hC,hc⟩
 ·cases ao with
  | some a=>exact key a rfl fun j u hj=>by simp[cellsOf] at hj
  | none =>
   have hle:∃ base sCap,v=.slice base n sCap∧n≤sCap:=by
    rcases h.2 with ⟨rfl,rfl⟩|⟨g,cap,cur,rfl,_,_,hc,_⟩
    ·exact⟨_,_,rfl,Nat.le_refl _⟩
    ·exact⟨_,_,rfl,hc⟩
   obtain⟨base,sCap,rfl,hle⟩:=hle
   have hr:=run_append_nothing (P:=Tryz.prog) w 32 32 32 3 i Tryz.underlying32 hi base n sCap hle _ (Src.ofNil w Tryz.underlying32 cap)
   exact⟨_,_,hr,h.congr (fun i hi=>by simp[cat,hi]),Below.refl _ _,⟨rfl,rfl,rfl,Nat.le_refl _,fun _ _ _=>rfl⟩⟩
 ·exact key _ rfl fun j u hj=>by
   obtain⟨hjm,rfl⟩:=z6H hj
   rw[z1D];exact hc j hjm
theorem z8W {P:Program}{ops:Array Oper}{rest:List Oper}{o:Oper}{a:Act}{Q:Exit→Act→World→Prop}{w w':World}{v vx v':Value}(s x:Operand) (hr:(Builtin.append_ #[32,32] 32 #[v,vx]).run P w=.ok v' w')
  (hgd:o.guard=none) (ho:o.op=.call { callee:=.builtin .append,args:=#[s,x],argTypes:=#[32,32] }) (hty:o.type=32) (hs:a.eval s=v) (hx:a.eval x=vx) (h:wpList P ops Q rest (a.put o.dst v') w'):wpList P ops Q (o::rest) a w:=by
 refine wpList_plain hgd fun K hK=>?_
 unfold Oper.wp execOp
 simp only[ho,hty,resolve,invoke,builtin,Sem.run_bind,Sem.run_pure,Result.andThen_ok,List.map_toArray,List.map_cons,List.map_nil,hs,hx,hr]
 exact hK _ _ h
theorem app1 {w:World}{B:Nat}{v:Value}{n:Nat}{f:Nat→Int}(h:Mine w B v n f) (x:Int) (hB:B≤w.heap.size) (hn:n≤1000):
  ∃ p cap w',(Builtin.append_ #[32,32] 32 #[v,.slice (some ⟨w.heap.size,0,none⟩) 1 1]).run Tryz.prog (w.alloc (.cells #[.int .i64 x] 3))=.ok (.slice (some ⟨p,0,none⟩) (n+1) cap) w' ∧
   Mine w' B (.slice (some ⟨p,0,none⟩) (n+1) cap) (n+1) (cat n f (fun _=>x))∧w.grownBy w' v.ownBlock∧(v.ownBlock=some p∨w.heap.size≤p):=by
 obtain⟨i,hi,hzz⟩:=Option.map_eq_some_iff.1 zbL
 simp only[Prod.mk.injEq] at hzz
 obtain⟨hz,hs,hby⟩:=hzz
 have hcat:cellsOf n f++cellsOf 1 (fun _=>x)=cellsOf (n+1) (cat n f (fun _=>x)):=z3p n 1 f _
 obtain⟨v',w',hr,ho,hg,_,hat⟩:=run_append_own_at (P:=Tryz.prog) (w.alloc (.cells #[.int .i64 x] 3)) B 32 32 3 i _ 1 8 Tryz.underlying32 hi hz hs hby rfl (by decide) v n (cellsOf n f) (h.below ((Below.refl _ _).alloc (Nat.le_refl _) _)) ⟨w.heap.size,0,none⟩ 1 1 (cellsOf 1 (fun _=>x)) (by rw[z1r,Nat.mul_one]) (cell_one_new w (.int .i64 x) 3) z3y (by unfold maxLen;omega) (by omega) (by simp;omega)
 rw[hcat] at ho
 have ho':Mine w' B v' (n+1) (cat n f (fun _=>x)):=ho
 obtain⟨p,cap,rfl,_⟩:=ho'.shape (by omega)
 refine⟨p,cap,w',hr,ho',⟨hg.os,hg.tape,hg.output,Nat.le_trans (by simp) hg.size,fun k hk e=>(hg.block k (by simp;omega) e).trans (Below.heap_alloc _ _ k hk)⟩,?_⟩
 rcases hat with q|q
 ·exact .inl q.symm
 ·have:p=(w.alloc (.cells #[.int .i64 x] 3)).heap.size:=by simpa [Value.ownBlock] using q
  exact .inr (by rw[this];simp)
end Go.Proofs.YthkelaeemefnaaaGreat
namespace Go.Proofs.YthkelaeemefnaaaGreat
open Go.RowKit
theorem z14 {k:Nat}:∀ R:List (List Value),(∀ r∈R,r.length=k)→R.flatten.length=R.length*k
 | [],_=>by simp
 | a::R,h=>by
  rw[List.flatten_cons,List.length_append,h a (by simp),z14 R (fun r hr=>h r (by simp[hr])),List.length_cons,Nat.succ_mul];omega
theorem z3c {k:Nat}:∀ (R:List (List Value)),(∀ r∈R,r.length=k)→∀ (i:Nat) (r:List Value),R[i]?=some r→∀ j,j<k→R.flatten[i*k+j]?=r[j]?
 | [],_,i,r,h,_,_=>by simp at h
 | a::R,hl,0,r,h,j,hj=>by
  simp at h;subst h
  rw[List.flatten_cons,List.getElem?_append_left (by rw[hl a (by simp)];omega)];simp
 | a::R,hl,i+1,r,h,j,hj=>by
  have ha:=hl a (by simp)
  have e:(i+1)*k=i*k+k:=Nat.succ_mul i k
  rw[List.flatten_cons,List.getElem?_append_right (by omega),ha,show (i+1)*k+j-k=i*k+j by omega]
  exact z3c R (fun r hr=>hl r (by simp[hr])) i r (by simpa using h) j hj
theorem z1s {b ty:Nat}:∀ (vs:List Value) (o:Nat) (w:World) (c:Array Value),w.heap[b]?=some (.cells c ty (0,0))→o+vs.length≤c.size →
  ∃ c',(w.setCells b o vs).heap[b]?=some (.cells c' ty (0,0))∧c'.size=c.size∧∀ j,c'[j]?=if o≤j∧j<o+vs.length then vs[j-o]? else c[j]?
 | [],o,w,c,h,_=>⟨c,h,rfl,fun j=>by rw[if_neg (by simp)]⟩
 | v::r,o,w,c,h,hl=>by
  rw[List.length_cons] at hl
  obtain⟨c',h1,h2,h3⟩:=z1s r (o+1) (w.setCell ⟨b,o,none⟩ v) _ (z05 h o v) (by simp;omega)
  refine⟨c',h1,by simpa using h2,fun j=>?_⟩
  rw[h3 j,List.length_cons,Array.getElem?_setIfInBounds]
  by_cases e:o=j
  ·subst e
   rw[if_neg (by omega),if_pos rfl,if_pos (by omega),if_pos (by omega),Nat.sub_self];rfl
  ·rw[if_neg e]
   by_cases e2:o+1≤j∧j<o+1+r.length
   ·rw[if_pos e2,if_pos (by omega),show j-o=(j-(o+1))+1 by omega];simp
   ·rw[if_neg e2,if_neg (by omega)]
theorem z0q {w w':World}{a:Addr}(e:w'.heap[a.block]?=w.heap[a.block]?):w'.cell? a=w.cell? a:=by
 unfold World.cell?;rw[e]
theorem z1E {w:World}{a:Addr}{v:Value}(h:w.cell? a=some v):a.block<w.heap.size:=by
 apply Classical.byContradiction
 intro q
 unfold World.cell? at h
 rw[Array.getElem?_eq_none (by omega)] at h
 simp at h
structure Rs (w:World) (B:Nat) (e:TypeId) (k:Nat) (v:Value) (R:List (List Value)):Prop where
 own:w.ownsRow B e k v R.length R.flatten
 len:∀ r∈R,r.length=k
section
variable {w w':World}{B:Nat}{e:TypeId}{k:Nat}{v:Value}{R:List (List Value)}
theorem Rs.nil (w:World) (B:Nat) (e:TypeId) (k:Nat):Rs w B e k (.slice none 0 0) []:=⟨World.ownsRow_nil w B e k,fun r h=>by simp at h⟩
theorem Rs.of_block (h:Rs w B e k v R) (q:∀ j,v.ownBlock=some j→w'.heap[j]?=w.heap[j]?):Rs w' B e k v R:=by
 refine⟨⟨h.own.1,?_⟩,h.len⟩
 rcases h.own.2 with r|⟨g,cap,cur,rfl,h1,h2,h3⟩
 ·exact .inl r
 ·exact .inr ⟨g,cap,cur,rfl,h1,(q g rfl).trans h2,h3⟩
theorem Rs.lt (h:Rs w B e k v R) {j:Nat}(hj:v.ownBlock=some j):B≤j∧j<w.heap.size:=World.ownsRow.lt h.own j hj
theorem Rs.below (h:Rs w B e k v R) (b:Below w.heap.size w w'):Rs w' B e k v R:=h.of_block fun j hj=>b.block j (h.lt hj).2
theorem Rs.lower (h:Rs w B e k v R) {B':Nat}(hB:B'≤B):Rs w B' e k v R:=by
 refine⟨⟨h.own.1,?_⟩,h.len⟩
 rcases h.own.2 with r|⟨g,cap,cur,rfl,h1,h2⟩
 ·exact .inl r
 ·exact .inr ⟨g,cap,cur,rfl,Nat.le_trans hB h1,h2⟩
theorem Rs.kind (h:Rs w B e k v R) {j:Nat}(hj:v.ownBlock=some j):∃ cur,w.heap[j]?=some (.cells cur e (0,0)):=by
 rcases h.own.2 with ⟨rfl,_⟩|⟨g,cap,cur,rfl,_,h2,_⟩
 ·simp[Value.ownBlock] at hj
 ·simp only[Value.ownBlock,Option.some.injEq] at hj
  subst hj
  exact⟨cur,h2⟩
theorem Rs.form (h:Rs w B e k v R):∃ ao cap,v=.slice ao R.length cap:=by
 rcases h.own.2 with ⟨rfl,h0⟩|⟨g,cap,cur,rfl,_⟩
 ·exact⟨none,0,by rw[h0]⟩
 ·exact⟨_,_,rfl⟩
theorem Rs.cells {ao:Option Addr}{m cap:Nat}(h:Rs w B e k (.slice ao m cap) R) (hn:0<R.length):∃ p,ao=some ⟨p,0,none⟩∧(B≤p∧p<w.heap.size)∧(R.length≤cap∧cap≤maxLen)∧(∀ j,w.frozen? ⟨p,j,none⟩=false)∧∀ i r,R[i]?=some r→w.rangeAt p (i*k) r:=by
 rcases h.own.2 with ⟨_,h0⟩|⟨g,cap',cur,q,h1,h2,h3,h4,h5,h6⟩
 ·omega
 ·simp only[Value.slice.injEq] at q
  obtain⟨rfl,rfl,rfl⟩:=q
  refine⟨g,rfl,⟨h1,z02 h2⟩,⟨h3,h4⟩,fun j=>frz h2 j,fun i r hr j u hu=>?_⟩
  have hi:i<R.length:=(List.getElem?_eq_some_iff.1 hr).1
  have hj:j<k:=by
   have:=(List.getElem?_eq_some_iff.1 hu).1
   have:=h.len r (List.mem_of_getElem? hr)
   omega
  have hlt:i*k+j<R.length*k:=by
   have:(i+1)*k≤R.length*k:=Nat.mul_le_mul_right k hi
   have e1:(i+1)*k=i*k+k:=Nat.succ_mul i k
   omega
  have hf:=z3c R h.len i r hr j hj
  rw[hu,← h6,List.getElem?_take,if_pos hlt] at hf
  simp only[World.cell?,h2]
  simpa using hf
theorem Rs.set {p m cap:Nat}(h:Rs w B e k (.slice (some ⟨p,0,none⟩) m cap) R) {i:Nat}(hi:i<R.length) {r:List Value}(hr:r.length=k):Rs (w.setCells p (i*k) r) B e k (.slice (some ⟨p,0,none⟩) m cap) (R.set i r):=by
 have hl':∀ z∈R.set i r,z.length=k:=fun z hz=>by
  rcases List.mem_or_eq_of_mem_set hz with q|q
  ·exact h.len z q
  ·rw[q];exact hr
 rcases h.own.2 with ⟨q,_⟩|⟨g,cap',cur,q,h1,h2,h3,h4,h5,h6⟩
 ·simp at q
 ·simp only[Value.slice.injEq,Option.some.injEq,Addr.mk.injEq,and_true] at q
  obtain⟨rfl,rfl,rfl⟩:=q
  have e1:(i+1)*k=i*k+k:=Nat.succ_mul i k
  have e2:(i+1)*k≤cap*k:=Nat.mul_le_mul_right k (by omega)
  obtain⟨c',g1,g2,g3⟩:=z1s r (i*k) w cur h2 (by rw[h5,hr];omega)
  refine⟨⟨by rw[z14 _ hl'],.inr ⟨p,cap,c',by rw[List.length_set],h1,g1,by rw[List.length_set];exact h3,h4,g2.trans h5,?_⟩⟩,hl'⟩
  rw[List.length_set]
  apply List.ext_getElem?
  intro j
  by_cases hj:j<R.length*k
  ·have hk:0<k:=Nat.pos_of_ne_zero fun z=>by subst z;simp at hj
   have hd:j/k<R.length:=Nat.div_lt_of_lt_mul (by rw[Nat.mul_comm];exact hj)
   have hm:=Nat.mod_lt j hk
   have ej:j=(j/k)*k+j%k:=by rw[Nat.mul_comm];exact (Nat.div_add_mod j k).symm
   rw[List.getElem?_take,if_pos hj,Array.getElem?_toList,g3 j,hr]
   generalize hD:j/k=d at *
   generalize hM:j%k=t at *
   rw[ej]
   by_cases e:d=i
   ·subst e
    rw[z3c _ hl' d r (by rw[List.getElem?_set_self hd]) t hm,if_pos (by omega),show d*k+t-d*k=t by omega]
   ·obtain⟨z,hz⟩:∃ z,R[d]?=some z:=⟨_,List.getElem?_eq_getElem hd⟩
    have hne:¬ (i*k≤d*k+t∧d*k+t<i*k+k):=by
     rcases Nat.lt_or_gt_of_ne e with q|q
     ·have:=Nat.mul_le_mul_right k (show d+1≤i by omega)
      rw[Nat.succ_mul] at this;omega
     ·have:=Nat.mul_le_mul_right k (show i+1≤d by omega)
      rw[Nat.succ_mul] at this;omega
    rw[if_neg hne,z3c _ hl' d z (by rw[List.getElem?_set_ne (fun q=>e q.symm)];exact hz) t hm,← z3c R h.len d z hz t hm,← h6,List.getElem?_take,if_pos (by omega),Array.getElem?_toList]
  ·rw[List.getElem?_eq_none (by rw[List.length_take];omega),List.getElem?_eq_none (by rw[z14 _ hl',List.length_set];omega)]
theorem Rs.app {P:Program}(h:Rs w B e k v R) {t ty:TypeId}{i:TypeInfo}{z:Value}{bytes:Nat}(ht:P.underlying t=some (.slice e)) (hi:P.info? e=some i) (hz:i.zero=some z) (hs:i.size=k) (hby:i.bytes=bytes) (hzs:z.cells.size=k) (hk:0<k) (x:List Value) (hx:x.length=k) (h1:∀ u∈x,u.oneCell'=true)
  (hB:B≤w.heap.size) (hn:R.length+1≤maxLen) (hb:(R.length+1)*bytes≤140737488355328) {W:World} {a:Nat} (hW:W.heap[a]?=some (.cells x.toArray e (0,0))) (hbW:Below w.heap.size w W):
  ∃ v' w',(Builtin.append_ #[t,t] ty #[v,.slice (some ⟨a,0,none⟩) 1 1]).run P W=.ok v' w'∧Rs w' B e k v' (R++[x])∧w.grownBy w' v.ownBlock∧(v'.ownBlock=v.ownBlock∨∃ j,v'.ownBlock=some j∧w.heap.size≤j):=by
 have hnew:∀ j u,x[j]?=some u→W.cell? ((⟨a,0,none⟩:Addr).add j)=some u:=by
  intro j u hu
  rw[z1D,Nat.zero_add]
  simp only[World.cell?,hW]
  simpa using hu
 obtain⟨v',w',hrun,hown,hg,_,hat⟩:=run_append_own_at (P:=P) W B t ty e i z k bytes ht hi hz hs hby hzs hk v R.length R.flatten (h.below hbW).own ⟨a,0,none⟩ 1 1 x (by omega) hnew h1 hn hb (Nat.le_trans hB hbW.size)
 refine⟨v',w',hrun,⟨?_,fun r hr=>?_⟩,⟨hg.os.trans hbW.os,hg.tape.trans hbW.tape,hg.output.trans hbW.output,Nat.le_trans hbW.size hg.size,fun j hj q=>(hg.block j (Nat.lt_of_lt_of_le hj hbW.size) q).trans (hbW.block j hj)⟩,?_⟩
 ·rw[List.flatten_append,List.length_append]
  simpa using hown
 ·rcases List.mem_append.1 hr with q|q
  ·exact h.len r q
  ·rw[List.mem_singleton.1 q];exact hx
 ·rcases hat with q|q
  ·exact .inl q
  ·exact .inr ⟨_,q,hbW.size⟩
end
def Ri (w:World) (B:Nat) (v:Value) (U:List Int):Prop:=w.ownsRow B 3 1 v U.length (U.map fun u=>.int .i64 u)
section
variable {w w':World}{B:Nat}{v:Value}{U:List Int}
theorem Ri.nil (w:World) (B:Nat):Ri w B (.slice none 0 0) []:=World.ownsRow_nil w B 3 1
theorem Ri.of_block (h:Ri w B v U) (q:∀ j,v.ownBlock=some j→w'.heap[j]?=w.heap[j]?):Ri w' B v U:=by
 refine⟨h.1,?_⟩
 rcases h.2 with r|⟨g,cap,cur,rfl,h1,h2,h3⟩
 ·exact .inl r
 ·exact .inr ⟨g,cap,cur,rfl,h1,(q g rfl).trans h2,h3⟩
theorem Ri.lt (h:Ri w B v U) {j:Nat}(hj:v.ownBlock=some j):B≤j∧j<w.heap.size:=World.ownsRow.lt h j hj
theorem Ri.below (h:Ri w B v U) (b:Below w.heap.size w w'):Ri w' B v U:=h.of_block fun j hj=>b.block j (h.lt hj).2
theorem Ri.kind (h:Ri w B v U) {j:Nat}(hj:v.ownBlock=some j):∃ cur,w.heap[j]?=some (.cells cur 3 (0,0)):=by
 rcases h.2 with ⟨rfl,_⟩|⟨g,cap,cur,rfl,_,h2,_⟩
 ·simp[Value.ownBlock] at hj
 ·simp only[Value.ownBlock,Option.some.injEq] at hj
  subst hj
  exact⟨cur,h2⟩
theorem Ri.form (h:Ri w B v U):∃ ao cap,v=.slice ao U.length cap:=by
 rcases h.2 with ⟨rfl,h0⟩|⟨g,cap,cur,rfl,_⟩
 ·exact⟨none,0,by rw[h0]⟩
 ·exact⟨_,_,rfl⟩
theorem Ri.cells {ao:Option Addr}{m cap:Nat}(h:Ri w B (.slice ao m cap) U) (hn:0<U.length):∃ p,ao=some ⟨p,0,none⟩∧(B≤p∧p<w.heap.size)∧(U.length≤cap∧cap≤maxLen)∧(∀ j,w.frozen? ⟨p,j,none⟩=false)∧∀ i u,U[i]?=some u→w.cell? ⟨p,i,none⟩=some (.int .i64 u):=by
 rcases h.2 with ⟨_,h0⟩|⟨g,cap',cur,q,h1,h2,h3,h4,h5,h6⟩
 ·omega
 ·simp only[Value.slice.injEq] at q
  obtain⟨rfl,rfl,rfl⟩:=q
  refine⟨g,rfl,⟨h1,z02 h2⟩,⟨h3,h4⟩,fun j=>frz h2 j,fun i u hu=>?_⟩
  have hi:i<U.length:=(List.getElem?_eq_some_iff.1 hu).1
  have hf:(U.map fun u=>Value.int .i64 u)[i]?=some (.int .i64 u):=by rw[List.getElem?_map,hu];rfl
  rw[← h6,List.getElem?_take,if_pos (by omega)] at hf
  simp only[World.cell?,h2]
  simpa using hf
theorem Ri.cut {p n cap:Nat}{u:Int}(h:Ri w B (.slice (some ⟨p,0,none⟩) n cap) (U++[u])):Ri w B (.slice (some ⟨p,0,none⟩) U.length cap) U:=by
 rcases h.2 with ⟨q,_⟩|⟨g,cap',cur,q,h1,h2,h3,h4,h5,h6⟩
 ·simp at q
 ·simp only[Value.slice.injEq,Option.some.injEq,Addr.mk.injEq,and_true] at q
  obtain⟨rfl,rfl,rfl⟩:=q
  rw[List.length_append,List.length_singleton] at h3 h6
  refine⟨by simp,.inr ⟨p,cap,cur,rfl,h1,h2,by omega,h4,h5,?_⟩⟩
  have e:=congrArg (List.take (U.length*1)) h6
  rw[List.take_take,Nat.min_eq_left (by omega)] at e
  rw[e,List.map_append]
  simp
theorem Ri.app {P:Program}(h:Ri w B v U) {t ty:TypeId}{i:TypeInfo}{z:Value}{bytes:Nat}(ht:P.underlying t=some (.slice 3)) (hi:P.info? 3=some i) (hz:i.zero=some z) (hs:i.size=1) (hby:i.bytes=bytes) (hzs:z.cells.size=1) (x:Int)
  (hB:B≤w.heap.size) (hn:U.length+1≤maxLen) (hb:(U.length+1)*bytes≤140737488355328) {W:World} {a:Nat} (hW:W.heap[a]?=some (.cells #[.int .i64 x] 3 (0,0))) (hbW:Below w.heap.size w W):
  ∃ ao cap w',(Builtin.append_ #[t,t] ty #[v,.slice (some ⟨a,0,none⟩) 1 1]).run P W=.ok (.slice ao (U.length+1) cap) w'∧Ri w' B (.slice ao (U.length+1) cap) (U++[x])∧w.grownBy w' v.ownBlock∧((Value.slice ao (U.length+1) cap).ownBlock=v.ownBlock∨∃ j,(Value.slice ao (U.length+1) cap).ownBlock=some j∧w.heap.size≤j):=by
 have hnew:∀ j u,([.int .i64 x]:List Value)[j]?=some u→W.cell? ((⟨a,0,none⟩:Addr).add j)=some u:=by
  intro j u hu
  rw[z1D,Nat.zero_add]
  simp only[World.cell?,hW]
  simpa using hu
 obtain⟨v',w',hrun,hown,hg,_,hat⟩:=run_append_own_at (P:=P) W B t ty 3 i z 1 bytes ht hi hz hs hby hzs (by decide) v U.length _ (h.below hbW) ⟨a,0,none⟩ 1 1 [.int .i64 x] rfl hnew (by simp[Value.oneCell']) hn hb (Nat.le_trans hB hbW.size)
 have hR:Ri w' B v' (U++[x]):=by unfold Ri;rw[List.map_append,List.length_append];exact hown
 obtain⟨ao,cap,e⟩:=hR.form
 rw[List.length_append,List.length_singleton] at e
 subst e
 refine⟨ao,cap,w',hrun,hR,⟨hg.os.trans hbW.os,hg.tape.trans hbW.tape,hg.output.trans hbW.output,Nat.le_trans hbW.size hg.size,fun j hj q=>(hg.block j (Nat.lt_of_lt_of_le hj hbW.size) q).trans (hbW.block j hj)⟩,?_⟩
 rcases hat with q|q
 ·exact .inl q
 ·exact .inr ⟨_,q,hbW.size⟩
end
end Go.Proofs.YthkelaeemefnaaaGreat
