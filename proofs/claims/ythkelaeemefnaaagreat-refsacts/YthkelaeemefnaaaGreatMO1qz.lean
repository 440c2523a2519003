import Derived.Test.YthkelaeemefnaaaGreatMF3qz
import Derived.Maps.OwnSet
set_option maxRecDepth 20000
set_option maxHeartbeats 1000000
namespace Go.Proofs.YthkelaeemefnaaaGreat
open Go.RowKit
def frg (n:Nat):Nat:=max 1 ((n+5)/7)
def hop (i n:Nat):Nat:=min (i/7) (frg n-1)
def wrd (i n:Nat):Nat:=(1+i-hop i n*7)%8
theorem z1k (n:Nat):1≤frg n:=Nat.le_max_left _ _
theorem zf0 (n:Nat):frg n≤1+(n+5)/6:=by unfold frg;omega
theorem z13 {n:Nat}(h:n≤64):frg n≤9:=by unfold frg;omega
theorem z0T (i n:Nat):hop i n<frg n:=by have:=z1k n;unfold hop;omega
theorem z2c (i n:Nat):wrd i n<8:=by unfold wrd;omega
theorem zb9 {i n:Nat}(h:hop i n+1<frg n):1≤wrd i n:=by
 unfold wrd
 have:hop i n=i/7:=by unfold hop at h ⊢;omega
 rw[this];omega
theorem z9K {i j n:Nat}(hi:i<n) (hj:j<n) (h1:hop i n=hop j n) (h2:wrd i n=wrd j n):i=j:=by
 have hb:n≤7*frg n+1:=by unfold frg;omega
 have hp:=z1k n
 unfold wrd at h2
 rw[← h1] at h2
 have hi7:hop i n*7≤i∧i≤hop i n*7+7:=by unfold hop;omega
 have hj7:hop i n*7≤j∧j≤hop i n*7+7:=by rw[h1];unfold hop;omega
 omega
structure Ob where
 n:Nat
 c:Nat→Nat
def Ob.ref (o:Ob):Int:=(o.c 0:Int)+1
def Ob.ad (base:Nat) (o:Ob) (i:Nat):Nat:=base+8*o.c (hop i o.n)+wrd i o.n
def tot:List Ob→Nat
 | []=>0
 | o::r=>frg o.n+tot r
theorem z4j:∀ L M:List Ob,tot (L++M)=tot L+tot M
 | [],M=>by simp[tot]
 | o::r,M=>by simp only[List.cons_append,tot,z4j r M];omega
theorem z5l:∀ (L:List Ob) (k:Nat) (o:Ob),L[k]?=some o→tot (L.eraseIdx k)+frg o.n=tot L
 | [],k,o,h=>by simp at h
 | a::r,0,o,h=>by simp at h;subst h;simp only[List.eraseIdx_cons_zero,tot];omega
 | a::r,k+1,o,h=>by
  have ih:=z5l r k o (by simpa using h)
  simp only[List.eraseIdx_cons_succ,tot];omega
structure OInv (ws:Nat→Int) (base N:Nat) (len:Nat) (O:List Ob):Prop where
 size:∀ o∈O,o.n≤64
 used:∀ o∈O,∀ k,k<frg o.n→o.c k<N∧ws (base+8*N+o.c k)≠0
 inj:∀ o∈O,∀ j k,j<frg o.n→k<frg o.n→o.c j=o.c k→j=k
 apart:O.Pairwise fun o o'=>∀ j k,j<frg o.n→k<frg o'.n→o.c j≠o'.c k
 link:∀ o∈O,∀ k,k+1<frg o.n→ws (base+8*o.c k)=o.c (k+1)
 sum:tot O+len=N
theorem OInv.none (ws:Nat→Int) (base N:Nat):OInv ws base N N [] :=
 ⟨fun _ h=>by simp at h,fun _ h=>by simp at h,fun _ h=>by simp at h,List.Pairwise.nil,fun _ h=>by simp at h,by simp[tot]⟩
section
variable {ws:Nat→Int}{base N len:Nat}{O:List Ob}
theorem OInv.far (h:OInv ws base N len O) {a b:Nat}{o o':Ob}(ha:O[a]?=some o) (hb:O[b]?=some o') (hab:a≠b) {j k:Nat}(hj:j<frg o.n) (hk:k<frg o'.n):o.c j≠o'.c k:=by
 obtain⟨la,rfl⟩:=List.getElem?_eq_some_iff.1 ha
 obtain⟨lb,rfl⟩:=List.getElem?_eq_some_iff.1 hb
 rcases Nat.lt_or_gt_of_ne hab with r|r
 ·exact List.pairwise_iff_getElem.1 h.apart a b la lb r j k hj hk
 ·exact fun e=>List.pairwise_iff_getElem.1 h.apart b a lb la r k j hk hj e.symm
theorem OInv.ad_ne (h:OInv ws base N len O) {a b:Nat}{o o':Ob}(ha:O[a]?=some o) (hb:O[b]?=some o') {i j:Nat}(hi:i<o.n) (hj:j<o'.n) (hne:¬ (a=b∧i=j)):o.ad base i≠o'.ad base j:=by
 have w1:=z2c i o.n
 have w2:=z2c j o'.n
 unfold Ob.ad
 by_cases e:a=b
 ·subst e
  rw[ha] at hb
  obtain rfl:o=o':=Option.some.inj hb
  intro q
  have hc:o.c (hop i o.n)=o.c (hop j o.n):=by omega
  have hh:=h.inj o (List.mem_of_getElem? ha) _ _ (z0T i o.n) (z0T j o.n) hc
  exact hne ⟨rfl,z9K hi hj hh (by omega)⟩
 ·have:=h.far ha hb e (z0T i o.n) (z0T j o'.n)
  omega
theorem OInv.ref_ne (h:OInv ws base N len O) {a b:Nat}{o o':Ob}(ha:O[a]?=some o) (hb:O[b]?=some o') (hab:a≠b):o.ref≠o'.ref:=by
 have:=h.far ha hb hab (j:=0) (k:=0) (z1k _) (z1k _)
 unfold Ob.ref;omega
theorem OInv.put (h:OInv ws base N len O) {a:Nat}{o:Ob}(ha:O[a]?=some o) {i:Nat}(v:Int):OInv (upd ws (o.ad base i) v) base N len O:=by
 have hm:=List.mem_of_getElem? ha
 have w1:=z2c i o.n
 have u1:=(h.used o hm _ (z0T i o.n)).1
 refine⟨h.size,fun o' ho k hk=>?_,h.inj,h.apart,fun o' ho k hk=>?_,h.sum⟩
 ·obtain⟨u2,u3⟩:=h.used o' ho k hk
  refine⟨u2,?_⟩
  rw[z09 _ _ (by unfold Ob.ad;omega)]
  exact u3
 ·rw[z09 _ _ ?_]
  ·exact h.link o' ho k hk
  ·obtain⟨b,lb,hb⟩:=List.getElem_of_mem ho
   have hb':O[b]?=some o':=by rw[List.getElem?_eq_getElem lb,hb]
   unfold Ob.ad
   by_cases e:a=b
   ·subst e
    rw[ha] at hb'
    obtain rfl:o=o':=Option.some.inj hb'
    by_cases e2:hop i o.n=k
    ·have:=zb9 (i:=i) (n:=o.n) (by omega)
     omega
    ·have:o.c (hop i o.n)≠o.c k:=fun r=>e2 (h.inj o hm _ _ (z0T i o.n) (by omega) r)
     omega
   ·have:=h.far ha hb' e (z0T i o.n) (show k<frg o'.n by omega)
    omega
end
structure Chn (base N:Nat) (ws0 ws:Nat→Int) (m:Nat) (c:Nat→Nat):Prop where
 lt:∀ k,k<m→c k<N
 free:∀ k,k<m→ws0 (base+8*N+c k)=0
 used:∀ k,k<m→ws (base+8*N+c k)≠0
 inj:∀ j k,j<m→k<m→c j=c k→j=k
 link:∀ k,k+1<m→ws (base+8*c k)=c (k+1)
 zero:∀ k,k<m→∀ j,j<8→(1≤j∨k+1=m)→ws (base+8*c k+j)=0
 old:∀ a,(∀ k,k<m→¬ (base+8*c k≤a∧a<base+8*c k+8)∧a≠base+8*N+c k)→ws a=ws0 a
theorem zbk (ws:Nat→Int) {base N f g:Nat}(hf:f<N) (hg:g≠f):upd (zap ws (base+8*f) 8) (base+8*N+f) 1 (base+8*N+g)=ws (base+8*N+g):=by
 rw[z09 _ _ (by omega),z4G _ (by omega)]
theorem z69 (ws:Nat→Int) {base N f:Nat}(hf:f<N) {j:Nat}(hj:j<8):upd (zap ws (base+8*f) 8) (base+8*N+f) 1 (base+8*f+j)=0:=by
 rw[z09 _ _ (by omega),zdB _ (by omega) (by omega)]
theorem z33 (ws:Nat→Int) {base N f a:Nat}(h1:¬ (base+8*f≤a∧a<base+8*f+8)) (h2:a≠base+8*N+f):upd (zap ws (base+8*f) 8) (base+8*N+f) 1 a=ws a:=by
 rw[z09 _ _ h2,z4G _ h1]
theorem Chn.first {base N f:Nat}{ws:Nat→Int}(hf:f<N) (h0:ws (base+8*N+f)=0):Chn base N ws (upd (zap ws (base+8*f) 8) (base+8*N+f) 1) 1 (fun _=>f) :=
 ⟨fun _ _=>hf,fun _ _=>h0,fun _ _=>by rw[z1a];omega,fun j k _ _ _=>by omega,fun k hk=>by omega,fun k _ j hj _=>z69 ws hf hj,fun a ha=>z33 ws (ha 0 (by omega)).1 (ha 0 (by omega)).2⟩
def zfr (f:Nat) (c:Nat→Nat):Nat→Nat
 | 0=>f
 | k+1=>c k
theorem Chn.more {base N f m:Nat}{ws0 ws:Nat→Int}{c:Nat→Nat}(h:Chn base N ws0 ws m c) (hm:1≤m) (hf:f<N) (h0:ws (base+8*N+f)=0):
  Chn base N ws0 (upd (upd (zap ws (base+8*f) 8) (base+8*N+f) 1) (base+8*f+0) (c 0)) (m+1) (zfr f c):=by
 have hne:∀ k,k<m→c k≠f:=fun k hk e=>h.used k hk (by rw[e];exact h0)
 refine⟨fun k hk=>?_,fun k hk=>?_,fun k hk=>?_,fun j k hj hk e=>?_,fun k hk=>?_,fun k hk j hj hz=>?_,fun a ha=>?_⟩
 ·cases k with
  | zero=>exact hf
  | succ k=>exact h.lt k (by omega)
 ·cases k with
  | zero =>
   show ws0 (base+8*N+f)=0
   rw[← h.old (base+8*N+f) (fun k hk=>⟨by have:=h.lt k hk;omega,by have:=hne k hk;omega⟩)]
   exact h0
  | succ k=>exact h.free k (by omega)
 ·cases k with
  | zero =>
   show upd _ _ _ (base+8*N+f)≠0
   rw[z09 _ _ (by omega),z1a];omega
  | succ k =>
   have h1:=h.lt k (by omega)
   have h2:=hne k (by omega)
   show upd _ _ _ (base+8*N+c k)≠0
   rw[z09 _ _ (by omega),zbk ws hf h2]
   exact h.used k (by omega)
 ·cases j with
  | zero =>
   cases k with
   | zero=>rfl
   | succ k=>exact absurd e.symm (hne k (by omega))
  | succ j =>
   cases k with
   | zero=>exact absurd e (hne j (by omega))
   | succ k=>have:=h.inj j k (by omega) (by omega) e;omega
 ·cases k with
  | zero =>
   show upd _ _ _ (base+8*f)=c 0
   exact z1a _ _ _
  | succ k =>
   have h1:=h.lt k (by omega)
   have h2:=hne k (by omega)
   show upd _ _ _ (base+8*c k)=c (k+1)
   rw[z09 _ _ (by omega),z33 ws (by omega) (by omega)]
   exact h.link k (by omega)
 ·cases k with
  | zero =>
   show upd _ _ _ (base+8*f+j)=0
   rw[z09 _ _ (by omega),z69 ws hf hj]
  | succ k =>
   have h1:=h.lt k (by omega)
   have h2:=hne k (by omega)
   show upd _ _ _ (base+8*c k+j)=0
   rw[z09 _ _ (by omega),z33 ws (by omega) (by omega)]
   exact h.zero k (by omega) j hj (by omega)
 ·have ha0:¬ (base+8*f≤a∧a<base+8*f+8)∧a≠base+8*N+f:=ha 0 (by omega)
  rw[z09 _ _ (by omega),z33 ws ha0.1 ha0.2]
  exact h.old a fun k hk=>ha (k+1) (by omega)
section
variable {ws ws':Nat→Int}{base N len:Nat}{O:List Ob}
theorem OInv.make (h:OInv ws base N len O) {n:Nat}{c:Nat→Nat}(hn:n≤64) (hc:Chn base N ws ws' (frg n) c) (hl:frg n≤len):OInv ws' base N (len-frg n) (O++[⟨n,c⟩]):=by
 have hne:∀ o∈O,∀ j k,j<frg o.n→k<frg n→o.c j≠c k:=fun o ho j k hj hk e=>(h.used o ho j hj).2 (by rw[e];exact hc.free k hk)
 refine⟨fun o ho=>?_,fun o ho k hk=>?_,fun o ho j k hj hk e=>?_,?_,fun o ho k hk=>?_,?_⟩
 ·rcases List.mem_append.1 ho with ho|ho
  ·exact h.size o ho
  ·rw[List.mem_singleton.1 ho];exact hn
 ·rcases List.mem_append.1 ho with ho|ho
  ·obtain⟨u1,u2⟩:=h.used o ho k hk
   refine⟨u1,?_⟩
   rw[hc.old _ fun m hm=>⟨by have:=hc.lt m hm;omega,by have:=hne o ho k m hk hm;omega⟩]
   exact u2
  ·rw[List.mem_singleton.1 ho] at hk ⊢
   exact⟨hc.lt k hk,hc.used k hk⟩
 ·rcases List.mem_append.1 ho with ho|ho
  ·exact h.inj o ho j k hj hk e
  ·rw[List.mem_singleton.1 ho] at hj hk e
   exact hc.inj j k hj hk e
 ·refine List.pairwise_append.2 ⟨h.apart,List.pairwise_singleton _ _,fun o ho z hz j k hj hk=>?_⟩
  rw[List.mem_singleton.1 hz] at hk ⊢
  exact hne o ho j k hj hk
 ·rcases List.mem_append.1 ho with ho|ho
  ·have u1:=(h.used o ho k (by omega)).1
   rw[hc.old _ fun m hm=>⟨by have:=hne o ho k m (by omega) hm;omega,by have:=hc.lt m hm;omega⟩]
   exact h.link o ho k hk
  ·rw[List.mem_singleton.1 ho] at hk ⊢
   exact hc.link k hk
 ·have:=h.sum
  rw[z4j]
  simp only[tot]
  omega
theorem Chn.field {n:Nat}{c:Nat→Nat}(hc:Chn base N ws ws' (frg n) c) {i:Nat}:ws' ((⟨n,c⟩:Ob).ad base i)=0:=by
 unfold Ob.ad
 refine hc.zero _ (z0T i n) _ (z2c i n) ?_
 by_cases e:hop i n+1<frg n
 ·exact .inl (zb9 e)
 ·have:=z0T i n
  exact .inr (by omega)
theorem OInv.make_old (h:OInv ws base N len O) {n:Nat}{c:Nat→Nat}(hc:Chn base N ws ws' (frg n) c) {o:Ob}(ho:o∈O) {i:Nat}:ws' (o.ad base i)=ws (o.ad base i):=by
 have w1:=z2c i o.n
 have u1:=h.used o ho _ (z0T i o.n)
 refine hc.old _ fun m hm=>?_
 have h2:=hc.lt m hm
 have h1:o.c (hop i o.n)≠c m:=fun e=>u1.2 (by rw[e];exact hc.free m hm)
 unfold Ob.ad
 constructor<;>omega
theorem OInv.make_ref (h:OInv ws base N len O) {n:Nat}{c:Nat→Nat}(hc:Chn base N ws ws' (frg n) c) {o:Ob}(ho:o∈O):o.ref≠(⟨n,c⟩:Ob).ref:=by
 have u1:=h.used o ho 0 (z1k _)
 have h1:o.c 0≠c 0:=fun e=>u1.2 (by rw[e];exact hc.free 0 (z1k _))
 unfold Ob.ref
 show (o.c 0:Int)+1≠(c 0:Int)+1
 omega
end
def z3o (base N:Nat) (ws:Nat→Int) (c:Nat→Nat):Nat→Nat→Int
 | 0=>ws
 | m+1=>upd (z3o base N ws c m) (base+8*N+c m) 0
theorem z2K {base N:Nat}(ws:Nat→Int) (c:Nat→Nat) {a:Nat}(ha:a<base+8*N):∀ m,z3o base N ws c m a=ws a
 | 0=>rfl
 | m+1=>by
  show upd _ _ _ a=_
  rw[z09 _ _ (by omega),z2K ws c ha m]
theorem z3n {base N:Nat}(ws:Nat→Int) (c:Nat→Nat) {f:Nat}:∀ m,(∀ k,k<m→c k≠f)→z3o base N ws c m (base+8*N+f)=ws (base+8*N+f)
 | 0,_=>rfl
 | m+1,h=>by
  have:=h m (by omega)
  show upd _ _ _ (base+8*N+f)=_
  rw[z09 _ _ (by omega),z3n ws c m fun k hk=>h k (by omega)]
theorem OInv.free {ws:Nat→Int}{base N len:Nat}{O:List Ob}(h:OInv ws base N len O) {a:Nat}{o:Ob}(ha:O[a]?=some o):OInv (z3o base N ws o.c (frg o.n)) base N (len+frg o.n) (O.eraseIdx a):=by
 have hsub:∀ z∈O.eraseIdx a,z∈O∧∀ j k,j<frg z.n→k<frg o.n→o.c k≠z.c j:=by
  intro z hz
  obtain⟨i,hi,e⟩:=List.mem_eraseIdx_iff_getElem?.1 hz
  refine⟨List.mem_of_getElem? e,fun j k hj hk=>h.far ha e (fun r=>hi r.symm) hk hj⟩
 refine⟨fun z hz=>h.size z (hsub z hz).1,fun z hz k hk=>?_,fun z hz=>h.inj z (hsub z hz).1,h.apart.sublist (List.eraseIdx_sublist ..),fun z hz k hk=>?_,?_⟩
 ·obtain⟨u1,u2⟩:=h.used z (hsub z hz).1 k hk
  refine⟨u1,?_⟩
  rw[z3n ws o.c _ fun m hm=>(hsub z hz).2 k m hk hm]
  exact u2
 ·have u1:=(h.used z (hsub z hz).1 k (by omega)).1
  rw[z2K ws o.c (by omega)]
  exact h.link z (hsub z hz).1 k hk
 ·have h1:=h.sum
  have h2:=z5l O a o ha
  omega
theorem OInv.free_old {ws:Nat→Int}{base N len:Nat}{O:List Ob}(h:OInv ws base N len O) {c:Nat→Nat}(m:Nat) {o:Ob}(ho:o∈O) {i:Nat}:z3o base N ws c m (o.ad base i)=ws (o.ad base i):=by
 have w1:=z2c i o.n
 have u1:=(h.used o ho _ (z0T i o.n)).1
 exact z2K ws c (by unfold Ob.ad;omega) m
end Go.Proofs.YthkelaeemefnaaaGreat
namespace Go.Proofs.YthkelaeemefnaaaGreat
open Go.RowKit
section
variable {w:World}{P:Nat→Prop}{s b W base G cap pl k:Nat}{old cs:Nat→Int}{T:Int}{xs:List Int}
theorem zd1 (h:Good w P s ⟨b,W,base,old⟩ G cap cs calm T xs) (hT:T≤1000000000) (m R:Nat) (hm:0<m) (hm2:m≤100000) (hR:R=min m xs.length):
  Calls Tryz.prog 238 #[.pointer (some ⟨s,0,none⟩),.int .i64 m] w fun e w'=>e=.returned (.int .i64 R)∧Below w.heap.size w w':=by
 obtain⟨bw,bs,bt,bu,bl,ws,ob,hS,hI,hO⟩:=h
 exact z9m hS hI hT m R hm hm2 hR
theorem zeh (h:Good w P s ⟨b,W,base,old⟩ G cap cs calm T xs) (hT:T≤1000000000) (m:Nat) (hm:0<m) (hm2:m≤100000) (hl:w.cell? ⟨pl,0,none⟩=some (.pointer (some ⟨s,0,none⟩))) (r:Bool) (hr:decide (m≤xs.length)=r):
  Calls Tryz.prog 231 #[.agg #[.slice (some ⟨pl,0,none⟩) 1 k],.int .i64 m] w fun e w'=>e=.returned (.bool r)∧Below w.heap.size w w':=by
 have l0:=fun o=>z29 hl o
 obtain⟨R,hR⟩:∃ R,R=min m xs.length:=⟨_,rfl⟩
 have Hr:Hid (decide ((m:Int)-R≤0)=r):=by
  rw[← hr]
  show decide ((m:Int)-R≤0)=decide (m≤xs.length)
  rw[decide_eq_decide];omega
 have hRm:R≤m:=by omega
 clear hr
 go_enter Tryz.func231,Tryz.ntmps231
 go_wp2
 go_loopg [1,10] 2 (fun kx s1 s10 wr=>((s10=.int .i64 0∧s1=.int .i64 m∧1≤kx)∨(s10=.int .i64 1∧s1=.int .i64 ((m:Int)-R)))∧Below w.heap.size w wr)
 case atStart=>exact⟨.inl ⟨rfl,rfl,by omega⟩,(Below.refl _ _).alloc (Nat.le_refl _) _⟩
 case round =>
  clear l0
  obtain⟨hc,hb⟩:=hrel
  have l1:=(z1U (a:=⟨pl,0,none⟩) (hb.block pl (z6U hl))).trans hl
  rcases hc with ⟨rfl,rfl,h1⟩|⟨rfl,rfl⟩
  ·have hk:=zd1 (h.below hb) hT m R hm hm2 hR
   clear hR
   go_wp2_with (go_at_call 238;refine hk.mono ?_;rintro e w1 ⟨rfl,hb1⟩)
   go_roundg (gk-1)
   case measure=>omega
   case rel=>exact⟨.inr ⟨by go_num,by go_num⟩,hb.trans (hb1.mono hb.size)⟩
  ·clear hR
   have hh:=Hr.out
   cases r with
   | true =>
    go_wp2
    go_ret
    exact⟨rfl,hb⟩
   | false =>
    go_wp2
    go_ret
    exact⟨rfl,hb⟩
end
theorem z8m {w:World}{P:Nat→Prop}{p b W base n G:Nat}{cs:Nat→Int}{T:Int}{xs:List Int}{ws:Nat→Int}(h:Pl w P p b W base n G cs T xs ws) (hT:T≤1000000000) (m:Nat) (hm:0<m) (hm2:m≤100000) (r:Bool) (hr:decide (m≤xs.length)=r):
  Calls Tryz.prog 219 #[.pointer (some ⟨p,0,none⟩),.int .i64 m] w fun e w'=>e=.returned (.bool r)∧Below w.heap.size w w':=by
 obtain⟨Q,s,bc,pl,k,h⟩:=h
 have hl:=zeh (k:=k) h.good hT m hm hm2 h.list r hr
 have c:=h.c8
 clear h hr
 go_enter Tryz.func219,Tryz.ntmps219
 go_wp2_with (go_at_call 231;refine hl.mono ?_;rintro e w1 ⟨rfl,hb⟩)
 go_ret
 exact⟨rfl,hb⟩
theorem z2X {w:World}{P:Nat→Prop}{p b W base n G:Nat}{cs:Nat→Int}{T:Int}{xs:List Int}{ws:Nat→Int}(h:Pl w P p b W base n G cs T xs ws) (x:Int) (r:Bool) (hr:decide (0≤x∧x<(G:Int))=r):
  Calls Tryz.prog 218 #[.pointer (some ⟨p,0,none⟩),.int .i64 x] w fun e w'=>e=.returned (.bool r)∧w'=w:=by
 obtain⟨Q,s,bc,pl,k,h⟩:=h
 exact phas h x r hr
end Go.Proofs.YthkelaeemefnaaaGreat
namespace Go.Proofs.YthkelaeemefnaaaGreat
open Go.RowKit
structure Raw (w:World) (P:Nat→Prop) (so mb p b W base N G:Nat) (cs:Nat→Int) (T:Int) (xs:List Int) (ws:Nat→Int) (nn:Nat) (D:DataW Unit):Prop where
 pl:∃ P0,Pl w P0 p b W base N G cs T xs ws∧(∀ k,P0 k→P k)∧¬ P0 so∧¬ P0 mb
 here:w.heap[so]?=some (.cells #[.pointer (some ⟨p,0,none⟩),.map (some mb)] 205 (0,0))
 map:w.ownsMap Tryz.prog 3 (plainElem Tryz.prog 3) mb nn D
 own:P so∧P mb
 lt:∀ k,P k→k<w.heap.size
def RawT (w:World) (P:Nat→Prop) (so mb p b W base N G:Nat) (cs:Nat→Int) (T:Int) (xs:List Int) (ws:Nat→Int) (nn:Nat) (D:DataW Unit) (w':World):Prop :=
 ∃ P',Raw w' P' so mb p b W base N G cs T xs ws nn D∧Bt P w w'∧Wider P P' w
theorem zan:Maps.Keyed Tryz.prog 3:=Maps.int_keyed Tryz.underlying3
theorem z19 {w w':World}{mb nn:Nat}{D:DataW Unit}(h:w.ownsMap Tryz.prog 3 (plainElem Tryz.prog 3) mb nn D) (e:w'.heap[mb]?=w.heap[mb]?):w'.ownsMap Tryz.prog 3 (plainElem Tryz.prog 3) mb nn D:=by
 obtain⟨es,clock,hb,F,hs,hD⟩:=h
 exact⟨es,clock,e.trans hb,F,hs,hD⟩
section
variable {w:World}{P:Nat→Prop}{so mb p b W base N G:Nat}{cs:Nat→Int}{T:Int}{xs:List Int}{ws:Nat→Int}{nn:Nat}{D:DataW Unit}
theorem Raw.below {w':World}(h:Raw w P so mb p b W base N G cs T xs ws nn D) (hb:Below w.heap.size w w'):Raw w' P so mb p b W base N G cs T xs ws nn D:=by
 obtain⟨P0,h1,h2,h3,h4⟩:=h.pl
 exact⟨⟨P0,h1.below hb,h2,h3,h4⟩,(hb.block so (h.lt so h.own.1)).trans h.here,z19 h.map (hb.block mb (h.lt mb h.own.2)),h.own,fun k hk=>Nat.lt_of_lt_of_le (h.lt k hk) hb.size⟩
theorem Raw.turn {w':World}{P0:Nat→Prop}{cs':Nat→Int}{T':Int}{xs':List Int}{ws':Nat→Int}(h:Raw w P so mb p b W base N G cs T xs ws nn D) (h1:∀ k,P0 k→P k) (h2:¬ P0 so) (h3:¬ P0 mb) (ht:Turn w P0 p b W base N G cs' T' xs' ws' w'):
  RawT w P so mb p b W base N G cs' T' xs' ws' nn D w':=by
 obtain⟨P1,hP,hB,hW⟩:=ht
 have ls:=h.lt so h.own.1
 have lm:=h.lt mb h.own.2
 refine⟨fun k=>P k∨P1 k,⟨⟨P1,hP,fun _ r=>.inr r,fun r=>(hW so r).elim h2 (fun q=>by omega),fun r=>(hW mb r).elim h3 (fun q=>by omega)⟩,(hB.block so ls h2).trans h.here,z19 h.map (hB.block mb lm h3),⟨.inl h.own.1,.inl h.own.2⟩,fun k hk=>hk.elim (fun r=>Nat.lt_of_lt_of_le (h.lt k r) hB.size) (hP.lt k)⟩,hB.mono fun k _ r=>h1 k r,fun k hk=>hk.elim .inl fun r=>(hW k r).imp (h1 k) id⟩
theorem RawT.refl (h:Raw w P so mb p b W base N G cs T xs ws nn D):RawT w P so mb p b W base N G cs T xs ws nn D w:=⟨P,h,Bt.refl _ _,Wider.refl _ _⟩
theorem RawT.after {w1 w':World}{cs':Nat→Int}{T':Int}{xs':List Int}{ws':Nat→Int}{nn':Nat}{D':DataW Unit}(hb:Below w.heap.size w w1) (h:RawT w1 P so mb p b W base N G cs' T' xs' ws' nn' D' w'):RawT w P so mb p b W base N G cs' T' xs' ws' nn' D' w':=by
 obtain⟨P',h1,h2,h3⟩:=h
 exact⟨P',h1,(Bt.of_below hb).trans h2,fun k hk=>(h3 k hk).elim .inl (fun q=>.inr (Nat.le_trans hb.size q))⟩
theorem RawT.trans {w1 w':World}{P1:Nat→Prop}{cs':Nat→Int}{T':Int}{xs':List Int}{ws':Nat→Int}{nn':Nat}{D':DataW Unit}(hB:Bt P w w1) (hW:Wider P P1 w) (h:RawT w1 P1 so mb p b W base N G cs' T' xs' ws' nn' D' w'):RawT w P so mb p b W base N G cs' T' xs' ws' nn' D' w':=by
 obtain⟨P',h1,h2,h3⟩:=h
 exact⟨P',h1,hB.wide h2 hW,hW.trans h3 hB.size⟩
theorem Raw.cells (h:Raw w P so mb p b W base N G cs T xs ws nn D):w.cell? ⟨so,0,none⟩=some (.pointer (some ⟨p,0,none⟩))∧w.cell? ⟨so,1,none⟩=some (.map (some mb)):=by
 constructor<;>simp[World.cell?,h.here]
theorem Raw.remap {w':World}{nn':Nat}{D':DataW Unit}(h:Raw w P so mb p b W base N G cs T xs ws nn D) (hm:w'.ownsMap Tryz.prog 3 (plainElem Tryz.prog 3) mb nn' D') (hg:w.grownBy w' (some mb)):RawT w P so mb p b W base N G cs T xs ws nn' D' w':=by
 obtain⟨P0,h1,h2,h3,h4⟩:=h.pl
 have hne:so≠mb:=by
  rintro rfl
  obtain⟨es,clock,hb,_⟩:=h.map
  have:=h.here
  rw[hb] at this;simp at this
 have e:∀ k,k<w.heap.size→k≠mb→w'.heap[k]?=w.heap[k]?:=fun k hk q=>hg.block k hk (fun r=>q (by simpa using r))
 refine⟨P,⟨⟨P0,h1.keep (fun j hj=>e j (h1.lt j hj) (fun q=>h4 (q ▸ hj))) hg.size,h2,h3,h4⟩,(e so (h.lt so h.own.1) hne).trans h.here,hm,h.own,fun k hk=>Nat.lt_of_lt_of_le (h.lt k hk) hg.size⟩,⟨hg.os,hg.tape,hg.output,hg.size,fun k hk q=>e k hk (fun r=>q (r ▸ h.own.2))⟩,Wider.refl _ _⟩
theorem zbu (h:Raw w P so mb p b W base N G cs T xs ws nn D) (ref:Int) (hw:(Lit.int .i64 ref).wf=true) (n:Int) (hn:D.atKey (.int .i64 ref) (.lit (.int .i64 0))=.lit (.int .i64 n)) (hr:Maps.has D (.int .i64 ref)=true):
  Calls Tryz.prog 223 #[.pointer (some ⟨so,0,none⟩),.int .i64 ref] w fun e w'=>e=.returned (.tuple #[.int .i64 n,.int .i64 0])∧w'=w:=by
 have cc:=h.cells
 have hz:(zeroValue 3).run Tryz.prog w=.ok (.int .i64 0) w:=by kernel_rfl
 have hl:(Instr.lookup 203 (.map (some mb)) (.int .i64 ref) true).run Tryz.prog w=.ok (.tuple #[.int .i64 n,.bool true]) w:=by
  obtain⟨v,ps,hrun,hv⟩:=h.map.look_ok zan Tryz.underlying203 hz (plainElem_int Tryz.underlying3 (by decide)) (Maps.keyOf_int_mk Tryz.underlying3 hw)
  obtain⟨c,rfl,hc,hwc⟩:=plainElem_int_inv Tryz.underlying3 hv
  rw[hn] at hc
  simp only[Prod.mk.injEq,DataW.lit.injEq,Lit.int.injEq,true_and] at hc
  rw[hr,← hc.1] at hrun
  exact hrun
 clear h hz hn hr hw
 go_enter Tryz.func223,Tryz.ntmps223
 go_wp2
 go_ret2
 exact⟨rfl,rfl⟩
theorem z8h (h:Raw w P so mb p b W base N G cs T xs ws nn D) (A ref:Int) (hA:0≤A∧A<G) (hw:(Lit.int .i64 ref).wf=true) (n:Int) (hn:D.atKey (.int .i64 ref) (.lit (.int .i64 0))=.lit (.int .i64 n)) (hr:Maps.has D (.int .i64 ref)=true):
  Calls Tryz.prog 212 #[.pointer (some ⟨so,0,none⟩),.int .i64 A,.int .i64 ref] w fun e w'=>e=.returned (.tuple #[.int .i64 n,.int .i64 0])∧w'=w:=by
 have cc:=h.cells
 have hs:=zbu h ref hw n hn hr
 obtain⟨P0,h1,_⟩:=h.pl
 have ha:=z2X h1 A true (by simpa using hA)
 clear h h1 hn hr
 go_enter Tryz.func212,Tryz.ntmps212
 go_wp2_with (first
  | (go_at_call 223;refine hs.mono ?_;rintro e w9 ⟨rfl,hw9⟩;replace hw9:=hw9.symm;subst hw9)
  | (go_at_call 218;refine ha.mono ?_;rintro e w9 ⟨rfl,hw9⟩;replace hw9:=hw9.symm;subst hw9))
 go_ret2
 exact⟨rfl,rfl⟩
end
theorem z1n (n:Nat) (hn:n≤100000) (w:World):Calls Tryz.prog 159 #[.int .i64 n] w fun e w'=>e=.returned (.int .i64 (frg n:Nat))∧w'=w:=by
 go_enter Tryz.func159,Tryz.ntmps159
 go_wp2
 all_goals
  go_ret
  exact⟨congrArg (fun x=>Ending.returned (Value.int .i64 x)) (by unfold frg;omega),rfl⟩
theorem z1R (n:Nat) (hn:n≤100000) (w:World):Calls Tryz.prog 149 #[.int .i64 n] w fun e w'=>e=.returned (.int .i64 (1+(n+5)/6:Nat))∧w'=w:=by
 go_enter Tryz.func149,Tryz.ntmps149
 go_wp2
 go_ret
 exact⟨congrArg (fun x=>Ending.returned (Value.int .i64 x)) (by omega),rfl⟩
theorem z6v (f:Nat) (hf:f≤100000) (w:World):Calls Tryz.prog 220 #[.int .i64 f] w fun e w'=>e=.returned (.int .i64 ((f:Int)+1))∧w'=w:=by
 go_enter Tryz.func220,Tryz.ntmps220
 go_wp2
 go_ret
 exact⟨rfl,rfl⟩
theorem z44 (f:Nat) (hf:f≤100000) (w:World):Calls Tryz.prog 224 #[.int .i64 ((f:Int)+1)] w fun e w'=>e=.returned (.int .i64 f)∧w'=w:=by
 go_enter Tryz.func224,Tryz.ntmps224
 go_wp2
 go_ret
 exact⟨congrArg (fun x=>Ending.returned (Value.int .i64 x)) (by omega),rfl⟩
theorem z3B (w:World):Calls Tryz.prog 217 #[.int .i64 0] w fun e w'=>e=.returned (.int .i64 0)∧w'=w:=by
 go_enter Tryz.func217,Tryz.ntmps217
 go_wp2
 go_ret
 exact⟨rfl,rfl⟩
theorem zeO {a b c d:Int}(h1:a=c) (h2:b=d):Ending.returned (.tuple #[.int .i64 a,.int .i64 b])=.returned (.tuple #[.int .i64 c,.int .i64 d]):=by subst h1 h2;rfl
theorem z8n (i n:Nat) (hi:i<n) (hn:n≤64) (w:World):Calls Tryz.prog 228 #[.int .i64 i,.int .i64 n] w fun e w'=>e=.returned (.tuple #[.int .i64 (hop i n:Nat),.int .i64 (wrd i n:Nat)])∧w'=w:=by
 have hf:=z1n n (by omega)
 have h1:=z1k n
 have h9:=z13 hn
 have H7:Hid (n≤7*frg n+1):=(show _≤_ by unfold frg;omega)
 obtain⟨F,hF⟩:∃ F,F=frg n:=⟨_,rfl⟩
 have HF:Hid (F=frg n):=hF
 rw[← hF] at hf h1 h9 H7
 clear hF
 have h7:=H7.out
 go_enter Tryz.func228,Tryz.ntmps228
 go_wp2_with (go_at_call 159;refine (hf _).mono ?_;rintro e w9 ⟨rfl,hw9⟩;replace hw9:=hw9.symm;subst hw9)
 all_goals
  go_ret2
  exact⟨zeO (by unfold hop;rw[← HF.out];omega) (by unfold wrd hop;rw[← HF.out];omega),rfl⟩
end Go.Proofs.YthkelaeemefnaaaGreat
namespace Go.Proofs.YthkelaeemefnaaaGreat
open Go.RowKit
theorem zfI {xs:List Int}{m:Nat}(h:1≤m) (hm:m≤xs.length):∃ x r,xs=x::r∧r.length+1=xs.length:=by
 cases xs with
 | nil=>simp at hm;omega
 | cons x r=>exact⟨x,r,rfl,rfl⟩
theorem z4W {ws:Nat→Int}{base N f:Nat}(hf:f<N) (h:ws (base+8*N+f)≠0):zaZ ws base N (f:Int):=⟨by omega,by omega,h⟩
section
variable {w:World}{P:Nat→Prop}{so mb p b W base N G:Nat}{cs:Nat→Int}{T:Int}{xs:List Int}{ws:Nat→Int}{nn:Nat}{D:DataW Unit}
def zdY (w:World) (P:Nat→Prop) (so mb p b W base N G:Nat) (cs:Nat→Int) (T:Int) (xs:List Int) (ws:Nat→Int) (nn:Nat) (D:DataW Unit) (i:Nat) (c:Nat→Nat) (w':World):Prop :=
 ∃ xs' cs' ws',Chn base N ws ws' i c∧xs'.length+i=xs.length∧Grew cs cs' (30*i)∧RawT w P so mb p b W base N G cs' (T+i) xs' ws' nn D w'
theorem Raw.alloc (h:Raw w P so mb p b W base N G cs T xs ws nn D) (hx:1≤xs.length) (hT:T≤1000000) (g:Nat) (hg:g<G):
  Calls Tryz.prog 222 #[.pointer (some ⟨p,0,none⟩),.int .i64 g] w fun e w'=>∃ f:Nat,f<N∧ws (base+8*N+f)=0∧e=.returned (.tuple #[.int .i64 f,.int .i64 0])∧∃ xs' cs',xs'.length+1=xs.length∧Grew cs cs' 20∧RawT w P so mb p b W base N G cs' (T+1) xs' (upd (zap ws (base+8*f) 8) (base+8*N+f) 1) nn D w':=by
 obtain⟨x,r,rfl,hr⟩:=zfI (Nat.le_refl 1) hx
 obtain⟨P0,h1,h2,h3,h4⟩:=h.pl
 refine (zb1 h1 (by omega) g hg).mono ?_
 rintro e w' ⟨f,_,hf,h0,rfl,cs',hgr,ht⟩
 exact⟨f,hf,h0,rfl,r,cs',hr,hgr,h.turn h2 h3 h4 ht⟩
theorem Raw.store (h:Raw w P so mb p b W base N G cs T xs ws nn D) (g f i:Nat) (v:Int) (hg:g<G) (hf:f<N) (hu:ws (base+8*N+f)≠0) (hi:i<8):
  Calls Tryz.prog 221 #[.pointer (some ⟨p,0,none⟩),.int .i64 g,.int .i64 f,.int .i64 i,.int .i64 v] w fun e w'=>e=.returned (.int .i64 0)∧RawT w P so mb p b W base N G (upd cs g (wrap64 (cs g+1))) T xs (upd ws (base+8*f+i) v) nn D w':=by
 obtain⟨P0,h1,h2,h3,h4⟩:=h.pl
 refine (z9X h1 g f i v hg (z4W hf hu) hi).mono ?_
 rintro e w' ⟨rfl,ht⟩
 exact⟨rfl,h.turn h2 h3 h4 ht⟩
theorem Raw.load (h:Raw w P so mb p b W base N G cs T xs ws nn D) (g f i:Nat) (hg:g<G) (hf:f<N) (hu:ws (base+8*N+f)≠0) (hi:i<8):
  Calls Tryz.prog 216 #[.pointer (some ⟨p,0,none⟩),.int .i64 g,.int .i64 f,.int .i64 i] w fun e w'=>e=.returned (.tuple #[.int .i64 (ws (base+8*f+i)),.int .i64 0])∧RawT w P so mb p b W base N G (upd cs g (wrap64 (cs g+1))) T xs ws nn D w':=by
 obtain⟨P0,h1,h2,h3,h4⟩:=h.pl
 refine (zbm h1 g f i hg (z4W hf hu) hi).mono ?_
 rintro e w' ⟨rfl,ht⟩
 exact⟨rfl,h.turn h2 h3 h4 ht⟩
theorem Raw.free (h:Raw w P so mb p b W base N G cs T xs ws nn D) (hT:T≤1000000) (g f:Nat) (hg:g<G) (hf:f<N) (hu:ws (base+8*N+f)≠0):
  Calls Tryz.prog 214 #[.pointer (some ⟨p,0,none⟩),.int .i64 g,.int .i64 f] w fun e w'=>e=.returned (.int .i64 0)∧∃ xs' cs',xs'.length=xs.length+1∧Grew cs cs' 10∧RawT w P so mb p b W base N G cs' (T+1) xs' (upd ws (base+8*N+f) 0) nn D w':=by
 obtain⟨P0,h1,h2,h3,h4⟩:=h.pl
 refine (zbC h1 (by omega) g f hg (z4W hf hu)).mono ?_
 rintro e w' ⟨rfl,cs',hgr,ht⟩
 exact⟨rfl,_,cs',by simp,hgr,h.turn h2 h3 h4 ht⟩
theorem zbx (h:Raw w P so mb p b W base N G cs T xs ws nn D) (g m:Nat) (hg:g<G) (hm:1≤m) (hm9:m≤9) (hx:m≤xs.length) (hT:T≤900000):
  Calls Tryz.prog 211 #[.pointer (some ⟨so,0,none⟩),.int .i64 g,.int .i64 m] w fun e w'=>∃ c:Nat→Nat,e=.returned (.int .i64 (c 0:Nat))∧zdY w P so mb p b W base N G cs T xs ws nn D m c w':=by
 have cc:=h.cells
 have hA:=h.alloc (by omega) (by omega) g hg
 clear h
 go_enter Tryz.func211,Tryz.ntmps211
 go_wp2_with (go_at_call 222;refine hA.mono ?_;rintro e w1 ⟨f,hf,h0,rfl,xs1,cs1,hl1,hg1,hR1⟩)
 have H1:Hid (zdY w P so mb p b W base N G cs T xs ws nn D 1 (fun _=>f) w1):=⟨xs1,cs1,_,Chn.first hf h0,hl1,hg1.mono (by omega),hR1⟩
 clear hA hl1 hg1 hR1 h0 hf cc
 go_loopg [7,9,21] m (fun kx s7 s9 s21 wr=>∃ (i:Nat) (c:Nat→Nat),s21=.int .i64 i∧s7=.int .i64 (c 0:Nat)∧i+1≤m∧m-1-i≤kx∧zdY w P so mb p b W base N G cs T xs ws nn D (i+1) c wr)
 case atStart=>exact⟨0,fun _=>f,rfl,rfl,by omega,by omega,H1.out⟩
 case round =>
  clear H1
  obtain⟨i,c,rfl,rfl,hi,hk,xs',cs',ws',hC,hl,hgr,P',hR,hB,hW⟩:=hrel
  by_cases hlt:i+1<m
  ·have hlt':(i:Int)<(m:Int)-1:=by omega
   have cc:=hR.cells
   have hA:=hR.alloc (by omega) (by omega) g hg
   have HC:Hid (Chn base N ws ws' (i+1) c):=hC
   have HG:Hid (Grew cs cs' (30*(i+1))∧xs'.length+(i+1)=xs.length∧Bt P w wr∧Wider P P' w):=⟨hgr,hl,hB,hW⟩
   clear hC hgr hl hB hW hR
   go_wp2_with (first
    | (go_at_call 222;refine hA.mono ?_;rintro e w2 ⟨f2,hf2,h02,rfl,xs2,cs2,hl2,hg2,P2,hR2,hB2,hW2⟩;have cc2:=hR2.cells;have hSt:=hR2.store g f2 0 (c 0:Nat) hg hf2 (by rw[z1a];omega) (by omega);have H2:Hid (f2<N∧ws' (base+8*N+f2)=0∧xs2.length+1=xs'.length∧Grew cs' cs2 20∧Bt P' wr w2∧Wider P' P2 wr):=⟨hf2,h02,hl2,hg2,hB2,hW2⟩;clear hl2 hg2 hB2 hW2 h02 hR2 hA)
    | (go_at_call 221;refine hSt.mono ?_;rintro e w3 ⟨rfl,hR3⟩;clear hSt))
   go_roundg (m-1-(i+1))
   case measure=>omega
   case rel =>
    obtain⟨g1,g2,g3,g4⟩:=HG.out
    obtain⟨k1,k2,k3,k4,k5,k6⟩:=H2.out
    refine⟨i+1,zfr f2 c,by go_num,rfl,by omega,by omega,xs2,_,_,HC.out.more (by omega) k1 k2,by omega,((g1.trans k4).tick g).mono (by omega),?_⟩
    have h5:=RawT.trans g3 g4 (RawT.trans k5 k6 hR3)
    rw[show T+((i+1:Nat):Int)+1=T+((i+1+1:Nat):Int) by omega] at h5
    exact h5
  ·have hlt':¬ (i:Int)<(m:Int)-1:=by omega
   obtain rfl:m=i+1:=by omega
   go_wp2
   go_ret
   exact⟨c,rfl,xs',cs',ws',hC,hl,hgr,P',hR,hB,hW⟩
end
end Go.Proofs.YthkelaeemefnaaaGreat
