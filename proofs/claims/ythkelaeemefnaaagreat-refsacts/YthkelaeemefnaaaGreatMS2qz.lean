import Derived.Test.YthkelaeemefnaaaGreatMS1qz
set_option maxRecDepth 20000
set_option maxHeartbeats 4000000
namespace Go.Proofs.YthkelaeemefnaaaGreat
open Go.RowKit
structure Bt (P:Nat→Prop) (w w':World):Prop where
 os:w'.os=w.os
 tape:w'.tape=w.tape
 output:w'.output=w.output
 size:w.heap.size≤w'.heap.size
 block:∀ k,k<w.heap.size→¬ P k→w'.heap[k]?=w.heap[k]?
theorem Bt.refl (P:Nat→Prop) (w:World):Bt P w w:=⟨rfl,rfl,rfl,Nat.le_refl _,fun _ _ _=>rfl⟩
theorem Bt.trans {P:Nat→Prop}{a b c:World}(h:Bt P a b) (k:Bt P b c):Bt P a c :=
 ⟨k.os.trans h.os,k.tape.trans h.tape,k.output.trans h.output,Nat.le_trans h.size k.size,fun i hi e=>(k.block i (Nat.lt_of_lt_of_le hi h.size) e).trans (h.block i hi e)⟩
theorem Bt.of_below {P:Nat→Prop}{w w':World}(h:Below w.heap.size w w'):Bt P w w':=⟨h.os,h.tape,h.output,h.size,fun k hk _=>h.block k hk⟩
theorem Bt.of_but {P:Nat→Prop}{bw bs:Nat}{w w':World}(h:But bw bs w w') (h1:P bw) (h2:P bs):Bt P w w' :=
 ⟨h.os,h.tape,h.output,h.size,fun k hk e=>h.block k hk (fun e1=>e (e1 ▸ h1)) (fun e2=>e (e2 ▸ h2))⟩
theorem Bt.set {P:Nat→Prop}{a w:World}(h:Bt P a w) (r i:Nat) (v:Value) (hr:P r∨a.heap.size≤r):Bt P a (w.setCell ⟨r,i,none⟩ v) :=
 ⟨h.os,h.tape,h.output,by simpa [World.setCell] using h.size,fun k hk e=>(z03 _ _ (by show k≠r;rintro rfl;rcases hr with hr|hr;exact e hr;omega)).trans (h.block k hk e)⟩
theorem Bt.alloc {P:Nat→Prop}{a w:World}(h:Bt P a w) (o:Obj):Bt P a (w.alloc o):=h.trans (Bt.of_below ((Below.refl _ _).alloc (Nat.le_refl _) o))
theorem Bt.mono {P Q:Nat→Prop}{w w':World}(h:Bt P w w') (hq:∀ k,k<w.heap.size→P k→Q k):Bt Q w w':=⟨h.os,h.tape,h.output,h.size,fun k hk e=>h.block k hk (fun hp=>e (hq k hk hp))⟩
theorem Bt.under {P:Nat→Prop}{B:Nat}{w0 w w':World}(h:Below B w0 w) (hB:B≤w.heap.size) (hp:∀ k,P k→B≤k) (k:Bt P w w'):Below B w0 w' :=
 h.trans ⟨k.os,k.tape,k.output,k.size,fun i hi=>k.block i (by omega) (fun e=>by have:=hp i e;omega)⟩
theorem zft {w w1:World}{bw bs:Nat}(k:But bw bs w.drew w1):But bw bs w w1:=(But.of_below ((Below.refl w.heap.size w).drew)).trans k
theorem zd8 {w w1:World}{o:Obj}{bw bs:Nat}(h1:bw<w.heap.size) (h2:bs<w.heap.size) (k:But bw bs (w.alloc o).drew w1):w1.heap[w.heap.size]?=some o:=zcb h1 h2 (zft k)
theorem zdu {w w1:World}{o p:Obj}{bw bs:Nat}(h1:bw<w.heap.size) (h2:bs<w.heap.size) (k:But bw bs ((w.alloc o).drew.alloc p) w1):w1.heap[w.heap.size]?=some o∧w1.heap[w.heap.size+1]?=some p :=
 zeG (p:=p) h1 h2 ⟨k.os,k.tape,k.output,k.size,k.block⟩
theorem zdw {w w1:World}{o p q:Obj}{bw bs:Nat}(h1:bw<w.heap.size) (h2:bs<w.heap.size) (k:But bw bs (((w.alloc o).drew.alloc p).alloc q) w1):w1.heap[w.heap.size]?=some o∧w1.heap[w.heap.size+1]?=some p∧w1.heap[w.heap.size+1+1]?=some q :=
 z1T (p:=p) (q:=q) h1 h2 ⟨k.os,k.tape,k.output,k.size,k.block⟩
theorem bel1 (w:World) (o:Obj):Below w.heap.size w (w.alloc o).drew:=((Below.refl _ w).alloc (Nat.le_refl _) o).drew
theorem bel2 (w:World) (o p:Obj):Below w.heap.size w ((w.alloc o).drew.alloc p):=(bel1 w o).alloc (by simp) p
theorem bel3 (w:World) (o p q:Obj):Below w.heap.size w (((w.alloc o).drew.alloc p).alloc q):=(bel2 w o p).alloc (by simp;omega) q
theorem z8s {w u w1:World}{bw bs o:Nat}{X:Obj}(hO:w.heap[o]?=some X) (hb:Below w.heap.size w u) (hB:But bw bs u w1) (n1:o≠bw) (n2:o≠bs):w1.heap[o]?=some X :=
 have l:=(Array.getElem?_eq_some_iff.1 hO).1
 (hB.block o (Nat.lt_of_lt_of_le l hb.size) n1 n2).trans ((hb.block o l).trans hO)
structure Md (w:World) (b bw bs W G o:Nat) (ws cs:Nat→Int) (X R:Obj) (u:World):Prop where
 ar:Ar u b bw bs W G ws cs
 op:u.heap[o]?=some X
 res:u.heap[w.heap.size]?=some R
 bt:Bt (fun k=>k=bw∨k=bs∨k=o) w u
section
variable {w u:World}{b bw bs W G o:Nat}{ws cs ws0 cs0:Nat→Int}{X R:Obj}
theorem Md.alloc (m:Md w b bw bs W G o ws cs X R u) (q:Obj):Md w b bw bs W G o ws cs X R (u.alloc q) :=
 ⟨m.ar.alloc q,(Below.heap_alloc _ _ _ (Array.getElem?_eq_some_iff.1 m.op).1).trans m.op,(Below.heap_alloc _ _ _ (Array.getElem?_eq_some_iff.1 m.res).1).trans m.res,m.bt.alloc q⟩
theorem Md.put (m:Md w b bw bs W G o ws cs X R u) (h:Ar w b bw bs W G ws0 cs0) (lo:o<w.heap.size) (s i:Nat) (v:Value) (hs:w.heap.size<s):Md w b bw bs W G o ws cs X R (u.setCell ⟨s,i,none⟩ v) :=
 ⟨h.fresh m.ar s i v (by omega),(z03 _ _ (by show o≠s;omega)).trans m.op,(z03 _ _ (by show w.heap.size≠s;omega)).trans m.res,m.bt.set s i v (.inr (by omega))⟩
theorem Md.sets3 (m:Md w b bw bs W G o ws cs X R u) (h:Ar w b bw bs W G ws0 cs0) (lo:o<w.heap.size) (s:Nat) (x y z:Value) (hs:w.heap.size<s):Md w b bw bs W G o ws cs X R (sets3 u s x y z) :=
 ((m.put h lo s 0 x hs).put h lo s 1 y hs).put h lo s 2 z hs
theorem Md.sets4 (m:Md w b bw bs W G o ws cs X R u) (h:Ar w b bw bs W G ws0 cs0) (lo:o<w.heap.size) (s:Nat) (x y z v:Value) (hs:w.heap.size<s):Md w b bw bs W G o ws cs X R (sets4 u s x y z v) :=
 (m.sets3 h lo s x y z hs).put h lo s 3 v hs
end
theorem Bt.ar3 {bw bs o:Nat}{w w':World}(h:But bw bs w w'):Bt (fun k=>k=bw∨k=bs∨k=o) w w':=Bt.of_but h (.inl rfl) (.inr (.inl rfl))
theorem new2 {u:World}(x y:Obj):((u.alloc x).alloc y).heap[u.heap.size+1]?=some y:=by
 have:=heap_alloc_new (u.alloc x) y
 rw[Go.Deep.nblk_alloc] at this
 exact this
theorem old2 {u:World}(x y:Obj):((u.alloc x).alloc y).heap[u.heap.size]?=some x:=(Below.heap_alloc _ _ _ (by simp)).trans (heap_alloc_new u x)
theorem z8E (u:World) (s:Nat) (x y z:Value):(sets3 u s x y z).heap.size=u.heap.size:=by simp[sets3,World.setCell]
theorem z8U (u:World) (s:Nat) (x y z v:Value):(sets4 u s x y z v).heap.size=u.heap.size:=by simp[sets4,sets3,World.setCell]
theorem z3d (u:World) (s:Nat) (x y z:Value) (X:Obj):((sets3 u s x y z).alloc X).heap[u.heap.size]?=some X:=by rw[← z8E u s x y z];exact heap_alloc_new _ _
theorem zbb (u:World) (s:Nat) (x y z v:Value) (X:Obj):((sets4 u s x y z v).alloc X).heap[u.heap.size]?=some X:=by rw[← z8U u s x y z v];exact heap_alloc_new _ _
theorem Ar.other {u:World}{b bw bs W G:Nat}{ws cs:Nat→Int}(h:Ar u b bw bs W G ws cs) {s:Nat}(n0:s≠b) (n1:s≠bw) (n2:s≠bs) (i:Nat) (v:Value):Ar (u.setCell ⟨s,i,none⟩ v) b bw bs W G ws cs :=
 ⟨by rw[z03 _ _ (by show b≠s;exact fun e=>n0 e.symm)];exact h.here,h.words.setOther (by show bw≠s;exact fun e=>n1 e.symm) v,h.steps.setOther (by show bs≠s;exact fun e=>n2 e.symm) v,h.part⟩
theorem ne_b {u:World}{b bw bs W G s ty:Nat}{ws cs:Nat→Int}{c:Array Value}(h:Ar u b bw bs W G ws cs) (hs:u.heap[s]?=some (.cells c ty (0,0))) (ht:ty≠149):s≠b:=by
 rintro rfl;rw[h.here] at hs;simp at hs;exact ht hs.2.symm
theorem blk5 {w:World}{b ty:Nat}{x y z v a:Value}(h:w.heap[b]?=some (.cells #[x,y,z,v,a] ty (0,0))):w.cell? ⟨b,0,none⟩=some x∧w.cell? ⟨b,1,none⟩=some y∧w.cell? ⟨b,2,none⟩=some z∧w.cell? ⟨b,3,none⟩=some v∧w.cell? ⟨b,4,none⟩=some a:=by
 simp[World.cell?,h]
theorem z5C {w:World}{b bw bs W G:Nat}{ws cs:Nat→Int}(h:Ar w b bw bs W G ws cs) {ws' cs':Nat→Int}{o x y z:Nat}{n t i n' t' i' v1:Int}{v0 v2:Bool}(hO:w.heap[o]?=some (.cells #[.int .i64 n,.int .i64 t,.int .i64 i,.func (.func 252) #[] #[.pointer (some ⟨x,0,none⟩),.pointer (some ⟨y,0,none⟩),.pointer (some ⟨z,0,none⟩)]] 312 (0,0)))
  (hc:∀ u,Below w.heap.size w u→Calls Tryz.prog 252 #[.agg #[.int .i64 n,.int .i64 t,.int .i64 i],.pointer (some ⟨x,0,none⟩),.pointer (some ⟨y,0,none⟩),.pointer (some ⟨z,0,none⟩)] u fun e w'=>e=.returned (.tuple #[.agg #[.int .i64 n',.int .i64 t',.int .i64 i'],.agg #[.bool v0,.int .i64 v1,.bool v2]])∧Ar w' b bw bs W G ws' cs'∧But bw bs u w'):
  Calls Tryz.prog 305 #[.pointer (some ⟨o,0,none⟩)] w fun e w'=>e=.returned (.agg #[.bool v0,.int .i64 v1,.bool v2])∧Ar w' b bw bs W G ws' cs'∧w'.heap[o]?=some (.cells #[.int .i64 n',.int .i64 t',.int .i64 i',.func (.func 252) #[] #[.pointer (some ⟨x,0,none⟩),.pointer (some ⟨y,0,none⟩),.pointer (some ⟨z,0,none⟩)]] 312 (0,0))∧Bt (fun k=>k=bw∨k=bs∨k=o) w w':=by
 have hO1:=fun q=>blk4 (z01 hO q)
 have nO1:=z0t hO (by decide) h.words
 have nO2:=z0t hO (by decide) h.steps
 have lO:=z02 hO
 have m0:w.heap.size≠o:=by omega
 have m1:w.heap.size+1≠o:=by omega
 have m2:w.heap.size+1+1≠o:=by omega
 go_enter Tryz.func305,Tryz.ntmps305
 go_wp2
 go_cut [3,4] (fun s3 s4 wx=>∃ p q,s3=.pointer (some ⟨p,0,none⟩)∧s4=.pointer (some ⟨q,0,none⟩)∧Md w b bw bs W G o ws' cs' (.cells #[.int .i64 n,.int .i64 t,.int .i64 i,.func (.func 252) #[] #[.pointer (some ⟨x,0,none⟩),.pointer (some ⟨y,0,none⟩),.pointer (some ⟨z,0,none⟩)]] 312 (0,0)) (.cells #[.bool false,.int .i64 0,.bool false] 298 (0,0)) wx∧wx.heap[p]?=some (.cells #[.int .i64 n',.int .i64 t',.int .i64 i'] 306 (0,0))∧wx.heap[q]?=some (.cells #[.bool v0,.int .i64 v1,.bool v2] 298 (0,0))∧w.heap.size<q)
 case first =>
  go_region_held3 (fun w'=>w'.cell? ⟨o,0,none⟩=some (.int .i64 n)∧w'.cell? ⟨o,1,none⟩=some (.int .i64 t)∧w'.cell? ⟨o,2,none⟩=some (.int .i64 i)∧w'.cell? ⟨o,3,none⟩=some (.func (.func 252) #[] #[.pointer (some ⟨x,0,none⟩),.pointer (some ⟨y,0,none⟩),.pointer (some ⟨z,0,none⟩)])) (go_keep)
   ((go_at_call 252;refine (hc _ (by first|exact bel3 _ _ _ _|exact bel2 _ _ _|exact bel1 _ _)).mono ?_;rintro e w1 ⟨rfl,hA,hB⟩;(first
    | (have hL:=zdw h.lts.1 h.lts.2 hB;have hO2:=z8s hO (bel3 _ _ _ _) hB nO1 nO2;have hR:=hL.1;have h1:=hL.2.1;have h2:=hL.2.2;have hT:=(Bt.of_below (bel3 _ _ _ _)).trans (Bt.ar3 (o:=o) hB);have l1:=z02 h1;have l2:=z02 h2;(first|have b1:=blk3 h1|have b1:=blk4 h1);(first|have b2:=blk3 h2|have b2:=blk4 h2);have z1:=frz h1;have z2:=frz h2)
    | (have hL:=zdu h.lts.1 h.lts.2 hB;have hO2:=z8s hO (bel2 _ _ _) hB nO1 nO2;have hR:=hL.1;have h1:=hL.2;have hT:=(Bt.of_below (bel2 _ _ _)).trans (Bt.ar3 (o:=o) hB);have l1:=z02 h1;(first|have b1:=blk3 h1|have b1:=blk4 h1);have z1:=frz h1)
    | (have hR:=zd8 h.lts.1 h.lts.2 hB;have hO2:=z8s hO (bel1 _ _) hB nO1 nO2;have hT:=(Bt.of_below (bel1 _ _)).trans (Bt.ar3 (o:=o) hB)));have l0:=z02 hR;have bO:=blk4 hO2;have zO:=frz hO2;have k0:w1.heap.size≠o:=(by have:=z02 hO2;omega);have k1:w1.heap.size+1≠o:=(by have:=z02 hO2;omega);have hM:Md w b bw bs W G o ws' cs' _ _ w1:=⟨hA,hO2,hR,hT⟩))
  ·as_aux_lemma =>
    go_wp2_with fail
    go_meet
    exact⟨_,_,rfl,rfl,(hM.alloc _).alloc _,old2 _ _,new2 _ _,by omega⟩
  ·as_aux_lemma =>
    go_wp2_with fail
    go_meet
    exact⟨_,_,rfl,rfl,(hM.alloc _).alloc _,new2 _ _,old2 _ _,by omega⟩
  ·as_aux_lemma =>
    go_wp2_with fail
    go_meet
    exact⟨_,_,rfl,rfl,(hM.sets3 h lO _ _ _ _ (by omega)).alloc _,z01 (z0c h1 _ _ _) _,z3d _ _ _ _ _ _,by omega⟩
  ·as_aux_lemma =>
    go_wp2_with fail
    go_meet
    exact⟨_,_,rfl,rfl,(hM.sets3 h lO _ _ _ _ (by omega)).sets3 h lO _ _ _ _ (by omega),(z0b _ _ _ _ _ (by omega)).trans (z0c h1 _ _ _),z0c ((z0b _ _ _ _ _ (by omega)).trans h2) _ _ _,by omega⟩
  ·as_aux_lemma =>
    go_wp2_with fail
    go_meet
    exact⟨_,_,rfl,rfl,(hM.sets3 h lO _ _ _ _ (by omega)).alloc _,z3d _ _ _ _ _ _,z01 (z0c h1 _ _ _) _,by omega⟩
  ·as_aux_lemma =>
    go_wp2_with fail
    go_meet
    exact⟨_,_,rfl,rfl,(hM.sets3 h lO _ _ _ _ (by omega)).sets3 h lO _ _ _ _ (by omega),(z0b _ _ _ _ _ (by omega)).trans (z0c h2 _ _ _),z0c ((z0b _ _ _ _ _ (by omega)).trans h1) _ _ _,by omega⟩
 case rest =>
  obtain⟨p,q,rfl,rfl,hM,hp,hq,lq⟩:=hcut
  have bp:=blk3 hp
  have bq:=blk3 hq
  have bO:=blk4 hM.op
  have zO:=frz hM.op
  have bR:=blk3 hM.res
  have zR:=frz hM.res
  have e1:o≠p:=by rintro rfl;rw[hM.op] at hp;simp at hp
  have e2:q≠o:=by rintro rfl;rw[hM.op] at hq;simp at hq
  have e3:w.heap.size≠q:=by omega
  go_wp2
  refine bodyPost_ret (results_cell_row rfl _ _ w.heap.size 298 #[.bool v0,.int .i64 v1,.bool v2] (0,0) _ rfl ?_ Tryz.underlying298 rfl z1Z) rfl ⟨rfl,?_,?_,?_⟩
  ·exact z0c ((z0b _ _ _ _ _ (by omega)).trans hM.res) _ _ _
  ·exact h.sets3 (((hM.ar.other (ne_b hM.ar hM.op (by decide)) nO1 nO2 0 _).other (ne_b hM.ar hM.op (by decide)) nO1 nO2 1 _).other (ne_b hM.ar hM.op (by decide)) nO1 nO2 2 _) _ _ _ _ (by omega)
  ·exact (z0b _ _ _ _ _ (by omega)).trans (z05 (z05 (z05 hM.op 0 _) 1 _) 2 _)
  ·exact (((((hM.bt.set o 0 _ (.inl (.inr (.inr rfl)))).set o 1 _ (.inl (.inr (.inr rfl)))).set o 2 _ (.inl (.inr (.inr rfl)))).set w.heap.size 0 _ (.inr (Nat.le_refl _))).set w.heap.size 1 _ (.inr (Nat.le_refl _))).set w.heap.size 2 _ (.inr (Nat.le_refl _))
theorem z88 {w:World}{b bw bs W G:Nat}{ws cs:Nat→Int}(h:Ar w b bw bs W G ws cs) {ws' cs':Nat→Int}{o x y:Nat}{n t i d n' t' i' d' v1:Int}{v0 v2:Bool}(hO:w.heap[o]?=some (.cells #[.int .i64 n,.int .i64 t,.int .i64 i,.int .i64 d,.func (.func 256) #[] #[.pointer (some ⟨x,0,none⟩),.pointer (some ⟨y,0,none⟩)]] 319 (0,0)))
  (hc:∀ u,Below w.heap.size w u→Calls Tryz.prog 256 #[.agg #[.int .i64 n,.int .i64 t,.int .i64 i,.int .i64 d],.pointer (some ⟨x,0,none⟩),.pointer (some ⟨y,0,none⟩)] u fun e w'=>e=.returned (.tuple #[.agg #[.int .i64 n',.int .i64 t',.int .i64 i',.int .i64 d'],.agg #[.bool v0,.int .i64 v1,.bool v2]])∧Ar w' b bw bs W G ws' cs'∧But bw bs u w'):
  Calls Tryz.prog 306 #[.pointer (some ⟨o,0,none⟩)] w fun e w'=>e=.returned (.agg #[.bool v0,.int .i64 v1,.bool v2])∧Ar w' b bw bs W G ws' cs'∧w'.heap[o]?=some (.cells #[.int .i64 n',.int .i64 t',.int .i64 i',.int .i64 d',.func (.func 256) #[] #[.pointer (some ⟨x,0,none⟩),.pointer (some ⟨y,0,none⟩)]] 319 (0,0))∧Bt (fun k=>k=bw∨k=bs∨k=o) w w':=by
 have hO1:=fun q=>blk5 (z01 hO q)
 have nO1:=z0t hO (by decide) h.words
 have nO2:=z0t hO (by decide) h.steps
 have lO:=z02 hO
 have m0:w.heap.size≠o:=by omega
 have m1:w.heap.size+1≠o:=by omega
 have m2:w.heap.size+1+1≠o:=by omega
 go_enter Tryz.func306,Tryz.ntmps306
 go_wp2
 go_cut [3,4] (fun s3 s4 wx=>∃ p q,s3=.pointer (some ⟨p,0,none⟩)∧s4=.pointer (some ⟨q,0,none⟩)∧Md w b bw bs W G o ws' cs' (.cells #[.int .i64 n,.int .i64 t,.int .i64 i,.int .i64 d,.func (.func 256) #[] #[.pointer (some ⟨x,0,none⟩),.pointer (some ⟨y,0,none⟩)]] 319 (0,0)) (.cells #[.bool false,.int .i64 0,.bool false] 298 (0,0)) wx∧wx.heap[p]?=some (.cells #[.int .i64 n',.int .i64 t',.int .i64 i',.int .i64 d'] 314 (0,0))∧wx.heap[q]?=some (.cells #[.bool v0,.int .i64 v1,.bool v2] 298 (0,0))∧w.heap.size<q)
 case first =>
  go_region_held3 (fun w'=>w'.cell? ⟨o,0,none⟩=some (.int .i64 n)∧w'.cell? ⟨o,1,none⟩=some (.int .i64 t)∧w'.cell? ⟨o,2,none⟩=some (.int .i64 i)∧w'.cell? ⟨o,3,none⟩=some (.int .i64 d)∧w'.cell? ⟨o,4,none⟩=some (.func (.func 256) #[] #[.pointer (some ⟨x,0,none⟩),.pointer (some ⟨y,0,none⟩)])) (go_keep)
   ((go_at_call 256;refine (hc _ (by first|exact bel3 _ _ _ _|exact bel2 _ _ _|exact bel1 _ _)).mono ?_;rintro e w1 ⟨rfl,hA,hB⟩;(first
    | (have hL:=zdw h.lts.1 h.lts.2 hB;have hO2:=z8s hO (bel3 _ _ _ _) hB nO1 nO2;have hR:=hL.1;have h1:=hL.2.1;have h2:=hL.2.2;have hT:=(Bt.of_below (bel3 _ _ _ _)).trans (Bt.ar3 (o:=o) hB);have l1:=z02 h1;have l2:=z02 h2;(first|have b1:=blk3 h1|have b1:=blk4 h1);(first|have b2:=blk3 h2|have b2:=blk4 h2);have z1:=frz h1;have z2:=frz h2)
    | (have hL:=zdu h.lts.1 h.lts.2 hB;have hO2:=z8s hO (bel2 _ _ _) hB nO1 nO2;have hR:=hL.1;have h1:=hL.2;have hT:=(Bt.of_below (bel2 _ _ _)).trans (Bt.ar3 (o:=o) hB);have l1:=z02 h1;(first|have b1:=blk3 h1|have b1:=blk4 h1);have z1:=frz h1)
    | (have hR:=zd8 h.lts.1 h.lts.2 hB;have hO2:=z8s hO (bel1 _ _) hB nO1 nO2;have hT:=(Bt.of_below (bel1 _ _)).trans (Bt.ar3 (o:=o) hB)));have l0:=z02 hR;have bO:=blk5 hO2;have zO:=frz hO2;have k0:w1.heap.size≠o:=(by have:=z02 hO2;omega);have k1:w1.heap.size+1≠o:=(by have:=z02 hO2;omega);have hM:Md w b bw bs W G o ws' cs' _ _ w1:=⟨hA,hO2,hR,hT⟩))
  ·as_aux_lemma =>
    go_wp2_with fail
    go_meet
    exact⟨_,_,rfl,rfl,(hM.alloc _).alloc _,old2 _ _,new2 _ _,by omega⟩
  ·as_aux_lemma =>
    go_wp2_with fail
    go_meet
    exact⟨_,_,rfl,rfl,(hM.alloc _).alloc _,new2 _ _,old2 _ _,by omega⟩
  ·as_aux_lemma =>
    go_wp2_with fail
    go_meet
    exact⟨_,_,rfl,rfl,(hM.sets4 h lO _ _ _ _ _ (by omega)).alloc _,z01 (z18 h1 _ _ _ _) _,zbb _ _ _ _ _ _ _,by omega⟩
  ·as_aux_lemma =>
    go_wp2_with fail
    go_meet
    exact⟨_,_,rfl,rfl,(hM.sets4 h lO _ _ _ _ _ (by omega)).sets3 h lO _ _ _ _ (by omega),(z0b _ _ _ _ _ (by omega)).trans (z18 h1 _ _ _ _),z0c ((z0Q _ _ _ _ _ _ (by omega)).trans h2) _ _ _,by omega⟩
  ·as_aux_lemma =>
    go_wp2_with fail
    go_meet
    exact⟨_,_,rfl,rfl,(hM.sets3 h lO _ _ _ _ (by omega)).alloc _,z3d _ _ _ _ _ _,z01 (z0c h1 _ _ _) _,by omega⟩
  ·as_aux_lemma =>
    go_wp2_with fail
    go_meet
    exact⟨_,_,rfl,rfl,(hM.sets4 h lO _ _ _ _ _ (by omega)).sets3 h lO _ _ _ _ (by omega),(z0b _ _ _ _ _ (by omega)).trans (z18 h2 _ _ _ _),z0c ((z0Q _ _ _ _ _ _ (by omega)).trans h1) _ _ _,by omega⟩
 case rest =>
  obtain⟨p,q,rfl,rfl,hM,hp,hq,lq⟩:=hcut
  have bp:=blk4 hp
  have bq:=blk3 hq
  have bO:=blk5 hM.op
  have zO:=frz hM.op
  have bR:=blk3 hM.res
  have zR:=frz hM.res
  have e1:o≠p:=by rintro rfl;rw[hM.op] at hp;simp at hp
  have e2:q≠o:=by rintro rfl;rw[hM.op] at hq;simp at hq
  have e3:w.heap.size≠q:=by omega
  go_wp2
  refine bodyPost_ret (results_cell_row rfl _ _ w.heap.size 298 #[.bool v0,.int .i64 v1,.bool v2] (0,0) _ rfl ?_ Tryz.underlying298 rfl z1Z) rfl ⟨rfl,?_,?_,?_⟩
  ·exact z0c ((z0Q _ _ _ _ _ _ (by omega)).trans hM.res) _ _ _
  ·exact h.sets3 ((((hM.ar.other (ne_b hM.ar hM.op (by decide)) nO1 nO2 0 _).other (ne_b hM.ar hM.op (by decide)) nO1 nO2 1 _).other (ne_b hM.ar hM.op (by decide)) nO1 nO2 2 _).other (ne_b hM.ar hM.op (by decide)) nO1 nO2 3 _) _ _ _ _ (by omega)
  ·exact (z0b _ _ _ _ _ (by omega)).trans (z05 (z05 (z05 (z05 hM.op 0 _) 1 _) 2 _) 3 _)
  ·exact ((((((hM.bt.set o 0 _ (.inl (.inr (.inr rfl)))).set o 1 _ (.inl (.inr (.inr rfl)))).set o 2 _ (.inl (.inr (.inr rfl)))).set o 3 _ (.inl (.inr (.inr rfl)))).set w.heap.size 0 _ (.inr (Nat.le_refl _))).set w.heap.size 1 _ (.inr (Nat.le_refl _))).set w.heap.size 2 _ (.inr (Nat.le_refl _))
end Go.Proofs.YthkelaeemefnaaaGreat
namespace Go.Proofs.YthkelaeemefnaaaGreat
open Go.RowKit
inductive Op where
 | idle
 | push (item n t i:Int)
 | pop (n t i d:Int)
def Op.link:Op→Int
 | .push item _ _ _=>item
 | _=>0
def Op.val:Op→Nat→Value
 | .idle,_=>.nilIface
 | .push _ _ _ _,o=>.iface 293 (.pointer (some ⟨o,0,none⟩))
 | .pop _ _ _ _,o=>.iface 295 (.pointer (some ⟨o,0,none⟩))
def z5G (b bt bu bl base cap:Nat) (ops:Nat→Op) (ob:Nat→Nat) (j:Nat):Value :=
 if j<9 then ([.pointer (some ⟨b,0,none⟩),.pointer (some ⟨b,0,none⟩),.func (.func 182) #[] #[.pointer (some ⟨bt,0,none⟩)],.func (.func 183) #[] #[.pointer (some ⟨bu,0,none⟩)],.pointer (some ⟨b,0,none⟩),.func (.func 184) #[] #[.pointer (some ⟨bl,0,none⟩)],.func (.func 181) #[] #[],.int .i64 base,.int .i64 cap]:List Value)[j]?.getD .nilFunc else if (j-9)%2=0 then (ops ((j-9)/2)).val (ob ((j-9)/2)) else .int .i64 (ops ((j-9)/2)).link
def Tk (w:World) (P:Nat→Prop) (b bw bs bt bu bl base cap g:Nat):Op→Nat→Prop
 | .idle,_=>True
 | .push item n t i,o=>P o∧∃ x y z,P x∧P y∧P z∧w.heap[o]?=some (.cells #[.int .i64 n,.int .i64 t,.int .i64 i,.func (.func 252) #[] #[.pointer (some ⟨x,0,none⟩),.pointer (some ⟨y,0,none⟩),.pointer (some ⟨z,0,none⟩)]] 312 (0,0)) ∧
   w.heap[x]?=some (.cells #[.pointer (some ⟨b,0,none⟩),.func (.func 182) #[] #[.pointer (some ⟨bt,0,none⟩)],.func (.func 183) #[] #[.pointer (some ⟨bu,0,none⟩)],.pointer (some ⟨b,0,none⟩),.func (.func 184) #[] #[.pointer (some ⟨bl,0,none⟩)],.func (.func 181) #[] #[],.int .i64 base,.int .i64 cap] 238 (0,0))∧w.heap[y]?=some (.cells #[.int .i64 g] 3 (0,0))∧y≠bw∧y≠bs∧w.heap[z]?=some (.cells #[.int .i64 item] 241 (0,0))
 | .pop n t i d,o=>P o∧∃ x y,P x∧P y∧w.heap[o]?=some (.cells #[.int .i64 n,.int .i64 t,.int .i64 i,.int .i64 d,.func (.func 256) #[] #[.pointer (some ⟨x,0,none⟩),.pointer (some ⟨y,0,none⟩)]] 319 (0,0)) ∧
   w.heap[x]?=some (.cells #[.pointer (some ⟨b,0,none⟩),.func (.func 182) #[] #[.pointer (some ⟨bt,0,none⟩)],.func (.func 183) #[] #[.pointer (some ⟨bu,0,none⟩)],.pointer (some ⟨b,0,none⟩),.func (.func 184) #[] #[.pointer (some ⟨bl,0,none⟩)],.func (.func 181) #[] #[],.int .i64 base,.int .i64 cap] 238 (0,0))∧w.heap[y]?=some (.cells #[.int .i64 g] 3 (0,0))∧y≠bw∧y≠bs
structure Stk (w:World) (P:Nat→Prop) (s b bw bs bt bu bl W G base cap:Nat) (ws cs:Nat→Int) (ops:Nat→Op) (ob:Nat→Nat):Prop where
 ar:Ar w b bw bs W G ws cs
 bx:Bx w bw bs bt bu bl ((cap:Int)+1)
 here:w.rowIs s 246 33 (z5G b bt bu bl base cap ops ob)
 tk:∀ g,g<G→Tk w P b bw bs bt bu bl base cap g (ops g) (ob g)
 apart:∀ g h,g<G→h<G→g≠h→ops g≠.idle→ops h≠.idle→ob g≠ob h
 rest:∀ g,G≤g→ops g=.idle
 foot:P s∧P b∧P bw∧P bs∧P bt∧P bu∧P bl
 lt:∀ k,P k→k<w.heap.size
 few:G≤12
 big:W≤65536
 base1:base+cap<W
 cap1:1≤cap
 cap2:cap≤1000
section
variable {w w':World}{P:Nat→Prop}{s b bw bs bt bu bl W G base cap:Nat}{ws cs:Nat→Int}{ops:Nat→Op}{ob:Nat→Nat}
theorem Tk.keep {g o:Nat}{op:Op}(h:Tk w P b bw bs bt bu bl base cap g op o) (e:∀ k,P k→w'.heap[k]?=w.heap[k]?):Tk w' P b bw bs bt bu bl base cap g op o:=by
 cases op with
 | idle=>trivial
 | push item n t i =>
  obtain⟨p0,x,y,z,p1,p2,p3,h1,h2,h3,y1,y2,h4⟩:=h
  exact⟨p0,x,y,z,p1,p2,p3,(e o p0).trans h1,(e x p1).trans h2,(e y p2).trans h3,y1,y2,(e z p3).trans h4⟩
 | pop n t i d =>
  obtain⟨p0,x,y,p1,p2,h1,h2,h3,y1,y2⟩:=h
  exact⟨p0,x,y,p1,p2,(e o p0).trans h1,(e x p1).trans h2,(e y p2).trans h3,y1,y2⟩
theorem Tk.wide {Q:Nat→Prop}{g o:Nat}{op:Op}(h:Tk w P b bw bs bt bu bl base cap g op o) (e:∀ k,P k→Q k):Tk w Q b bw bs bt bu bl base cap g op o:=by
 cases op with
 | idle=>trivial
 | push item n t i =>
  obtain⟨p0,x,y,z,p1,p2,p3,h1⟩:=h
  exact⟨e _ p0,x,y,z,e _ p1,e _ p2,e _ p3,h1⟩
 | pop n t i d =>
  obtain⟨p0,x,y,p1,p2,h1⟩:=h
  exact⟨e _ p0,x,y,e _ p1,e _ p2,h1⟩
theorem Stk.keep (h:Stk w P s b bw bs bt bu bl W G base cap ws cs ops ob) (e:∀ k,P k→w'.heap[k]?=w.heap[k]?) (hs:w.heap.size≤w'.heap.size):Stk w' P s b bw bs bt bu bl W G base cap ws cs ops ob:=by
 obtain⟨f0,f1,f2,f3,f4,f5,f6⟩:=h.foot
 exact⟨⟨(e _ f1).trans h.ar.here,h.ar.words.of_block (e _ f2),h.ar.steps.of_block (e _ f3),h.ar.part⟩,
  ⟨(e _ f4).trans h.bx.t,(e _ f5).trans h.bx.u,(e _ f6).trans h.bx.l,h.bx.t1,h.bx.t2,h.bx.u1,h.bx.u2,h.bx.l1,h.bx.l2⟩,
  h.here.of_block (e _ f0),fun g hg=>(h.tk g hg).keep e,h.apart,h.rest,h.foot,fun k hk=>Nat.lt_of_lt_of_le (h.lt k hk) hs,h.few,h.big,h.base1,h.cap1,h.cap2⟩
theorem Stk.below (h:Stk w P s b bw bs bt bu bl W G base cap ws cs ops ob) (e:Below w.heap.size w w'):Stk w' P s b bw bs bt bu bl W G base cap ws cs ops ob:=h.keep (fun k hk=>e.block k (h.lt k hk)) e.size
theorem Stk.alloc (h:Stk w P s b bw bs bt bu bl W G base cap ws cs ops ob) (o:Obj):Stk (w.alloc o) P s b bw bs bt bu bl W G base cap ws cs ops ob:=h.below ((Below.refl _ _).alloc (Nat.le_refl _) o)
theorem Stk.put (h:Stk w P s b bw bs bt bu bl W G base cap ws cs ops ob) {r:Nat}(hr:¬ P r) (i:Nat) (v:Value):Stk (w.setCell ⟨r,i,none⟩ v) P s b bw bs bt bu bl W G base cap ws cs ops ob :=
 h.keep (fun k hk=>z03 _ _ (by show k≠r;rintro rfl;exact hr hk)) (by simp[World.setCell])
theorem Stk.c0 (h:Stk w P s b bw bs bt bu bl W G base cap ws cs ops ob):w.cell? ⟨s,0,none⟩=some (.pointer (some ⟨b,0,none⟩)):=h.here.cell (i:=0) (by omega)
theorem Stk.cw (h:Stk w P s b bw bs bt bu bl W G base cap ws cs ops ob):w.cell? ⟨s,1,none⟩=some (.pointer (some ⟨b,0,none⟩))∧w.cell? ⟨s,2,none⟩=some (.func (.func 182) #[] #[.pointer (some ⟨bt,0,none⟩)])∧w.cell? ⟨s,3,none⟩=some (.func (.func 183) #[] #[.pointer (some ⟨bu,0,none⟩)])∧w.cell? ⟨s,4,none⟩=some (.pointer (some ⟨b,0,none⟩))∧w.cell? ⟨s,5,none⟩=some (.func (.func 184) #[] #[.pointer (some ⟨bl,0,none⟩)])∧w.cell? ⟨s,6,none⟩=some (.func (.func 181) #[] #[])∧w.cell? ⟨s,7,none⟩=some (.int .i64 base)∧w.cell? ⟨s,8,none⟩=some (.int .i64 cap) :=
 ⟨h.here.cell (i:=1) (by omega),h.here.cell (i:=2) (by omega),h.here.cell (i:=3) (by omega),h.here.cell (i:=4) (by omega),h.here.cell (i:=5) (by omega),h.here.cell (i:=6) (by omega),h.here.cell (i:=7) (by omega),h.here.cell (i:=8) (by omega)⟩
theorem z3k (b bt bu bl base cap:Nat) (ops:Nat→Op) (ob:Nat→Nat) (g:Nat):z5G b bt bu bl base cap ops ob (9+g*2)=(ops g).val (ob g):=by
 have e1:¬ (9+g*2<9):=by omega
 have e2:(9+g*2-9)%2=0:=by omega
 have e3:(9+g*2-9)/2=g:=by omega
 simp only[z5G,e1,e2,e3,if_true,if_false]
theorem z2J (b bt bu bl base cap:Nat) (ops:Nat→Op) (ob:Nat→Nat) (g:Nat):z5G b bt bu bl base cap ops ob (9+g*2+1)=.int .i64 (ops g).link:=by
 have e1:¬ (9+g*2+1<9):=by omega
 have e2:¬ ((9+g*2+1-9)%2=0):=by omega
 have e3:(9+g*2+1-9)/2=g:=by omega
 simp only[z5G,e1,e2,e3,if_false]
theorem Stk.cv (h:Stk w P s b bw bs bt bu bl W G base cap ws cs ops ob) (g:Nat) (hg:g<12):w.cell? ⟨s,9+g*2,none⟩=some ((ops g).val (ob g)):=by
 rw[h.here.cell (i:=9+g*2) (by omega),z3k]
theorem Stk.cl (h:Stk w P s b bw bs bt bu bl W G base cap ws cs ops ob) (g:Nat) (hg:g<12):w.cell? ⟨s,9+g*2+1,none⟩=some (.int .i64 (ops g).link):=by
 rw[h.here.cell (i:=9+g*2+1) (by omega),z2J]
def z0v (ops:Nat→Op) (g:Nat) (op:Op):Nat→Op:=fun j=>if j=g then op else ops j
def updN (ob:Nat→Nat) (g o:Nat):Nat→Nat:=fun j=>if j=g then o else ob j
theorem z0C (ops:Nat→Op) (g:Nat) (op:Op):z0v ops g op g=op:=by simp[z0v]
theorem z0e (ops:Nat→Op) {g j:Nat}(op:Op) (h:j≠g):z0v ops g op j=ops j:=by simp[z0v,h]
theorem z4L (ob:Nat→Nat) (g o:Nat):updN ob g o g=o:=by simp[updN]
theorem z1z (ob:Nat→Nat) {g j:Nat}(o:Nat) (h:j≠g):updN ob g o j=ob j:=by simp[updN,h]
theorem z2E (ob:Nat→Nat) (g:Nat):updN ob g (ob g)=ob:=by funext j;unfold updN;split<;>simp_all
theorem z1v {x ty r n:Nat}{c:Array Value}{f:Nat→Value}(h:w.heap[x]?=some (.cells c ty (0,0))) (ht:ty≠246) (hr:w.rowIs r 246 n f):x≠r:=by
 rintro rfl
 obtain⟨d,hd,_⟩:=hr
 rw[h] at hd;simp at hd;exact ht hd.2
theorem z1W {x r n m:Nat}{f f':Nat→Value}(h:w.rowIs x 3 m f') (hr:w.rowIs r 246 n f):x≠r:=by
 obtain⟨c,hc,_⟩:=h
 exact z1v hc (by decide) hr
theorem Tk.beside {g o n:Nat}{op:Op}{f:Nat→Value}(h:Tk w P b bw bs bt bu bl base cap g op o) (hs:w.rowIs s 246 n f) (e:∀ k,k≠s→w'.heap[k]?=w.heap[k]?):Tk w' P b bw bs bt bu bl base cap g op o:=by
 cases op with
 | idle=>trivial
 | push item n t i =>
  obtain⟨p0,x,y,z,p1,p2,p3,h1,h2,h3,y1,y2,h4⟩:=h
  exact⟨p0,x,y,z,p1,p2,p3,(e o (z1v h1 (by decide) hs)).trans h1,(e x (z1v h2 (by decide) hs)).trans h2,(e y (z1v h3 (by decide) hs)).trans h3,y1,y2,(e z (z1v h4 (by decide) hs)).trans h4⟩
 | pop n t i d =>
  obtain⟨p0,x,y,p1,p2,h1,h2,h3,y1,y2⟩:=h
  exact⟨p0,x,y,p1,p2,(e o (z1v h1 (by decide) hs)).trans h1,(e x (z1v h2 (by decide) hs)).trans h2,(e y (z1v h3 (by decide) hs)).trans h3,y1,y2⟩
theorem z3Y (ops:Nat→Op) (ob:Nat→Nat) (g o:Nat) (op:Op) (j:Nat):
  (if j=9+g*2+1 then Value.int .i64 op.link else if j=9+g*2 then op.val o else z5G b bt bu bl base cap ops ob j)=z5G b bt bu bl base cap (z0v ops g op) (updN ob g o) j:=by
 by_cases h1:j=9+g*2+1
 ·subst h1;rw[if_pos rfl,z2J,z0C]
 ·rw[if_neg h1]
  by_cases h2:j=9+g*2
  ·subst h2;rw[if_pos rfl,z3k,z0C,z4L]
  ·rw[if_neg h2]
   unfold z5G
   by_cases h3:j<9
   ·rw[if_pos h3,if_pos h3]
   ·have hne:(j-9)/2≠g:=by omega
    rw[if_neg h3,if_neg h3,z0e _ _ hne,z1z _ _ hne]
theorem Stk.task {P':Nat→Prop}(h:Stk w P s b bw bs bt bu bl W G base cap ws cs ops ob) (hP:∀ k,P k→P' k) (hlt:∀ k,P' k→k<w.heap.size) (g:Nat) (hg:g<G) (op:Op) (o:Nat) (ht:Tk w P' b bw bs bt bu bl base cap g op o)
  (hap:∀ j,j<G→j≠g→ops j≠.idle→op≠.idle→ob j≠o):
  Stk ((w.setCell ⟨s,9+g*2,none⟩ (op.val o)).setCell ⟨s,9+g*2+1,none⟩ (.int .i64 op.link)) P' s b bw bs bt bu bl W G base cap ws cs (z0v ops g op) (updN ob g o):=by
 have e:∀ k,k≠s→((w.setCell ⟨s,9+g*2,none⟩ (op.val o)).setCell ⟨s,9+g*2+1,none⟩ (.int .i64 op.link)).heap[k]?=w.heap[k]?:=fun k hk=>by rw[z03 _ _ hk,z03 _ _ hk]
 have hs:=h.here
 obtain⟨f0,f1,f2,f3,f4,f5,f6⟩:=h.foot
 refine⟨⟨(e _ (z1v h.ar.here (by decide) hs)).trans h.ar.here,h.ar.words.of_block (e _ (z1W h.ar.words hs)),h.ar.steps.of_block (e _ (z1W h.ar.steps hs)),h.ar.part⟩,
  ⟨(e _ (z1v h.bx.t (by decide) hs)).trans h.bx.t,(e _ (z1v h.bx.u (by decide) hs)).trans h.bx.u,(e _ (z1v h.bx.l (by decide) hs)).trans h.bx.l,h.bx.t1,h.bx.t2,h.bx.u1,h.bx.u2,h.bx.l1,h.bx.l2⟩,
  ?_,?_,?_,?_,⟨hP _ f0,hP _ f1,hP _ f2,hP _ f3,hP _ f4,hP _ f5,hP _ f6⟩,fun k hk=>by simpa [World.setCell] using hlt k hk,h.few,h.big,h.base1,h.cap1,h.cap2⟩
 ·exact ((hs.set (9+g*2) (op.val o)).set (9+g*2+1) (.int .i64 op.link)).congr fun j _=>z3Y ops ob g o op j
 ·intro j hj
  by_cases hjg:j=g
  ·subst hjg;rw[z0C,z4L];exact ht.beside hs e
  ·rw[z0e _ _ hjg,z1z _ _ hjg];exact ((h.tk j hj).wide hP).beside hs e
 ·intro i j hi hj hij hi' hj'
  by_cases h1:i=g
  ·subst h1
   have h2:j≠i:=fun x=>hij x.symm
   rw[z0C] at hi';rw[z0e _ _ h2] at hj';rw[z4L,z1z _ _ h2]
   exact fun x=>hap j hj h2 hj' hi' x.symm
  ·by_cases h2:j=g
   ·subst h2
    rw[z0e _ _ h1] at hi';rw[z0C] at hj';rw[z1z _ _ h1,z4L]
    exact hap i hi h1 hi' hj'
   ·rw[z0e _ _ h1] at hi';rw[z0e _ _ h2] at hj';rw[z1z _ _ h1,z1z _ _ h2]
    exact h.apart i j hi hj hij hi' hj'
 ·intro j hj;rw[z0e _ _ (by omega)];exact h.rest j hj
theorem Tk.off {g o k:Nat}{op:Op}{c:Array Value}{ty:Nat}(h:Tk w P b bw bs bt bu bl base cap g op o) (hk:w.heap[k]?=some (.cells c ty (0,0))) (ht:ty=312∨ty=319) (ho:op≠.idle→o≠k) (hA:Ar w b bw bs W G ws cs) {P':Nat→Prop}(e:∀ j,j<w.heap.size→¬ (j=bw∨j=bs∨j=k)→w'.heap[j]?=w.heap[j]?) (hP:∀ j,P j→P' j):Tk w' P' b bw bs bt bu bl base cap g op o:=by
 have n78:∀ {x:Nat} {d:Array Value} {uy:Nat},w.heap[x]?=some (.cells d uy (0,0))→uy≠ty→x≠k:=by
  rintro x d uy hx hu rfl;rw[hx] at hk;simp at hk;exact hu hk.2
 cases op with
 | idle=>trivial
 | push item n t i =>
  obtain⟨p0,x,y,z,p1,p2,p3,h1,h2,h3,y1,y2,h4⟩:=h
  refine⟨hP _ p0,x,y,z,hP _ p1,hP _ p2,hP _ p3,(e o (z02 h1) ?_).trans h1,(e x (z02 h2) ?_).trans h2,(e y (z02 h3) ?_).trans h3,y1,y2,(e z (z02 h4) ?_).trans h4⟩
  ·exact fun q=>by rcases q with q|q|q;exact z0t h1 (by decide) hA.words q;exact z0t h1 (by decide) hA.steps q;exact ho (by simp) q
  ·exact fun q=>by rcases q with q|q|q;exact z0t h2 (by decide) hA.words q;exact z0t h2 (by decide) hA.steps q;exact n78 h2 (by rcases ht with r|r<;>rw[r]<;>decide) q
  ·exact fun q=>by rcases q with q|q|q;exact y1 q;exact y2 q;exact n78 h3 (by rcases ht with r|r<;>rw[r]<;>decide) q
  ·exact fun q=>by rcases q with q|q|q;exact z0t h4 (by decide) hA.words q;exact z0t h4 (by decide) hA.steps q;exact n78 h4 (by rcases ht with r|r<;>rw[r]<;>decide) q
 | pop n t i d =>
  obtain⟨p0,x,y,p1,p2,h1,h2,h3,y1,y2⟩:=h
  refine⟨hP _ p0,x,y,hP _ p1,hP _ p2,(e o (z02 h1) ?_).trans h1,(e x (z02 h2) ?_).trans h2,(e y (z02 h3) ?_).trans h3,y1,y2⟩
  ·exact fun q=>by rcases q with q|q|q;exact z0t h1 (by decide) hA.words q;exact z0t h1 (by decide) hA.steps q;exact ho (by simp) q
  ·exact fun q=>by rcases q with q|q|q;exact z0t h2 (by decide) hA.words q;exact z0t h2 (by decide) hA.steps q;exact n78 h2 (by rcases ht with r|r<;>rw[r]<;>decide) q
  ·exact fun q=>by rcases q with q|q|q;exact y1 q;exact y2 q;exact n78 h3 (by rcases ht with r|r<;>rw[r]<;>decide) q
theorem Stk.turn (h:Stk w P s b bw bs bt bu bl W G base cap ws cs ops ob) {ws' cs':Nat→Int}{g:Nat}(hg:g<G) {op:Op}{c:Array Value}{ty:Nat}(hO:w.heap[ob g]?=some (.cells c ty (0,0))) (ht:ty=312∨ty=319)
  (hb:ops g≠.idle) (hv:op.val (ob g)=(ops g).val (ob g)) (hl:op.link=(ops g).link) (hA:Ar w' b bw bs W G ws' cs') (hB:Bt (fun k=>k=bw∨k=bs∨k=ob g) w w') (hT:Tk w' P b bw bs bt bu bl base cap g op (ob g)):
  Stk w' P s b bw bs bt bu bl W G base cap ws' cs' (z0v ops g op) ob:=by
 have e:=hB.block
 have nk:∀ {x:Nat} {d:Array Value} {uy:Nat},w.heap[x]?=some (.cells d uy (0,0))→uy≠ty→x≠ob g:=by
  rintro x d uy hx hu rfl;rw[hx] at hO;simp at hO;exact hu hO.2
 have h3:(3:Nat)≠ty:=by rcases ht with r|r<;>rw[r]<;>decide
 have hs:=h.here
 refine⟨hA,⟨(e _ (z02 h.bx.t) ?_).trans h.bx.t,(e _ (z02 h.bx.u) ?_).trans h.bx.u,(e _ (z02 h.bx.l) ?_).trans h.bx.l,h.bx.t1,h.bx.t2,h.bx.u1,h.bx.u2,h.bx.l1,h.bx.l2⟩,?_,?_,?_,?_,h.foot,fun k hk=>Nat.lt_of_lt_of_le (h.lt k hk) hB.size,h.few,h.big,h.base1,h.cap1,h.cap2⟩
 ·exact fun q=>by rcases q with q|q|q;exact h.bx.t1 q;exact h.bx.t2 q;exact nk h.bx.t h3 q
 ·exact fun q=>by rcases q with q|q|q;exact h.bx.u1 q;exact h.bx.u2 q;exact nk h.bx.u h3 q
 ·exact fun q=>by rcases q with q|q|q;exact h.bx.l1 q;exact h.bx.l2 q;exact nk h.bx.l h3 q
 ·refine (hs.of_block (e s hs.lt ?_)).congr fun j _=>?_
  ·exact fun q=>by rcases q with q|q|q;exact z1W h.ar.words hs q.symm;exact z1W h.ar.steps hs q.symm;exact z1v hO (by rcases ht with r|r<;>rw[r]<;>decide) hs q.symm
  ·rw[← z2E ob g,← z3Y (b:=b) (bt:=bt) (bu:=bu) (bl:=bl) (base:=base) (cap:=cap) ops ob g (ob g) op j,z2E,hv,hl]
   split
   ·next q=>subst q;rw[z2J]
   ·split
    ·next q=>subst q;rw[z3k]
    ·rfl
 ·intro j hj
  by_cases hjg:j=g
  ·subst hjg;rw[z0C];exact hT
  ·rw[z0e _ _ hjg]
   exact (h.tk j hj).off hO ht (fun hj'=>h.apart j g hj hg hjg hj' hb) h.ar e (fun _ x=>x)
 ·intro i j hi hj hij hi' hj'
  refine h.apart i j hi hj hij ?_ ?_
  ·by_cases q:i=g
   ·subst q;exact hb
   ·rwa [z0e _ _ q] at hi'
  ·by_cases q:j=g
   ·subst q;exact hb
   ·rwa [z0e _ _ q] at hj'
 ·intro j hj;rw[z0e _ _ (by omega)];exact h.rest j hj
end
theorem z1p {P:Program}{fn:Func}{t u v x:Tmp}(h:fn.results=#[.tmp t,.tmp u,.tmp v,.tmp x]) (tmps:Array Value) (w:World):(results fn tmps).run P w=.ok (.tuple #[tmps.getD t undef,tmps.getD u undef,tmps.getD v undef,tmps.getD x undef]) w:=by
 simp[results,h]
end Go.Proofs.YthkelaeemefnaaaGreat
namespace Go.Proofs.YthkelaeemefnaaaGreat
open Go.RowKit
theorem z1O (ops:Nat→Op) (g:Nat) (x y:Op):z0v (z0v ops g x) g y=z0v ops g y:=by funext j;unfold z0v;split<;>rfl
theorem z7E (p : Addr) (w : World) : (Go.method 445 293 (.pointer (some p)) "gneiss/stack.step").run Tryz.prog w = .ok (305, .pointer (some p)) w := by kernel_rfl
theorem z9f (p : Addr) (w : World) : (Go.method 445 295 (.pointer (some p)) "gneiss/stack.step").run Tryz.prog w = .ok (306, .pointer (some p)) w := by kernel_rfl
theorem z1V {w:World}{P:Nat→Prop}{s b bw bs bt bu bl W G base cap:Nat}{ws cs:Nat→Int}{ops:Nat→Op}{ob:Nat→Nat}(h:Stk w P s b bw bs bt bu bl W G base cap ws cs ops ob) {ws' cs':Nat→Int}{item n t i n' t' i' v1:Int}{v2:Bool}(g:Nat) (hg:g<G) (ho:ops g=Op.push item n t i)
  (hc:∀ x y z,w.heap[x]?=some (.cells #[.pointer (some ⟨b,0,none⟩),.func (.func 182) #[] #[.pointer (some ⟨bt,0,none⟩)],.func (.func 183) #[] #[.pointer (some ⟨bu,0,none⟩)],.pointer (some ⟨b,0,none⟩),.func (.func 184) #[] #[.pointer (some ⟨bl,0,none⟩)],.func (.func 181) #[] #[],.int .i64 base,.int .i64 cap] 238 (0,0))→w.heap[y]?=some (.cells #[.int .i64 g] 3 (0,0))→y≠bw→y≠bs→w.heap[z]?=some (.cells #[.int .i64 item] 241 (0,0))→∀ u,Below w.heap.size w u→Calls Tryz.prog 252 #[.agg #[.int .i64 n,.int .i64 t,.int .i64 i],.pointer (some ⟨x,0,none⟩),.pointer (some ⟨y,0,none⟩),.pointer (some ⟨z,0,none⟩)] u fun e w'=>e=.returned (.tuple #[.agg #[.int .i64 n',.int .i64 t',.int .i64 i'],.agg #[.bool false,.int .i64 v1,.bool v2]])∧Ar w' b bw bs W G ws' cs'∧But bw bs u w'):
  Calls Tryz.prog 243 #[.pointer (some ⟨s,0,none⟩),.int .i64 g] w fun e w'=>e=.returned (.tuple #[.bool false,.int .i64 v1,.bool v2,.int .i64 0])∧Stk w' P s b bw bs bt bu bl W G base cap ws' cs' (z0v ops g (Op.push item n' t' i')) ob∧Bt P w w':=by
 have c0:=h.c0
 have g12:(g:Int)<12:=by have:=h.few;omega
 have g12':g<12:=by have:=h.few;omega
 have cv:=h.cv g g12'
 have hT:=h.tk g hg
 rw[ho] at cv hT
 simp only[Op.val] at cv
 obtain⟨p0,x,y,z,p1,p2,p3,h1,h2,h3,y1,y2,h4⟩:=hT
 have hn:=z0k h.ar g (by omega) (by omega)
 have hc':=hc x y z h2 h3 y1 y2 h4
 clear hc
 have qx:¬ (x=bw∨x=bs∨x=ob g):=fun q=>by rcases q with q|q|q;exact z0t h2 (by decide) h.ar.words q;exact z0t h2 (by decide) h.ar.steps q;subst q;rw[h1] at h2;simp at h2
 have qy:¬ (y=bw∨y=bs∨y=ob g):=fun q=>by rcases q with q|q|q;exact y1 q;exact y2 q;subst q;rw[h1] at h3;simp at h3
 have qz:¬ (z=bw∨z=bs∨z=ob g):=fun q=>by rcases q with q|q|q;exact z0t h4 (by decide) h.ar.words q;exact z0t h4 (by decide) h.ar.steps q;subst q;rw[h1] at h4;simp at h4
 have key:∀ w1,Ar w1 b bw bs W G ws' cs'→w1.heap[ob g]?=some (.cells #[.int .i64 n',.int .i64 t',.int .i64 i',.func (.func 252) #[] #[.pointer (some ⟨x,0,none⟩),.pointer (some ⟨y,0,none⟩),.pointer (some ⟨z,0,none⟩)]] 312 (0,0))→Bt (fun k=>k=bw∨k=bs∨k=ob g) w w1→Stk w1 P s b bw bs bt bu bl W G base cap ws' cs' (z0v ops g (Op.push item n' t' i')) ob:=by
  intro w1 hA hO1 hB
  exact h.turn (op:=(Op.push item n' t' i')) hg h1 (by decide) (by rw[ho];simp) (by rw[ho];rfl) (by rw[ho];rfl) hA hB ⟨p0,x,y,z,p1,p2,p3,hO1,(hB.block x (z02 h2) qx).trans h2,(hB.block y (z02 h3) qy).trans h3,y1,y2,(hB.block z (z02 h4) qz).trans h4⟩
 have hF:=h.foot
 have hbt:∀ w1,Bt (fun k=>k=bw∨k=bs∨k=ob g) w w1→Bt P w w1:=fun w1 k=>k.mono fun j _ q=>by rcases q with q|q|q;exact q ▸ hF.2.2.1;exact q ▸ hF.2.2.2.1;exact q ▸ p0
 have hps:P s:=hF.1
 have hst:=z5C h.ar h1 hc'
 have kit:Hid (∀ w1,Ar w1 b bw bs W G ws' cs'→w1.heap[ob g]?=some (.cells #[.int .i64 n',.int .i64 t',.int .i64 i',.func (.func 252) #[] #[.pointer (some ⟨x,0,none⟩),.pointer (some ⟨y,0,none⟩),.pointer (some ⟨z,0,none⟩)]] 312 (0,0))→Bt (fun k=>k=bw∨k=bs∨k=ob g) w w1→Stk w1 P s b bw bs bt bu bl W G base cap ws' cs' (z0v ops g (Op.push item n' t' i')) ob∧Bt P w w1):=fun w1 a1 a2 a3=>⟨key w1 a1 a2 a3,hbt w1 a3⟩
 clear key hbt hF hc' qx qy qz p0 p1 p2 p3 h1 h2 h3 h4 y1 y2 ho h
 have hm:=z7E
 go_enter Tryz.func243,Tryz.ntmps243
 go_wp2_with (first|(go_at_call 115;refine hn.mono ?_;rintro e w1 ⟨rfl,rfl⟩)|(go_at_call 305;refine hst.mono ?_;rintro e w1 ⟨rfl,hA,hO1,hB⟩;obtain⟨hS,hS2⟩:=kit.out _ hA hO1 hB;clear hA hO1 hB hst;have k1:=fun o=>(hS.alloc o).cv g g12';have k2:=fun o=>(hS.alloc o).cl g g12';have k3:=fun o i=>(hS.alloc o).here.frozen i;have k4:w1.heap.size≠s:=(by have:=hS.here.lt;omega)))
 go_quiet (fail)
 go_wp2
 exact bodyPost_ret (z1p rfl _ _) rfl ⟨rfl,(hS.alloc _).below (z00 _ _ _),(hS2.alloc _).trans (Bt.of_below (z00 _ _ _))⟩
theorem z3P {w:World}{P:Nat→Prop}{s b bw bs bt bu bl W G base cap:Nat}{ws cs:Nat→Int}{ops:Nat→Op}{ob:Nat→Nat}(h:Stk w P s b bw bs bt bu bl W G base cap ws cs ops ob) {ws' cs':Nat→Int}{item n t i n' t' i' v1:Int}{v2:Bool}(g:Nat) (hg:g<G) (ho:ops g=Op.push item n t i)
  (hc:∀ x y z,w.heap[x]?=some (.cells #[.pointer (some ⟨b,0,none⟩),.func (.func 182) #[] #[.pointer (some ⟨bt,0,none⟩)],.func (.func 183) #[] #[.pointer (some ⟨bu,0,none⟩)],.pointer (some ⟨b,0,none⟩),.func (.func 184) #[] #[.pointer (some ⟨bl,0,none⟩)],.func (.func 181) #[] #[],.int .i64 base,.int .i64 cap] 238 (0,0))→w.heap[y]?=some (.cells #[.int .i64 g] 3 (0,0))→y≠bw→y≠bs→w.heap[z]?=some (.cells #[.int .i64 item] 241 (0,0))→∀ u,Below w.heap.size w u→Calls Tryz.prog 252 #[.agg #[.int .i64 n,.int .i64 t,.int .i64 i],.pointer (some ⟨x,0,none⟩),.pointer (some ⟨y,0,none⟩),.pointer (some ⟨z,0,none⟩)] u fun e w'=>e=.returned (.tuple #[.agg #[.int .i64 n',.int .i64 t',.int .i64 i'],.agg #[.bool true,.int .i64 v1,.bool v2]])∧Ar w' b bw bs W G ws' cs'∧But bw bs u w'):
  Calls Tryz.prog 243 #[.pointer (some ⟨s,0,none⟩),.int .i64 g] w fun e w'=>e=.returned (.tuple #[.bool true,.int .i64 v1,.bool v2,.int .i64 0])∧Stk w' P s b bw bs bt bu bl W G base cap ws' cs' (z0v ops g Op.idle) ob∧Bt P w w':=by
 have c0:=h.c0
 have g12:(g:Int)<12:=by have:=h.few;omega
 have g12':g<12:=by have:=h.few;omega
 have cv:=h.cv g g12'
 have hT:=h.tk g hg
 rw[ho] at cv hT
 simp only[Op.val] at cv
 obtain⟨p0,x,y,z,p1,p2,p3,h1,h2,h3,y1,y2,h4⟩:=hT
 have hn:=z0k h.ar g (by omega) (by omega)
 have hc':=hc x y z h2 h3 y1 y2 h4
 clear hc
 have qx:¬ (x=bw∨x=bs∨x=ob g):=fun q=>by rcases q with q|q|q;exact z0t h2 (by decide) h.ar.words q;exact z0t h2 (by decide) h.ar.steps q;subst q;rw[h1] at h2;simp at h2
 have qy:¬ (y=bw∨y=bs∨y=ob g):=fun q=>by rcases q with q|q|q;exact y1 q;exact y2 q;subst q;rw[h1] at h3;simp at h3
 have qz:¬ (z=bw∨z=bs∨z=ob g):=fun q=>by rcases q with q|q|q;exact z0t h4 (by decide) h.ar.words q;exact z0t h4 (by decide) h.ar.steps q;subst q;rw[h1] at h4;simp at h4
 have key:∀ w1,Ar w1 b bw bs W G ws' cs'→w1.heap[ob g]?=some (.cells #[.int .i64 n',.int .i64 t',.int .i64 i',.func (.func 252) #[] #[.pointer (some ⟨x,0,none⟩),.pointer (some ⟨y,0,none⟩),.pointer (some ⟨z,0,none⟩)]] 312 (0,0))→Bt (fun k=>k=bw∨k=bs∨k=ob g) w w1→Stk w1 P s b bw bs bt bu bl W G base cap ws' cs' (z0v ops g (Op.push item n' t' i')) ob:=by
  intro w1 hA hO1 hB
  exact h.turn (op:=(Op.push item n' t' i')) hg h1 (by decide) (by rw[ho];simp) (by rw[ho];rfl) (by rw[ho];rfl) hA hB ⟨p0,x,y,z,p1,p2,p3,hO1,(hB.block x (z02 h2) qx).trans h2,(hB.block y (z02 h3) qy).trans h3,y1,y2,(hB.block z (z02 h4) qz).trans h4⟩
 have hF:=h.foot
 have hbt:∀ w1,Bt (fun k=>k=bw∨k=bs∨k=ob g) w w1→Bt P w w1:=fun w1 k=>k.mono fun j _ q=>by rcases q with q|q|q;exact q ▸ hF.2.2.1;exact q ▸ hF.2.2.2.1;exact q ▸ p0
 have hps:P s:=hF.1
 have hst:=z5C h.ar h1 hc'
 have kit:Hid (∀ w1,Ar w1 b bw bs W G ws' cs'→w1.heap[ob g]?=some (.cells #[.int .i64 n',.int .i64 t',.int .i64 i',.func (.func 252) #[] #[.pointer (some ⟨x,0,none⟩),.pointer (some ⟨y,0,none⟩),.pointer (some ⟨z,0,none⟩)]] 312 (0,0))→Bt (fun k=>k=bw∨k=bs∨k=ob g) w w1→Stk w1 P s b bw bs bt bu bl W G base cap ws' cs' (z0v ops g (Op.push item n' t' i')) ob∧Bt P w w1):=fun w1 a1 a2 a3=>⟨key w1 a1 a2 a3,hbt w1 a3⟩
 clear key hbt hF hc' qx qy qz p0 p1 p2 p3 h1 h2 h3 h4 y1 y2 ho h
 have hm:=z7E
 go_enter Tryz.func243,Tryz.ntmps243
 go_wp2_with (first|(go_at_call 115;refine hn.mono ?_;rintro e w1 ⟨rfl,rfl⟩)|(go_at_call 305;refine hst.mono ?_;rintro e w1 ⟨rfl,hA,hO1,hB⟩;obtain⟨hS,hS2⟩:=kit.out _ hA hO1 hB;clear hA hO1 hB hst;have k1:=fun o=>(hS.alloc o).cv g g12';have k2:=fun o=>(hS.alloc o).cl g g12';have k3:=fun o i=>(hS.alloc o).here.frozen i;have k4:w1.heap.size≠s:=(by have:=hS.here.lt;omega)))
 go_quiet (fail)
 go_wp2
 refine bodyPost_ret (z1p rfl _ _) rfl ⟨rfl,?_,?_⟩
 ·have hE:=(hS.alloc (.cells #[.bool true,.int .i64 v1,.bool v2] 298)).task (fun _ q=>q) (hS.alloc _).lt g hg .idle (ob g) trivial (fun _ _ _ _ q=>absurd rfl q)
  rw[z1O,z2E] at hE
  exact hE.below (z00 _ _ _)
 ·exact (((hS2.alloc _).set s _ _ (.inl hps)).set s _ _ (.inl hps)).trans (Bt.of_below (z00 _ _ _))
theorem z2e {w:World}{P:Nat→Prop}{s b bw bs bt bu bl W G base cap:Nat}{ws cs:Nat→Int}{ops:Nat→Op}{ob:Nat→Nat}(h:Stk w P s b bw bs bt bu bl W G base cap ws cs ops ob) {ws' cs':Nat→Int}{n t i d n' t' i' d' v1:Int}{v2:Bool}(g:Nat) (hg:g<G) (ho:ops g=Op.pop n t i d)
  (hc:∀ x y,w.heap[x]?=some (.cells #[.pointer (some ⟨b,0,none⟩),.func (.func 182) #[] #[.pointer (some ⟨bt,0,none⟩)],.func (.func 183) #[] #[.pointer (some ⟨bu,0,none⟩)],.pointer (some ⟨b,0,none⟩),.func (.func 184) #[] #[.pointer (some ⟨bl,0,none⟩)],.func (.func 181) #[] #[],.int .i64 base,.int .i64 cap] 238 (0,0))→w.heap[y]?=some (.cells #[.int .i64 g] 3 (0,0))→y≠bw→y≠bs→∀ u,Below w.heap.size w u→Calls Tryz.prog 256 #[.agg #[.int .i64 n,.int .i64 t,.int .i64 i,.int .i64 d],.pointer (some ⟨x,0,none⟩),.pointer (some ⟨y,0,none⟩)] u fun e w'=>e=.returned (.tuple #[.agg #[.int .i64 n',.int .i64 t',.int .i64 i',.int .i64 d'],.agg #[.bool false,.int .i64 v1,.bool v2]])∧Ar w' b bw bs W G ws' cs'∧But bw bs u w'):
  Calls Tryz.prog 243 #[.pointer (some ⟨s,0,none⟩),.int .i64 g] w fun e w'=>e=.returned (.tuple #[.bool false,.int .i64 v1,.bool v2,.int .i64 0])∧Stk w' P s b bw bs bt bu bl W G base cap ws' cs' (z0v ops g (Op.pop n' t' i' d')) ob∧Bt P w w':=by
 have c0:=h.c0
 have g12:(g:Int)<12:=by have:=h.few;omega
 have g12':g<12:=by have:=h.few;omega
 have cv:=h.cv g g12'
 have hT:=h.tk g hg
 rw[ho] at cv hT
 simp only[Op.val] at cv
 obtain⟨p0,x,y,p1,p2,h1,h2,h3,y1,y2⟩:=hT
 have hn:=z0k h.ar g (by omega) (by omega)
 have hc':=hc x y h2 h3 y1 y2
 clear hc
 have qx:¬ (x=bw∨x=bs∨x=ob g):=fun q=>by rcases q with q|q|q;exact z0t h2 (by decide) h.ar.words q;exact z0t h2 (by decide) h.ar.steps q;subst q;rw[h1] at h2;simp at h2
 have qy:¬ (y=bw∨y=bs∨y=ob g):=fun q=>by rcases q with q|q|q;exact y1 q;exact y2 q;subst q;rw[h1] at h3;simp at h3
 have key:∀ w1,Ar w1 b bw bs W G ws' cs'→w1.heap[ob g]?=some (.cells #[.int .i64 n',.int .i64 t',.int .i64 i',.int .i64 d',.func (.func 256) #[] #[.pointer (some ⟨x,0,none⟩),.pointer (some ⟨y,0,none⟩)]] 319 (0,0))→Bt (fun k=>k=bw∨k=bs∨k=ob g) w w1→Stk w1 P s b bw bs bt bu bl W G base cap ws' cs' (z0v ops g (Op.pop n' t' i' d')) ob:=by
  intro w1 hA hO1 hB
  exact h.turn (op:=(Op.pop n' t' i' d')) hg h1 (by decide) (by rw[ho];simp) (by rw[ho];rfl) (by rw[ho];rfl) hA hB ⟨p0,x,y,p1,p2,hO1,(hB.block x (z02 h2) (qx)).trans h2,(hB.block y (z02 h3) (qy)).trans h3,y1,y2⟩
 have hF:=h.foot
 have hbt:∀ w1,Bt (fun k=>k=bw∨k=bs∨k=ob g) w w1→Bt P w w1:=fun w1 k=>k.mono fun j _ q=>by rcases q with q|q|q;exact q ▸ hF.2.2.1;exact q ▸ hF.2.2.2.1;exact q ▸ p0
 have hps:P s:=hF.1
 have hst:=z88 h.ar h1 hc'
 have kit:Hid (∀ w1,Ar w1 b bw bs W G ws' cs'→w1.heap[ob g]?=some (.cells #[.int .i64 n',.int .i64 t',.int .i64 i',.int .i64 d',.func (.func 256) #[] #[.pointer (some ⟨x,0,none⟩),.pointer (some ⟨y,0,none⟩)]] 319 (0,0))→Bt (fun k=>k=bw∨k=bs∨k=ob g) w w1→Stk w1 P s b bw bs bt bu bl W G base cap ws' cs' (z0v ops g (Op.pop n' t' i' d')) ob∧Bt P w w1):=fun w1 a1 a2 a3=>⟨key w1 a1 a2 a3,hbt w1 a3⟩
 clear key hbt hF hc' qx qy p0 p1 p2 h1 h2 h3 y1 y2 ho h
 have hm:=z9f
 go_enter Tryz.func243,Tryz.ntmps243
 go_wp2_with (first|(go_at_call 115;refine hn.mono ?_;rintro e w1 ⟨rfl,rfl⟩)|(go_at_call 306;refine hst.mono ?_;rintro e w1 ⟨rfl,hA,hO1,hB⟩;obtain⟨hS,hS2⟩:=kit.out _ hA hO1 hB;clear hA hO1 hB hst;have k1:=fun o=>(hS.alloc o).cv g g12';have k2:=fun o=>(hS.alloc o).cl g g12';have k3:=fun o i=>(hS.alloc o).here.frozen i;have k4:w1.heap.size≠s:=(by have:=hS.here.lt;omega)))
 go_quiet (fail)
 go_wp2
 exact bodyPost_ret (z1p rfl _ _) rfl ⟨rfl,(hS.alloc _).below (z00 _ _ _),(hS2.alloc _).trans (Bt.of_below (z00 _ _ _))⟩
theorem z2A {w:World}{P:Nat→Prop}{s b bw bs bt bu bl W G base cap:Nat}{ws cs:Nat→Int}{ops:Nat→Op}{ob:Nat→Nat}(h:Stk w P s b bw bs bt bu bl W G base cap ws cs ops ob) {ws' cs':Nat→Int}{n t i d n' t' i' d' v1:Int}{v2:Bool}(g:Nat) (hg:g<G) (ho:ops g=Op.pop n t i d)
  (hc:∀ x y,w.heap[x]?=some (.cells #[.pointer (some ⟨b,0,none⟩),.func (.func 182) #[] #[.pointer (some ⟨bt,0,none⟩)],.func (.func 183) #[] #[.pointer (some ⟨bu,0,none⟩)],.pointer (some ⟨b,0,none⟩),.func (.func 184) #[] #[.pointer (some ⟨bl,0,none⟩)],.func (.func 181) #[] #[],.int .i64 base,.int .i64 cap] 238 (0,0))→w.heap[y]?=some (.cells #[.int .i64 g] 3 (0,0))→y≠bw→y≠bs→∀ u,Below w.heap.size w u→Calls Tryz.prog 256 #[.agg #[.int .i64 n,.int .i64 t,.int .i64 i,.int .i64 d],.pointer (some ⟨x,0,none⟩),.pointer (some ⟨y,0,none⟩)] u fun e w'=>e=.returned (.tuple #[.agg #[.int .i64 n',.int .i64 t',.int .i64 i',.int .i64 d'],.agg #[.bool true,.int .i64 v1,.bool v2]])∧Ar w' b bw bs W G ws' cs'∧But bw bs u w'):
  Calls Tryz.prog 243 #[.pointer (some ⟨s,0,none⟩),.int .i64 g] w fun e w'=>e=.returned (.tuple #[.bool true,.int .i64 v1,.bool v2,.int .i64 0])∧Stk w' P s b bw bs bt bu bl W G base cap ws' cs' (z0v ops g Op.idle) ob∧Bt P w w':=by
 have c0:=h.c0
 have g12:(g:Int)<12:=by have:=h.few;omega
 have g12':g<12:=by have:=h.few;omega
 have cv:=h.cv g g12'
 have hT:=h.tk g hg
 rw[ho] at cv hT
 simp only[Op.val] at cv
 obtain⟨p0,x,y,p1,p2,h1,h2,h3,y1,y2⟩:=hT
 have hn:=z0k h.ar g (by omega) (by omega)
 have hc':=hc x y h2 h3 y1 y2
 clear hc
 have qx:¬ (x=bw∨x=bs∨x=ob g):=fun q=>by rcases q with q|q|q;exact z0t h2 (by decide) h.ar.words q;exact z0t h2 (by decide) h.ar.steps q;subst q;rw[h1] at h2;simp at h2
 have qy:¬ (y=bw∨y=bs∨y=ob g):=fun q=>by rcases q with q|q|q;exact y1 q;exact y2 q;subst q;rw[h1] at h3;simp at h3
 have key:∀ w1,Ar w1 b bw bs W G ws' cs'→w1.heap[ob g]?=some (.cells #[.int .i64 n',.int .i64 t',.int .i64 i',.int .i64 d',.func (.func 256) #[] #[.pointer (some ⟨x,0,none⟩),.pointer (some ⟨y,0,none⟩)]] 319 (0,0))→Bt (fun k=>k=bw∨k=bs∨k=ob g) w w1→Stk w1 P s b bw bs bt bu bl W G base cap ws' cs' (z0v ops g (Op.pop n' t' i' d')) ob:=by
  intro w1 hA hO1 hB
  exact h.turn (op:=(Op.pop n' t' i' d')) hg h1 (by decide) (by rw[ho];simp) (by rw[ho];rfl) (by rw[ho];rfl) hA hB ⟨p0,x,y,p1,p2,hO1,(hB.block x (z02 h2) (qx)).trans h2,(hB.block y (z02 h3) (qy)).trans h3,y1,y2⟩
 have hF:=h.foot
 have hbt:∀ w1,Bt (fun k=>k=bw∨k=bs∨k=ob g) w w1→Bt P w w1:=fun w1 k=>k.mono fun j _ q=>by rcases q with q|q|q;exact q ▸ hF.2.2.1;exact q ▸ hF.2.2.2.1;exact q ▸ p0
 have hps:P s:=hF.1
 have hst:=z88 h.ar h1 hc'
 have kit:Hid (∀ w1,Ar w1 b bw bs W G ws' cs'→w1.heap[ob g]?=some (.cells #[.int .i64 n',.int .i64 t',.int .i64 i',.int .i64 d',.func (.func 256) #[] #[.pointer (some ⟨x,0,none⟩),.pointer (some ⟨y,0,none⟩)]] 319 (0,0))→Bt (fun k=>k=bw∨k=bs∨k=ob g) w w1→Stk w1 P s b bw bs bt bu bl W G base cap ws' cs' (z0v ops g (Op.pop n' t' i' d')) ob∧Bt P w w1):=fun w1 a1 a2 a3=>⟨key w1 a1 a2 a3,hbt w1 a3⟩
 clear key hbt hF hc' qx qy p0 p1 p2 h1 h2 h3 y1 y2 ho h
 have hm:=z9f
 go_enter Tryz.func243,Tryz.ntmps243
 go_wp2_with (first|(go_at_call 115;refine hn.mono ?_;rintro e w1 ⟨rfl,rfl⟩)|(go_at_call 306;refine hst.mono ?_;rintro e w1 ⟨rfl,hA,hO1,hB⟩;obtain⟨hS,hS2⟩:=kit.out _ hA hO1 hB;clear hA hO1 hB hst;have k1:=fun o=>(hS.alloc o).cv g g12';have k2:=fun o=>(hS.alloc o).cl g g12';have k3:=fun o i=>(hS.alloc o).here.frozen i;have k4:w1.heap.size≠s:=(by have:=hS.here.lt;omega)))
 go_quiet (fail)
 go_wp2
 refine bodyPost_ret (z1p rfl _ _) rfl ⟨rfl,?_,?_⟩
 ·have hE:=(hS.alloc (.cells #[.bool true,.int .i64 v1,.bool v2] 298)).task (fun _ q=>q) (hS.alloc _).lt g hg .idle (ob g) trivial (fun _ _ _ _ q=>absurd rfl q)
  rw[z1O,z2E] at hE
  exact hE.below (z00 _ _ _)
 ·exact (((hS2.alloc _).set s _ _ (.inl hps)).set s _ _ (.inl hps)).trans (Bt.of_below (z00 _ _ _))
end Go.Proofs.YthkelaeemefnaaaGreat
