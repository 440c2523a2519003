import Derived.Test.YthkelaeemefnaaaGreatMAqz
import Derived.TacticsInMore
import Derived.Deep.DeepCutAuto
import Derived.Deep.RegionHeld3
set_option maxHeartbeats 1000000
namespace Go.Proofs.YthkelaeemefnaaaGreat
open Go.RowKit
theorem z7e:(Tryz.prog.info? 251).map (·.size)=some 2:=by kernel_rfl
theorem z1g (x:Int) (w:World) (h0:0≤x) (h1:x<100000):Calls Tryz.prog 174 #[.int .i64 x] w fun e w'=>e=.returned (.int .i64 (x+1))∧w'=w:=by
 go_enter Tryz.func174,Tryz.ntmps174
 go_wp2
 go_ret
 exact⟨by first|rfl|(rw[IntWalk.wrap64_in];omega),rfl⟩
theorem z8t (x:Int) (w:World) (h0:0≤x) (h1:x<100000):Calls Tryz.prog 258 #[.int .i64 x] w fun e w'=>e=.returned (.int .i64 (x-1))∧w'=w:=by
 go_enter Tryz.func258,Tryz.ntmps258
 go_wp2
 go_ret
 exact⟨by first|rfl|(rw[IntWalk.wrap64_in];omega),rfl⟩
theorem z2z (x:Int) (w:World):Calls Tryz.prog 181 #[.int .i64 x] w fun e w'=>e=.returned (.int .i64 x)∧w'=w:=by
 go_enter Tryz.func181,Tryz.ntmps181
 go_wp2
 go_ret
 exact⟨rfl,rfl⟩
theorem z2U (x c:Int) (bl:Nat) (w:World) (hc:w.cell? ⟨bl,0,none⟩=some (.int .i64 c)) (h0:0≤x) (h1:x<c):
  Calls Tryz.prog 184 #[.int .i64 x,.pointer (some ⟨bl,0,none⟩)] w fun e w'=>e=.returned (.int .i64 x)∧w'=w:=by
 go_enter Tryz.func184,Tryz.ntmps184
 go_wp2
 go_ret
 exact⟨rfl,rfl⟩
theorem z4v (x c:Int) (bl:Nat) (w:World) (hc:w.cell? ⟨bl,0,none⟩=some (.int .i64 c)):
  Calls Tryz.prog 184 #[.int .i64 x,.pointer (some ⟨bl,0,none⟩)] w fun e w'=>e=.returned (.int .i64 (if 0≤x∧x<c then x else 0))∧w'=w:=by
 by_cases hx:0≤x∧x<c
 ·rw[if_pos hx]
  exact z2U x c bl w hc hx.1 hx.2
 ·rw[if_neg hx]
  by_cases h0:x<0
  ·clear hx
   go_enter Tryz.func184,Tryz.ntmps184
   go_wp2
   go_ret
   exact⟨rfl,rfl⟩
  ·have h1:c≤x:=by omega
   have h2:0≤x:=by omega
   clear hx h0
   go_enter Tryz.func184,Tryz.ntmps184
   go_wp2
   go_ret
   exact⟨rfl,rfl⟩
theorem z08 {w:World}{b ty:Nat}{v:Value}(h:w.heap[b]?=some (.cells #[v] ty (0,0))):w.cell? ⟨b,0,none⟩=some v:=by simp[World.cell?,h]
theorem z01 {w:World}{b ty:Nat}{c:Array Value}(h:w.heap[b]?=some (.cells c ty (0,0))) (o:Obj):(w.alloc o).heap[b]?=some (.cells c ty (0,0)) :=
 (Below.heap_alloc _ _ _ (Array.getElem?_eq_some_iff.1 h).1).trans h
theorem z02 {w:World}{b ty:Nat}{c:Array Value}(h:w.heap[b]?=some (.cells c ty (0,0))):b<w.heap.size:=(Array.getElem?_eq_some_iff.1 h).1
theorem z05 {w:World}{b ty:Nat}{c:Array Value}(h:w.heap[b]?=some (.cells c ty (0,0))) (i:Nat) (v:Value):(w.setCell ⟨b,i,none⟩ v).heap[b]?=some (.cells (c.setIfInBounds i v) ty (0,0)):=by
 simp[World.setCell,Array.getElem?_modify,h]
theorem blk2 {w:World}{b ty:Nat}{x y:Value}(h:w.heap[b]?=some (.cells #[x,y] ty (0,0))):w.cell? ⟨b,0,none⟩=some x∧w.cell? ⟨b,1,none⟩=some y∧w.frozen? ⟨b,0,none⟩=false∧w.frozen? ⟨b,1,none⟩=false:=by
 simp[World.cell?,World.frozen?,h]
theorem zg9 {w w1:World}{o p:Obj}(hb:Below ((w.alloc o).alloc p).heap.size ((w.alloc o).alloc p).drew w1):w1.heap[w.heap.size+1]?=some p:=by
 rw[hb.block (w.heap.size+1) (by simp)]
 have:=heap_alloc_new (w.alloc o) p
 rw[Go.Deep.nblk_alloc] at this
 exact this
theorem z0j {P:Program}{fn:Func}{p u:Tmp}{ty:TypeId}(h:fn.results=#[.cell p ty,.tmp u]) (tmps:Array Value) (w:World) (g:Nat) (t:TypeId) (cs:Array Value) (fr:Nat×Nat) (d:TypeDesc)
  (hp:tmps.getD p undef=.pointer (some ⟨g,0,none⟩)) (hg:w.heap[g]?=some (.cells cs t fr))
  (hu:P.underlying ty=some d) (hd:(match d with | .struct _ | .array _ _=>true|_=>false)=true) (hi:(P.info? ty).map (·.size)=some cs.size):
  (results fn tmps).run P w=.ok (.tuple #[.agg cs,tmps.getD u undef]) w:=by
 have hp':tmps[p]?.getD undef=.pointer (some ⟨g,0,none⟩):=by simpa using hp
 simp[results,h,hp',asAddr,run_loadVar_row w g t ty cs fr d hg hu hd hi]
theorem z0K {P:Program}{fn:Func}{p q:Tmp}{ty uy:TypeId}(h:fn.results=#[.cell p ty,.cell q uy]) (tmps:Array Value) (w:World) (g k:Nat) (t u:TypeId) (cs ds:Array Value) (fr fs:Nat×Nat) (d e:TypeDesc)
  (hp:tmps.getD p undef=.pointer (some ⟨g,0,none⟩)) (hg:w.heap[g]?=some (.cells cs t fr))
  (hu:P.underlying ty=some d) (hd:(match d with | .struct _ | .array _ _=>true|_=>false)=true) (hi:(P.info? ty).map (·.size)=some cs.size)
  (hq:tmps.getD q undef=.pointer (some ⟨k,0,none⟩)) (hk:w.heap[k]?=some (.cells ds u fs))
  (hv:P.underlying uy=some e) (he:(match e with | .struct _ | .array _ _=>true|_=>false)=true) (hj:(P.info? uy).map (·.size)=some ds.size):
  (results fn tmps).run P w=.ok (.tuple #[.agg cs,.agg ds]) w:=by
 have hp':tmps[p]?.getD undef=.pointer (some ⟨g,0,none⟩):=by simpa using hp
 have hq':tmps[q]?.getD undef=.pointer (some ⟨k,0,none⟩):=by simpa using hq
 simp[results,h,hp',hq',asAddr,run_loadVar_row w g t ty cs fr d hg hu hd hi,run_loadVar_row w k u uy ds fs e hk hv he hj]
theorem z1c (t i c z:Int) (bu:Nat) (w:World) (hc:w.heap[bu]?=some (.cells #[.int .i64 c] 3 (0,0))) (hz:wrap64 (wrap64 (t*c)+i)=z):
  Calls Tryz.prog 183 #[.agg #[.int .i64 t,.int .i64 i],.pointer (some ⟨bu,0,none⟩)] w fun e w'=>e=.returned (.int .i64 z)∧Below w.heap.size w w':=by
 subst hz
 have hc':=fun o=>z08 (z01 hc o)
 go_enter Tryz.func183,Tryz.ntmps183
 go_wp2
 go_ret
 exact⟨rfl,(Below.refl _ _).alloc (Nat.le_refl _) _⟩
theorem z2W (t i c z:Int) (bt:Nat) (w:World) (hc:w.heap[bt]?=some (.cells #[.int .i64 c] 3 (0,0))) (h1:0<c) (hq:wrap64 (z.tdiv c)=t) (hr:z.tmod c=i) (hi:0≤i):
  Calls Tryz.prog 182 #[.int .i64 z,.pointer (some ⟨bt,0,none⟩)] w fun e w'=>e=.returned (.agg #[.int .i64 t,.int .i64 i])∧Below w.heap.size w w':=by
 subst hq hr
 have hc':=fun o=>z08 (z01 hc o)
 go_enter Tryz.func182,Tryz.ntmps182
 go_wp2
 go_quiet (fail)
 go_wp2
 refine bodyPost_ret (results_cell_row rfl _ _ w.heap.size 251 #[.int .i64 (wrap64 (z.tdiv c)),.int .i64 (z.tmod c)] (0,0) _ rfl ?_ Tryz.underlying251 rfl z7e) rfl ⟨rfl,?_⟩
 ·exact z05 (z05 (heap_alloc_new w _) 0 _) 1 _
 ·exact ((((Below.refl w.heap.size w).alloc (Nat.le_refl _) _).trans (z00 _ _ _)).setCell (p:=⟨w.heap.size,0,none⟩) (Nat.le_refl _) _).setCell (p:=⟨w.heap.size,1,none⟩) (Nat.le_refl _) _
structure Bx (w:World) (bw bs bt bu bl:Nat) (c:Int):Prop where
 t:w.heap[bt]?=some (.cells #[.int .i64 c] 3 (0,0))
 u:w.heap[bu]?=some (.cells #[.int .i64 c] 3 (0,0))
 l:w.heap[bl]?=some (.cells #[.int .i64 c] 3 (0,0))
 t1:bt≠bw
 t2:bt≠bs
 u1:bu≠bw
 u2:bu≠bs
 l1:bl≠bw
 l2:bl≠bs
section
variable {w w':World}{bw bs bt bu bl:Nat}{c:Int}
theorem Bx.but (h:Bx w bw bs bt bu bl c) (k:But bw bs w w'):Bx w' bw bs bt bu bl c :=
 ⟨(k.block _ (z02 h.t) h.t1 h.t2).trans h.t,(k.block _ (z02 h.u) h.u1 h.u2).trans h.u,(k.block _ (z02 h.l) h.l1 h.l2).trans h.l,h.t1,h.t2,h.u1,h.u2,h.l1,h.l2⟩
theorem Bx.below (h:Bx w bw bs bt bu bl c) (k:Below w.heap.size w w'):Bx w' bw bs bt bu bl c:=h.but (But.of_below k)
theorem Bx.alloc (h:Bx w bw bs bt bu bl c) (o:Obj):Bx (w.alloc o) bw bs bt bu bl c:=h.below ((Below.refl _ _).alloc (Nat.le_refl _) o)
end
theorem zfK {w w1:World}{o p:Obj}{u v:Value}(hb:Below ((w.alloc o).alloc p).heap.size ((w.alloc o).alloc p).drew w1):Below w.heap.size w ((w1.setCell ⟨w.heap.size+1,0,none⟩ u).setCell ⟨w.heap.size+1,1,none⟩ v) :=
 (((((Below.refl w.heap.size w).alloc (Nat.le_refl _) o).alloc (by simp) p).trans ((z00 _ 1 _).trans (hb.mono (by simp;omega)))).setCell (p:=⟨w.heap.size+1,0,none⟩) (by simp) _).setCell (p:=⟨w.heap.size+1,1,none⟩) (by simp) _
theorem z8R {w:World}{b bw bs W G:Nat}{ws cs:Nat→Int}(h:Ar w b bw bs W G ws cs) {bt bu bl:Nat}{c t i:Int}(hx:Bx w bw bs bt bu bl c) (a:Nat) (ha:a<W) (h1:0<c) (hq:wrap64 ((ws a).tdiv c)=t) (hr:(ws a).tmod c=i) (hi:0≤i):
  Calls Tryz.prog 251 #[.agg #[.pointer (some ⟨b,0,none⟩),.func (.func 182) #[] #[.pointer (some ⟨bt,0,none⟩)],.func (.func 183) #[] #[.pointer (some ⟨bu,0,none⟩)]],.int .i64 a] w fun e w'=>e=.returned (.tuple #[.agg #[.int .i64 t,.int .i64 i],.int .i64 0])∧Below w.heap.size w w':=by
 have hw:∀ o p,((w.alloc o).alloc p).cell? ⟨bw,a,none⟩=some (.int .i64 (ws a)):=fun o p=>((h.words.alloc o).alloc p).cell ha
 have hB:∀ o p,Bx ((w.alloc o).alloc p).drew bw bs bt bu bl c:=fun o p=>((hx.alloc o).alloc p).below (z00 _ 1 _)
 go_enter Tryz.func251,Tryz.ntmps251
 go_wp2_with (go_at_call 167;refine (z2f ((h.alloc _).alloc _) _ ha).mono ?_;rintro e w1 ⟨rfl,rfl⟩)
 go_region_with (go_at_call 182;refine (z2W t i c (ws a) bt _ (hB _ _).t h1 hq hr hi).mono ?_;rintro e w1 ⟨rfl,hb⟩;have hk:=zg9 hb;obtain⟨c0,c1,f0,f1⟩:=blk2 hk)
 all_goals go_wp2
 all_goals
  refine bodyPost_ret (z0j rfl _ _ (w.heap.size+1) 251 #[.int .i64 t,.int .i64 i] (0,0) _ rfl ?_ Tryz.underlying251 rfl z7e) rfl ⟨rfl,?_⟩
 all_goals first
  | exact z05 (z05 hk 0 _) 1 _
  | exact zfK hb
end Go.Proofs.YthkelaeemefnaaaGreat
namespace Go.Proofs.YthkelaeemefnaaaGreat
open Go.RowKit
theorem z03 {w:World}{k:Nat}(a:Addr) (v:Value) (hk:k≠a.block):(w.setCell a v).heap[k]?=w.heap[k]?:=Below.heap_setCell _ _ _ _ hk
theorem z2b {w:World}{b bw bs W G:Nat}{ws cs:Nat→Int}(h:Ar w b bw bs W G ws cs) (g a:Nat) (hg:g<G) (ha:a<W):
  Calls Tryz.prog 206 #[.pointer (some ⟨b,0,none⟩),.int .i64 g,.int .i64 a] w fun e w'=>e=.returned (.tuple #[.pointer (some ⟨bw,a,none⟩),.int .i64 0])∧Ar w' b bw bs W G ws (upd cs g (wrap64 (cs g+1)))∧But bw bs w w':=by
 refine (z6V h g a hg ha).mono ?_
 rintro e w' ⟨rfl,rfl⟩
 exact⟨rfl,h.tick g _,(But.refl _ _ _).sets g _⟩
theorem zcb {w w1:World}{o:Obj}{bw bs:Nat}(h1:bw<w.heap.size) (h2:bs<w.heap.size) (k:But bw bs (w.alloc o) w1):w1.heap[w.heap.size]?=some o :=
 (k.block _ (by simp) (by omega) (by omega)).trans (heap_alloc_new w o)
theorem zeG {w w1:World}{o p:Obj}{bw bs:Nat}(h1:bw<w.heap.size) (h2:bs<w.heap.size) (k:But bw bs ((w.alloc o).alloc p) w1):w1.heap[w.heap.size]?=some o∧w1.heap[w.heap.size+1]?=some p:=by
 have e0:=heap_alloc_new w o
 have e1:=heap_alloc_new (w.alloc o) p
 rw[Go.Deep.nblk_alloc] at e1
 exact⟨(k.block _ (by simp;omega) (by omega) (by omega)).trans ((Below.heap_alloc _ _ _ (by simp)).trans e0),(k.block _ (by simp) (by omega) (by omega)).trans e1⟩
theorem z1T {w w1:World}{o p q:Obj}{bw bs:Nat}(h1:bw<w.heap.size) (h2:bs<w.heap.size) (k:But bw bs (((w.alloc o).alloc p).alloc q) w1):w1.heap[w.heap.size]?=some o∧w1.heap[w.heap.size+1]?=some p∧w1.heap[w.heap.size+1+1]?=some q:=by
 have e2:=heap_alloc_new ((w.alloc o).alloc p) q
 rw[Go.Deep.nblk_alloc,Go.Deep.nblk_alloc] at e2
 have hA:=zeG h1 h2 (((But.refl bw bs ((w.alloc o).alloc p)).alloc q).trans k)
 exact⟨hA.1,hA.2,(k.block _ (by simp) (by omega) (by omega)).trans e2⟩
theorem Ar.lts {w:World}{b bw bs W G:Nat}{ws cs:Nat→Int}(h:Ar w b bw bs W G ws cs):bw<w.heap.size∧bs<w.heap.size:=⟨h.words.lt,h.steps.lt⟩
theorem blk3 {w:World}{b ty:Nat}{x y z:Value}(h:w.heap[b]?=some (.cells #[x,y,z] ty (0,0))):w.cell? ⟨b,0,none⟩=some x∧w.cell? ⟨b,1,none⟩=some y∧w.cell? ⟨b,2,none⟩=some z:=by
 simp[World.cell?,h]
theorem Ar.fresh {w u:World}{b bw bs W G:Nat}{ws cs ws0 cs0:Nat→Int}(h0:Ar w b bw bs W G ws0 cs0) (h:Ar u b bw bs W G ws cs) (r i:Nat) (v:Value) (hr:w.heap.size≤r):Ar (u.setCell ⟨r,i,none⟩ v) b bw bs W G ws cs:=by
 have e0:=h0.lt
 have e1:=h0.words.lt
 have e2:=h0.steps.lt
 exact⟨by rw[z03 _ _ (by show b≠r;omega)];exact h.here,h.words.setOther (by show bw≠r;omega) v,h.steps.setOther (by show bs≠r;omega) v,h.part⟩
theorem But.fresh {bw bs:Nat}{w u:World}(h:But bw bs w u) (r i:Nat) (v:Value) (hr:w.heap.size≤r):But bw bs w (u.setCell ⟨r,i,none⟩ v) :=
 ⟨h.os,h.tape,h.output,by simpa [World.setCell] using h.size,fun k hk e1 e2=>(z03 _ _ (by show k≠r;omega)).trans (h.block k hk e1 e2)⟩
theorem z2O {w:World}{b bw bs W G:Nat}{ws cs:Nat→Int}(h:Ar w b bw bs W G ws cs) {bt bu bl:Nat}{c t i:Int}(hx:Bx w bw bs bt bu bl c) (g a:Nat) (hg:g<G) (ha:a<W) (h1:0<c) (hq:wrap64 ((ws a).tdiv c)=t) (hr:(ws a).tmod c=i) (hi:0≤i):
  Calls Tryz.prog 253 #[.agg #[.pointer (some ⟨b,0,none⟩),.func (.func 182) #[] #[.pointer (some ⟨bt,0,none⟩)],.func (.func 183) #[] #[.pointer (some ⟨bu,0,none⟩)]],.int .i64 g,.int .i64 a] w fun e w'=>e=.returned (.tuple #[.agg #[.int .i64 t,.int .i64 i],.int .i64 0]) ∧
   Ar w' b bw bs W G ws (upd cs g (wrap64 (cs g+1)))∧But bw bs w w':=by
 go_enter Tryz.func253,Tryz.ntmps253
 go_wp2_with (go_at_call 206;refine (z2b ((h.alloc _).alloc _) _ _ hg ha).mono ?_;rintro e w1 ⟨rfl,hA,hB⟩;have hw:=hA.words.cell ha;have hL:=zeG h.lts.1 h.lts.2 hB;obtain⟨v0,v1,v2⟩:=blk3 hL.1)
 go_region_with (go_at_call 182;refine (z2W t i c (ws a) bt _ (hx.but ((((But.refl bw bs w).alloc _).alloc _).trans (hB.trans (But.of_below (z00 _ 1 _))))).t h1 hq hr hi).mono ?_;rintro e w2 ⟨rfl,hb⟩;have hk:=(hb.block _ (z02 hL.2)).trans hL.2;obtain⟨c0,c1,f0,f1⟩:=blk2 hk)
 all_goals go_wp2
 all_goals
  refine bodyPost_ret (z0j rfl _ _ (w.heap.size+1) 251 #[.int .i64 t,.int .i64 i] (0,0) _ rfl ?_ Tryz.underlying251 rfl z7e) rfl ⟨rfl,?_⟩
 all_goals first
  | exact z05 (z05 hk 0 _) 1 _
  | (have hq:=hA.below ((z00 _ 1 _).trans hb)
     have hl:=(((But.refl bw bs w).alloc _).alloc _).trans (hB.trans (But.of_below ((z00 _ 1 _).trans hb)))
     exact⟨h.fresh (h.fresh hq _ 0 _ (by omega)) _ 1 _ (by omega),(hl.fresh _ 0 _ (by omega)).fresh _ 1 _ (by omega)⟩)
theorem z3Z {w:World}{b bw bs W G:Nat}{ws cs:Nat→Int}(h:Ar w b bw bs W G ws cs) {bt bu bl:Nat}{c t i z:Int}(hx:Bx w bw bs bt bu bl c) (a:Nat) (ha:a<W) (hz:wrap64 (wrap64 (t*c)+i)=z):
  Calls Tryz.prog 175 #[.agg #[.pointer (some ⟨b,0,none⟩),.func (.func 182) #[] #[.pointer (some ⟨bt,0,none⟩)],.func (.func 183) #[] #[.pointer (some ⟨bu,0,none⟩)]],.int .i64 a,.agg #[.int .i64 t,.int .i64 i]] w fun e w'=>e=.returned (.int .i64 0) ∧
   Ar w' b bw bs W G (upd ws a z) cs∧But bw bs w w':=by
 go_enter Tryz.func175,Tryz.ntmps175
 go_wp2_with (first|(go_at_call 167;refine (z2f ((h.alloc _).alloc _) _ ha).mono ?_;rintro e w1 ⟨rfl,rfl⟩)|(go_at_call 183;refine (z1c t i c z bu _ ((hx.alloc _).alloc _).u hz).mono ?_;rintro e w1 ⟨rfl,hb⟩;have hA:=((h.alloc _).alloc _).below hb;have hc:=hA.words.cell ha;have hf:=hA.words.frozen a))
 go_ret
 exact⟨rfl,hA.put a z,((((But.refl _ _ _).alloc _).alloc _).trans (But.of_below hb)).setw a _⟩
theorem z75 {w:World}{b bw bs W G:Nat}{ws cs:Nat→Int}(h:Ar w b bw bs W G ws cs) {bt bu bl:Nat}{c t i t' i' z z':Int}(hx:Bx w bw bs bt bu bl c) (g a:Nat) (hg:g<G) (ha:a<W) (hz:wrap64 (wrap64 (t*c)+i)=z) (hz':wrap64 (wrap64 (t'*c)+i')=z') (hy:(ws a != z)=false):
  Calls Tryz.prog 260 #[.agg #[.pointer (some ⟨b,0,none⟩),.func (.func 182) #[] #[.pointer (some ⟨bt,0,none⟩)],.func (.func 183) #[] #[.pointer (some ⟨bu,0,none⟩)]],.int .i64 g,.int .i64 a,.agg #[.int .i64 t,.int .i64 i],.agg #[.int .i64 t',.int .i64 i']] w fun e w'=>e=.returned (.tuple #[.bool true,.int .i64 0]) ∧
   Ar w' b bw bs W G (upd ws a z') (upd cs g (wrap64 (cs g+1)))∧But bw bs w w':=by
 go_enter Tryz.func260,Tryz.ntmps260
 go_wp2_with (go_at_call 206;refine (z2b (((h.alloc _).alloc _).alloc _) _ _ hg ha).mono ?_;rintro e w1 ⟨rfl,hA,hB⟩;have hw:=hA.words.cell ha;have hL:=z1T h.lts.1 h.lts.2 hB;obtain⟨v0,v1,v2⟩:=blk3 hL.1;obtain⟨c0,c1,f0,f1⟩:=blk2 hL.2.1)
 go_cut [33] (fun s33 wx=>s33=.bool false∧Below w1.heap.size w1 wx)
 case first =>
  go_region_held3 (fun w'=>w'.cell? ⟨bw,a,none⟩=some (.int .i64 (ws a))∧w'.cell? ⟨w.heap.size,2,none⟩=some (.func (.func 183) #[] #[.pointer (some ⟨bu,0,none⟩)])∧w'.cell? ⟨w.heap.size+1,0,none⟩=some (.int .i64 t)∧w'.cell? ⟨w.heap.size+1,1,none⟩=some (.int .i64 i)) (go_keep) ((go_at_call 183;refine (z1c t i c z bu _ (hx.but (((((But.refl bw bs w).alloc _).alloc _).alloc _).trans (hB.trans (But.of_below (z00 _ 1 _))))).u hz).mono ?_;rintro e w2 ⟨rfl,hb⟩;have hw2:=((hA.below (z00 _ 1 _)).below hb).words.cell ha;have hL2:=z1T h.lts.1 h.lts.2 (hB.trans (But.of_below ((z00 _ 1 _).trans hb)));obtain⟨v0',v1',v2'⟩:=blk3 hL2.1;obtain⟨c0',c1',f0',f1'⟩:=blk2 hL2.2.1))
  all_goals (as_aux_lemma=>(go_wp2_with fail;go_meet;exact⟨by simp,(z00 _ 1 _).trans hb⟩))
 case rest =>
  obtain⟨rfl,hE⟩:=hcut
  have hA':=hA.below hE
  have hB':=hB.trans (But.of_below hE)
  have hL':=z1T h.lts.1 h.lts.2 hB'
  obtain⟨v0',v1',v2'⟩:=blk3 hL'.1
  obtain⟨d0,d1,g0,g1⟩:=blk2 hL'.2.2
  clear hB hA hw hL v0 v1 v2 c0 c1 f0 f1 hE
  go_wp2_with (go_at_call 183;refine (z1c t' i' c z' bu _ (hx.but (((((But.refl bw bs w).alloc _).alloc _).alloc _).trans hB')).u hz').mono ?_;rintro e w3 ⟨rfl,hb⟩;have hA3:=hA'.below hb;have hc:=hA3.words.cell ha;have hf:=hA3.words.frozen a)
  go_ret2
  exact⟨rfl,hA3.put a z',((((((But.refl bw bs w).alloc _).alloc _).alloc _).trans hB').trans (But.of_below hb)).setw a _⟩
theorem z8u {w:World}{b bw bs W G:Nat}{ws cs:Nat→Int}(h:Ar w b bw bs W G ws cs) {bt bu bl:Nat}{c t i t' i' z:Int}(hx:Bx w bw bs bt bu bl c) (g a:Nat) (hg:g<G) (ha:a<W) (hz:wrap64 (wrap64 (t*c)+i)=z) (hy:(ws a != z)=true):
  Calls Tryz.prog 260 #[.agg #[.pointer (some ⟨b,0,none⟩),.func (.func 182) #[] #[.pointer (some ⟨bt,0,none⟩)],.func (.func 183) #[] #[.pointer (some ⟨bu,0,none⟩)]],.int .i64 g,.int .i64 a,.agg #[.int .i64 t,.int .i64 i],.agg #[.int .i64 t',.int .i64 i']] w fun e w'=>e=.returned (.tuple #[.bool false,.int .i64 0]) ∧
   Ar w' b bw bs W G ws (upd cs g (wrap64 (cs g+1)))∧But bw bs w w':=by
 go_enter Tryz.func260,Tryz.ntmps260
 go_wp2_with (go_at_call 206;refine (z2b (((h.alloc _).alloc _).alloc _) _ _ hg ha).mono ?_;rintro e w1 ⟨rfl,hA,hB⟩;have hw:=hA.words.cell ha;have hL:=z1T h.lts.1 h.lts.2 hB;obtain⟨v0,v1,v2⟩:=blk3 hL.1;obtain⟨c0,c1,f0,f1⟩:=blk2 hL.2.1)
 go_cut [33] (fun s33 wx=>s33=.bool true∧Below w1.heap.size w1 wx)
 case first =>
  go_region_held3 (fun w'=>w'.cell? ⟨bw,a,none⟩=some (.int .i64 (ws a))∧w'.cell? ⟨w.heap.size,2,none⟩=some (.func (.func 183) #[] #[.pointer (some ⟨bu,0,none⟩)])∧w'.cell? ⟨w.heap.size+1,0,none⟩=some (.int .i64 t)∧w'.cell? ⟨w.heap.size+1,1,none⟩=some (.int .i64 i)) (go_keep) ((go_at_call 183;refine (z1c t i c z bu _ (hx.but (((((But.refl bw bs w).alloc _).alloc _).alloc _).trans (hB.trans (But.of_below (z00 _ 1 _))))).u hz).mono ?_;rintro e w2 ⟨rfl,hb⟩;have hw2:=((hA.below (z00 _ 1 _)).below hb).words.cell ha;have hL2:=z1T h.lts.1 h.lts.2 (hB.trans (But.of_below ((z00 _ 1 _).trans hb)));obtain⟨v0',v1',v2'⟩:=blk3 hL2.1;obtain⟨c0',c1',f0',f1'⟩:=blk2 hL2.2.1))
  all_goals (as_aux_lemma=>(go_wp2_with fail;go_meet;exact⟨by simp,(z00 _ 1 _).trans hb⟩))
 case rest =>
  obtain⟨rfl,hE⟩:=hcut
  have hA':=hA.below hE
  have hB':=hB.trans (But.of_below hE)
  have hL':=z1T h.lts.1 h.lts.2 hB'
  obtain⟨v0',v1',v2'⟩:=blk3 hL'.1
  clear hB hA hw hL v0 v1 v2 c0 c1 f0 f1 hE
  go_wp2
  go_ret2
  exact⟨rfl,hA',((((But.refl bw bs w).alloc _).alloc _).alloc _).trans hB'⟩
theorem z6Z {w:World}{b bw bs W G:Nat}{ws cs:Nat→Int}(h:Ar w b bw bs W G ws cs) {bt bu bl:Nat}{c:Int}(hx:Bx w bw bs bt bu bl c) (a:Nat) (ha:a<W) (hi:0≤ws a) (hj:ws a<c):
  Calls Tryz.prog 259 #[.agg #[.pointer (some ⟨b,0,none⟩),.func (.func 184) #[] #[.pointer (some ⟨bl,0,none⟩)],.func (.func 181) #[] #[]],.int .i64 a] w fun e w'=>e=.returned (.tuple #[.int .i64 (ws a),.int .i64 0])∧Below w.heap.size w w':=by
 have hw:∀ o,(w.alloc o).cell? ⟨bw,a,none⟩=some (.int .i64 (ws a)):=fun o=>(h.words.alloc o).cell ha
 have hB:∀ o n,((w.alloc o).drewN n).cell? ⟨bl,0,none⟩=some (.int .i64 c):=fun o n=>z08 (hx.alloc o).l
 go_enter Tryz.func259,Tryz.ntmps259
 go_wp2_with (go_at_call 167;refine (z2f (h.alloc _) _ ha).mono ?_;rintro e w1 ⟨rfl,rfl⟩)
 go_quiet ((go_at_call 184;exact Calls.quiet_of_same (z2U (ws a) c bl _ (hB _ _) hi hj)))
 go_wp2
 go_ret2
 exact⟨rfl,((Below.refl _ _).alloc (Nat.le_refl _) _).trans (z00 _ _ _)⟩
theorem z6x {w:World}{b bw bs W G:Nat}{ws cs:Nat→Int}(h:Ar w b bw bs W G ws cs) {bt bu bl:Nat}{c:Int}(hx:Bx w bw bs bt bu bl c) (g a:Nat) (hg:g<G) (ha:a<W) (z:Int) (hz:(if 0≤ws a∧ws a<c then ws a else 0)=z):
  Calls Tryz.prog 257 #[.agg #[.pointer (some ⟨b,0,none⟩),.func (.func 184) #[] #[.pointer (some ⟨bl,0,none⟩)],.func (.func 181) #[] #[]],.int .i64 g,.int .i64 a] w fun e w'=>e=.returned (.tuple #[.int .i64 z,.int .i64 0]) ∧
   Ar w' b bw bs W G ws (upd cs g (wrap64 (cs g+1)))∧But bw bs w w':=by
 have hrd:∀ u:World,u.cell? ⟨bl,0,none⟩=some (.int .i64 c)→Calls Tryz.prog 184 #[.int .i64 (ws a),.pointer (some ⟨bl,0,none⟩)] u fun e w'=>e=.returned (.int .i64 z)∧w'=u:=fun u hu=>hz ▸ z4v (ws a) c bl u hu
 clear hz
 go_enter Tryz.func257,Tryz.ntmps257
 go_wp2_with (go_at_call 206;refine (z2b (h.alloc _) _ _ hg ha).mono ?_;rintro e w1 ⟨rfl,hA,hB⟩;have hw:=hA.words.cell ha;have hL:=zcb h.lts.1 h.lts.2 hB;obtain⟨v0,v1,v2⟩:=blk3 hL;have hC:=fun n=>z08 ((hx.but (((But.refl bw bs w).alloc _).trans hB)).below (z00 w1 n _)).l)
 go_quiet ((go_at_call 184;exact Calls.quiet_of_same (hrd _ (hC _))))
 go_wp2
 go_ret2
 exact⟨rfl,hA.below (z00 _ _ _),(((But.refl bw bs w).alloc _).trans hB).trans (But.of_below (z00 _ _ _))⟩
theorem z5d {w:World}{b bw bs W G:Nat}{ws cs:Nat→Int}(h:Ar w b bw bs W G ws cs) {bl:Nat}(g a:Nat) (v:Int) (hg:g<G) (ha:a<W):
  Calls Tryz.prog 254 #[.agg #[.pointer (some ⟨b,0,none⟩),.func (.func 184) #[] #[.pointer (some ⟨bl,0,none⟩)],.func (.func 181) #[] #[]],.int .i64 g,.int .i64 a,.int .i64 v] w fun e w'=>e=.returned (.int .i64 0) ∧
   Ar w' b bw bs W G (upd ws a v) (upd cs g (wrap64 (cs g+1)))∧But bw bs w w':=by
 go_enter Tryz.func254,Tryz.ntmps254
 go_wp2_with (first|(go_at_call 206;refine (z2b (h.alloc _) _ _ hg ha).mono ?_;rintro e w1 ⟨rfl,hA,hB⟩;have hw:=hA.words.cell ha;have hf:=hA.words.frozen a;have hL:=zcb h.lts.1 h.lts.2 hB;obtain⟨v0,v1,v2⟩:=blk3 hL)|(go_at_call 181;refine (z2z _ _).mono ?_;rintro e w1 ⟨rfl,rfl⟩))
 go_ret
 exact⟨rfl,hA.put a v,(((But.refl bw bs w).alloc _).trans hB).setw a _⟩
theorem z52:(Tryz.prog.info? 306).map (·.size)=some 3:=by kernel_rfl
theorem z3i:(Tryz.prog.info? 314).map (·.size)=some 4:=by kernel_rfl
theorem z1Z:(Tryz.prog.info? 298).map (·.size)=some 3:=by kernel_rfl
theorem z0Z {w w1:World}(hb:Below w.drew.heap.size w.drew w1):Below w.heap.size w w1:=((Below.refl w.heap.size w).drew).trans hb
theorem z0t {w:World}{x ty r n:Nat}{c:Array Value}{f:Nat→Value}(h:w.heap[x]?=some (.cells c ty (0,0))) (ht:ty≠3) (hr:w.rowIs r 3 n f):x≠r:=by
 rintro rfl
 obtain⟨d,hd,_⟩:=hr
 rw[h] at hd;simp at hd;exact ht hd.2
theorem blk8 {w:World}{b ty:Nat}{c0 c1 c2 c3 c4 c5 c6 c7:Value}(h:w.heap[b]?=some (.cells #[c0,c1,c2,c3,c4,c5,c6,c7] ty (0,0))):
  w.cell? ⟨b,0,none⟩=some c0∧w.cell? ⟨b,1,none⟩=some c1∧w.cell? ⟨b,2,none⟩=some c2∧w.cell? ⟨b,3,none⟩=some c3∧w.cell? ⟨b,4,none⟩=some c4∧w.cell? ⟨b,5,none⟩=some c5∧w.cell? ⟨b,6,none⟩=some c6∧w.cell? ⟨b,7,none⟩=some c7:=by
 simp[World.cell?,h]
theorem frz {w:World}{b ty:Nat}{c:Array Value}(h:w.heap[b]?=some (.cells c ty (0,0))) (i:Nat):w.frozen? ⟨b,i,none⟩=false:=by simp[World.frozen?,h]
theorem z1m {b bt bu bl base cap:Nat}(i:Int) (a:Nat) (w:World) (ha:(base:Int)+i=a) (hm:a<1000000):
  Calls Tryz.prog 173 #[.agg #[.pointer (some ⟨b,0,none⟩),.func (.func 182) #[] #[.pointer (some ⟨bt,0,none⟩)],.func (.func 183) #[] #[.pointer (some ⟨bu,0,none⟩)],.pointer (some ⟨b,0,none⟩),.func (.func 184) #[] #[.pointer (some ⟨bl,0,none⟩)],.func (.func 181) #[] #[],.int .i64 base,.int .i64 cap],.int .i64 i] w fun e w'=>e=.returned (.int .i64 a)∧Below w.heap.size w w':=by
 have hw:wrap64 ((base:Int)+i)=(a:Int):=by rw[IntWalk.wrap64_in _ (by omega)];exact ha
 go_enter Tryz.func173,Tryz.ntmps173
 go_wp2
 go_ret
 exact⟨by rw[← hw];rfl,(Below.refl _ _).alloc (Nat.le_refl _) _⟩
theorem z3D {w:World}{b bw bs W G:Nat}{ws cs:Nat→Int}(h:Ar w b bw bs W G ws cs) {bt bu bl:Nat}{c:Int}(hx:Bx w bw bs bt bu bl c) {base cap:Nat}{t t' i i' z z':Int}(g:Nat) (hg:g<G) (ha:base<W) (ht:wrap64 (t+1)=t') (hz:wrap64 (wrap64 (t*c)+i)=z) (hz':wrap64 (wrap64 (t'*c)+i')=z') (hy:(ws base != z)=false):
  Calls Tryz.prog 255 #[.agg #[.pointer (some ⟨b,0,none⟩),.func (.func 182) #[] #[.pointer (some ⟨bt,0,none⟩)],.func (.func 183) #[] #[.pointer (some ⟨bu,0,none⟩)],.pointer (some ⟨b,0,none⟩),.func (.func 184) #[] #[.pointer (some ⟨bl,0,none⟩)],.func (.func 181) #[] #[],.int .i64 base,.int .i64 cap],.int .i64 g,.agg #[.int .i64 t,.int .i64 i],.int .i64 i'] w fun e w'=>e=.returned (.bool true)∧Ar w' b bw bs W G (upd ws base z') (upd cs g (wrap64 (cs g+1)))∧But bw bs w w':=by
 subst ht
 go_enter Tryz.func255,Tryz.ntmps255
 go_wp2_with (go_at_call 260;refine (z75 ((h.alloc _).alloc _) ((hx.alloc _).alloc _) g base hg ha hz hz' hy).mono ?_;rintro e w1 ⟨rfl,hA,hB⟩)
 go_ret
 exact⟨rfl,hA,(((But.refl bw bs w).alloc _).alloc _).trans hB⟩
theorem z46 {w:World}{b bw bs W G:Nat}{ws cs:Nat→Int}(h:Ar w b bw bs W G ws cs) {bt bu bl:Nat}{c:Int}(hx:Bx w bw bs bt bu bl c) {base cap:Nat}{t i i' z:Int}(g:Nat) (hg:g<G) (ha:base<W) (hz:wrap64 (wrap64 (t*c)+i)=z) (hy:(ws base != z)=true):
  Calls Tryz.prog 255 #[.agg #[.pointer (some ⟨b,0,none⟩),.func (.func 182) #[] #[.pointer (some ⟨bt,0,none⟩)],.func (.func 183) #[] #[.pointer (some ⟨bu,0,none⟩)],.pointer (some ⟨b,0,none⟩),.func (.func 184) #[] #[.pointer (some ⟨bl,0,none⟩)],.func (.func 181) #[] #[],.int .i64 base,.int .i64 cap],.int .i64 g,.agg #[.int .i64 t,.int .i64 i],.int .i64 i'] w fun e w'=>e=.returned (.bool false)∧Ar w' b bw bs W G ws (upd cs g (wrap64 (cs g+1)))∧But bw bs w w':=by
 go_enter Tryz.func255,Tryz.ntmps255
 go_wp2_with (go_at_call 260;refine (z8u ((h.alloc _).alloc _) ((hx.alloc _).alloc _) g base hg ha hz hy).mono ?_;rintro e w1 ⟨rfl,hA,hB⟩)
 go_ret
 exact⟨rfl,hA,(((But.refl bw bs w).alloc _).alloc _).trans hB⟩
def sets3 (u:World) (s:Nat) (x y z:Value):World:=((u.setCell ⟨s,0,none⟩ x).setCell ⟨s,1,none⟩ y).setCell ⟨s,2,none⟩ z
def sets4 (u:World) (s:Nat) (x y z v:Value):World:=(sets3 u s x y z).setCell ⟨s,3,none⟩ v
theorem z0c {u:World}{s ty:Nat}{a b c:Value}(h:u.heap[s]?=some (.cells #[a,b,c] ty (0,0))) (x y z:Value):(sets3 u s x y z).heap[s]?=some (.cells #[x,y,z] ty (0,0)) :=
 z05 (z05 (z05 h 0 _) 1 _) 2 _
theorem z18 {u:World}{s ty:Nat}{a b c d:Value}(h:u.heap[s]?=some (.cells #[a,b,c,d] ty (0,0))) (x y z v:Value):(sets4 u s x y z v).heap[s]?=some (.cells #[x,y,z,v] ty (0,0)) :=
 z05 (z05 (z05 (z05 h 0 _) 1 _) 2 _) 3 _
theorem z0b (u:World) (s:Nat) (x y z:Value) {k:Nat}(hk:k≠s):(sets3 u s x y z).heap[k]?=u.heap[k]?:=by
 unfold sets3;rw[z03 _ _ hk,z03 _ _ hk,z03 _ _ hk]
theorem z0Q (u:World) (s:Nat) (x y z v:Value) {k:Nat}(hk:k≠s):(sets4 u s x y z v).heap[k]?=u.heap[k]?:=by
 unfold sets4;rw[z03 _ _ hk,z0b _ _ _ _ _ hk]
theorem Ar.sets3 {w u:World}{b bw bs W G:Nat}{ws cs ws0 cs0:Nat→Int}(h0:Ar w b bw bs W G ws0 cs0) (h:Ar u b bw bs W G ws cs) (s:Nat) (x y z:Value) (hr:w.heap.size≤s):Ar (sets3 u s x y z) b bw bs W G ws cs :=
 h0.fresh (h0.fresh (h0.fresh h s 0 _ hr) s 1 _ hr) s 2 _ hr
theorem Ar.sets4 {w u:World}{b bw bs W G:Nat}{ws cs ws0 cs0:Nat→Int}(h0:Ar w b bw bs W G ws0 cs0) (h:Ar u b bw bs W G ws cs) (s:Nat) (x y z v:Value) (hr:w.heap.size≤s):Ar (sets4 u s x y z v) b bw bs W G ws cs :=
 h0.fresh (h0.sets3 h s x y z hr) s 3 _ hr
theorem But.sets3 {bw bs:Nat}{w u:World}(h:But bw bs w u) (s:Nat) (x y z:Value) (hr:w.heap.size≤s):But bw bs w (YthkelaeemefnaaaGreat.sets3 u s x y z):=((h.fresh s 0 _ hr).fresh s 1 _ hr).fresh s 2 _ hr
theorem But.sets4 {bw bs:Nat}{w u:World}(h:But bw bs w u) (s:Nat) (x y z v:Value) (hr:w.heap.size≤s):But bw bs w (YthkelaeemefnaaaGreat.sets4 u s x y z v):=(h.sets3 s x y z hr).fresh s 3 _ hr
theorem zad {w:World}{b bw bs W G:Nat}{ws cs:Nat→Int}(h:Ar w b bw bs W G ws cs) {bt bu bl:Nat}{c:Int}(hx:Bx w bw bs bt bu bl c) {x y z base cap:Nat}{t0 i0 t i:Int}(g:Nat) (hX:w.heap[x]?=some (.cells #[.pointer (some ⟨b,0,none⟩),.func (.func 182) #[] #[.pointer (some ⟨bt,0,none⟩)],.func (.func 183) #[] #[.pointer (some ⟨bu,0,none⟩)],.pointer (some ⟨b,0,none⟩),.func (.func 184) #[] #[.pointer (some ⟨bl,0,none⟩)],.func (.func 181) #[] #[],.int .i64 base,.int .i64 cap] 238 (0,0))) (hY:w.heap[y]?=some (.cells #[.int .i64 g] 3 (0,0))) (hg:g<G) (ha:base<W) (h1:0<c) (hq:wrap64 ((ws base).tdiv c)=t) (hr:(ws base).tmod c=i) (hi:0≤i):
  Calls Tryz.prog 252 #[.agg #[.int .i64 0,.int .i64 t0,.int .i64 i0],.pointer (some ⟨x,0,none⟩),.pointer (some ⟨y,0,none⟩),.pointer (some ⟨z,0,none⟩)] w fun e w'=>e=.returned (.tuple #[.agg #[.int .i64 1,.int .i64 t,.int .i64 i],.agg #[.bool false,.int .i64 0,.bool false]]) ∧
   Ar w' b bw bs W G ws (upd cs g (wrap64 (cs g+1)))∧But bw bs w w':=by
 have hX3:=fun o p q=>blk8 (z01 (z01 (z01 hX o) p) q)
 have hY3:=fun o p q=>z08 (z01 (z01 (z01 hY o) p) q)
 go_enter Tryz.func252,Tryz.ntmps252
 go_wp2_with (go_at_call 253;refine (z2O (((h.alloc _).alloc _).alloc _) (((hx.alloc _).alloc _).alloc _) g base hg ha h1 hq hr hi).mono ?_;rintro e w1 ⟨rfl,hA,hB⟩;have hL:=z1T h.lts.1 h.lts.2 hB;have l0:=z02 hL.1;have l1:=z02 hL.2.1;have l2:=z02 hL.2.2;have b1:=blk3 hL.2.1;have b2:=blk3 hL.2.2;have z1:=frz hL.2.1;have z2:=frz hL.2.2)
 have hB':=((((But.refl bw bs w).alloc _).alloc _).alloc _).trans hB
 refine bodyPost_ret (z0K rfl _ _ (w.heap.size+1) (w.heap.size+1+1) 306 298 #[.int .i64 1,.int .i64 t,.int .i64 i] #[.bool false,.int .i64 0,.bool false] (0,0) (0,0) _ _ rfl ?_ Tryz.underlying306 rfl z52 rfl ?_ Tryz.underlying298 rfl z1Z) rfl ⟨rfl,?_,?_⟩
 ·exact z01 ((z0b _ (w.heap.size+1+1) _ _ _ (by omega)).trans (z0c hL.2.1 _ _ _)) _
 ·exact z01 (z0c ((z0b _ _ _ _ _ (by omega)).trans hL.2.2) _ _ _) _
 ·exact (h.sets3 (h.sets3 hA _ _ _ _ (by omega)) _ _ _ _ (by omega)).alloc _
 ·exact ((hB'.sets3 _ _ _ _ (by omega)).sets3 _ _ _ _ (by omega)).alloc _
theorem z63 {w:World}{b bw bs W G:Nat}{ws cs:Nat→Int}(h:Ar w b bw bs W G ws cs) {bt bu bl:Nat}{x y z base cap:Nat}{t i item:Int}(g a:Nat) (hX:w.heap[x]?=some (.cells #[.pointer (some ⟨b,0,none⟩),.func (.func 182) #[] #[.pointer (some ⟨bt,0,none⟩)],.func (.func 183) #[] #[.pointer (some ⟨bu,0,none⟩)],.pointer (some ⟨b,0,none⟩),.func (.func 184) #[] #[.pointer (some ⟨bl,0,none⟩)],.func (.func 181) #[] #[],.int .i64 base,.int .i64 cap] 238 (0,0))) (hY:w.heap[y]?=some (.cells #[.int .i64 g] 3 (0,0))) (y1:y≠bw) (y2:y≠bs) (hZ:w.heap[z]?=some (.cells #[.int .i64 item] 241 (0,0))) (hg:g<G) (ha:a<W) (hp:(base:Int)+item=a) (hW:W≤65536):
  Calls Tryz.prog 252 #[.agg #[.int .i64 1,.int .i64 t,.int .i64 i],.pointer (some ⟨x,0,none⟩),.pointer (some ⟨y,0,none⟩),.pointer (some ⟨z,0,none⟩)] w fun e w'=>e=.returned (.tuple #[.agg #[.int .i64 2,.int .i64 t,.int .i64 i],.agg #[.bool false,.int .i64 0,.bool false]]) ∧
   Ar w' b bw bs W G (upd ws a i) (upd cs g (wrap64 (cs g+1)))∧But bw bs w w':=by
 have hX3:=fun o p q=>blk8 (z01 (z01 (z01 hX o) p) q)
 have hY3:=fun o p q=>z08 (z01 (z01 (z01 hY o) p) q)
 have hZ3:=fun o p q=>z08 (z01 (z01 (z01 hZ o) p) q)
 have nX1:=z0t hX (by decide) h.words
 have nX2:=z0t hX (by decide) h.steps
 have nZ1:=z0t hZ (by decide) h.words
 have nZ2:=z0t hZ (by decide) h.steps
 go_enter Tryz.func252,Tryz.ntmps252
 go_wp2
 go_region_held3 (fun w'=>(w'.cell? ⟨x,0,none⟩=some (.pointer (some ⟨b,0,none⟩))∧w'.cell? ⟨x,1,none⟩=some (.func (.func 182) #[] #[.pointer (some ⟨bt,0,none⟩)])∧w'.cell? ⟨x,2,none⟩=some (.func (.func 183) #[] #[.pointer (some ⟨bu,0,none⟩)])∧w'.cell? ⟨x,3,none⟩=some (.pointer (some ⟨b,0,none⟩))∧w'.cell? ⟨x,4,none⟩=some (.func (.func 184) #[] #[.pointer (some ⟨bl,0,none⟩)])∧w'.cell? ⟨x,5,none⟩=some (.func (.func 181) #[] #[])∧w'.cell? ⟨x,6,none⟩=some (.int .i64 base)∧w'.cell? ⟨x,7,none⟩=some (.int .i64 cap))∧w'.cell? ⟨y,0,none⟩=some (.int .i64 g)∧w'.cell? ⟨z,0,none⟩=some (.int .i64 item)∧w'.cell? ⟨w.heap.size,2,none⟩=some (.int .i64 i)) (go_keep)
  (first
   | (go_at_call 254;refine (z5d hA1 g a i hg ha).mono ?_;rintro e w2 ⟨rfl,hA,hB2⟩
      have hB:=hB1.trans hB2;have hL:=z1T h.lts.1 h.lts.2 hB;have l0:=z02 hL.1;have l1:=z02 hL.2.1;have l2:=z02 hL.2.2;have b0:=blk3 hL.1;have b1:=blk3 hL.2.1;have b2:=blk3 hL.2.2;have z1:=frz hL.2.1;have z2:=frz hL.2.2
      have hBw:=(((((But.refl bw bs w).alloc _).alloc _).alloc _).trans hB)
      have dX:=blk8 ((hBw.block _ (z02 hX) nX1 nX2).trans hX);have dY:=z08 ((hBw.block _ (z02 hY) y1 y2).trans hY);have dZ:=z08 ((hBw.block _ (z02 hZ) nZ1 nZ2).trans hZ))
   | (go_at_call 173;refine (z1m (cap:=cap) (bt:=bt) (bu:=bu) (bl:=bl) item a _ hp (by omega)).mono ?_;rintro e w1 ⟨rfl,hb⟩
      have hA1:=(((h.alloc _).alloc _).alloc _).below (z0Z hb);have hB1:=But.of_below (bw:=bw) (bs:=bs) (z0Z hb)
      have hBv:=(((((But.refl bw bs w).alloc _).alloc _).alloc _).trans hB1)
      have eX:=blk8 ((hBv.block _ (z02 hX) nX1 nX2).trans hX);have eY:=z08 ((hBv.block _ (z02 hY) y1 y2).trans hY);have eZ:=z08 ((hBv.block _ (z02 hZ) nZ1 nZ2).trans hZ);have eS:=blk3 (z1T h.lts.1 h.lts.2 hB1).1))
 go_wp2
 have hB':=((((But.refl bw bs w).alloc _).alloc _).alloc _).trans hB
 refine bodyPost_ret (z0K rfl _ _ (w.heap.size+1) (w.heap.size+1+1) 306 298 #[.int .i64 2,.int .i64 t,.int .i64 i] #[.bool false,.int .i64 0,.bool false] (0,0) (0,0) _ _ rfl ?_ Tryz.underlying306 rfl z52 rfl ?_ Tryz.underlying298 rfl z1Z) rfl ⟨rfl,?_,?_⟩
 ·exact ((z0b _ (w.heap.size+1+1) _ _ _ (by omega)).trans (z0c hL.2.1 _ _ _))
 ·exact (z0c ((z0b _ _ _ _ _ (by omega)).trans hL.2.2) _ _ _)
 ·exact (h.sets3 (h.sets3 hA _ _ _ _ (by omega)) _ _ _ _ (by omega))
 ·exact ((hB'.sets3 _ _ _ _ (by omega)).sets3 _ _ _ _ (by omega))
theorem z4U {w:World}{b bw bs W G:Nat}{ws cs:Nat→Int}(h:Ar w b bw bs W G ws cs) {bt bu bl:Nat}{c:Int}(hx:Bx w bw bs bt bu bl c) {x y z base cap:Nat}{t t' i item z0 z1:Int}(g:Nat) (hX:w.heap[x]?=some (.cells #[.pointer (some ⟨b,0,none⟩),.func (.func 182) #[] #[.pointer (some ⟨bt,0,none⟩)],.func (.func 183) #[] #[.pointer (some ⟨bu,0,none⟩)],.pointer (some ⟨b,0,none⟩),.func (.func 184) #[] #[.pointer (some ⟨bl,0,none⟩)],.func (.func 181) #[] #[],.int .i64 base,.int .i64 cap] 238 (0,0))) (hY:w.heap[y]?=some (.cells #[.int .i64 g] 3 (0,0))) (hZ:w.heap[z]?=some (.cells #[.int .i64 item] 241 (0,0))) (hg:g<G) (ha:base<W) (ht:wrap64 (t+1)=t') (hz:wrap64 (wrap64 (t*c)+i)=z0) (hz':wrap64 (wrap64 (t'*c)+item)=z1) (hy:(ws base != z0)=false):
  Calls Tryz.prog 252 #[.agg #[.int .i64 2,.int .i64 t,.int .i64 i],.pointer (some ⟨x,0,none⟩),.pointer (some ⟨y,0,none⟩),.pointer (some ⟨z,0,none⟩)] w fun e w'=>e=.returned (.tuple #[.agg #[.int .i64 0,.int .i64 0,.int .i64 0],.agg #[.bool true,.int .i64 0,.bool true]]) ∧
   Ar w' b bw bs W G (upd ws base z1) (upd cs g (wrap64 (cs g+1)))∧But bw bs w w':=by
 have hX3:=fun o p q=>blk8 (z01 (z01 (z01 hX o) p) q)
 have hY3:=fun o p q=>z08 (z01 (z01 (z01 hY o) p) q)
 have hZ3:=fun o p q=>z08 (z01 (z01 (z01 hZ o) p) q)
 go_enter Tryz.func252,Tryz.ntmps252
 go_wp2_with (go_at_call 255;refine (z3D (((h.alloc _).alloc _).alloc _) (((hx.alloc _).alloc _).alloc _) g hg ha ht hz hz' hy).mono ?_;rintro e w1 ⟨rfl,hA,hB⟩;have hL:=z1T h.lts.1 h.lts.2 hB;have l0:=z02 hL.1;have l1:=z02 hL.2.1;have l2:=z02 hL.2.2;have b0:=blk3 hL.1;have b1:=blk3 hL.2.1;have b2:=blk3 hL.2.2;have z1:=frz hL.2.1;have z2:=frz hL.2.2)
 have hB':=((((But.refl bw bs w).alloc _).alloc _).alloc _).trans hB
 refine bodyPost_ret (z0K rfl _ _ (w.heap.size+1) (w.heap.size+1+1) 306 298 #[.int .i64 0,.int .i64 0,.int .i64 0] #[.bool true,.int .i64 0,.bool true] (0,0) (0,0) _ _ rfl ?_ Tryz.underlying306 rfl z52 rfl ?_ Tryz.underlying298 rfl z1Z) rfl ⟨rfl,?_,?_⟩
 ·exact ((z0b _ (w.heap.size+1+1) _ _ _ (by omega)).trans (z0c hL.2.1 _ _ _))
 ·exact (z0c ((z0b _ _ _ _ _ (by omega)).trans hL.2.2) _ _ _)
 ·exact (h.sets3 (h.sets3 hA _ _ _ _ (by omega)) _ _ _ _ (by omega))
 ·exact ((hB'.sets3 _ _ _ _ (by omega)).sets3 _ _ _ _ (by omega))
theorem z6i {w:World}{b bw bs W G:Nat}{ws cs:Nat→Int}(h:Ar w b bw bs W G ws cs) {bt bu bl:Nat}{c:Int}(hx:Bx w bw bs bt bu bl c) {x y z base cap:Nat}{t i item z0:Int}(g:Nat) (hX:w.heap[x]?=some (.cells #[.pointer (some ⟨b,0,none⟩),.func (.func 182) #[] #[.pointer (some ⟨bt,0,none⟩)],.func (.func 183) #[] #[.pointer (some ⟨bu,0,none⟩)],.pointer (some ⟨b,0,none⟩),.func (.func 184) #[] #[.pointer (some ⟨bl,0,none⟩)],.func (.func 181) #[] #[],.int .i64 base,.int .i64 cap] 238 (0,0))) (hY:w.heap[y]?=some (.cells #[.int .i64 g] 3 (0,0))) (hZ:w.heap[z]?=some (.cells #[.int .i64 item] 241 (0,0))) (hg:g<G) (ha:base<W) (hz:wrap64 (wrap64 (t*c)+i)=z0) (hy:(ws base != z0)=true):
  Calls Tryz.prog 252 #[.agg #[.int .i64 2,.int .i64 t,.int .i64 i],.pointer (some ⟨x,0,none⟩),.pointer (some ⟨y,0,none⟩),.pointer (some ⟨z,0,none⟩)] w fun e w'=>e=.returned (.tuple #[.agg #[.int .i64 0,.int .i64 0,.int .i64 0],.agg #[.bool false,.int .i64 0,.bool false]]) ∧
   Ar w' b bw bs W G ws (upd cs g (wrap64 (cs g+1)))∧But bw bs w w':=by
 have hX3:=fun o p q=>blk8 (z01 (z01 (z01 hX o) p) q)
 have hY3:=fun o p q=>z08 (z01 (z01 (z01 hY o) p) q)
 have hZ3:=fun o p q=>z08 (z01 (z01 (z01 hZ o) p) q)
 go_enter Tryz.func252,Tryz.ntmps252
 go_wp2_with (go_at_call 255;refine (z46 (((h.alloc _).alloc _).alloc _) (((hx.alloc _).alloc _).alloc _) g hg ha hz hy).mono ?_;rintro e w1 ⟨rfl,hA,hB⟩;have hL:=z1T h.lts.1 h.lts.2 hB;have l0:=z02 hL.1;have l1:=z02 hL.2.1;have l2:=z02 hL.2.2;have b0:=blk3 hL.1;have b1:=blk3 hL.2.1;have b2:=blk3 hL.2.2;have z1:=frz hL.2.1;have z2:=frz hL.2.2)
 have hB':=((((But.refl bw bs w).alloc _).alloc _).alloc _).trans hB
 refine bodyPost_ret (z0K rfl _ _ (w.heap.size+1) (w.heap.size+1+1) 306 298 #[.int .i64 0,.int .i64 0,.int .i64 0] #[.bool false,.int .i64 0,.bool false] (0,0) (0,0) _ _ rfl ?_ Tryz.underlying306 rfl z52 rfl ?_ Tryz.underlying298 rfl z1Z) rfl ⟨rfl,?_,?_⟩
 ·exact ((z0b _ (w.heap.size+1+1) _ _ _ (by omega)).trans (z0c hL.2.1 _ _ _))
 ·exact (z0c ((z0b _ _ _ _ _ (by omega)).trans hL.2.2) _ _ _)
 ·exact (h.sets3 (h.sets3 hA _ _ _ _ (by omega)) _ _ _ _ (by omega))
 ·exact ((hB'.sets3 _ _ _ _ (by omega)).sets3 _ _ _ _ (by omega))
theorem blk4 {w:World}{b ty:Nat}{x y z v:Value}(h:w.heap[b]?=some (.cells #[x,y,z,v] ty (0,0))):w.cell? ⟨b,0,none⟩=some x∧w.cell? ⟨b,1,none⟩=some y∧w.cell? ⟨b,2,none⟩=some z∧w.cell? ⟨b,3,none⟩=some v:=by
 simp[World.cell?,h]
theorem z9s {w:World}{b bw bs W G:Nat}{ws cs:Nat→Int}(h:Ar w b bw bs W G ws cs) {bt bu bl:Nat}{c:Int}(hx:Bx w bw bs bt bu bl c) {x y base cap:Nat}{t0 i0 d0:Int}(g:Nat) (hX:w.heap[x]?=some (.cells #[.pointer (some ⟨b,0,none⟩),.func (.func 182) #[] #[.pointer (some ⟨bt,0,none⟩)],.func (.func 183) #[] #[.pointer (some ⟨bu,0,none⟩)],.pointer (some ⟨b,0,none⟩),.func (.func 184) #[] #[.pointer (some ⟨bl,0,none⟩)],.func (.func 181) #[] #[],.int .i64 base,.int .i64 cap] 238 (0,0))) (hY:w.heap[y]?=some (.cells #[.int .i64 g] 3 (0,0))) (hg:g<G) (ha:base<W) (h1:0<c) (hr:(ws base).tmod c=0):
  Calls Tryz.prog 256 #[.agg #[.int .i64 0,.int .i64 t0,.int .i64 i0,.int .i64 d0],.pointer (some ⟨x,0,none⟩),.pointer (some ⟨y,0,none⟩)] w fun e w'=>e=.returned (.tuple #[.agg #[.int .i64 0,.int .i64 0,.int .i64 0,.int .i64 0],.agg #[.bool true,.int .i64 0,.bool false]]) ∧
   Ar w' b bw bs W G ws (upd cs g (wrap64 (cs g+1)))∧But bw bs w w':=by
 have hX3:=fun o p q=>blk8 (z01 (z01 (z01 hX o) p) q)
 have hY3:=fun o p q=>z08 (z01 (z01 (z01 hY o) p) q)
 go_enter Tryz.func256,Tryz.ntmps256
 go_wp2_with (go_at_call 253;refine (z2O (((h.alloc _).alloc _).alloc _) (((hx.alloc _).alloc _).alloc _) g base hg ha h1 rfl hr (by omega)).mono ?_;rintro e w1 ⟨rfl,hA,hB⟩;have hL:=z1T h.lts.1 h.lts.2 hB;have l0:=z02 hL.1;have l1:=z02 hL.2.1;have l2:=z02 hL.2.2;have b0:=blk4 hL.1;have b1:=blk4 hL.2.1;have b2:=blk3 hL.2.2;have z1:=frz hL.2.1;have z2:=frz hL.2.2)
 have hB':=((((But.refl bw bs w).alloc _).alloc _).alloc _).trans hB
 refine bodyPost_ret (z0K rfl _ _ (w.heap.size+1) (w.heap.size+1+1) 314 298 #[.int .i64 0,.int .i64 0,.int .i64 0,.int .i64 0] #[.bool true,.int .i64 0,.bool false] (0,0) (0,0) _ _ rfl ?_ Tryz.underlying314 rfl z3i rfl ?_ Tryz.underlying298 rfl z1Z) rfl ⟨rfl,?_,?_⟩
 ·exact z01 ((z0b _ (w.heap.size+1+1) _ _ _ (by omega)).trans (z18 hL.2.1 _ _ _ _)) _
 ·exact z01 (z0c ((z0Q _ _ _ _ _ _ (by omega)).trans hL.2.2) _ _ _) _
 ·exact (h.sets3 (h.sets4 hA _ _ _ _ _ (by omega)) _ _ _ _ (by omega)).alloc _
 ·exact ((hB'.sets4 _ _ _ _ _ (by omega)).sets3 _ _ _ _ (by omega)).alloc _
theorem zcD {w:World}{b bw bs W G:Nat}{ws cs:Nat→Int}(h:Ar w b bw bs W G ws cs) {bt bu bl:Nat}{c:Int}(hx:Bx w bw bs bt bu bl c) {x y base cap:Nat}{t0 i0 d0 t i:Int}(g:Nat) (hX:w.heap[x]?=some (.cells #[.pointer (some ⟨b,0,none⟩),.func (.func 182) #[] #[.pointer (some ⟨bt,0,none⟩)],.func (.func 183) #[] #[.pointer (some ⟨bu,0,none⟩)],.pointer (some ⟨b,0,none⟩),.func (.func 184) #[] #[.pointer (some ⟨bl,0,none⟩)],.func (.func 181) #[] #[],.int .i64 base,.int .i64 cap] 238 (0,0))) (hY:w.heap[y]?=some (.cells #[.int .i64 g] 3 (0,0))) (hg:g<G) (ha:base<W) (h1:0<c) (hq:wrap64 ((ws base).tdiv c)=t) (hr:(ws base).tmod c=i) (hi:0<i):
  Calls Tryz.prog 256 #[.agg #[.int .i64 0,.int .i64 t0,.int .i64 i0,.int .i64 d0],.pointer (some ⟨x,0,none⟩),.pointer (some ⟨y,0,none⟩)] w fun e w'=>e=.returned (.tuple #[.agg #[.int .i64 1,.int .i64 t,.int .i64 i,.int .i64 0],.agg #[.bool false,.int .i64 0,.bool false]]) ∧
   Ar w' b bw bs W G ws (upd cs g (wrap64 (cs g+1)))∧But bw bs w w':=by
 have hX3:=fun o p q=>blk8 (z01 (z01 (z01 hX o) p) q)
 have hY3:=fun o p q=>z08 (z01 (z01 (z01 hY o) p) q)
 go_enter Tryz.func256,Tryz.ntmps256
 go_wp2_with (go_at_call 253;refine (z2O (((h.alloc _).alloc _).alloc _) (((hx.alloc _).alloc _).alloc _) g base hg ha h1 hq hr (by omega)).mono ?_;rintro e w1 ⟨rfl,hA,hB⟩;have hL:=z1T h.lts.1 h.lts.2 hB;have l0:=z02 hL.1;have l1:=z02 hL.2.1;have l2:=z02 hL.2.2;have b0:=blk4 hL.1;have b1:=blk4 hL.2.1;have b2:=blk3 hL.2.2;have z1:=frz hL.2.1;have z2:=frz hL.2.2)
 have hB':=((((But.refl bw bs w).alloc _).alloc _).alloc _).trans hB
 refine bodyPost_ret (z0K rfl _ _ (w.heap.size+1) (w.heap.size+1+1) 314 298 #[.int .i64 1,.int .i64 t,.int .i64 i,.int .i64 0] #[.bool false,.int .i64 0,.bool false] (0,0) (0,0) _ _ rfl ?_ Tryz.underlying314 rfl z3i rfl ?_ Tryz.underlying298 rfl z1Z) rfl ⟨rfl,?_,?_⟩
 ·exact z01 ((z0b _ (w.heap.size+1+1) _ _ _ (by omega)).trans (z18 hL.2.1 _ _ _ _)) _
 ·exact z01 (z0c ((z0Q _ _ _ _ _ _ (by omega)).trans hL.2.2) _ _ _) _
 ·exact (h.sets3 (h.sets4 hA _ _ _ _ _ (by omega)) _ _ _ _ (by omega)).alloc _
 ·exact ((hB'.sets4 _ _ _ _ _ (by omega)).sets3 _ _ _ _ (by omega)).alloc _
theorem z6R {w:World}{b bw bs W G:Nat}{ws cs:Nat→Int}(h:Ar w b bw bs W G ws cs) {bt bu bl:Nat}{c:Int}(hx:Bx w bw bs bt bu bl c) {x y base cap:Nat}{t i d0 d:Int}(g a:Nat) (hX:w.heap[x]?=some (.cells #[.pointer (some ⟨b,0,none⟩),.func (.func 182) #[] #[.pointer (some ⟨bt,0,none⟩)],.func (.func 183) #[] #[.pointer (some ⟨bu,0,none⟩)],.pointer (some ⟨b,0,none⟩),.func (.func 184) #[] #[.pointer (some ⟨bl,0,none⟩)],.func (.func 181) #[] #[],.int .i64 base,.int .i64 cap] 238 (0,0))) (hY:w.heap[y]?=some (.cells #[.int .i64 g] 3 (0,0))) (y1:y≠bw) (y2:y≠bs) (hg:g<G) (ha:a<W) (hp:(base:Int)+i=a) (hW:W≤65536) (hd:(if 0≤ws a∧ws a<c then ws a else 0)=d):
  Calls Tryz.prog 256 #[.agg #[.int .i64 1,.int .i64 t,.int .i64 i,.int .i64 d0],.pointer (some ⟨x,0,none⟩),.pointer (some ⟨y,0,none⟩)] w fun e w'=>e=.returned (.tuple #[.agg #[.int .i64 2,.int .i64 t,.int .i64 i,.int .i64 d],.agg #[.bool false,.int .i64 0,.bool false]]) ∧
   Ar w' b bw bs W G ws (upd cs g (wrap64 (cs g+1)))∧But bw bs w w':=by
 have hX3:=fun o p q=>blk8 (z01 (z01 (z01 hX o) p) q)
 have hY3:=fun o p q=>z08 (z01 (z01 (z01 hY o) p) q)
 have nX1:=z0t hX (by decide) h.words
 have nX2:=z0t hX (by decide) h.steps
 go_enter Tryz.func256,Tryz.ntmps256
 go_wp2
 go_region_held3 (fun w'=>(w'.cell? ⟨x,0,none⟩=some (.pointer (some ⟨b,0,none⟩))∧w'.cell? ⟨x,1,none⟩=some (.func (.func 182) #[] #[.pointer (some ⟨bt,0,none⟩)])∧w'.cell? ⟨x,2,none⟩=some (.func (.func 183) #[] #[.pointer (some ⟨bu,0,none⟩)])∧w'.cell? ⟨x,3,none⟩=some (.pointer (some ⟨b,0,none⟩))∧w'.cell? ⟨x,4,none⟩=some (.func (.func 184) #[] #[.pointer (some ⟨bl,0,none⟩)])∧w'.cell? ⟨x,5,none⟩=some (.func (.func 181) #[] #[])∧w'.cell? ⟨x,6,none⟩=some (.int .i64 base)∧w'.cell? ⟨x,7,none⟩=some (.int .i64 cap))∧w'.cell? ⟨y,0,none⟩=some (.int .i64 g)∧w'.cell? ⟨w.heap.size,2,none⟩=some (.int .i64 i)) (go_keep)
  (first
   | (go_at_call 257;refine (z6x hA1 hx1 g a hg ha d hd).mono ?_;rintro e w2 ⟨rfl,hA,hB2⟩
      have hB:=hB1.trans hB2;have hL:=z1T h.lts.1 h.lts.2 hB;have l0:=z02 hL.1;have l1:=z02 hL.2.1;have l2:=z02 hL.2.2;have b0:=blk4 hL.1;have b1:=blk4 hL.2.1;have b2:=blk3 hL.2.2;have z1:=frz hL.2.1;have z2:=frz hL.2.2
      have hBw:=(((((But.refl bw bs w).alloc _).alloc _).alloc _).trans hB)
      have dX:=blk8 ((hBw.block _ (z02 hX) nX1 nX2).trans hX);have dY:=z08 ((hBw.block _ (z02 hY) y1 y2).trans hY))
   | (go_at_call 173;refine (z1m (cap:=cap) (bt:=bt) (bu:=bu) (bl:=bl) i a _ hp (by omega)).mono ?_;rintro e w1 ⟨rfl,hb⟩
      have hA1:=(((h.alloc _).alloc _).alloc _).below (z0Z hb);have hB1:=But.of_below (bw:=bw) (bs:=bs) (z0Z hb)
      have hBv:=(((((But.refl bw bs w).alloc _).alloc _).alloc _).trans hB1)
      have hx1:=hx.but hBv
      have eX:=blk8 ((hBv.block _ (z02 hX) nX1 nX2).trans hX);have eY:=z08 ((hBv.block _ (z02 hY) y1 y2).trans hY);have eS:=blk4 (z1T h.lts.1 h.lts.2 hB1).1))
 go_wp2
 have hB':=((((But.refl bw bs w).alloc _).alloc _).alloc _).trans hB
 refine bodyPost_ret (z0K rfl _ _ (w.heap.size+1) (w.heap.size+1+1) 314 298 #[.int .i64 2,.int .i64 t,.int .i64 i,.int .i64 d] #[.bool false,.int .i64 0,.bool false] (0,0) (0,0) _ _ rfl ?_ Tryz.underlying314 rfl z3i rfl ?_ Tryz.underlying298 rfl z1Z) rfl ⟨rfl,?_,?_⟩
 ·exact ((z0b _ (w.heap.size+1+1) _ _ _ (by omega)).trans (z18 hL.2.1 _ _ _ _))
 ·exact (z0c ((z0Q _ _ _ _ _ _ (by omega)).trans hL.2.2) _ _ _)
 ·exact (h.sets3 (h.sets4 hA _ _ _ _ _ (by omega)) _ _ _ _ (by omega))
 ·exact ((hB'.sets4 _ _ _ _ _ (by omega)).sets3 _ _ _ _ (by omega))
theorem z68 {w:World}{b bw bs W G:Nat}{ws cs:Nat→Int}(h:Ar w b bw bs W G ws cs) {bt bu bl:Nat}{c:Int}(hx:Bx w bw bs bt bu bl c) {x y base cap:Nat}{t t' i d z0 z1:Int}(g:Nat) (hX:w.heap[x]?=some (.cells #[.pointer (some ⟨b,0,none⟩),.func (.func 182) #[] #[.pointer (some ⟨bt,0,none⟩)],.func (.func 183) #[] #[.pointer (some ⟨bu,0,none⟩)],.pointer (some ⟨b,0,none⟩),.func (.func 184) #[] #[.pointer (some ⟨bl,0,none⟩)],.func (.func 181) #[] #[],.int .i64 base,.int .i64 cap] 238 (0,0))) (hY:w.heap[y]?=some (.cells #[.int .i64 g] 3 (0,0))) (hg:g<G) (ha:base<W) (ht:wrap64 (t+1)=t') (hz:wrap64 (wrap64 (t*c)+i)=z0) (hz':wrap64 (wrap64 (t'*c)+d)=z1) (i0:0≤i) (i1:i<100000) (hy:(ws base != z0)=false):
  Calls Tryz.prog 256 #[.agg #[.int .i64 2,.int .i64 t,.int .i64 i,.int .i64 d],.pointer (some ⟨x,0,none⟩),.pointer (some ⟨y,0,none⟩)] w fun e w'=>e=.returned (.tuple #[.agg #[.int .i64 0,.int .i64 0,.int .i64 0,.int .i64 0],.agg #[.bool true,.int .i64 (i-1),.bool true]]) ∧
   Ar w' b bw bs W G (upd ws base z1) (upd cs g (wrap64 (cs g+1)))∧But bw bs w w':=by
 have hX3:=fun o p q=>blk8 (z01 (z01 (z01 hX o) p) q)
 have hY3:=fun o p q=>z08 (z01 (z01 (z01 hY o) p) q)
 go_enter Tryz.func256,Tryz.ntmps256
 go_wp2_with (first|(go_at_call 255;refine (z3D (((h.alloc _).alloc _).alloc _) (((hx.alloc _).alloc _).alloc _) g hg ha ht hz hz' hy).mono ?_;rintro e w1 ⟨rfl,hA,hB⟩;have hL:=z1T h.lts.1 h.lts.2 hB;have l0:=z02 hL.1;have l1:=z02 hL.2.1;have l2:=z02 hL.2.2;have b0:=blk4 hL.1;have b1:=blk4 hL.2.1;have b2:=blk3 hL.2.2;have z1:=frz hL.2.1;have z2:=frz hL.2.2)|(go_at_call 258;refine (z8t _ _ i0 i1).mono ?_;rintro e w2 ⟨rfl,rfl⟩))
 have hB':=((((But.refl bw bs w).alloc _).alloc _).alloc _).trans hB
 refine bodyPost_ret (z0K rfl _ _ (w.heap.size+1) (w.heap.size+1+1) 314 298 #[.int .i64 0,.int .i64 0,.int .i64 0,.int .i64 0] #[.bool true,.int .i64 (i-1),.bool true] (0,0) (0,0) _ _ rfl ?_ Tryz.underlying314 rfl z3i rfl ?_ Tryz.underlying298 rfl z1Z) rfl ⟨rfl,?_,?_⟩
 ·exact ((z0b _ (w.heap.size+1+1) _ _ _ (by omega)).trans (z18 hL.2.1 _ _ _ _))
 ·exact (z0c ((z0Q _ _ _ _ _ _ (by omega)).trans hL.2.2) _ _ _)
 ·exact (h.sets3 (h.sets4 hA _ _ _ _ _ (by omega)) _ _ _ _ (by omega))
 ·exact ((hB'.sets4 _ _ _ _ _ (by omega)).sets3 _ _ _ _ (by omega))
theorem z6I {w:World}{b bw bs W G:Nat}{ws cs:Nat→Int}(h:Ar w b bw bs W G ws cs) {bt bu bl:Nat}{c:Int}(hx:Bx w bw bs bt bu bl c) {x y base cap:Nat}{t i d z0:Int}(g:Nat) (hX:w.heap[x]?=some (.cells #[.pointer (some ⟨b,0,none⟩),.func (.func 182) #[] #[.pointer (some ⟨bt,0,none⟩)],.func (.func 183) #[] #[.pointer (some ⟨bu,0,none⟩)],.pointer (some ⟨b,0,none⟩),.func (.func 184) #[] #[.pointer (some ⟨bl,0,none⟩)],.func (.func 181) #[] #[],.int .i64 base,.int .i64 cap] 238 (0,0))) (hY:w.heap[y]?=some (.cells #[.int .i64 g] 3 (0,0))) (hg:g<G) (ha:base<W) (hz:wrap64 (wrap64 (t*c)+i)=z0) (hy:(ws base != z0)=true):
  Calls Tryz.prog 256 #[.agg #[.int .i64 2,.int .i64 t,.int .i64 i,.int .i64 d],.pointer (some ⟨x,0,none⟩),.pointer (some ⟨y,0,none⟩)] w fun e w'=>e=.returned (.tuple #[.agg #[.int .i64 0,.int .i64 0,.int .i64 0,.int .i64 0],.agg #[.bool false,.int .i64 0,.bool false]]) ∧
   Ar w' b bw bs W G ws (upd cs g (wrap64 (cs g+1)))∧But bw bs w w':=by
 have hX3:=fun o p q=>blk8 (z01 (z01 (z01 hX o) p) q)
 have hY3:=fun o p q=>z08 (z01 (z01 (z01 hY o) p) q)
 go_enter Tryz.func256,Tryz.ntmps256
 go_wp2_with (go_at_call 255;refine (z46 (((h.alloc _).alloc _).alloc _) (((hx.alloc _).alloc _).alloc _) g hg ha hz hy).mono ?_;rintro e w1 ⟨rfl,hA,hB⟩;have hL:=z1T h.lts.1 h.lts.2 hB;have l0:=z02 hL.1;have l1:=z02 hL.2.1;have l2:=z02 hL.2.2;have b0:=blk4 hL.1;have b1:=blk4 hL.2.1;have b2:=blk3 hL.2.2;have z1:=frz hL.2.1;have z2:=frz hL.2.2)
 have hB':=((((But.refl bw bs w).alloc _).alloc _).alloc _).trans hB
 refine bodyPost_ret (z0K rfl _ _ (w.heap.size+1) (w.heap.size+1+1) 314 298 #[.int .i64 0,.int .i64 0,.int .i64 0,.int .i64 0] #[.bool false,.int .i64 0,.bool false] (0,0) (0,0) _ _ rfl ?_ Tryz.underlying314 rfl z3i rfl ?_ Tryz.underlying298 rfl z1Z) rfl ⟨rfl,?_,?_⟩
 ·exact ((z0b _ (w.heap.size+1+1) _ _ _ (by omega)).trans (z18 hL.2.1 _ _ _ _))
 ·exact (z0c ((z0Q _ _ _ _ _ _ (by omega)).trans hL.2.2) _ _ _)
 ·exact (h.sets3 (h.sets4 hA _ _ _ _ _ (by omega)) _ _ _ _ (by omega))
 ·exact ((hB'.sets4 _ _ _ _ _ (by omega)).sets3 _ _ _ _ (by omega))
end Go.Proofs.YthkelaeemefnaaaGreat
