import Derived.Test.YthkelaeemefnaaaGreatRows
import Derived.WalkKit
import Derived.ProofKit
import Derived.BigQuiet
import Derived.Deep.OwnRows
import Derived.Deep.RegionWith
import Derived.Laws.Rows
import Derived.Deep.Draws
import Derived.Laws.EntriesVeiled
namespace Go.Proofs.YthkelaeemefnaaaGreat
open Go.RowKit
structure Ar (w:World) (b bw bs W G:Nat) (ws cs:Nat→Int):Prop where
 here:w.heap[b]?=some (.cells #[.slice (some ⟨bw,0,none⟩) W W,.slice (some ⟨bs,0,none⟩) G G] 149 (0,0))
 words:w.rowIs bw 3 W (fun i=>.int .i64 (ws i))
 steps:w.rowIs bs 3 G (fun i=>.int .i64 (cs i))
 part:bw≠bs
theorem Ar.c0 {w:World}{b bw bs W G:Nat}{ws cs:Nat→Int}(h:Ar w b bw bs W G ws cs):w.cell? ⟨b,0,none⟩=some (.slice (some ⟨bw,0,none⟩) W W):=by
 simp[World.cell?,h.here]
theorem Ar.c1 {w:World}{b bw bs W G:Nat}{ws cs:Nat→Int}(h:Ar w b bw bs W G ws cs):w.cell? ⟨b,1,none⟩=some (.slice (some ⟨bs,0,none⟩) G G):=by
 simp[World.cell?,h.here]
theorem Ar.b_bw {w:World}{b bw bs W G:Nat}{ws cs:Nat→Int}(h:Ar w b bw bs W G ws cs):b≠bw:=by
 rintro rfl
 obtain⟨c,hc,_⟩:=h.words
 rw[h.here] at hc;simp at hc
theorem Ar.b_bs {w:World}{b bw bs W G:Nat}{ws cs:Nat→Int}(h:Ar w b bw bs W G ws cs):b≠bs:=by
 rintro rfl
 obtain⟨c,hc,_⟩:=h.steps
 rw[h.here] at hc;simp at hc
def upd (f:Nat→Int) (i:Nat) (v:Int):Nat→Int:=fun j=>if j=i then v else f j
theorem z1a (f:Nat→Int) (i:Nat) (v:Int):upd f i v i=v:=by simp[upd]
theorem z09 (f:Nat→Int) {i j:Nat}(v:Int) (h:j≠i):upd f i v j=f j:=by simp[upd,h]
theorem Ar.of_blocks {w w':World}{b bw bs W G:Nat}{ws cs:Nat→Int}(h:Ar w b bw bs W G ws cs) (e:∀ k,k<w.heap.size→w'.heap[k]?=w.heap[k]?):Ar w' b bw bs W G ws cs :=
 ⟨by rw[e b (Array.getElem?_eq_some_iff.1 h.here).1];exact h.here,h.words.of_block (e _ h.words.lt),h.steps.of_block (e _ h.steps.lt),h.part⟩
theorem Ar.below {w w':World}{b bw bs W G:Nat}{ws cs:Nat→Int}(h:Ar w b bw bs W G ws cs) (e:Below w.heap.size w w'):Ar w' b bw bs W G ws cs:=h.of_blocks e.block
theorem Ar.alloc {w:World}{b bw bs W G:Nat}{ws cs:Nat→Int}(h:Ar w b bw bs W G ws cs) (o:Obj):Ar (w.alloc o) b bw bs W G ws cs:=h.of_blocks fun _ hk=>Below.heap_alloc _ _ _ hk
theorem Ar.tick {w:World}{b bw bs W G:Nat}{ws cs:Nat→Int}(h:Ar w b bw bs W G ws cs) (g:Nat) (v:Int):Ar (w.setCell ⟨bs,g,none⟩ (.int .i64 v)) b bw bs W G ws (upd cs g v):=by
 refine⟨by rw[Below.heap_setCell _ _ _ _ h.b_bs];exact h.here,h.words.setOther h.part _,(h.steps.set g (.int .i64 v)).congr fun i _=>?_,h.part⟩
 unfold upd;split<;>rfl
theorem Ar.put {w:World}{b bw bs W G:Nat}{ws cs:Nat→Int}(h:Ar w b bw bs W G ws cs) (a:Nat) (v:Int):Ar (w.setCell ⟨bw,a,none⟩ (.int .i64 v)) b bw bs W G (upd ws a v) cs:=by
 refine⟨by rw[Below.heap_setCell _ _ _ _ h.b_bw];exact h.here,(h.words.set a (.int .i64 v)).congr fun i _=>?_,h.steps.setOther (fun e=>h.part e.symm) _,h.part⟩
 unfold upd;split<;>rfl
theorem Ar.lt {w:World}{b bw bs W G:Nat}{ws cs:Nat→Int}(h:Ar w b bw bs W G ws cs):b<w.heap.size:=(Array.getElem?_eq_some_iff.1 h.here).1
structure But (bw bs:Nat) (w w':World):Prop where
 os:w'.os=w.os
 tape:w'.tape=w.tape
 output:w'.output=w.output
 size:w.heap.size≤w'.heap.size
 block:∀ k,k<w.heap.size→k≠bw→k≠bs→w'.heap[k]?=w.heap[k]?
theorem But.refl (bw bs:Nat) (w:World):But bw bs w w:=⟨rfl,rfl,rfl,Nat.le_refl _,fun _ _ _ _=>rfl⟩
theorem But.trans {bw bs:Nat}{a b c:World}(h:But bw bs a b) (k:But bw bs b c):But bw bs a c :=
 ⟨k.os.trans h.os,k.tape.trans h.tape,k.output.trans h.output,Nat.le_trans h.size k.size,fun i hi e1 e2=>(k.block i (Nat.lt_of_lt_of_le hi h.size) e1 e2).trans (h.block i hi e1 e2)⟩
theorem But.of_below {bw bs:Nat}{w w':World}(h:Below w.heap.size w w'):But bw bs w w':=⟨h.os,h.tape,h.output,h.size,fun k hk _ _=>h.block k hk⟩
theorem But.setw {bw bs:Nat}{a w:World}(h:But bw bs a w) (i:Nat) (v:Value):But bw bs a (w.setCell ⟨bw,i,none⟩ v) :=
 h.trans ⟨rfl,rfl,rfl,by simp[World.setCell],fun k _ e _=>Below.heap_setCell _ _ _ _ e⟩
theorem But.sets {bw bs:Nat}{a w:World}(h:But bw bs a w) (i:Nat) (v:Value):But bw bs a (w.setCell ⟨bs,i,none⟩ v) :=
 h.trans ⟨rfl,rfl,rfl,by simp[World.setCell],fun k _ _ e=>Below.heap_setCell _ _ _ _ e⟩
theorem But.alloc {bw bs:Nat}{a w:World}(h:But bw bs a w) (o:Obj):But bw bs a (w.alloc o):=h.trans (But.of_below ((Below.refl _ _).alloc (Nat.le_refl _) o))
theorem But.under {bw bs B:Nat}{w0 w w':World}(h:Below B w0 w) (hB:B≤w.heap.size) (h1:B≤bw) (h2:B≤bs) (k:But bw bs w w'):Below B w0 w' :=
 h.trans ⟨k.os,k.tape,k.output,k.size,fun i hi=>k.block i (by omega) (by omega) (by omega)⟩
theorem z00 (w:World) (n B:Nat):Below B w (w.drewN n):=⟨rfl,rfl,rfl,Nat.le_refl _,fun _ _=>rfl⟩
theorem z04 (x:Int) (w:World):Calls Tryz.prog 9 #[.int .i64 x] w fun e w'=>e=.returned (.int .i64 x)∧w'=w:=by
 go_enter Tryz.func9,Tryz.ntmps9
 go_wp2
 go_ret
 exact⟨rfl,rfl⟩
theorem z7I (x:Int) (w:World):Calls Tryz.prog 205 #[.int .i64 x] w fun e w'=>e=.returned (.int .i64 x)∧w'=w:=by
 go_enter Tryz.func205,Tryz.ntmps205
 go_wp2
 go_ret
 exact⟨rfl,rfl⟩
theorem z3a (x n:Int) (w:World) (h0:0≤x) (h1:x<n):Calls Tryz.prog 140 #[.int .i64 x,.int .i64 n] w fun e w'=>e=.returned (.bool true)∧w'=w:=by
 go_enter Tryz.func140,Tryz.ntmps140
 go_wp2
 go_ret
 exact⟨rfl,rfl⟩
theorem z8e (x n:Int) (w:World) (h:¬ (0≤x∧x<n)):Calls Tryz.prog 140 #[.int .i64 x,.int .i64 n] w fun e w'=>e=.returned (.bool false)∧w'=w:=by
 by_cases h0:0≤x
 ·have h1:decide (x<n)=false:=by simp;omega
  clear h
  go_enter Tryz.func140,Tryz.ntmps140
  go_wp2
  go_ret
  exact⟨rfl,rfl⟩
 ·have h1:x<0:=by omega
  clear h h0
  go_enter Tryz.func140,Tryz.ntmps140
  go_wp2
  go_ret
  exact⟨rfl,rfl⟩
theorem z3z (x n:Int) (w:World) (h0:1≤x) (h1:x≤n):Calls Tryz.prog 109 #[.int .i64 x,.int .i64 n] w fun e w'=>e=.returned (.bool true)∧w'=w:=by
 go_enter Tryz.func109,Tryz.ntmps109
 go_wp2
 go_ret
 exact⟨rfl,rfl⟩
theorem z0k {w:World}{b bw bs W G:Nat}{ws cs:Nat→Int}(h:Ar w b bw bs W G ws cs) (g:Int) (h0:0≤g) (h1:g<G):
  Calls Tryz.prog 115 #[.pointer (some ⟨b,0,none⟩),.int .i64 g] w fun e w'=>e=.returned (.bool true)∧w'=w:=by
 have c1:=h.c1
 go_enter Tryz.func115,Tryz.ntmps115
 go_wp2_with (go_at_call 140;refine (z3a _ _ _ h0 h1).mono ?_;rintro e w1 ⟨rfl,rfl⟩)
 go_ret
 exact⟨rfl,rfl⟩
theorem z3g {w:World}{b bw bs W G:Nat}{ws cs:Nat→Int}(h:Ar w b bw bs W G ws cs) (g:Int) (hg:¬ (0≤g∧g<G)):
  Calls Tryz.prog 115 #[.pointer (some ⟨b,0,none⟩),.int .i64 g] w fun e w'=>e=.returned (.bool false)∧w'=w:=by
 have c1:=h.c1
 have hp:=z8e g G w hg
 clear hg
 go_enter Tryz.func115,Tryz.ntmps115
 go_wp2_with (go_at_call 140;refine hp.mono ?_;rintro e w1 ⟨rfl,rfl⟩)
 go_ret
 exact⟨rfl,rfl⟩
theorem z2f {w:World}{b bw bs W G:Nat}{ws cs:Nat→Int}(h:Ar w b bw bs W G ws cs) (a:Nat) (ha:a<W):
  Calls Tryz.prog 167 #[.pointer (some ⟨b,0,none⟩),.int .i64 a] w fun e w'=>e=.returned (.tuple #[.pointer (some ⟨bw,a,none⟩),.int .i64 0])∧w'=w:=by
 have c0:=h.c0
 go_enter Tryz.func167,Tryz.ntmps167
 go_wp2_with (go_at_call 140;refine (z3a _ _ _ (by omega) (by omega)).mono ?_;rintro e w1 ⟨rfl,rfl⟩)
 go_ret2
 exact⟨rfl,rfl⟩
theorem z6V {w:World}{b bw bs W G:Nat}{ws cs:Nat→Int}(h:Ar w b bw bs W G ws cs) (g a:Nat) (hg:g<G) (ha:a<W):
  Calls Tryz.prog 206 #[.pointer (some ⟨b,0,none⟩),.int .i64 g,.int .i64 a] w fun e w'=>e=.returned (.tuple #[.pointer (some ⟨bw,a,none⟩),.int .i64 0])∧w'=w.setCell ⟨bs,g,none⟩ (.int .i64 (wrap64 (cs g+1))):=by
 have c1:=h.c1
 have cg:=h.steps.cell hg
 have fg:=h.steps.frozen g
 go_enter Tryz.func206,Tryz.ntmps206
 go_wp2_with (first|(go_at_call 115;refine (z0k h _ (by omega) (by omega)).mono ?_;rintro e w1 ⟨rfl,rfl⟩)|(go_at_call 167;refine (z2f h _ ha).mono ?_;rintro e w1 ⟨rfl,rfl⟩))
 go_ret2
 exact⟨rfl,rfl⟩
theorem zd7:(Tryz.prog.info? 272).map (·.size)=some 3:=by kernel_rfl
theorem zeW (w:World):(binOp BinOp.eql 61 (.func (.func 205) #[] #[]) .nilFunc).run Tryz.prog w=.ok (.bool false) w:=by kernel_rfl
theorem z8L (b:Nat) (w:World):
  Calls Tryz.prog 204 #[.pointer (some ⟨b,0,none⟩),.func (.func 205) #[] #[],.func (.func 205) #[] #[]] w fun e w'=>e=.returned (.agg #[.pointer (some ⟨b,0,none⟩),.func (.func 205) #[] #[],.func (.func 205) #[] #[]]) ∧
   w'=w.alloc (.cells #[.pointer (some ⟨b,0,none⟩),.func (.func 205) #[] #[],.func (.func 205) #[] #[]] 272):=by
 have hn:=zeW
 go_enter Tryz.func204,Tryz.ntmps204
 go_wp2
 exact bodyPost_ret (results_cell_row rfl _ _ w.heap.size 272 _ (0,0) _ rfl (heap_alloc_new w _) Tryz.underlying272 rfl zd7) rfl ⟨rfl,rfl⟩
theorem z5z (b:Nat) (w:World):
  Calls Tryz.prog 202 #[.pointer (some ⟨b,0,none⟩)] w fun e w'=>e=.returned (.agg #[.pointer (some ⟨b,0,none⟩),.func (.func 205) #[] #[],.func (.func 205) #[] #[]])∧Below w.heap.size w w':=by
 go_enter Tryz.func202,Tryz.ntmps202
 go_wp2_with (go_at_call 204;refine (z8L _ _).mono ?_;rintro e w1 ⟨rfl,rfl⟩)
 exact bodyPost_ret (results_cell_row rfl _ _ w.heap.size 272 _ (0,0) _ rfl ((Below.heap_alloc _ _ _ (by simp)).trans (heap_alloc_new w _)) Tryz.underlying272 rfl zd7) rfl ⟨rfl,((Below.refl _ _).alloc (Nat.le_refl _) _).alloc (by simp) _⟩
theorem own2 (b k g:Nat) (w:World) (v:Value) (hk:k<w.heap.size):((w.alloc (.cells #[.pointer (some ⟨b,0,none⟩),.func (.func 205) #[] #[],.func (.func 205) #[] #[]] 272)).setCell ⟨k,g,none⟩ v).heap[w.heap.size]?=some (.cells #[.pointer (some ⟨b,0,none⟩),.func (.func 205) #[] #[],.func (.func 205) #[] #[]] 272 (0,0)):=by
 rw[Below.heap_setCell _ _ _ _ (by show w.heap.size≠k;omega)];exact heap_alloc_new w _
theorem zcY {w:World}{b bw bs W G:Nat}{ws cs:Nat→Int}(h:Ar w b bw bs W G ws cs) (g a:Nat) (hg:g<G) (ha:a<W):
  Calls Tryz.prog 203 #[.agg #[.pointer (some ⟨b,0,none⟩),.func (.func 205) #[] #[],.func (.func 205) #[] #[]],.int .i64 g,.int .i64 a] w fun e w'=>e=.returned (.tuple #[.int .i64 (ws a),.int .i64 0]) ∧
   Ar w' b bw bs W G ws (upd cs g (wrap64 (cs g+1)))∧But bw bs w w':=by
 have h1:=h.alloc
 have hw:∀ c v,((w.alloc c).setCell ⟨bs,g,none⟩ v).cell? ⟨bw,a,none⟩=some (.int .i64 (ws a)):=fun c v=>((h.words.alloc c).setOther (a:=⟨bs,g,none⟩) h.part v).cell ha
 have hf:∀ v,((w.alloc (.cells #[.pointer (some ⟨b,0,none⟩),.func (.func 205) #[] #[],.func (.func 205) #[] #[]] 272)).setCell ⟨bs,g,none⟩ v).cell? ⟨w.heap.size,1,none⟩=some (.func (.func 205) #[] #[]):=by
  intro v;simp only[World.cell?,own2 b bs g w v h.steps.lt];rfl
 go_enter Tryz.func203,Tryz.ntmps203
 go_wp2_with (go_at_call 206;refine (z6V (h1 _) _ _ hg ha).mono ?_;rintro e w1 ⟨rfl,rfl⟩)
 go_quiet ((go_at_call 205;exact Calls.quiet_of_same (z7I _ _)))
 go_wp2
 go_ret2
 exact⟨rfl,((h1 _).tick g _).below (z00 _ _ _),(((But.refl _ _ _).alloc _).sets g _).trans (But.of_below (z00 _ _ _))⟩
theorem zay {w:World}{b bw bs W G:Nat}{ws cs:Nat→Int}(h:Ar w b bw bs W G ws cs) (g a:Nat) (v:Int) (hg:g<G) (ha:a<W):
  Calls Tryz.prog 239 #[.agg #[.pointer (some ⟨b,0,none⟩),.func (.func 205) #[] #[],.func (.func 205) #[] #[]],.int .i64 g,.int .i64 a,.int .i64 v] w fun e w'=>e=.returned (.int .i64 0) ∧
   Ar w' b bw bs W G (upd ws a v) (upd cs g (wrap64 (cs g+1)))∧But bw bs w w':=by
 have h1:=h.alloc
 have hw:∀ c v,((w.alloc c).setCell ⟨bs,g,none⟩ v).cell? ⟨bw,a,none⟩=some (.int .i64 (ws a)):=fun c v=>((h.words.alloc c).setOther (a:=⟨bs,g,none⟩) h.part v).cell ha
 have hz:∀ c v,((w.alloc c).setCell ⟨bs,g,none⟩ v).frozen? ⟨bw,a,none⟩=false:=fun c v=>((h.words.alloc c).setOther (a:=⟨bs,g,none⟩) h.part v).frozen a
 have hf:∀ v,((w.alloc (.cells #[.pointer (some ⟨b,0,none⟩),.func (.func 205) #[] #[],.func (.func 205) #[] #[]] 272)).setCell ⟨bs,g,none⟩ v).cell? ⟨w.heap.size,2,none⟩=some (.func (.func 205) #[] #[]):=by
  intro v;simp only[World.cell?,own2 b bs g w v h.steps.lt];rfl
 go_enter Tryz.func239,Tryz.ntmps239
 go_wp2_with (first|(go_at_call 206;refine (z6V (h1 _) _ _ hg ha).mono ?_;rintro e w1 ⟨rfl,rfl⟩)|(go_at_call 205;refine (z7I _ _).mono ?_;rintro e w1 ⟨rfl,rfl⟩))
 go_ret
 exact⟨rfl,((h1 _).tick g _).put a v,(((But.refl _ _ _).alloc _).sets g _).setw a _⟩
theorem zaw {w:World}{b bw bs W G:Nat}{ws cs:Nat→Int}(h:Ar w b bw bs W G ws cs) (g a:Nat) (hg:g<G) (ha:a<W):
  Calls Tryz.prog 201 #[.pointer (some ⟨b,0,none⟩),.int .i64 g,.int .i64 a] w fun e w'=>e=.returned (.tuple #[.int .i64 (ws a),.int .i64 0])∧Ar w' b bw bs W G ws (upd cs g (wrap64 (cs g+1)))∧But bw bs w w':=by
 go_enter Tryz.func201,Tryz.ntmps201
 go_wp2_with (first|(go_at_call 202;refine (z5z _ _).mono ?_;rintro e w1 ⟨rfl,hb⟩)|(go_at_call 203;refine (zcY (h.below hb) _ _ hg ha).mono ?_;rintro e w2 ⟨rfl,hA,hB⟩))
 go_ret2
 exact⟨rfl,hA,(But.of_below hb).trans hB⟩
theorem z7T {w:World}{b bw bs W G:Nat}{ws cs:Nat→Int}(h:Ar w b bw bs W G ws cs) (g a:Nat) (v:Int) (hg:g<G) (ha:a<W):
  Calls Tryz.prog 232 #[.pointer (some ⟨b,0,none⟩),.int .i64 g,.int .i64 a,.int .i64 v] w fun e w'=>e=.returned (.int .i64 0)∧Ar w' b bw bs W G (upd ws a v) (upd cs g (wrap64 (cs g+1)))∧But bw bs w w':=by
 go_enter Tryz.func232,Tryz.ntmps232
 go_wp2_with (first|(go_at_call 202;refine (z5z _ _).mono ?_;rintro e w1 ⟨rfl,hb⟩)|(go_at_call 239;refine (zay (h.below hb) _ _ _ hg ha).mono ?_;rintro e w2 ⟨rfl,hA,hB⟩))
 go_ret
 exact⟨rfl,hA,(But.of_below hb).trans hB⟩
theorem z3j {w:World}{b bw bs W G:Nat}{ws cs:Nat→Int}(h:Ar w b bw bs W G ws cs):
  Calls Tryz.prog 131 #[.pointer (some ⟨b,0,none⟩)] w fun e w'=>e=.returned (.int .i64 W)∧w'=w:=by
 have c0:=h.c0
 go_enter Tryz.func131,Tryz.ntmps131
 go_wp2
 go_ret
 exact⟨rfl,rfl⟩
theorem zbL:(Tryz.prog.info? 3).map (fun i=>(i.zero,i.size,i.bytes))=some (some (.int .i64 0),1,8):=by kernel_rfl
theorem z83 (w:World) (n m:Nat):((w.alloc (.cells (madeCells #[.int .i64 0] n) 3)).alloc (.cells (madeCells #[.int .i64 0] m) 3)).rowIs w.heap.size 3 n (fun _=>.int .i64 0) ∧
  ((w.alloc (.cells (madeCells #[.int .i64 0] n) 3)).alloc (.cells (madeCells #[.int .i64 0] m) 3)).rowIs (w.heap.size+1) 3 m (fun _=>.int .i64 0):=by
 refine⟨(World.rowIs_made w (.int .i64 0) n 3).alloc _,?_⟩
 have h:=World.rowIs_made (w.alloc (.cells (madeCells #[.int .i64 0] n) 3)) (.int .i64 0) m 3
 rw[Go.Deep.nblk_alloc] at h
 exact h
theorem z3I (w:World) (x y:Obj):Below w.heap.size w ((w.alloc x).alloc y):=((Below.refl _ _).alloc (Nat.le_refl _) _).alloc (by simp) _
theorem zaF (w:World) (x y:Obj) (bw bs W G:Nat) (hp:bw≠bs) (h1:((w.alloc x).alloc y).rowIs bw 3 W (fun _=>.int .i64 0)) (h2:((w.alloc x).alloc y).rowIs bs 3 G (fun _=>.int .i64 0)):
  Ar (((w.alloc x).alloc y).alloc (.cells #[.slice (some ⟨bw,0,none⟩) W W,.slice (some ⟨bs,0,none⟩) G G] 149)).drew (w.heap.size+1+1) bw bs W G (fun _=>0) (fun _=>0) ∧
  Below w.heap.size w (((w.alloc x).alloc y).alloc (.cells #[.slice (some ⟨bw,0,none⟩) W W,.slice (some ⟨bs,0,none⟩) G G] 149)).drew:=by
 refine⟨⟨?_,(h1.alloc _).drew,(h2.alloc _).drew,hp⟩,((z3I w x y).alloc (by simp;omega) _).drew⟩
 have h:=heap_alloc_new ((w.alloc x).alloc y) (.cells #[.slice (some ⟨bw,0,none⟩) W W,.slice (some ⟨bs,0,none⟩) G G] 149)
 rw[Go.Deep.nblk_alloc,Go.Deep.nblk_alloc] at h
 exact h
theorem zfl (W G:Nat) (w:World) (hW:1≤W) (hW':W≤65536) (hG:1≤G) (hG':G≤12):
  Calls Tryz.prog 89 #[.int .i64 W,.int .i64 G] w fun e w'=>∃ b bw bs,e=.returned (.tuple #[.pointer (some ⟨b,0,none⟩),.int .i64 0])∧Ar w' b bw bs W G (fun _=>0) (fun _=>0)∧Below w.heap.size w w'∧w.heap.size≤b∧w.heap.size≤bw∧w.heap.size≤bs:=by
 have hq:=z3z W 65536 w (by omega) (by omega)
 have hr:=z3z G 12 w (by omega) (by omega)
 have hmk:=run_make_row' (P:=Tryz.prog) 32 3 (.int .i64 0) 8 Tryz.underlying32 zbL rfl .i64 .i64 W (by omega) (by omega)
 have hml:=run_make_row' (P:=Tryz.prog) 32 3 (.int .i64 0) 8 Tryz.underlying32 zbL rfl .i64 .i64 G (by omega) (by omega)
 go_enter Tryz.func89,Tryz.ntmps89
 go_wp2_with (first|(go_at_call_of 109 (Value.int .i64 65536);refine hq.mono ?_;rintro e w1 ⟨rfl,rfl⟩)|(go_at_call_of 109 (Value.int .i64 12);refine hr.mono ?_;rintro e w1 ⟨rfl,rfl⟩))
 go_region
 ·go_wp2
  go_ret2
  obtain⟨r1,r2⟩:=z83 w1 W G
  have E:=zaF _ _ _ _ _ W G (by omega) r1 r2
  exact⟨_,_,_,rfl,E.1,E.2,by omega,by omega,by omega⟩
 ·go_wp2
  go_ret2
  obtain⟨r1,r2⟩:=z83 w1 G W
  have E:=zaF _ _ _ _ _ W G (by omega) r2 r1
  exact⟨_,_,_,rfl,E.1,E.2,by omega,by omega,by omega⟩
theorem Ar.one {w:World}{b bw bs bw' bs' W W' G G':Nat}{ws cs ws' cs':Nat→Int}(h:Ar w b bw bs W G ws cs) (h':Ar w b bw' bs' W' G' ws' cs'):bw'=bw∧bs'=bs∧W'=W∧G'=G∧(∀ a,a<W→ws' a=ws a)∧∀ a,a<G→cs' a=cs a:=by
 have e:=h'.here
 rw[h.here] at e
 simp only[Option.some.injEq,Obj.cells.injEq,Array.mk.injEq,List.cons.injEq,Value.slice.injEq,Addr.mk.injEq,and_true] at e
 obtain⟨⟨rfl,rfl,_⟩,rfl,rfl,_⟩:=e
 refine⟨rfl,rfl,rfl,rfl,fun a ha=>?_,fun a ha=>?_⟩
 ·have e1:=h.words.cell ha
  rw[h'.words.cell ha] at e1
  simpa using e1
 ·have e1:=h.steps.cell ha
  rw[h'.steps.cell ha] at e1
  simpa using e1
theorem Ar.stays {w w':World}{b bw bs bw' bs' W W' G G':Nat}{ws cs ws' cs':Nat→Int}(h:Ar w b bw bs W G ws cs) (h':Ar w' b bw' bs' W' G' ws' cs') (e:w'.heap[b]?=w.heap[b]?):bw'=bw∧bs'=bs:=by
 have eh:=h'.here
 rw[e,h.here] at eh
 simp only[Option.some.injEq,Obj.cells.injEq,Array.mk.injEq,List.cons.injEq,Value.slice.injEq,Addr.mk.injEq,and_true] at eh
 exact⟨eh.1.1.symm,eh.2.1.symm⟩
structure Else (w w':World) (P:Nat→Prop) (b W G lo hi:Nat) (ws' cs':Nat→Int):Prop where
 rows:∀ bw bs ws cs,Ar w b bw bs W G ws cs→Ar w' b bw bs W G ws' cs'∧(∀ a,lo≤a→a<hi→ws' a=ws a)∧∀ k,P k→k≠bw→k≠bs→w'.heap[k]?=w.heap[k]?
 size:w.heap.size≤w'.heap.size
theorem Else.sub {w w':World}{P Q:Nat→Prop}{b W G lo hi lo' hi':Nat}{ws' cs':Nat→Int}(h:Else w w' P b W G lo hi ws' cs') (hq:∀ k,Q k→P k) (h1:lo≤lo') (h2:hi'≤hi):Else w w' Q b W G lo' hi' ws' cs' :=
 ⟨fun bw bs ws cs hA=>⟨(h.rows bw bs ws cs hA).1,fun a l1 l2=>(h.rows bw bs ws cs hA).2.1 a (by omega) (by omega),fun k hk=>(h.rows bw bs ws cs hA).2.2 k (hq k hk)⟩,h.size⟩
def Meet (w:World) (P Q:Nat→Prop) (b:Nat):Prop:=∀ k,P k→Q k→k=b∨∃ bw bs W G ws cs,Ar w b bw bs W G ws cs∧(k=bw∨k=bs)
theorem Meet.symm {w:World}{P Q:Nat→Prop}{b:Nat}(h:Meet w P Q b):Meet w Q P b:=fun k hk hp=>h k hp hk
theorem Meet.far {w:World}{P Q:Nat→Prop}{b:Nat}(h:Meet w P Q b) {bw bs W G:Nat}{ws cs:Nat→Int}(hA:Ar w b bw bs W G ws cs) {k:Nat}(hk:P k) (h0:k≠b) (h1:k≠bw) (h2:k≠bs):¬ Q k:=fun hq=>by
 rcases h k hk hq with r|⟨_,_,_,_,_,_,hA',r⟩
 ·exact h0 r
 ·obtain⟨rfl,rfl,_⟩:=hA.one hA'
  exact r.elim h1 h2
end Go.Proofs.YthkelaeemefnaaaGreat
