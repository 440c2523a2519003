import Derived.Test.YthkelaeemefnaaaGreatMS4qz
set_option maxRecDepth 20000
set_option maxHeartbeats 4000000
namespace Go.Proofs.YthkelaeemefnaaaGreat
open Go.RowKit
theorem zfk:(Tryz.prog.info? 192).map (·.size)=some 3:=by kernel_rfl
theorem zfc (bc:Nat) (w:World):(binOp BinOp.eql 189 (.func (.func 160) #[] #[.pointer (some ⟨bc,0,none⟩)]) .nilFunc).run Tryz.prog w=.ok (.bool false) w:=by kernel_rfl
theorem zeV (w:World):(binOp BinOp.eql 190 (.func (.func 161) #[] #[]) .nilFunc).run Tryz.prog w=.ok (.bool false) w:=by kernel_rfl
theorem zbw (b bc:Nat) (w:World):Calls Tryz.prog 162 #[.pointer (some ⟨b,0,none⟩),.func (.func 160) #[] #[.pointer (some ⟨bc,0,none⟩)],.func (.func 161) #[] #[]] w fun e w'=>e=.returned (.agg #[.pointer (some ⟨b,0,none⟩),.func (.func 160) #[] #[.pointer (some ⟨bc,0,none⟩)],.func (.func 161) #[] #[]])∧Below w.heap.size w w':=by
 have h1:=zfc bc
 have h2:=zeV
 go_enter Tryz.func162,Tryz.ntmps162
 go_wp2
 exact bodyPost_ret (results_cell_row rfl _ _ w.heap.size 192 _ (0,0) _ rfl (heap_alloc_new w _) Tryz.underlying192 rfl zfk) rfl ⟨rfl,(Below.refl _ _).alloc (Nat.le_refl _) _⟩
theorem zbo (x:Int) (bc:Nat) (w:World) (hc:w.cell? ⟨bc,0,none⟩=some (.int .i64 3)) (h0:0≤x) (h1:x≤3):
  Calls Tryz.prog 160 #[.int .i64 x,.pointer (some ⟨bc,0,none⟩)] w fun e w'=>e=.returned (.int .i64 x)∧w'=w:=by
 go_enter Tryz.func160,Tryz.ntmps160
 go_wp2
 go_ret
 exact⟨rfl,rfl⟩
theorem z3R (x:Int) (w:World):Calls Tryz.prog 161 #[.int .i64 x] w fun e w'=>e=.returned (.int .i64 x)∧w'=w:=by
 go_enter Tryz.func161,Tryz.ntmps161
 go_wp2
 go_ret
 exact⟨rfl,rfl⟩
theorem zcQ {w:World}{b bw bs W G:Nat}{ws cs:Nat→Int}(h:Ar w b bw bs W G ws cs) {bc:Nat}(hc:w.heap[bc]?=some (.cells #[.int .i64 3] 196 (0,0))) (a:Nat) (ha:a<W) (hi:0≤ws a) (hj:ws a≤3):
  Calls Tryz.prog 241 #[.agg #[.pointer (some ⟨b,0,none⟩),.func (.func 160) #[] #[.pointer (some ⟨bc,0,none⟩)],.func (.func 161) #[] #[]],.int .i64 a] w fun e w'=>e=.returned (.tuple #[.int .i64 (ws a),.int .i64 0])∧Below w.heap.size w w':=by
 have hw:∀ o,(w.alloc o).cell? ⟨bw,a,none⟩=some (.int .i64 (ws a)):=fun o=>(h.words.alloc o).cell ha
 have hB:∀ o n,((w.alloc o).drewN n).cell? ⟨bc,0,none⟩=some (.int .i64 3):=fun o n=>z08 (z01 hc o)
 go_enter Tryz.func241,Tryz.ntmps241
 go_wp2_with (go_at_call 167;refine (z2f (h.alloc _) _ ha).mono ?_;rintro e w1 ⟨rfl,rfl⟩)
 go_quiet ((go_at_call 160;exact Calls.quiet_of_same (zbo (ws a) bc _ (hB _ _) hi hj)))
 go_wp2
 go_ret2
 exact⟨rfl,((Below.refl _ _).alloc (Nat.le_refl _) _).trans (z00 _ _ _)⟩
theorem zcR {w:World}{b bw bs W G:Nat}{ws cs:Nat→Int}(h:Ar w b bw bs W G ws cs) {bc:Nat}(a:Nat) (v:Int) (ha:a<W):
  Calls Tryz.prog 163 #[.agg #[.pointer (some ⟨b,0,none⟩),.func (.func 160) #[] #[.pointer (some ⟨bc,0,none⟩)],.func (.func 161) #[] #[]],.int .i64 a,.int .i64 v] w fun e w'=>e=.returned (.int .i64 0) ∧
   Ar w' b bw bs W G (upd ws a v) cs∧But bw bs w w':=by
 have hc:=fun o=>(h.alloc o).words.cell ha
 have hf:=fun o=>(h.alloc o).words.frozen a
 go_enter Tryz.func163,Tryz.ntmps163
 go_wp2_with (first|(go_at_call 167;refine (z2f (h.alloc _) _ ha).mono ?_;rintro e w1 ⟨rfl,rfl⟩)|(go_at_call 161;refine (z3R _ _).mono ?_;rintro e w1 ⟨rfl,rfl⟩))
 go_ret
 exact⟨rfl,(h.alloc _).put a v,((But.refl _ _ _).alloc _).setw a _⟩
theorem z9D {w:World}{b bw bs W G:Nat}{ws cs:Nat→Int}(h:Ar w b bw bs W G ws cs) {bc:Nat}(g a:Nat) (v:Int) (hg:g<G) (ha:a<W):
  Calls Tryz.prog 236 #[.agg #[.pointer (some ⟨b,0,none⟩),.func (.func 160) #[] #[.pointer (some ⟨bc,0,none⟩)],.func (.func 161) #[] #[]],.int .i64 g,.int .i64 a,.int .i64 v] w fun e w'=>e=.returned (.int .i64 0) ∧
   Ar w' b bw bs W G (upd ws a v) (upd cs g (wrap64 (cs g+1)))∧But bw bs w w':=by
 go_enter Tryz.func236,Tryz.ntmps236
 go_wp2_with (first|(go_at_call 206;refine (z2b (h.alloc _) _ _ hg ha).mono ?_;rintro e w1 ⟨rfl,hA,hB⟩;have hw:=hA.words.cell ha;have hf:=hA.words.frozen a;have hL:=zcb h.lts.1 h.lts.2 hB;obtain⟨v0,v1,v2⟩:=blk3 hL)|(go_at_call 161;refine (z3R _ _).mono ?_;rintro e w1 ⟨rfl,rfl⟩))
 go_ret
 exact⟨rfl,hA.put a v,(((But.refl bw bs w).alloc _).trans hB).setw a _⟩
theorem z3m {w:World}{b bw bs W G:Nat}{ws cs:Nat→Int}(h:Ar w b bw bs W G ws cs) {bl:Nat}(a:Nat) (v:Int) (ha:a<W):
  Calls Tryz.prog 172 #[.agg #[.pointer (some ⟨b,0,none⟩),.func (.func 184) #[] #[.pointer (some ⟨bl,0,none⟩)],.func (.func 181) #[] #[]],.int .i64 a,.int .i64 v] w fun e w'=>e=.returned (.int .i64 0) ∧
   Ar w' b bw bs W G (upd ws a v) cs∧But bw bs w w':=by
 have hc:=fun o=>(h.alloc o).words.cell ha
 have hf:=fun o=>(h.alloc o).words.frozen a
 go_enter Tryz.func172,Tryz.ntmps172
 go_wp2_with (first|(go_at_call 167;refine (z2f (h.alloc _) _ ha).mono ?_;rintro e w1 ⟨rfl,rfl⟩)|(go_at_call 181;refine (z2z _ _).mono ?_;rintro e w1 ⟨rfl,rfl⟩))
 go_ret
 exact⟨rfl,(h.alloc _).put a v,((But.refl _ _ _).alloc _).setw a _⟩
def up:Nat→Int→List Int
 | 0,_=>[]
 | m+1,k=>k::up m (k+1)
theorem zg2 (m:Nat) (k:Int):(up m k).length=m:=by induction m generalizing k with|zero=>rfl|succ m ih=>simp[up,ih]
theorem up_mem {m:Nat}{k x:Int}:x∈up m k↔k≤x∧x<k+m:=by
 induction m generalizing k with
 | zero=>simp[up]
 | succ m ih=>simp only[up,List.mem_cons,ih];omega
theorem zcf (m:Nat) (k:Int):(up m k).Nodup:=by
 induction m generalizing k with
 | zero=>simp[up]
 | succ m ih=>exact List.nodup_cons.2 ⟨fun h=>by have:=up_mem.1 h;omega,ih _⟩
theorem zdM {base:Nat}{ws:Nat→Int}(m k:Nat) (hk:1≤k) (h1:∀ j,k≤j→j+1<k+m→ws (base+j)=(j:Int)+1) (h2:0<m→ws (base+(k+m-1))=0):Lk base ws (up m k):=by
 induction m generalizing k with
 | zero=>trivial
 | succ m ih =>
  have e:up (m+1) (k:Int)=(k:Int)::up m ((k+1:Nat):Int):=by simp[up]
  rw[e]
  refine⟨?_,ih (k+1) (by omega) (fun j a b=>h1 j (by omega) (by omega)) (fun hm=>by have:=h2 (by omega);rw[show k+1+m-1=k+(m+1)-1 by omega];exact this)⟩
  rw[show base+((k:Int)).toNat=base+k by simp]
  cases m with
  | zero=>rw[show base+k=base+(k+(0+1)-1) by omega];exact h2 (by omega)
  | succ m=>rw[h1 k (by omega) (by omega)];simp[up,hd]
theorem z2t (x y:Int) (w:World) (h:x+1=y) (h0:0≤x) (h1:x<100000):Calls Tryz.prog 174 #[.int .i64 x] w fun e w'=>e=.returned (.int .i64 y)∧w'=w:=by
 subst h;exact z1g x w h0 h1
theorem zeF {w:World}{b bw bs W G:Nat}{ws cs:Nat→Int}(h:Ar w b bw bs W G ws cs) {bt bu bl:Nat}{c:Int}(hx:Bx w bw bs bt bu bl c) {base cap:Nat}(h1:1≤cap) (h2:cap≤1000) (ha:base+cap<W) (hW:W≤65536):
  Calls Tryz.prog 169 #[.agg #[.pointer (some ⟨b,0,none⟩),.func (.func 182) #[] #[.pointer (some ⟨bt,0,none⟩)],.func (.func 183) #[] #[.pointer (some ⟨bu,0,none⟩)],.pointer (some ⟨b,0,none⟩),.func (.func 184) #[] #[.pointer (some ⟨bl,0,none⟩)],.func (.func 181) #[] #[],.int .i64 base,.int .i64 cap]] w fun e w'=>(∃ v,e=.returned v)∧∃ ws',Ar w' b bw bs W G ws' cs∧But bw bs w w'∧ws' base=1∧Lk base ws' (up cap 1)∧∀ a,a<base∨base+cap<a→ws' a=ws a:=by
 have hw0:=h.lts
 go_enter Tryz.func169,Tryz.ntmps169
 go_wp2
 go_loopw [6] (fun v6 wr=>∃ (i:Nat) (ws':Nat→Int),i≤cap-1∧v6=.int .i64 i∧Ar wr b bw bs W G ws' cs∧But bw bs w wr∧wr.heap[w.heap.size]?=some (.cells #[.pointer (some ⟨b,0,none⟩),.func (.func 182) #[] #[.pointer (some ⟨bt,0,none⟩)],.func (.func 183) #[] #[.pointer (some ⟨bu,0,none⟩)],.pointer (some ⟨b,0,none⟩),.func (.func 184) #[] #[.pointer (some ⟨bl,0,none⟩)],.func (.func 181) #[] #[],.int .i64 base,.int .i64 cap] 238 (0,0))∧Hid (∀ j,1≤j→j≤i→ws' (base+j)=(j:Int)+1)∧Hid (∀ a,a<base∨base+cap<a→ws' a=ws a)) (fun v6 _=>cap-(intOf v6).toNat)
 case atStart=>exact⟨0,ws,by omega,rfl,h.alloc _,(But.refl _ _ _).alloc _,heap_alloc_new _ _,fun j a b=>absurd a (by omega),fun a _=>rfl⟩
 case round =>
  obtain⟨i,ws',hi,rfl,hA,hB,hX,hws,hout⟩:=hrel
  have hxr:=hx.but hB
  have x8:=blk8 hX
  by_cases hlt:i<cap-1
  ·clear h hx
   have hlt':(i:Int)<(cap:Int)-1:=by omega
   have hwr:IntKind.i64.wrap ((i:Int)+1)=(i:Int)+1:=IntWalk.i64_in ((i:Int)+1) (by omega)
   have hk1:∀ u,Calls Tryz.prog 174 #[.int .i64 (i:Int)] u fun e w'=>e=.returned (.int .i64 ((i:Int)+1))∧w'=u:=fun u=>z2t _ _ _ rfl (by omega) (by omega)
   have hk2:∀ u,Calls Tryz.prog 174 #[.int .i64 (IntKind.i64.wrap ((i:Int)+1))] u fun e w'=>e=.returned (.int .i64 ((i:Int)+2))∧w'=u:=fun u=>by rw[hwr];exact z2t _ _ _ (by omega) (by omega) (by omega)
   clear hwr
   go_wp2
   go_region_held3 (fun w'=>w'.cell? ⟨w.heap.size,0,none⟩=some (.pointer (some ⟨b,0,none⟩))∧w'.cell? ⟨w.heap.size,1,none⟩=some (.func (.func 182) #[] #[.pointer (some ⟨bt,0,none⟩)])∧w'.cell? ⟨w.heap.size,2,none⟩=some (.func (.func 183) #[] #[.pointer (some ⟨bu,0,none⟩)])∧w'.cell? ⟨w.heap.size,3,none⟩=some (.pointer (some ⟨b,0,none⟩))∧w'.cell? ⟨w.heap.size,4,none⟩=some (.func (.func 184) #[] #[.pointer (some ⟨bl,0,none⟩)])∧w'.cell? ⟨w.heap.size,5,none⟩=some (.func (.func 181) #[] #[])∧w'.cell? ⟨w.heap.size,6,none⟩=some (.int .i64 base)∧w'.cell? ⟨w.heap.size,7,none⟩=some (.int .i64 cap)) (go_keep)
    (first
     | (go_at_call 172;refine (z3m hA1 (base+(i+1)) ((i:Int)+2) (by omega)).mono ?_;rintro e w2 ⟨rfl,hA2,hB2⟩;have hL2:=(hB2.block _ (z02 hL) (by omega) (by omega)).trans hL;have eX2:=blk8 hL2)
     | (go_at_call 173;refine (z1m (cap:=cap) (bt:=bt) (bu:=bu) (bl:=bl) ((i:Int)+1) (base+(i+1)) _ (by omega) (by omega)).mono ?_;rintro e w1 ⟨rfl,hb⟩;have hb1:=z0Z hb;have hA1:=hA.below hb1;have hL:=ov hb1 hX;have eX:=blk8 hL)
     | (go_at_call 174;refine (hk1 _).mono ?_;rintro e w3 ⟨rfl,rfl⟩)
     | (go_at_call 174;refine (hk2 _).mono ?_;rintro e w3 ⟨rfl,rfl⟩))
   go_wp2
   go_roundw
   case rel=>exact⟨i+1,_,by omega,by go_num,hA2,(hB.trans (But.of_below hb1)).trans hB2,hL2,fun j a b=>(by
    by_cases e:j=i+1
    ·subst e;rw[z1a];omega
    ·rw[z09 _ _ (by omega)];exact hws.out j a (by omega)),fun a q=>(by rw[z09 _ _ (by omega)];exact hout.out a q)⟩
   case measure=>simp[intOf];omega
  ·have Hi:Hid (i=cap-1):=(show i=cap-1 by omega)
   have hge:¬ ((i:Int)<(cap:Int)-1):=by omega
   have hwr:IntKind.i64.wrap ((cap:Int)-1)=(cap:Int)-1:=IntWalk.i64_in ((cap:Int)-1) (by omega)
   have hk1:∀ u,Calls Tryz.prog 174 #[.int .i64 (IntKind.i64.wrap ((cap:Int)-1))] u fun e w'=>e=.returned (.int .i64 (cap:Int))∧w'=u:=fun u=>by rw[hwr];exact z2t _ _ _ (by omega) (by omega) (by omega)
   have hk2:∀ u,Calls Tryz.prog 174 #[.int .i64 0] u fun e w'=>e=.returned (.int .i64 1)∧w'=u:=fun u=>z2t _ _ _ (by omega) (by omega) (by omega)
   clear h hx hwr
   go_wp2
   go_region_held3 (fun w'=>w'.cell? ⟨w.heap.size,0,none⟩=some (.pointer (some ⟨b,0,none⟩))∧w'.cell? ⟨w.heap.size,1,none⟩=some (.func (.func 182) #[] #[.pointer (some ⟨bt,0,none⟩)])∧w'.cell? ⟨w.heap.size,2,none⟩=some (.func (.func 183) #[] #[.pointer (some ⟨bu,0,none⟩)])∧w'.cell? ⟨w.heap.size,3,none⟩=some (.pointer (some ⟨b,0,none⟩))∧w'.cell? ⟨w.heap.size,4,none⟩=some (.func (.func 184) #[] #[.pointer (some ⟨bl,0,none⟩)])∧w'.cell? ⟨w.heap.size,5,none⟩=some (.func (.func 181) #[] #[])∧w'.cell? ⟨w.heap.size,6,none⟩=some (.int .i64 base)∧w'.cell? ⟨w.heap.size,7,none⟩=some (.int .i64 cap)) (go_keep)
    (first
     | (go_at_call 172;refine (z3m hA1 (base+cap) 0 (by omega)).mono ?_;rintro e w2 ⟨rfl,hA2,hB2⟩;have hL2:=(hB2.block _ (z02 hL) (by omega) (by omega)).trans hL;have eX2:=blk8 hL2)
     | (go_at_call 173;refine (z1m (cap:=cap) (bt:=bt) (bu:=bu) (bl:=bl) (cap:Int) (base+cap) _ (by omega) (by omega)).mono ?_;rintro e w1 ⟨rfl,hb⟩;have hb1:=z0Z hb;have hA1:=hA.below hb1;have hL:=ov hb1 hX;have eX:=blk8 hL)
     | (go_at_call 174;refine (hk1 _).mono ?_;rintro e w3 ⟨rfl,rfl⟩))
   have hB2':=(hB.trans (But.of_below hb1)).trans hB2
   have hx2:=hxr.but ((But.of_below hb1).trans hB2)
   clear hA1 hL eX hB hX x8 hB2
   go_wp2
   go_region_held3 (fun w'=>w'.cell? ⟨w.heap.size,0,none⟩=some (.pointer (some ⟨b,0,none⟩))∧w'.cell? ⟨w.heap.size,1,none⟩=some (.func (.func 182) #[] #[.pointer (some ⟨bt,0,none⟩)])∧w'.cell? ⟨w.heap.size,2,none⟩=some (.func (.func 183) #[] #[.pointer (some ⟨bu,0,none⟩)])∧w'.cell? ⟨w.heap.size,3,none⟩=some (.pointer (some ⟨b,0,none⟩))∧w'.cell? ⟨w.heap.size,4,none⟩=some (.func (.func 184) #[] #[.pointer (some ⟨bl,0,none⟩)])∧w'.cell? ⟨w.heap.size,5,none⟩=some (.func (.func 181) #[] #[])∧w'.cell? ⟨w.heap.size,6,none⟩=some (.int .i64 base)∧w'.cell? ⟨w.heap.size,7,none⟩=some (.int .i64 cap)) (go_keep)
    (first
     | (go_at_call 175;refine (z3Z (t:=0) (i:=1) (hA2.below (z00 _ 1 _)) (hx2.below (z00 _ 1 _)) base (by omega) (z:=1) (by rw[Int.zero_mul];kernel_rfl)).mono ?_;rintro e w4 ⟨rfl,hA4,hB4⟩;have hL4:=(hB4.block _ (z02 hL2) (by omega) (by omega)).trans hL2;have eX4:=blk8 hL4)
     | (go_at_call 174;refine (hk2 _).mono ?_;rintro e w3 ⟨rfl,rfl⟩))
   go_wp2
   go_end0
   refine⟨⟨_,rfl⟩,_,hA4,hB2'.trans ((But.of_below (z00 _ 1 _)).trans hB4),z1a _ _ _,?_,fun a q=>?_⟩
   ·have e1:i=cap-1:=Hi.out
    refine zdM cap 1 (Nat.le_refl _) (fun j a b=>?_) (fun _=>?_)
    ·rw[z09 _ _ (by omega),z09 _ _ (by omega)];exact hws.out j a (by omega)
    ·rw[z09 _ _ (by omega),show base+(1+cap-1)=base+cap by omega,z1a]
   ·rw[z09 _ _ (by omega),z09 _ _ (by omega)];exact hout.out a q
theorem Stk.rows {w w':World}{P:Nat→Prop}{s b bw bs bt bu bl W G base cap:Nat}{ws cs:Nat→Int}{ob:Nat→Nat}{ws' cs':Nat→Int}(h:Stk w P s b bw bs bt bu bl W G base cap ws cs (fun _=>.idle) ob) (hA:Ar w' b bw bs W G ws' cs') (hB:But bw bs w w'):Stk w' P s b bw bs bt bu bl W G base cap ws' cs' (fun _=>.idle) ob :=
 ⟨hA,h.bx.but hB,h.here.of_block (hB.block s h.here.lt (fun q=>z1W h.ar.words h.here q.symm) (fun q=>z1W h.ar.steps h.here q.symm)),fun _ _=>trivial,fun _ _ _ _ _ q=>absurd rfl q,fun _ _=>rfl,h.foot,fun k hk=>Nat.lt_of_lt_of_le (h.lt k hk) hB.size,h.few,h.big,h.base1,h.cap1,h.cap2⟩
theorem z8H {w:World}{b bw bs W G:Nat}{ws cs:Nat→Int}(h:Ar w b bw bs W G ws cs) (base cap:Nat) (h1:1≤cap) (h2:cap≤1000) (h3:base+(2*cap+8)≤W) (hG:G≤12) (hW:W≤65536):
  Calls Tryz.prog 164 #[.pointer (some ⟨b,0,none⟩),.int .i64 base,.int .i64 cap] w fun e w'=>∃ (s:Nat) (P:Nat→Prop),e=.returned (.tuple #[.pointer (some ⟨s,0,none⟩),.int .i64 0]) ∧
   Good w' P s ⟨b,W,base,ws⟩ G cap cs (fun _=>.idle) 0 (up cap 1)∧Bt (fun k=>k=bw∨k=bs) w w'∧(∀ k,P k→k=b∨k=bw∨k=bs∨w.heap.size≤k):=by
 have hnew:=zdT h base cap h1 h2 h3 hG hW
 go_enter Tryz.func164,Tryz.ntmps164
 go_wp2_with (first
  | (go_at_call 168;refine hnew.mono ?_;rintro e w1 ⟨s,bt,bu,bl,rfl,hS,hB1⟩;have cw:=hS.cw)
  | (go_at_call 169;refine (zeF hS.ar hS.bx h1 h2 (by omega) hW).mono ?_;rintro e w2 ⟨⟨ev,rfl⟩,ws2,hA2,hB2,t0,hl,ho⟩))
 go_ret2
 refine⟨s,_,rfl,⟨_,_,_,_,_,_,_,hS.rows hA2 hB2,⟨Int.le_refl _,?_,hl,?_,zcf _ _,fun _=>trivial,fun _ _ _ q=>absurd q (by simp[Op.link])⟩,fun a ha=>?_⟩,hB1.trans (Bt.of_but hB2 (.inl rfl) (.inr rfl)),?_⟩
 ·rw[t0];cases cap with|zero=>omega|succ c=>simp[up,hd]
 ·intro x hx;have:=up_mem.1 hx;omega
 ·simp only at ha
  rw[ho a ha,z09 _ _ (by omega)]
 ·rintro k (rfl|rfl|rfl|q)
  ·exact .inl rfl
  ·exact .inr (.inl rfl)
  ·exact .inr (.inr (.inl rfl))
  ·exact .inr (.inr (.inr q.1))
theorem z6L {w:World}{P:Nat→Prop}{s:Nat}{b:Zone}{G cap:Nat}{cs:Nat→Int}{ops:Nat→Op}{T:Int}{xs:List Int}(h:Good w P s b G cap cs ops T xs) (hT:T≤1000000000) (r:Bool) (hr:(hd xs != 0)=r):
  Calls Tryz.prog 240 #[.pointer (some ⟨s,0,none⟩)] w fun e w'=>e=.returned (.bool r)∧Below w.heap.size w w':=by
 obtain⟨bw,bs,bt,bu,bl,ws,ob,hS,hI,_⟩:=h
 have hc:=z4C hS
 have ht:=z2n hI hT
 have hh:=z1d hI.range
 have s1:=hS.cw
 have kT:Calls Tryz.prog 245 #[.agg #[.pointer (some ⟨b.b,0,none⟩),.func (.func 182) #[] #[.pointer (some ⟨bt,0,none⟩)],.func (.func 183) #[] #[.pointer (some ⟨bu,0,none⟩)],.pointer (some ⟨b.b,0,none⟩),.func (.func 184) #[] #[.pointer (some ⟨bl,0,none⟩)],.func (.func 181) #[] #[],.int .i64 b.base,.int .i64 cap]] w fun e w'=>e=.returned (.int .i64 (hd xs))∧Below w.heap.size w w':=z4p hS.ar hS.bx hc.2.2.1 hc.1 ht.1 ht.2 hh.1
 clear ht hc hI hS
 go_enter Tryz.func240,Tryz.ntmps240
 go_wp2_with (go_at_call 245;refine kT.mono ?_;rintro e w1 ⟨rfl,hb⟩)
 all_goals (go_ret;exact⟨by first|rfl|(rw[← hr];simp),hb⟩)
abbrev calm:Nat→Op:=fun _=>.idle
theorem Inv.beside {base cap:Nat}{ws:Nat→Int}{T:Int}{xs:List Int}(h:Inv base cap ws calm T xs) {a:Nat}{v:Int}(ha:a<base∨base+cap<a):Inv base cap (upd ws a v) calm T xs :=
 ⟨h.t0,by rw[z09 _ _ (by omega)];exact h.top,h.chain.other fun x hx=>by have:=h.range x hx;omega,h.range,h.nodup,fun _=>trivial,h.diff⟩
theorem Good.beside {w w':World}{P:Nat→Prop}{s:Nat}{b W base G cap bw bs bt bu bl:Nat}{ws cs cs' old:Nat→Int}{ob:Nat→Nat}{T:Int}{xs:List Int}{a:Nat}{v:Int}
  (hS:Stk w P s b bw bs bt bu bl W G base cap ws cs calm ob) (hI:Inv base cap ws calm T xs) (hO:∀ a,a<base∨base+cap<a→ws a=old a) (ha:a<base∨base+cap<a)
  (hA:Ar w' b bw bs W G (upd ws a v) cs') (hB:But bw bs w w'):Good w' P s ⟨b,W,base,upd old a v⟩ G cap cs' calm T xs∧Bt P w w':=by
 refine⟨⟨bw,bs,bt,bu,bl,_,ob,hS.rows hA hB,hI.beside ha,fun j hj=>?_⟩,Bt.of_but hB hS.foot.2.2.1 hS.foot.2.2.2.1⟩
 by_cases e:j=a
 ·subst e;show upd ws j v j=upd old j v j;rw[z1a,z1a]
 ·show upd ws a v j=upd old a v j;rw[z09 _ _ e,z09 _ _ e];exact hO j hj
section
variable {w:World}{P:Nat→Prop}{s b W base G cap:Nat}{old cs:Nat→Int}{T:Int}{xs:List Int}
theorem z7W (h:Good w P s ⟨b,W,base,old⟩ G cap cs calm T xs) (g a:Nat) (v:Int) (hg:g<G) (hW:a<W) (ha:a<base∨base+cap<a):
  Calls Tryz.prog 232 #[.pointer (some ⟨b,0,none⟩),.int .i64 g,.int .i64 a,.int .i64 v] w fun e w'=>e=.returned (.int .i64 0)∧Good w' P s ⟨b,W,base,upd old a v⟩ G cap (upd cs g (wrap64 (cs g+1))) calm T xs∧Bt P w w':=by
 obtain⟨bw,bs,bt,bu,bl,ws,ob,hS,hI,hO⟩:=h
 refine (z7T hS.ar g a v hg hW).mono ?_
 rintro e w' ⟨rfl,hA,hB⟩
 exact⟨rfl,Good.beside hS hI hO ha hA hB⟩
theorem zdG (h:Good w P s ⟨b,W,base,old⟩ G cap cs calm T xs) (g a:Nat) (hg:g<G) (hW:a<W):
  Calls Tryz.prog 201 #[.pointer (some ⟨b,0,none⟩),.int .i64 g,.int .i64 a] w fun e w'=>∃ v,e=.returned (.tuple #[.int .i64 v,.int .i64 0])∧(a<base∨base+cap<a→v=old a)∧Good w' P s ⟨b,W,base,old⟩ G cap (upd cs g (wrap64 (cs g+1))) calm T xs∧Bt P w w':=by
 obtain⟨bw,bs,bt,bu,bl,ws,ob,hS,hI,hO⟩:=h
 refine (zaw hS.ar g a hg hW).mono ?_
 rintro e w' ⟨rfl,hA,hB⟩
 exact⟨_,rfl,fun ha=>hO a ha,⟨bw,bs,bt,bu,bl,_,ob,hS.rows hA hB,hI,hO⟩,Bt.of_but hB hS.foot.2.2.1 hS.foot.2.2.2.1⟩
theorem z58 {bc:Nat}(h:Good w P s ⟨b,W,base,old⟩ G cap cs calm T xs) (g a:Nat) (v:Int) (hg:g<G) (hW:a<W) (ha:a<base∨base+cap<a):
  Calls Tryz.prog 236 #[.agg #[.pointer (some ⟨b,0,none⟩),.func (.func 160) #[] #[.pointer (some ⟨bc,0,none⟩)],.func (.func 161) #[] #[]],.int .i64 g,.int .i64 a,.int .i64 v] w fun e w'=>e=.returned (.int .i64 0)∧Good w' P s ⟨b,W,base,upd old a v⟩ G cap (upd cs g (wrap64 (cs g+1))) calm T xs∧Bt P w w':=by
 obtain⟨bw,bs,bt,bu,bl,ws,ob,hS,hI,hO⟩:=h
 refine (z9D hS.ar g a v hg hW).mono ?_
 rintro e w' ⟨rfl,hA,hB⟩
 exact⟨rfl,Good.beside hS hI hO ha hA hB⟩
theorem zcI {bc:Nat}(h:Good w P s ⟨b,W,base,old⟩ G cap cs calm T xs) (hc:w.heap[bc]?=some (.cells #[.int .i64 3] 196 (0,0))) (a:Nat) (hW:a<W) (ha:a<base∨base+cap<a) (h0:0≤old a) (h3:old a≤3):
  Calls Tryz.prog 241 #[.agg #[.pointer (some ⟨b,0,none⟩),.func (.func 160) #[] #[.pointer (some ⟨bc,0,none⟩)],.func (.func 161) #[] #[]],.int .i64 a] w fun e w'=>e=.returned (.tuple #[.int .i64 (old a),.int .i64 0])∧Below w.heap.size w w':=by
 obtain⟨bw,bs,bt,bu,bl,ws,ob,hS,hI,hO⟩:=h
 have e:=hO a ha
 simp only at e
 rw[← e] at h0 h3 ⊢
 exact zcQ hS.ar hc a hW h0 h3
theorem zfb (h:Good w P s ⟨b,W,base,old⟩ G cap cs calm T xs) (x:Int) (r:Bool) (hr:decide (0≤x∧x<(G:Int))=r):
  Calls Tryz.prog 115 #[.pointer (some ⟨b,0,none⟩),.int .i64 x] w fun e w'=>e=.returned (.bool r)∧w'=w:=by
 obtain⟨bw,bs,bt,bu,bl,ws,ob,hS,hI,hO⟩:=h
 subst hr
 by_cases q:0≤x∧x<(G:Int)
 ·rw[decide_eq_true q];exact z0k hS.ar x q.1 q.2
 ·rw[decide_eq_false q];exact z3g hS.ar x q
def Few (K:Int) (cs:Nat→Int):Prop:=∀ j,0≤cs j∧cs j≤K
def Grew (cs cs':Nat→Int) (k:Nat):Prop:=∀ K:Int,0≤K→K+k≤1000000000→Few K cs→Few (K+k) cs'
theorem Grew.mono {cs cs':Nat→Int}{k k':Nat}(h:Grew cs cs' k) (hk:k≤k'):Grew cs cs' k':=fun K h0 h1 hf j=>by
 have:=h K h0 (by omega) hf j;omega
theorem Grew.refl (cs:Nat→Int) (k:Nat):Grew cs cs k:=fun K h0 h1 hf j=>by have:=hf j;omega
theorem Grew.trans {cs cs' cs'':Nat→Int}{k k':Nat}(h:Grew cs cs' k) (h':Grew cs' cs'' k'):Grew cs cs'' (k+k'):=fun K h0 h1 hf j=>by
 have h2:=h' (K+k) (by omega) (by omega) (h K h0 (by omega) hf) j
 omega
theorem Grew.tick {cs cs':Nat→Int}{k:Nat}(h:Grew cs cs' k) (g:Nat):Grew cs (upd cs' g (wrap64 (cs' g+1))) (k+1):=fun K h0 h1 hf j=>by
 have h2:=h K h0 (by omega) hf
 by_cases e:j=g
 ·subst e
  have:=h2 j
  rw[z1a,IntWalk.wrap64_in _ (by omega)]
  omega
 ·rw[z09 _ _ e]
  have:=h2 j
  omega
def Done (cs:Nat→Int) (w:World) (P:Nat→Prop) (s b W base G cap:Nat) (old:Nat→Int) (T:Int) (xs:List Int) (w':World):Prop :=
 ∃ (P':Nat→Prop) (cs':Nat→Int),Good w' P' s ⟨b,W,base,old⟩ G cap cs' calm T xs∧Bt P w w'∧Wider P P' w∧Grew cs cs' 5
theorem z5w (h:Good w P s ⟨b,W,base,old⟩ G cap cs calm T xs) (hT:T≤1000000000) (g:Nat) (v:Int) (hg:g<G) (hm:May cap calm xs v):
  Calls Tryz.prog 237 #[.pointer (some ⟨s,0,none⟩),.int .i64 g,.int .i64 0,.int .i64 v] w fun e w'=>e=.returned (.int .i64 0)∧Done cs w P s b W base G cap old (T+1) ((v+1)::xs) w':=by
 have hbeg:=z5X h hT g v hg rfl hm
 go_enter Tryz.func237,Tryz.ntmps237
 go_wp2_with (go_at_call 242;refine hbeg.mono ?_;rintro e w1 ⟨rfl,P',hG1,hB1,hW1⟩)
 go_loopg [] 5 (fun r wr=>∃ (op:Op) (cs':Nat→Int),(∃ n t j,op=.push (v+1) n t j)∧Good wr P' s ⟨b,W,base,old⟩ G cap cs' (z0v calm g op) T xs∧Bt P w wr∧rank T xs op≤r∧r≤5∧Grew cs cs' (5-r))
 case atStart=>exact⟨.push (v+1) 0 0 0,_,⟨0,0,0,rfl⟩,hG1,hB1,by simp[rank],Nat.le_refl _,Grew.refl _ _⟩
 case round =>
  obtain⟨op,cs',⟨n,t,j,rfl⟩,hGr,hBr,hrk,hr5,hgr⟩:=hrel
  have hpos:=z7u (T:=T) (xs:=xs) (op:=.push (v+1) n t j) (by simp)
  have hst:=zdp hGr hT g hg (by rw[z0C];simp)
  rw[z0C] at hst
  clear hbeg hG1 hB1 hm
  go_wp2_with fail
  refine hst.mono ?_
  rintro e w3 ⟨done,v',ok,op',T',xs',rfl,hG3,hB3,hE⟩
  rw[z1O] at hG3
  clear hst
  cases hE with
  | pushOn hr =>
   go_wp2
   go_roundg (gk-1)
   case rel=>exact⟨_,_,⟨_,_,_,rfl⟩,hG3,hBr.wide hB3 hW1,by omega,by omega,by rw[show 5-(gk-1)=5-gk+1 by omega];exact hgr.tick g⟩
   case measure=>omega
  | pushed =>
   rw[z3V rfl] at hG3
   go_wp2
   go_ret
   exact⟨rfl,_,_,hG3,hBr.wide hB3 hW1,hW1,(hgr.tick g).mono (by omega)⟩
theorem z6C {x:Int}(h:Good w P s ⟨b,W,base,old⟩ G cap cs calm T (x::xs)) (hT:T≤1000000000) (g:Nat) (v:Int) (hg:g<G):
  Calls Tryz.prog 237 #[.pointer (some ⟨s,0,none⟩),.int .i64 g,.int .i64 1,.int .i64 v] w fun e w'=>e=.returned (.int .i64 (x-1))∧Done cs w P s b W base G cap old (T+1) xs w':=by
 have hbeg:=z6S h g v hg rfl
 go_enter Tryz.func237,Tryz.ntmps237
 go_wp2_with (go_at_call 242;refine hbeg.mono ?_;rintro e w1 ⟨rfl,P',hG1,hB1,hW1⟩)
 go_loopg [] 5 (fun r wr=>∃ (op:Op) (cs':Nat→Int),(∃ n t j d,op=.pop n t j d)∧Good wr P' s ⟨b,W,base,old⟩ G cap cs' (z0v calm g op) T (x::xs)∧Bt P w wr∧rank T (x::xs) op≤r∧r≤5∧Grew cs cs' (5-r))
 case atStart=>exact⟨.pop 0 0 0 0,_,⟨0,0,0,0,rfl⟩,hG1,hB1,by simp[rank],Nat.le_refl _,Grew.refl _ _⟩
 case round =>
  obtain⟨op,cs',⟨n,t,j,d,rfl⟩,hGr,hBr,hrk,hr5,hgr⟩:=hrel
  have hpos:=z7u (T:=T) (xs:=x::xs) (op:=.pop n t j d) (by simp)
  have hst:=zdp hGr hT g hg (by rw[z0C];simp)
  rw[z0C] at hst
  clear hbeg hG1 hB1
  go_wp2_with fail
  refine hst.mono ?_
  rintro e w3 ⟨done,v',ok,op',T',xs',rfl,hG3,hB3,hE⟩
  rw[z1O] at hG3
  clear hst
  cases hE with
  | popOn hr =>
   go_wp2
   go_roundg (gk-1)
   case rel=>exact⟨_,_,⟨_,_,_,_,rfl⟩,hG3,hBr.wide hB3 hW1,by omega,by omega,by rw[show 5-(gk-1)=5-gk+1 by omega];exact hgr.tick g⟩
   case measure=>omega
  | popped hx =>
   obtain⟨rfl,rfl⟩:=List.cons.inj hx
   rw[z3V rfl] at hG3
   go_wp2
   go_ret
   exact⟨rfl,_,_,hG3,hBr.wide hB3 hW1,hW1,(hgr.tick g).mono (by omega)⟩
  | nothing hx=>exact absurd hx (by simp)
end
end Go.Proofs.YthkelaeemefnaaaGreat
namespace Go.Proofs.YthkelaeemefnaaaGreat
open Go.RowKit
structure PlC (w:World) (P Q:Nat→Prop) (p s bc pl k b W base n G:Nat) (cs:Nat→Int) (T:Int) (xs:List Int) (ws:Nat→Int):Prop where
 good:Good w Q s ⟨b,W,base+9*n,ws⟩ G n cs calm T xs
 here:w.heap[p]?=some (.cells #[.pointer (some ⟨b,0,none⟩),.int .i64 base,.pointer (some ⟨b,0,none⟩),.func (.func 160) #[] #[.pointer (some ⟨bc,0,none⟩)],.func (.func 161) #[] #[],.int .i64 ((base:Int)+8*n),.int .i64 n,.slice (some ⟨pl,0,none⟩) 1 k] 202 (0,0))
 box:w.heap[bc]?=some (.cells #[.int .i64 3] 196 (0,0))
 list:w.cell? ⟨pl,0,none⟩=some (.pointer (some ⟨s,0,none⟩))
 sub:∀ j,Q j→P j
 foot:P p∧P bc∧P pl
 off:¬ Q p∧¬ Q bc∧¬ Q pl
 lt:∀ j,P j→j<w.heap.size
 fit:base+(14*n+64)≤W
 big:W≤65536
 n1:1≤n
 n2:n≤1000
 col:∀ f,f<n→0≤ws (base+8*n+f)∧ws (base+8*n+f)≤3∧(ws (base+8*n+f)=0↔(f:Int)+1∈xs)
def Pl (w:World) (P:Nat→Prop) (p b W base n G:Nat) (cs:Nat→Int) (T:Int) (xs:List Int) (ws:Nat→Int):Prop:=∃ (Q:Nat→Prop) (s bc pl k:Nat),PlC w P Q p s bc pl k b W base n G cs T xs ws
theorem z1U {w w':World}{a:Addr}(e:w'.heap[a.block]?=w.heap[a.block]?):w'.cell? a=w.cell? a:=by
 unfold World.cell?;rw[e]
theorem PlC.keep {w':World}{w:World}{P Q:Nat→Prop}{p s bc pl k b W base n G:Nat}{cs:Nat→Int}{T:Int}{xs:List Int}{ws:Nat→Int}(h:PlC w P Q p s bc pl k b W base n G cs T xs ws) (e:∀ j,P j→w'.heap[j]?=w.heap[j]?) (hs:w.heap.size≤w'.heap.size):PlC w' P Q p s bc pl k b W base n G cs T xs ws :=
 ⟨h.good.keep (fun j hj=>e j (h.sub j hj)) hs,(e _ h.foot.1).trans h.here,(e _ h.foot.2.1).trans h.box,(z1U (e pl h.foot.2.2)).trans h.list,h.sub,h.foot,h.off,fun j hj=>Nat.lt_of_lt_of_le (h.lt j hj) hs,h.fit,h.big,h.n1,h.n2,h.col⟩
theorem PlC.below {w':World}{w:World}{P Q:Nat→Prop}{p s bc pl k b W base n G:Nat}{cs:Nat→Int}{T:Int}{xs:List Int}{ws:Nat→Int}(h:PlC w P Q p s bc pl k b W base n G cs T xs ws) (e:Below w.heap.size w w'):PlC w' P Q p s bc pl k b W base n G cs T xs ws:=h.keep (fun j hj=>e.block j (h.lt j hj)) e.size
theorem PlC.move {w':World}{w:World}{P Q:Nat→Prop}{p s bc pl k b W base n G:Nat}{cs:Nat→Int}{T:Int}{xs:List Int}{ws:Nat→Int}(h:PlC w P Q p s bc pl k b W base n G cs T xs ws) {Q':Nat→Prop}{cs' ws':Nat→Int}{T':Int}{xs':List Int}(hG:Good w' Q' s ⟨b,W,base+9*n,ws'⟩ G n cs' calm T' xs') (hB:Bt Q w w') (hW:Wider Q Q' w)
  (hc:∀ f,f<n→0≤ws' (base+8*n+f)∧ws' (base+8*n+f)≤3∧(ws' (base+8*n+f)=0↔(f:Int)+1∈xs')):
  PlC w' (fun j=>P j∨Q' j) Q' p s bc pl k b W base n G cs' T' xs' ws'∧Bt P w w'∧Wider P (fun j=>P j∨Q' j) w:=by
 have l0:=h.lt p h.foot.1
 have l1:=h.lt bc h.foot.2.1
 have l2:=h.lt pl h.foot.2.2
 refine⟨⟨hG,(hB.block p l0 h.off.1).trans h.here,(hB.block bc l1 h.off.2.1).trans h.box,(z1U (hB.block pl l2 h.off.2.2)).trans h.list,fun j hj=>.inr hj,⟨.inl h.foot.1,.inl h.foot.2.1,.inl h.foot.2.2⟩,⟨?_,?_,?_⟩,?_,h.fit,h.big,h.n1,h.n2,hc⟩,hB.mono fun j _ hj=>h.sub j hj,?_⟩
 ·exact fun q=>(hW p q).elim h.off.1 (fun r=>by omega)
 ·exact fun q=>(hW bc q).elim h.off.2.1 (fun r=>by omega)
 ·exact fun q=>(hW pl q).elim h.off.2.2 (fun r=>by omega)
 ·exact fun j hj=>hj.elim (fun q=>Nat.lt_of_lt_of_le (h.lt j q) hB.size) (hG.lt j)
 ·exact fun j hj=>hj.elim .inl (fun q=>(hW j q).elim (fun r=>.inl (h.sub j r)) .inr)
theorem PlC.c8 {w:World}{P Q:Nat→Prop}{p s bc pl k b W base n G:Nat}{cs:Nat→Int}{T:Int}{xs:List Int}{ws:Nat→Int}(h:PlC w P Q p s bc pl k b W base n G cs T xs ws):w.cell? ⟨p,0,none⟩=some (.pointer (some ⟨b,0,none⟩))∧w.cell? ⟨p,1,none⟩=some (.int .i64 base)∧w.cell? ⟨p,2,none⟩=some (.pointer (some ⟨b,0,none⟩))∧w.cell? ⟨p,3,none⟩=some (.func (.func 160) #[] #[.pointer (some ⟨bc,0,none⟩)])∧w.cell? ⟨p,4,none⟩=some (.func (.func 161) #[] #[])∧w.cell? ⟨p,5,none⟩=some (.int .i64 ((base:Int)+8*n))∧w.cell? ⟨p,6,none⟩=some (.int .i64 n)∧w.cell? ⟨p,7,none⟩=some (.slice (some ⟨pl,0,none⟩) 1 k):=blk8 h.here
theorem z3S (x:Int) (w:World) (r:Bool) (hr:decide (0≤x∧x<8)=r):Calls Tryz.prog 229 #[.int .i64 x] w fun e w'=>e=.returned (.bool r)∧w'=w:=by
 subst hr
 by_cases h0:0≤x
 ·by_cases h1:x<8
  ·rw[decide_eq_true ⟨h0,h1⟩]
   go_enter Tryz.func229,Tryz.ntmps229
   go_wp2
   go_ret
   exact⟨rfl,rfl⟩
  ·rw[decide_eq_false (by omega)]
   have h2:decide (x<8)=false:=by simp;omega
   clear h1
   go_enter Tryz.func229,Tryz.ntmps229
   go_wp2
   go_ret
   exact⟨rfl,rfl⟩
 ·rw[decide_eq_false (by omega)]
  have h2:decide (0≤x)=false:=by simp;omega
  clear h0
  go_enter Tryz.func229,Tryz.ntmps229
  go_wp2
  go_ret
  exact⟨rfl,rfl⟩
theorem zeb {b bc base n:Nat}(x:Int) (w:World) (r:Bool) (hr:decide (0≤x∧x<(n:Int))=r):Calls Tryz.prog 234 #[.agg #[.pointer (some ⟨b,0,none⟩),.func (.func 160) #[] #[.pointer (some ⟨bc,0,none⟩)],.func (.func 161) #[] #[],.int .i64 ((base:Int)+8*n),.int .i64 n],.int .i64 x] w fun e w'=>e=.returned (.bool r)∧Below w.heap.size w w':=by
 subst hr
 by_cases h0:0≤x
 ·by_cases h1:x<(n:Int)
  ·rw[decide_eq_true ⟨h0,h1⟩]
   go_enter Tryz.func234,Tryz.ntmps234
   go_wp2
   go_ret
   exact⟨rfl,(Below.refl _ _).alloc (Nat.le_refl _) _⟩
  ·rw[decide_eq_false (by omega)]
   have h2:decide (x<(n:Int))=false:=by simp;omega
   clear h1
   go_enter Tryz.func234,Tryz.ntmps234
   go_wp2
   go_ret
   exact⟨rfl,(Below.refl _ _).alloc (Nat.le_refl _) _⟩
 ·rw[decide_eq_false (by omega)]
  have h2:decide (0≤x)=false:=by simp;omega
  clear h0
  go_enter Tryz.func234,Tryz.ntmps234
  go_wp2
  go_ret
  exact⟨rfl,(Below.refl _ _).alloc (Nat.le_refl _) _⟩
theorem zga {w:World}{P Q:Nat→Prop}{p s bc pl k b W base n G:Nat}{cs:Nat→Int}{T:Int}{xs:List Int}{ws:Nat→Int}(h:PlC w P Q p s bc pl k b W base n G cs T xs ws) (f:Nat) (hf:f<n):
  Calls Tryz.prog 235 #[.agg #[.pointer (some ⟨b,0,none⟩),.func (.func 160) #[] #[.pointer (some ⟨bc,0,none⟩)],.func (.func 161) #[] #[],.int .i64 ((base:Int)+8*n),.int .i64 n],.int .i64 f] w fun e w'=>e=.returned (.int .i64 (ws (base+8*n+f)))∧Below w.heap.size w w':=by
 have hc:=h.col f hf
 have h1:=h.fit
 have h2:=h.big
 have hp:=fun o=>zcI (h.good.alloc o) (z01 h.box o) (base+8*n+f) (by omega) (by omega) hc.1 hc.2.1
 simp only[Int.natCast_add,Int.natCast_mul] at hp
 generalize ws (base+8*n+f)=y at hp hc ⊢
 go_enter Tryz.func235,Tryz.ntmps235
 go_wp2_with (go_at_call 241;refine (hp _).mono ?_;rintro e w1 ⟨rfl,hb⟩)
 go_ret
 exact⟨rfl,((Below.refl _ _).alloc (Nat.le_refl _) _).trans (hb.mono (by simp))⟩
theorem zf2 {w:World}{P Q:Nat→Prop}{p s bc pl k b W base n G:Nat}{cs:Nat→Int}{T:Int}{xs:List Int}{ws:Nat→Int}(h:PlC w P Q p s bc pl k b W base n G cs T xs ws) (g f:Nat) (c:Int) (hg:g<G) (hf:f<n):
  Calls Tryz.prog 226 #[.agg #[.pointer (some ⟨b,0,none⟩),.func (.func 160) #[] #[.pointer (some ⟨bc,0,none⟩)],.func (.func 161) #[] #[],.int .i64 ((base:Int)+8*n),.int .i64 n],.int .i64 g,.int .i64 f,.int .i64 c] w fun e w'=>(∃ v,e=.returned v)∧Good w' Q s ⟨b,W,base+9*n,upd ws (base+8*n+f) c⟩ G n (upd cs g (wrap64 (cs g+1))) calm T xs∧Bt Q w w':=by
 have h1:=h.fit
 have h2:=h.big
 have hp:=fun o=>z58 (bc:=bc) (h.good.alloc o) g (base+8*n+f) c hg (by omega) (by omega)
 simp only[Int.natCast_add,Int.natCast_mul] at hp
 go_enter Tryz.func226,Tryz.ntmps226
 go_wp2_with (go_at_call 236;refine (hp _).mono ?_;rintro e w1 ⟨rfl,hG,hB⟩)
 go_end0
 exact⟨⟨_,rfl⟩,hG,(Bt.of_below ((Below.refl _ _).alloc (Nat.le_refl _) _)).trans hB⟩
theorem z7A {w:World}{P Q:Nat→Prop}{p s bc pl k b W base n G:Nat}{cs:Nat→Int}{T:Int}{xs:List Int}{ws:Nat→Int}(h:PlC w P Q p s bc pl k b W base n G cs T xs ws) (f i:Nat) (hf:f<n) (hi:i<8):
  Calls Tryz.prog 230 #[.pointer (some ⟨p,0,none⟩),.int .i64 f,.int .i64 i] w fun e w'=>e=.returned (.int .i64 ((base+8*f+i:Nat):Int))∧w'=w:=by
 have h1:=h.fit
 have h2:=h.big
 have c:=h.c8
 go_enter Tryz.func230,Tryz.ntmps230
 go_wp2
 go_ret
 exact⟨by first|rfl|(simp;omega)|(congr 2;omega),rfl⟩
def zaZ (ws:Nat→Int) (base n:Nat) (x:Int):Prop:=0≤x∧x<(n:Int)∧ws (base+8*n+x.toNat)≠0
theorem phas {w:World}{P Q:Nat→Prop}{p s bc pl k b W base n G:Nat}{cs:Nat→Int}{T:Int}{xs:List Int}{ws:Nat→Int}(h:PlC w P Q p s bc pl k b W base n G cs T xs ws) (x:Int) (r:Bool) (hr:decide (0≤x∧x<(G:Int))=r):
  Calls Tryz.prog 218 #[.pointer (some ⟨p,0,none⟩),.int .i64 x] w fun e w'=>e=.returned (.bool r)∧w'=w:=by
 have hn:=zfb h.good x r hr
 have c:=h.c8
 clear h hr
 go_enter Tryz.func218,Tryz.ntmps218
 go_wp2_with (go_at_call 115;refine hn.mono ?_;rintro e w1 ⟨rfl,hw1⟩;replace hw1:=hw1.symm;subst hw1)
 go_ret
 exact⟨rfl,rfl⟩
theorem z2M {w:World}{P Q:Nat→Prop}{p s bc pl k b W base n G:Nat}{cs:Nat→Int}{T:Int}{xs:List Int}{ws:Nat→Int}(h:PlC w P Q p s bc pl k b W base n G cs T xs ws) (x f:Int) (hx:0≤x∧x<(G:Int)) (hf:zaZ ws base n f):
  Calls Tryz.prog 225 #[.pointer (some ⟨p,0,none⟩),.int .i64 x,.int .i64 f] w fun e w'=>e=.returned (.bool true)∧Below w.heap.size w w':=by
 obtain⟨f0,f1,f2⟩:=hf
 obtain⟨m,rfl⟩:∃ m:Nat,f=m:=⟨f.toNat,by omega⟩
 have c:=h.c8
 have hn:=phas h x true (by simpa using hx)
 have hh:=zeb (b:=b) (bc:=bc) (base:=base) (n:=n) (m:Int) w true (by simpa using f1)
 have ha:=fun w1 (hb:Below w.heap.size w w1)=>zga (h.below hb) m (by omega)
 have c1:=fun w1 (hb:Below w.heap.size w w1)=>(h.below hb).c8
 have e2:(ws (base+8*n+m) != 0)=true:=by simpa using f2
 generalize ws (base+8*n+m)=y at ha e2
 clear h f2
 go_enter Tryz.func225,Tryz.ntmps225
 go_wp2_with (first
  | (go_at_call 218;refine hn.mono ?_;rintro e w1 ⟨rfl,rfl⟩)
  | (go_at_call 234;refine hh.mono ?_;rintro e w2 ⟨rfl,hb⟩;have c2:=c1 _ hb)
  | (go_at_call 235;refine (ha _ hb).mono ?_;rintro e w3 ⟨rfl,hb3⟩))
 go_ret
 exact⟨rfl,hb.trans (hb3.mono hb.size)⟩
end Go.Proofs.YthkelaeemefnaaaGreat
